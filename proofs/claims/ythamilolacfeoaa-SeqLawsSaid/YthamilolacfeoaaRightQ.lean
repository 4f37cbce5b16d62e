/-
  Right.
-/
import Derived.Test.YthamilolacfeoaaKitQ
namespace Go.Proofs.Ythamilolacfeoaa
open Go.RowKit Sq
set_option linter.unusedVariables false

/-- All numbers of the runs are integers of 64 bits. -/
def I64L (l : Rs) : Prop := ∀ r ∈ l, -9223372036854775808 ≤ r.1 ∧ r.1 ≤ 9223372036854775807 ∧ -9223372036854775808 ≤ r.2 ∧ r.2 ≤ 9223372036854775807
theorem i64_of_rt {l : Rs} {s : Int} (hs : 0 ≤ s) (h : RtF s l) : I64L l := fun r hr => by
  have := ends_high h r hr
  omega

set_option maxRecDepth 100000 in
set_option maxHeartbeats 2000000 in
theorem right_is (a : Option Addr) (n c : Nat) (l : Rs) (hl : l.length = n) (hn : n ≤ maxLen) (hI : I64L l) (res : Bool) (hr : res = true ↔ Rt l) (w : World) (B : Nat) (hS : SeenR w B a l) (hB : B ≤ w.heap.size) :
    Calls Try.prog 22 #[.slice a n c] w fun e w' => e = .returned (.bool res) ∧ Below w.heap.size w w' := by
  unfold maxLen at hn
  have HL := Lib.hid hl
  have HS : Hid (SeenR w B a l) := hS
  have HB := Lib.hid hB
  have HI : Hid (I64L l) := hI
  by_cases hbig : n ≤ 65536
  · have g1 : ¬ (65536 : Int) < (n : Int) := by omega
    have g2 : decide ((65536 : Int) < (n : Int)) = false := by simp; omega
    have HR : Hid (res = true ↔ RtF 1 l) := by
      show _ ↔ _
      rw [hr]
      exact ⟨fun h => h.2, fun h => ⟨by omega, h⟩⟩
    have hni : (n : Int) ≤ 65536 := by omega
    clear hl hS hB hI hr hn hbig
    go_enter Try.func22, Try.ntmps22
    go_wp2
    go_loopw [3, 11] (fun s i wr => ∃ (k : Nat) (s' : Int), k ≤ n ∧ i = .int .i64 k ∧ s = .int .i64 s' ∧ Hid (res = true ↔ RtF s' (l.drop k)) ∧ Hid (1 ≤ s' ∧ s' ≤ 281474976710658) ∧ Hid (Below w.heap.size w wr)) (fun _ i _ => n - (intOf i).toNat)
    case atStart => exact ⟨0, 1, Nat.zero_le _, rfl, rfl, HR, by show _ ∧ _; omega, Below.refl _ _⟩
    case round =>
      obtain ⟨k, s, hk, rfl, rfl, HK, HSB, HW⟩ := hrel
      by_cases hkn : k < n
      · obtain ⟨r, hrk⟩ : ∃ r, l[k]? = some r := ⟨_, List.getElem?_eq_getElem (by rw [HL.out]; exact hkn)⟩
        have hdr : l.drop k = r :: l.drop (k + 1) := by
          rw [List.drop_eq_getElem_cons (by rw [HL.out]; exact hkn)]
          rw [List.getElem?_eq_getElem (by rw [HL.out]; exact hkn)] at hrk
          rw [Option.some.inj hrk]
        obtain ⟨hr1, hr2, hr3, hr4⟩ := HI.out r (List.mem_of_getElem? hrk)
        have HK' : Hid (res = true ↔ s ≤ r.1 ∧ 1 ≤ r.2 ∧ r.1 + r.2 ≤ 281474976710657 ∧ RtF (r.1 + r.2 + 1) (l.drop (k + 1))) := by
          have := HK.out
          rw [hdr] at this
          exact this
        obtain ⟨b, off, rfl, hb, hc1, hc2⟩ := (HS.out.below (HW.out.mono HB.out)) k r hrk
        obtain ⟨f, hf⟩ : ∃ f, r.1 = f := ⟨_, rfl⟩
        obtain ⟨d, hd⟩ : ∃ d, r.2 = d := ⟨_, rfl⟩
        rw [hf, hd] at HK'
        rw [hf] at hc1 hr1 hr2
        rw [hd] at hc2 hr3 hr4
        obtain ⟨hs1, hs2⟩ := HSB.out
        have HB1 : Hid (Below w.heap.size w (wr.alloc (.cells #[.int .i64 f, .int .i64 d] 34))) := HW.out.alloc HW.out.size _
        clear hrk hdr hf hd hb HK
        by_cases t1 : f < s
        · have t1' : decide (f < s) = true := by simp; omega
          obtain rfl : res = false := by rw [Bool.eq_false_iff]; intro h; have := (HK'.out.1 h).1; omega
          clear hs1 hs2 hr1 hr2 hr3 hr4
          go_wp2
          go_ret
          exact ⟨rfl, HB1.out⟩
        · have t1' : decide (f < s) = false := by simp; omega
          by_cases t2 : d < 1
          · have t2' : decide (d < 1) = true := by simp; omega
            obtain rfl : res = false := by rw [Bool.eq_false_iff]; intro h; have := (HK'.out.1 h).2.1; omega
            clear hs1 hs2 hr1 hr2 hr3 hr4
            go_wp2
            go_ret
            exact ⟨rfl, HB1.out⟩
          · have t2' : decide (d < 1) = false := by simp; omega
            have hw1 : IntKind.i64.wrap (281474976710657 - f) = 281474976710657 - f := wrap_i (by omega) (by omega)
            by_cases t3 : 281474976710657 - f < d
            · have t3' : decide (281474976710657 - f < d) = true := by simp; omega
              obtain rfl : res = false := by rw [Bool.eq_false_iff]; intro h; have := (HK'.out.1 h).2.2.1; omega
              clear hs1 hs2 hr1 hr2 hr3 hr4
              go_wp2
              go_ret
              exact ⟨rfl, HB1.out⟩
            · have t3' : decide (281474976710657 - f < d) = false := by simp; omega
              obtain ⟨x, hx⟩ : ∃ x, f + d = x := ⟨_, rfl⟩
              have HX : Hid (IntKind.i64.wrap (f + d) = x) := by show _ = _; rw [wrap_i (by omega) (by omega)]; exact hx
              have hw2 : IntKind.i64.wrap (x + 1) = x + 1 := wrap_i (by omega) (by omega)
              have HN : Hid (res = true ↔ RtF (x + 1) (l.drop (k + 1))) := by
                show _ ↔ _
                rw [HK'.out, hx]
                exact ⟨fun h => h.2.2.2, fun h => ⟨by omega, by omega, by omega, h⟩⟩
              have HSX : Hid (1 ≤ x + 1 ∧ x + 1 ≤ 281474976710658) := by show _ ∧ _; omega
              clear hs1 hs2 hr1 hr2 hr3 hr4 hx
              go_wp2_with (go_at_call 53; ((with_reducible refine (end_any f d x HX.out _).mono ?_); rintro e w2 ⟨rfl, hb2⟩; have HB2 := Lib.hid (HB1.out.trans (hb2.mono HB1.out.size)); clear hb2))
              exact ⟨⟨k + 1, x + 1, hkn, rfl, rfl, HN, HSX, HB2⟩, by simp [intOf]; omega⟩
      · obtain rfl : n = k := by omega
        obtain rfl : res = true := by
          refine HK.out.2 ?_
          rw [List.drop_eq_nil_of_le (by rw [HL.out]; exact Nat.le_refl _)]
          trivial
        clear hkn HK
        go_wp2
        go_ret
        exact ⟨rfl, HW.out⟩
  · obtain rfl : res = false := by
      rw [Bool.eq_false_iff]; intro h; have := (hr.1 h).1; omega
    have g1 : (65536 : Int) < (n : Int) := by omega
    have g2 : decide ((65536 : Int) < (n : Int)) = true := by simp; omega
    clear hl hS hB hI hr hn hbig
    go_enter Try.func22, Try.ntmps22
    go_wp2
    go_ret
    exact ⟨rfl, Below.refl _ _⟩
theorem right_yes (a : Option Addr) (n c : Nat) (l : Rs) (hl : l.length = n) (hR : Rt l) (w : World) (B : Nat) (hS : SeenR w B a l) (hB : B ≤ w.heap.size) :
    Calls Try.prog 22 #[.slice a n c] w fun e w' => e = .returned (.bool true) ∧ Below w.heap.size w w' :=
  right_is a n c l hl (by have := hR.1; unfold maxLen; omega) (i64_of_rt (by omega) hR.2) true ⟨fun _ => hR, fun _ => rfl⟩ w B hS hB
theorem right_no (a : Option Addr) (n c : Nat) (l : Rs) (hl : l.length = n) (hn : n ≤ maxLen) (hI : I64L l) (hR : ¬ Rt l) (w : World) (B : Nat) (hS : SeenR w B a l) (hB : B ≤ w.heap.size) :
    Calls Try.prog 22 #[.slice a n c] w fun e w' => e = .returned (.bool false) ∧ Below w.heap.size w w' :=
  right_is a n c l hl hn hI false ⟨fun h => (by cases h), fun h => absurd h hR⟩ w B hS hB
end Go.Proofs.Ythamilolacfeoaa
