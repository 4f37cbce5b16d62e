/-
  Has.
-/
import Derived.Test.YthamilolacfeoaaCountQ
namespace Go.Proofs.Ythamilolacfeoaa
open Go.RowKit Sq
set_option linter.unusedVariables false

section
variable (a : Option Addr) (n c : Nat) (l : Rs) (hl : l.length = n) (w : World) (B : Nat) (hS : SeenR w B a l) (hB : B ≤ w.heap.size)
include hl hS hB

set_option maxRecDepth 100000 in
set_option maxHeartbeats 2000000 in
theorem index_any (hR : Rt l) (p : Nat) (x : Int) (hc : w.cell? ⟨p, 0, none⟩ = some (.int .i64 x)) (hp : p < w.heap.size) :
    Calls Try.prog 65 #[.slice a n c, .func (.func 55) #[] #[.pointer (some ⟨p, 0, none⟩)]] w fun e w' => (∃ k : Int, e = .returned (.int .i64 k) ∧ decide (0 ≤ k) = hs l x) ∧ Below w.heap.size w w' := by
  have HL := Lib.hid hl
  have HS : Hid (SeenR w B a l) := hS
  have HB := Lib.hid hB
  have HR : Hid (Rt l) := hR
  have HC := Lib.hid hc
  have HP := Lib.hid hp
  have hni : (n : Int) ≤ 65536 := by have := hR.1; omega
  clear hl hS hB hR hc hp
  go_enter Try.func65, Try.ntmps65
  go_wp2
  go_loopw [8] (fun i wr => ∃ (k : Nat), k ≤ n ∧ i = .int .i64 k ∧ Hid (hs l x = hs (l.drop k) x) ∧ Hid (Below w.heap.size w wr)) (fun i _ => n - (intOf i).toNat)
  case atStart => exact ⟨0, Nat.zero_le _, rfl, rfl, Below.refl _ _⟩
  case round =>
    obtain ⟨k, hk, rfl, HK, HW⟩ := hrel
    by_cases hkn : k < n
    · obtain ⟨r, hrk⟩ : ∃ r, l[k]? = some r := ⟨_, List.getElem?_eq_getElem (by rw [HL.out]; exact hkn)⟩
      have hdr := drop_cons hrk
      obtain ⟨q1, q2, q3⟩ := ends_high HR.out.2 r (List.mem_of_getElem? hrk)
      obtain ⟨b, off, rfl, hb, hc1, hc2⟩ := (HS.out.below (HW.out.mono HB.out)) k r hrk
      obtain ⟨f, hf⟩ : ∃ f, r.1 = f := ⟨_, rfl⟩
      obtain ⟨d, hd⟩ : ∃ d, r.2 = d := ⟨_, rfl⟩
      have HE : Hid (IntKind.i64.wrap (f + d) = f + d) := by show _ = _; rw [← hf, ← hd]; exact wrap_i (by omega) (by omega)
      have HCp : Hid (wr.cell? ⟨p, 0, none⟩ = some (.int .i64 x)) := (HW.out.cell (p := ⟨p, 0, none⟩) HP.out).trans HC.out
      have HPr : Hid (p < wr.heap.size) := Nat.lt_of_lt_of_le HP.out HW.out.size
      obtain ⟨bo, hbo⟩ : ∃ bo, (decide (f ≤ x) && decide (x < f + d)) = bo := ⟨_, rfl⟩
      have HBO := Lib.hid hbo
      have HD : Hid (hs l x = (bo || hs (l.drop (k + 1)) x)) := by
        show _ = _
        rw [HK.out, hdr, hs_cons, ← hbo, ← hf, ← hd]
        rfl
      have hki : (k : Int) < 65536 := by omega
      rw [hf] at hc1
      rw [hd] at hc2
      clear hrk hdr hf hd hb HK q1 q2 q3 hbo
      cases bo with
      | true =>
        go_wp2_with (go_at_call 55; ((with_reducible refine (has1_any _ p x HCp.out HPr.out f d (f + d) HE.out true HBO.out).mono ?_); rintro e w2 ⟨rfl, hb2⟩; have HB2 := Lib.hid (HW.out.trans (hb2.mono HW.out.size)); clear hb2))
        go_ret
        exact ⟨⟨_, rfl, by rw [HD.out]; simp⟩, HB2.out⟩
      | false =>
        go_wp2_with (go_at_call 55; ((with_reducible refine (has1_any _ p x HCp.out HPr.out f d (f + d) HE.out false HBO.out).mono ?_); rintro e w2 ⟨rfl, hb2⟩; have HB2 := Lib.hid (HW.out.trans (hb2.mono HW.out.size)); clear hb2))
        exact ⟨⟨k + 1, hkn, by go_num, by show _ = _; rw [HD.out]; rfl, HB2⟩, by simp [intOf]; omega⟩
    · obtain rfl : n = k := by omega
      have HF : Hid (hs l x = false) := by
        show _ = _
        rw [HK.out, List.drop_eq_nil_of_le (by rw [HL.out]; exact Nat.le_refl _)]; rfl
      clear hkn HK
      go_wp2
      go_ret
      exact ⟨⟨_, rfl, by rw [HF.out]; rfl⟩, HW.out⟩
set_option maxRecDepth 100000 in
theorem contains_any (hR : Rt l) (p : Nat) (x : Int) (hc : w.cell? ⟨p, 0, none⟩ = some (.int .i64 x)) (hp : p < w.heap.size) :
    Calls Try.prog 54 #[.slice a n c, .func (.func 55) #[] #[.pointer (some ⟨p, 0, none⟩)]] w fun e w' => e = .returned (.bool (hs l x)) ∧ Below w.heap.size w w' := by
  have HC := Lib.hid (index_any a n c l hl w B hS hB hR p x hc hp)
  clear hl hS hB hR hc hp
  go_enter Try.func54, Try.ntmps54
  go_wp2_with (go_at_call 65; ((with_reducible refine HC.out.mono ?_); rintro e w2 ⟨⟨k, rfl, hk⟩, hb2⟩))
  go_ret
  exact ⟨rfl, hb2⟩
set_option maxRecDepth 100000 in
theorem has_yes (hR : Rt l) (x : Int) (r : Bool) (hr : hs l x = r) :
    Calls Try.prog 25 #[.slice a n c, .int .i64 x] w fun e w' => e = .returned (.tuple #[.bool r, .int .i64 0]) ∧ Below w.heap.size w w' := by
  subst hr
  have HL := Lib.hid hl
  have HS : Hid (SeenR w B a l) := hS
  have HB := Lib.hid hB
  have HR : Hid (Rt l) := hR
  clear hl hS hB hR
  go_enter Try.func25, Try.ntmps25
  go_wp2_with (first
    | (go_at_call 22; ((with_reducible refine (right_yes a n c l HL.out HR.out _ B (HS.out.alloc HB.out _) (by simp; have := HB.out; omega)).mono ?_); rintro e w2 ⟨rfl, hb2⟩; have HB2 := Lib.hid (below_alloc hb2); have HC2 : Hid (w2.cell? ⟨w.heap.size, 0, none⟩ = some (.int .i64 x)) := (hb2.cell (p := ⟨w.heap.size, 0, none⟩) (by simp)).trans (cell_new_at _ _ _); have HP2 : Hid (w.heap.size < w2.heap.size) := Nat.lt_of_lt_of_le (by simp) hb2.size; clear hb2))
    | (go_at_call 54; ((with_reducible refine (contains_any a n c l HL.out w2 B (HS.out.below (HB2.out.mono HB.out)) (Nat.le_trans HB.out HB2.out.size) HR.out _ x HC2.out HP2.out).mono ?_); rintro e w3 ⟨rfl, hb3⟩)))
  go_ret2
  exact ⟨rfl, HB2.out.trans (hb3.mono HB2.out.size)⟩
set_option maxRecDepth 100000 in
theorem has_no (hn : n ≤ maxLen) (hI : I64L l) (hR : ¬ Rt l) (x : Int) :
    Calls Try.prog 25 #[.slice a n c, .int .i64 x] w fun e w' => e = .returned (.tuple #[.bool false, .int .i64 90]) ∧ Below w.heap.size w w' := by
  have HC := Lib.hid (right_no a n c l hl hn hI hR (w.alloc (.cells #[.int .i64 x] 3)) B (hS.alloc hB _) (by simp; omega))
  clear hl hS hB hR hI hn
  go_enter Try.func25, Try.ntmps25
  go_wp2_with (go_at_call 22; ((with_reducible refine HC.out.mono ?_); rintro e w2 ⟨rfl, hb2⟩))
  go_ret2
  exact ⟨rfl, below_alloc hb2⟩
end
end Go.Proofs.Ythamilolacfeoaa
