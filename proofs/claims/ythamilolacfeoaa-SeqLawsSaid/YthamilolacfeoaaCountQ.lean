/-
  Count, Has.
-/
import Derived.Test.YthamilolacfeoaaRightQ
namespace Go.Proofs.Ythamilolacfeoaa
open Go.RowKit Sq
set_option linter.unusedVariables false

namespace Sq
/-- How many numbers the runs have. -/
def sm (l : Rs) : Int := l.foldr (fun r t => r.2 + t) 0
theorem sm_nil : sm [] = 0 := rfl
theorem sm_cons (r : Int × Int) (l : Rs) : sm (r :: l) = r.2 + sm l := rfl
theorem sm_le : ∀ {l : Rs} {s : Int}, RtF s l → s ≤ 281474976710658 → 0 ≤ sm l ∧ sm l ≤ 281474976710658 - s
  | [], s, _, h => by rw [sm_nil]; omega
  | r :: t, s, h, h1 => by
    have := h.1; have := h.2.1; have := h.2.2.1
    have := sm_le h.2.2.2 (by omega)
    rw [sm_cons]; omega
theorem rtF_drop : ∀ {l : Rs} {s : Int} (k : Nat), RtF s l → ∃ s', s ≤ s' ∧ RtF s' (l.drop k)
  | [], s, k, _ => ⟨s, Int.le_refl _, by simp [RtF]⟩
  | r :: t, s, 0, h => ⟨s, Int.le_refl _, h⟩
  | r :: t, s, k + 1, h => by
    obtain ⟨s', h1, h2⟩ := rtF_drop k h.2.2.2
    exact ⟨s', by have := h.1; have := h.2.1; omega, h2⟩
theorem drop_cons {l : Rs} {k : Nat} {r : Int × Int} (h : l[k]? = some r) : l.drop k = r :: l.drop (k + 1) := by
  obtain ⟨h1, h2⟩ := List.getElem?_eq_some_iff.1 h
  rw [List.drop_eq_getElem_cons h1, h2]
end Sq

section
variable (a : Option Addr) (n c : Nat) (l : Rs) (hl : l.length = n) (w : World) (B : Nat) (hS : SeenR w B a l) (hB : B ≤ w.heap.size)

include hl hS hB
set_option maxRecDepth 100000 in
set_option maxHeartbeats 2000000 in
theorem count_yes (hR : Rt l) (x : Int) (hx : sm l = x) :
    Calls Try.prog 28 #[.slice a n c] w fun e w' => e = .returned (.tuple #[.int .i64 x, .int .i64 0]) ∧ Below w.heap.size w w' := by
  have HL := Lib.hid hl
  have HS : Hid (SeenR w B a l) := hS
  have HB := Lib.hid hB
  have HR : Hid (Rt l) := hR
  have HX := Lib.hid hx
  have hni : (n : Int) ≤ 65536 := by have := hR.1; omega
  clear hl hS hB hR hx
  go_enter Try.func28, Try.ntmps28
  go_wp2_with (go_at_call 22; ((with_reducible refine (right_yes a n c l HL.out HR.out _ B HS.out HB.out).mono ?_); rintro e w2 ⟨rfl, hb2⟩; have HB2 := Lib.hid hb2; clear hb2))
  go_loopw [4, 12] (fun t i wr => ∃ (k : Nat) (t' : Int), k ≤ n ∧ i = .int .i64 k ∧ t = .int .i64 t' ∧ Hid (t' + sm (l.drop k) = x) ∧ Hid (0 ≤ t') ∧ Hid (Below w.heap.size w wr)) (fun _ i _ => n - (intOf i).toNat)
  case atStart => exact ⟨0, 0, Nat.zero_le _, rfl, rfl, by show _ = _; rw [List.drop_zero, HX.out]; omega, Int.le_refl _, HB2.out⟩
  case round =>
    obtain ⟨k, t, hk, rfl, rfl, HK, HT, HW⟩ := hrel
    by_cases hkn : k < n
    · obtain ⟨r, hrk⟩ : ∃ r, l[k]? = some r := ⟨_, List.getElem?_eq_getElem (by rw [HL.out]; exact hkn)⟩
      have hdr := drop_cons hrk
      have hxb : 0 ≤ x ∧ x ≤ 281474976710657 := by have := sm_le HR.out.2 (by omega); rw [HX.out] at this; omega
      obtain ⟨s', hs', hrt⟩ := rtF_drop (k + 1) HR.out.2
      obtain ⟨s2, hs2, hrt2⟩ := rtF_drop k HR.out.2
      rw [hdr] at hrt2
      have hr2 := hrt2.2.1
      have hsm : 0 ≤ sm (l.drop (k + 1)) := (sm_le hrt2.2.2.2 (by have := hrt2.2.2.1; omega)).1
      have hsum : t + (r.2 + sm (l.drop (k + 1))) = x := by have := HK.out; rw [hdr, sm_cons] at this; exact this
      obtain ⟨b, off, rfl, hb, hc1, hc2⟩ := (HS.out.below (HW.out.mono HB.out)) k r hrk
      obtain ⟨f, hf⟩ : ∃ f, r.1 = f := ⟨_, rfl⟩
      obtain ⟨d, hd⟩ : ∃ d, r.2 = d := ⟨_, rfl⟩
      rw [hf] at hc1
      rw [hd] at hc2 hr2 hsum
      have hw1 : IntKind.i64.wrap (t + d) = t + d := wrap_i (by have := HT.out; omega) (by have := HT.out; omega)
      have HN : Hid (t + d + sm (l.drop (k + 1)) = x) := by show _ = _; omega
      have HT' : Hid (0 ≤ t + d) := by show _ ≤ _; have := HT.out; omega
      have HB1 : Hid (Below w.heap.size w (wr.alloc (.cells #[.int .i64 f, .int .i64 d] 34))) := HW.out.alloc HW.out.size _
      clear hrk hdr hf hd hb HK hxb hrt hs' hrt2 hs2 hsm hsum hr2
      go_wp2
      exact ⟨⟨k + 1, t + d, hkn, rfl, rfl, HN, HT', HB1⟩, by simp [intOf]; omega⟩
    · obtain rfl : n = k := by omega
      obtain rfl : t = x := by
        have := HK.out
        rw [List.drop_eq_nil_of_le (by rw [HL.out]; exact Nat.le_refl _), sm_nil] at this
        omega
      clear hkn HK
      go_wp2
      go_ret2
      exact ⟨rfl, HW.out⟩
set_option maxRecDepth 100000 in
theorem count_no (hn : n ≤ maxLen) (hI : I64L l) (hR : ¬ Rt l) :
    Calls Try.prog 28 #[.slice a n c] w fun e w' => e = .returned (.tuple #[.int .i64 0, .int .i64 90]) ∧ Below w.heap.size w w' := by
  have HC := Lib.hid (right_no a n c l hl hn hI hR w B hS hB)
  clear hl hS hB hR hI hn
  go_enter Try.func28, Try.ntmps28
  go_wp2_with (go_at_call 22; ((with_reducible refine HC.out.mono ?_); rintro e w2 ⟨rfl, hb2⟩))
  go_ret2
  exact ⟨rfl, hb2⟩
end

set_option maxRecDepth 100000 in
set_option maxHeartbeats 2000000 in
/-- The closure of Has: its number lies in a box. -/
theorem has1_any (w : World) (p : Nat) (x : Int) (hc : w.cell? ⟨p, 0, none⟩ = some (.int .i64 x)) (hp : p < w.heap.size) (f d e : Int) (he : IntKind.i64.wrap (f + d) = e) (r : Bool) (hr : (decide (f ≤ x) && decide (x < e)) = r) :
    Calls Try.prog 55 #[.agg #[.int .i64 f, .int .i64 d], .pointer (some ⟨p, 0, none⟩)] w fun e w' => e = .returned (.bool r) ∧ Below w.heap.size w w' := by
  have HE := Lib.hid he
  have HP := Lib.hid hp
  by_cases h1 : f ≤ x
  · have h1' : decide (f ≤ x) = true := by simpa using h1
    rw [h1', Bool.true_and] at hr
    subst hr
    clear he
    go_enter Try.func55, Try.ntmps55
    go_wp2
    go_region_with (go_at_call 53; ((with_reducible refine (end_eq f d e HE.out _).mono ?_); rintro ee w2 ⟨rfl, rfl⟩))
    all_goals
      go_wp2
      go_ret
      exact ⟨rfl, by repeat' (first | exact Below.refl _ _ | apply Below.drew | (refine Below.alloc ?_ (by simp) _))⟩
  · have h1' : decide (f ≤ x) = false := by simpa using h1
    rw [h1', Bool.false_and] at hr
    subst hr
    have hc' : (w.alloc (.cells #[.int .i64 f, .int .i64 d] 34)).cell? ⟨p, 0, none⟩ = some (.int .i64 x) := (World.cell?_alloc_lt w _ ⟨p, 0, none⟩ hp).trans hc
    clear he hp
    go_enter Try.func55, Try.ntmps55
    go_wp2
    go_quiet (fail)
    go_wp2
    go_ret
    exact ⟨rfl, below_drewN ((Below.refl _ w).alloc (Nat.le_refl _) _) _⟩
end Go.Proofs.Ythamilolacfeoaa
