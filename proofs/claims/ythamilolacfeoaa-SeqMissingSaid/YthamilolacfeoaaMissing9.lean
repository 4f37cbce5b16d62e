/-
  The law SeqMissing.
-/
import Derived.Test.YthamilolacfeoaaSetsQ
import Derived.Test.YthamilolacfeoaaArgs
namespace Go.Proofs.Ythamilolacfeoaa
open Go.RowKit Sq
set_option linter.unusedVariables false

namespace Sq
theorem miss_all {A M b c : Rs} {f x : Int} (hA : RtF 1 A) (h1 : 1 ≤ f) (h2 : f < x) (h3 : x ≤ 281474976710657) (hM : Miss A f x M) (hb : Made fAnd A [(f, x - f)] b) (hc : Made fOr M b c) : c = [(f, x - f)] :=
  Sq.uniq hc.rt (rt_one h1 (by omega) (by omega)).2 fun n => by
    rw [hc.has, hM.has, hb.has, hs_cons, hs_nil, Bool.or_false]
    unfold fOr fAnd inR
    dsimp only
    rw [show f + (x - f) = x by omega]
    cases hs A n <;> cases decide (f ≤ n) <;> cases decide (n < x) <;> rfl
theorem miss_apart {A M b c : Rs} {f x : Int} (hM : Miss A f x M) (hb : Made fAnd A [(f, x - f)] b) (hc : Made fAnd M b c) : c = [] :=
  Sq.uniq hc.rt (show RtF 1 [] from trivial) fun n => by
    rw [hc.has, hM.has, hb.has, hs_cons, hs_nil, Bool.or_false]
    unfold fAnd inR
    dsimp only
    rw [show f + (x - f) = x by omega]
    cases hs A n <;> cases decide (f ≤ n) <;> cases decide (n < x) <;> rfl
end Sq

set_option maxRecDepth 100000 in
set_option maxHeartbeats 8000000 in
theorem missing_law (a : Option Addr) (n c : Nat) (xs : List Nat) (hn : xs.length = n) (hx : ∀ x ∈ xs, x < 256) (hnc : n ≤ c) (hcm : c ≤ maxLen) (p q : Int) (w : World) (hS : Seen w w.heap.size .u8 a xs) :
    Calls Try.prog 9 #[.slice a n c, .int .i64 p, .int .i64 q] w fun e w' => e = .returned (.bool true) ∧ Below w.heap.size w w' := by
  have HN := Lib.hid hn
  have HX : Hid (∀ x ∈ xs, x < 256) := hx
  have HNC := Lib.hid hnc
  have HCM : Hid (c ≤ maxLen) := hcm
  have HS : Hid (Seen w w.heap.size .u8 a xs) := hS
  clear hn hx hnc hcm hS
  go_enter Try.func9, Try.ntmps9
  go_upto_region 7 with (first
    | (go_at_call 13; (with_reducible refine (awake_any _).mono ?_); rintro e w1 ⟨rfl, hb1⟩; have HB1 := Lib.hid hb1; clear hb1)
    | (go_at_call 18; (with_reducible refine (made_at a n c xs HN.out HX.out HNC.out HCM.out w1 w.heap.size (HS.out.below HB1.out) HB1.out.size).mono ?_); rintro e w2 ⟨⟨a2, n2, c2, L, rfl, hs2, hn2⟩, hb2⟩; have HS2 := Lib.hid hs2; have HN2 := Lib.hid hn2; have HB2 := Lib.hid (HB1.out.trans (hb2.mono HB1.out.size)); clear hs2 hn2 hb2)
    | (go_at_call 30; (with_reducible refine (within_any p w2).mono ?_); rintro e w3 ⟨⟨f, rfl, hf1, hf2⟩, hw3⟩; obtain rfl : w2 = w3 := hw3.symm; have HF := Lib.hid (And.intro hf1 hf2))
    | (go_at_call 30; (with_reducible refine (within_any q w2).mono ?_); rintro e w3 ⟨⟨g, rfl, hg1, hg2⟩, hw3⟩; obtain rfl : w2 = w3 := hw3.symm; have HG := Lib.hid (And.intro hg1 hg2)))
  obtain ⟨x, hx⟩ : ∃ x, f + g - 1 = x := ⟨_, rfl⟩
  have HF1 : Hid (1 ≤ f) := HF.out.1
  have HFX : Hid (f ≤ x) := by show _ ≤ _; have := HG.out.1; omega
  have HX1 : Hid (x ≤ 281474976710657) := by show _ ≤ _; have := HG.out.2; have := HF.out.2; omega
  have HN20 : Hid (n2 ≤ 30000) := by show _ ≤ _; have := HN2.out; omega
  have HN21 : Hid (n2 + 1 ≤ 30000) := by show _ ≤ _; have := HN2.out; omega
  have H126 : Hid (62 + 64 ≤ 30000) := by show _ ≤ _; omega
  obtain ⟨M, hM⟩ := miss_exists HS2.out.rt.2 HF1.out HFX.out HX1.out
  have HM := Lib.hid hM
  rw [hx]
  clear hf1 hf2 hg1 hg2 HF HG hx hM
  cases M with
  | nil =>
    have HVE : Hid (fstV [] = 0 ∧ fstE [] = 6) := ⟨rfl, rfl⟩
    by_cases hfx : f = x
    · have hne : (f == x) = true := by simpa using hfx
      clear hfx
      go_wp2_with (first
      | (go_at_call 31; (with_reducible refine (missing_at HS2.out HM.out HF1.out HFX.out HX1.out HN20.out).mono ?_); rintro e w4 ⟨⟨a4, n4, c4, L4, rfl, hs4, hL4⟩, hb4⟩; rw [hL4] at hs4; have HS4 := Lib.hid hs4; have HB4 := Lib.hid hb4; have hn4 : n4 = 0 := hs4.len.symm; subst hn4; clear hs4 hL4 hb4)
      | (go_at_call 32; (with_reducible refine (first_at (HS2.out.keep HB4.out) HM.out HF1.out HFX.out HX1.out (v := 0) (e := 6) HVE.out.1 HVE.out.2).mono ?_); rintro e w5 ⟨rfl, hb5⟩; have HB5 : Hid (Below w2.heap.size w2 w5) := HB4.out.trans (hb5.mono HB4.out.size); have HM5 := Lib.hid (HS4.out.keep hb5); clear hb5)
      | (go_at_call 22; (with_reducible refine (right_at HM5.out).mono ?_); rintro e w6 ⟨rfl, hb6⟩; have HB6 : Hid (Below w2.heap.size w2 w6) := HB5.out.trans (hb6.mono HB5.out.size); have HM6 := Lib.hid (HM5.out.keep hb6); clear hb6))
      go_ret
      exact ⟨rfl, HB2.out.trans (HB6.out.mono HB2.out.size)⟩
    · have hne : (f == x) = false := by simpa using hfx
      obtain ⟨d, hd⟩ : ∃ d, x - f = d := ⟨_, rfl⟩
      have HDX := Lib.hid hd
      have HD1 : Hid (1 ≤ d) := by show _ ≤ _; have := HFX.out; omega
      have HFD : Hid (f + d ≤ 281474976710657) := by show _ ≤ _; have := HX1.out; omega
      have HFXL : Hid (f < x) := by show _ < _; have := HFX.out; omega
      have HTR : Hid (decide ([(f, x - f)] = [(f, d)]) = true) := by rw [hd]; exact decide_eq_true rfl
      have hwd : IntKind.i64.wrap d = d := wrap_i (by have := HD1.out; omega) (by have := HFD.out; have := HF1.out; omega)
      clear hfx
      go_wp2_with (first
      | (go_at_call 31; (with_reducible refine (missing_at HS2.out HM.out HF1.out HFX.out HX1.out HN20.out).mono ?_); rintro e w4 ⟨⟨a4, n4, c4, L4, rfl, hs4, hL4⟩, hb4⟩; rw [hL4] at hs4; have HS4 := Lib.hid hs4; have HB4 := Lib.hid hb4; have hn4 : n4 = 0 := hs4.len.symm; subst hn4; clear hs4 hL4 hb4)
      | (go_at_call 32; (with_reducible refine (first_at (HS2.out.keep HB4.out) HM.out HF1.out HFX.out HX1.out (v := 0) (e := 6) HVE.out.1 HVE.out.2).mono ?_); rintro e w5 ⟨rfl, hb5⟩; have HB5 : Hid (Below w2.heap.size w2 w5) := HB4.out.trans (hb5.mono HB4.out.size); have HM5 := Lib.hid (HS4.out.keep hb5); clear hb5)
      | (go_at_call 22; (with_reducible refine (right_at HM5.out).mono ?_); rintro e w6 ⟨rfl, hb6⟩; have HB6 : Hid (Below w2.heap.size w2 w6) := HB5.out.trans (hb6.mono HB5.out.size); have HM6 := Lib.hid (HM5.out.keep hb6); clear hb6)
      | (go_at_call 20; (with_reducible refine (common_at ((HS2.out.keep HB6.out).alloc (.cells #[.int .i64 f, .int .i64 d] 34)) (SetIn.new w6 f d HF1.out HD1.out HFD.out) HN21.out).mono ?_); rintro e w7 ⟨⟨a7, n7, c7, B7, rfl, hs7, hL7⟩, hb7⟩; have HS7 := Lib.hid hs7; have HL7 := Lib.hid hL7; have HL7d : Hid (Made fAnd L [(f, x - f)] B7) := (by rw [HDX.out]; exact hL7); have hb67 := below_alloc hb7; have HM7 := Lib.hid (HM6.out.keep hb67); have HB7 : Hid (Below w2.heap.size w2 w7) := HB6.out.trans (hb67.mono HB6.out.size); have HN7 : Hid (n7 ≤ 64 ∧ 0 ≤ 62) := ⟨by rw [← hs7.len]; have h1 := hL7.len; have h2 := HS2.out.len; have h3 := HN2.out; rw [h2] at h1; exact Nat.le_trans h1 (by simp; omega), by have h1 := HM.out.len; rw [HS2.out.len, HM7.out.len] at h1; have := HN2.out; omega⟩; clear hs7 hL7 hb7 hb67)
      | (go_at_call 19; (with_reducible refine (union_at HM7.out HS7.out (Nat.le_trans (Nat.add_le_add HN7.out.2 HN7.out.1) H126.out)).mono ?_); rintro e w8 ⟨⟨a8, n8, c8, L8, rfl, hs8, hL8⟩, hb8⟩; have hA8 := miss_all HS2.out.rt.2 HF1.out HFXL.out HX1.out HM.out HL7d.out hL8; rw [hA8] at hs8; have HS8 := Lib.hid hs8; have HM8 := Lib.hid (HM7.out.keep hb8); have HS78 := Lib.hid (HS7.out.keep hb8); have HB8 : Hid (Below w2.heap.size w2 w8) := HB7.out.trans (hb8.mono HB7.out.size); clear hs8 hL8 hA8 hb8)
      | (go_at_call 20; (with_reducible refine (common_at HM8.out HS78.out (Nat.le_trans (Nat.add_le_add HN7.out.2 HN7.out.1) H126.out)).mono ?_); rintro e w9 ⟨⟨a9, n9, c9, L9, rfl, hs9, hL9⟩, hb9⟩; have hA9 := miss_apart HM.out HL7d.out hL9; rw [hA9] at hs9; have hn9 : n9 = 0 := hs9.len.symm; subst hn9; have HS89 := Lib.hid (HS8.out.keep hb9); have HB9 : Hid (Below w2.heap.size w2 w9) := HB8.out.trans (hb9.mono HB8.out.size); clear hs9 hL9 hA9 hb9)
      | (go_at_call 29; (with_reducible refine (equal_at (HS89.out.alloc (.cells #[.int .i64 f, .int .i64 d] 34)) (SetIn.new w9 f d HF1.out HD1.out HFD.out) (r := true) HTR.out).mono ?_); rintro e w10 ⟨rfl, hb10⟩; have HB10 : Hid (Below w2.heap.size w2 w10) := HB9.out.trans ((below_alloc hb10).mono HB9.out.size); clear hb10))
      go_ret
      exact ⟨rfl, HB2.out.trans (HB10.out.mono HB2.out.size)⟩
  | cons r tl =>
    obtain ⟨r1, hr1⟩ : ∃ x, r.1 = x := ⟨_, rfl⟩
    have HVE : Hid (fstV (r :: tl) = r1 ∧ fstE (r :: tl) = 0) := ⟨hr1, rfl⟩
    have hfx : ¬ f = x := fun e => by
      subst e
      have := HM.out.uniq miss_none
      cases this
    · have hne : (f == x) = false := by simpa using hfx
      obtain ⟨d, hd⟩ : ∃ d, x - f = d := ⟨_, rfl⟩
      have HDX := Lib.hid hd
      have HD1 : Hid (1 ≤ d) := by show _ ≤ _; have := HFX.out; omega
      have HFD : Hid (f + d ≤ 281474976710657) := by show _ ≤ _; have := HX1.out; omega
      have HFXL : Hid (f < x) := by show _ < _; have := HFX.out; omega
      have HTR : Hid (decide ([(f, x - f)] = [(f, d)]) = true) := by rw [hd]; exact decide_eq_true rfl
      have hwd : IntKind.i64.wrap d = d := wrap_i (by have := HD1.out; omega) (by have := HFD.out; have := HF1.out; omega)
      clear hfx
      go_wp2_with (first
      | (go_at_call 31; (with_reducible refine (missing_at HS2.out HM.out HF1.out HFX.out HX1.out HN20.out).mono ?_); rintro e w4 ⟨⟨a4, n4, c4, L4, rfl, hs4, hL4⟩, hb4⟩; rw [hL4] at hs4; have HS4 := Lib.hid hs4; have HB4 := Lib.hid hb4; have hn4 : 0 < n4 := (by rw [← hs4.len]; simp); have hn4i : (0 : Int) < (n4 : Int) := (by omega); have hn4d : decide (0 < n4) = true := decide_eq_true hn4; have hn4b : ((n4 : Int) == 0) = false := (by simp; omega); obtain ⟨b4, o4, ha4, hlt4, hc4, _⟩ := hs4.seen 0 r rfl; subst ha4; simp only [Nat.zero_mul, Nat.add_zero] at hc4; rw [hr1] at hc4; have HC4 := Lib.hid (And.intro hc4 hlt4); clear hs4 hL4 hb4 hc4 hlt4)
      | (go_at_call 32; (with_reducible refine (first_at (HS2.out.keep HB4.out) HM.out HF1.out HFX.out HX1.out (v := r1) (e := 0) HVE.out.1 HVE.out.2).mono ?_); rintro e w5 ⟨rfl, hb5⟩; have HB5 : Hid (Below w2.heap.size w2 w5) := HB4.out.trans (hb5.mono HB4.out.size); have HM5 := Lib.hid (HS4.out.keep hb5); have hc5 : w5.cell? ⟨b4, o4, none⟩ = some (.int .i64 r1) := (hb5.cell (p := ⟨b4, o4, none⟩) HC4.out.2).trans HC4.out.1; have HB45 := Lib.hid hb5.size; clear hb5)
      | (go_at_call 22; (with_reducible refine (right_at HM5.out).mono ?_); rintro e w6 ⟨rfl, hb6⟩; have HB6 : Hid (Below w2.heap.size w2 w6) := HB5.out.trans (hb6.mono HB5.out.size); have HM6 := Lib.hid (HM5.out.keep hb6); have hc6 : w6.cell? ⟨b4, o4, none⟩ = some (.int .i64 r1) := (hb6.cell (p := ⟨b4, o4, none⟩) (Nat.lt_of_lt_of_le HC4.out.2 HB45.out)).trans hc5; clear hb6)
      | (go_at_call 20; (with_reducible refine (common_at ((HS2.out.keep HB6.out).alloc (.cells #[.int .i64 f, .int .i64 d] 34)) (SetIn.new w6 f d HF1.out HD1.out HFD.out) HN21.out).mono ?_); rintro e w7 ⟨⟨a7, n7, c7, B7, rfl, hs7, hL7⟩, hb7⟩; have HS7 := Lib.hid hs7; have HL7 := Lib.hid hL7; have HL7d : Hid (Made fAnd L [(f, x - f)] B7) := (by rw [HDX.out]; exact hL7); have hb67 := below_alloc hb7; have HM7 := Lib.hid (HM6.out.keep hb67); have HB7 : Hid (Below w2.heap.size w2 w7) := HB6.out.trans (hb67.mono HB6.out.size); have HN7 : Hid (n7 ≤ 64 ∧ n4 ≤ 62) := ⟨by rw [← hs7.len]; have h1 := hL7.len; have h2 := HS2.out.len; have h3 := HN2.out; rw [h2] at h1; exact Nat.le_trans h1 (by simp; omega), by have h1 := HM.out.len; rw [HS2.out.len, HM7.out.len] at h1; have := HN2.out; omega⟩; clear hs7 hL7 hb7 hb67)
      | (go_at_call 19; (with_reducible refine (union_at HM7.out HS7.out (Nat.le_trans (Nat.add_le_add HN7.out.2 HN7.out.1) H126.out)).mono ?_); rintro e w8 ⟨⟨a8, n8, c8, L8, rfl, hs8, hL8⟩, hb8⟩; have hA8 := miss_all HS2.out.rt.2 HF1.out HFXL.out HX1.out HM.out HL7d.out hL8; rw [hA8] at hs8; have HS8 := Lib.hid hs8; have HM8 := Lib.hid (HM7.out.keep hb8); have HS78 := Lib.hid (HS7.out.keep hb8); have HB8 : Hid (Below w2.heap.size w2 w8) := HB7.out.trans (hb8.mono HB7.out.size); clear hs8 hL8 hA8 hb8)
      | (go_at_call 20; (with_reducible refine (common_at HM8.out HS78.out (Nat.le_trans (Nat.add_le_add HN7.out.2 HN7.out.1) H126.out)).mono ?_); rintro e w9 ⟨⟨a9, n9, c9, L9, rfl, hs9, hL9⟩, hb9⟩; have hA9 := miss_apart HM.out HL7d.out hL9; rw [hA9] at hs9; have hn9 : n9 = 0 := hs9.len.symm; subst hn9; have HS89 := Lib.hid (HS8.out.keep hb9); have HB9 : Hid (Below w2.heap.size w2 w9) := HB8.out.trans (hb9.mono HB8.out.size); clear hs9 hL9 hA9 hb9)
      | (go_at_call 29; (with_reducible refine (equal_at (HS89.out.alloc (.cells #[.int .i64 f, .int .i64 d] 34)) (SetIn.new w9 f d HF1.out HD1.out HFD.out) (r := true) HTR.out).mono ?_); rintro e w10 ⟨rfl, hb10⟩; have HB10 : Hid (Below w2.heap.size w2 w10) := HB9.out.trans ((below_alloc hb10).mono HB9.out.size); clear hb10))
      go_ret
      exact ⟨rfl, HB2.out.trans (HB10.out.mono HB2.out.size)⟩
theorem missing_walk (a0 : Option Addr) (len0 cap0 : Nat) (z0 : List Int) (a1 : Int) (a2 : Int) (w : World) (w0 : IsRow .u8 w a0 len0 cap0 z0) (w1 : (Lit.int .i64 a1).wf = true) (w2 : (Lit.int .i64 a2).wf = true) : Calls Try.prog 9 #[.slice a0 len0 cap0, .int .i64 a1, .int .i64 a2] w fun e w' => e = .returned (.bool true) ∧ Below w.heap.size w w' := by
  obtain ⟨xs, h1, h2, h3, h4, h5⟩ := row_u8 w0
  exact missing_law a0 len0 cap0 xs h1 h3 h4 h5 a1 a2 w h2
end Go.Proofs.Ythamilolacfeoaa
