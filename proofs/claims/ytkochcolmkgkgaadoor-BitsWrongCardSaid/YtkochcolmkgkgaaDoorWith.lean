/-
  With, Without.
-/
import Derived.Test.YtkochcolmkgkgaaDoorOps
import Derived.Test.YtkochcolmkgkgaaDoorOf
namespace Go.Proofs.YtkochcolmkgkgaaDoor
open Go.RowKit
set_option linter.unusedVariables false

/-- What With and Without return, of right sets. -/
def ChOut (f : Nat → Nat → Nat) (w : World) (N q : Nat) (xs : List Nat) (i : Int) (e : Ending) (w' : World) : Prop :=
  ((0 ≤ i ∧ i < N) ∧ SetOut w N q (List.zipWith f xs (Bm.ofL q [i.toNat])) e w') ∨ (¬ (0 ≤ i ∧ i < N) ∧ ErrOut w 2 e w')
theorem seenI_one (w : World) (i : Int) (t : TypeId) : SeenI (w.alloc (.cells #[.int .i64 i] t)) (w.heap.size + 1) (some ⟨w.heap.size, 0, none⟩) [i] := by
  intro j z hz
  have hj : j = 0 := by
    have := (List.getElem?_eq_some_iff.1 hz).1
    simpa using this
  subst hj
  obtain rfl : i = z := by simpa using hz
  exact ⟨_, _, rfl, by omega, by simp [go_sem]⟩

section
variable (N : Nat) (a : Option Addr) (n c : Nat) (xs : List Nat) (hn : xs.length = n) (hR : Bm.Rt N xs) (w : World) (B : Nat) (hS : Seen w B .u64 a xs) (hB : B ≤ w.heap.size)
include hn hR hS hB

set_option maxRecDepth 100000 in
set_option maxHeartbeats 2000000 in
theorem changeor_any (i : Int) :
    Calls Tryd.prog 65 #[.agg #[.int .i64 N, .slice a n c], .int .i64 i, .func (.func 30) #[] #[]] w (ChOut Bm.orW w N n xs i) := by
  have HN := Lib.hid hn
  have HR : Hid (Bm.Rt N xs) := hR
  have HS : Hid (Seen w B .u64 a xs) := hS
  have HB := Lib.hid hB
  have HNI : Hid ((N : Int) ≤ 65536) := by have := hR.1; show _ ≤ _; omega
  have HQ : Hid ((N + 63) / 64 = n) := by rw [← hn]; exact hR.2.1.symm
  have H1 : Hid (1 ≤ maxLen) := by show 1 ≤ maxLen; unfold maxLen; omega
  have hN6 := hR.1
  clear hn hR hS
  by_cases hi : 0 ≤ i ∧ i < N
  · have HI : Hid (InR N [i]) := by intro z hz; rw [List.mem_singleton.1 hz]; exact hi
    have HII : Hid (0 ≤ i ∧ i < N) := hi
    have HOL : Hid (Bm.Rt N (Bm.ofL n [i.toNat])) := Bm.ofL_right [i.toNat] hN6 HQ.out (fun j hj => by rw [List.mem_singleton.1 hj]; omega)
    have HOLn : Hid ((Bm.ofL n [i.toNat]).length = n) := Bm.ofL_len _ _
    clear hi hN6
    go_enter Tryd.func65, Tryd.ntmps65
    go_wp2_with (first
      | (go_at_call 34; ((with_reducible refine (right_yes N a n c xs HN.out HR.out _ B (HS.out.below ((below2 w _ _).mono HB.out)) (by simp; omega)).mono ?_); rintro e w1 ⟨rfl, hb1⟩; have HB1 := Lib.hid ((below2 w _ _).trans (hb1.mono (by simp; omega))); have HX1 : Hid (Box w1 w.heap.size (.int .i64 N) (.slice a n c) ∧ Box w1 (w.heap.size + 1) (.int .i64 0) (.slice none 0 0)) := ⟨(box2 w _ _ _ _).1.keep hb1, (box2 w _ _ _ _).2.keep hb1⟩; obtain ⟨b0, b1, b2, b3⟩ := HX1.out.1.cells; clear hb1))
      | (go_at_call 35; ((with_reducible refine (of_yes N HNI.out n HQ.out _ 1 1 [i] rfl H1.out _ (w1.heap.size + 1) (seenI_one w1 i _) (by simp) HI.out).mono ?_); rintro e w2 ⟨g, rfl, hown, hb2⟩; have HA := Lib.hid ((Below.refl w1.heap.size w1).alloc (Nat.le_refl _) (.cells #[.int .i64 i] 3)); have HB2 := Lib.hid (HB1.out.trans ((HA.out.trans (hb2.mono HA.out.size)).mono HB1.out.size)); have HX2 : Hid (Box w2 w.heap.size (.int .i64 N) (.slice a n c) ∧ Box w2 (w.heap.size + 1) (.int .i64 0) (.slice none 0 0)) := ⟨(HX1.out.1.alloc _).keep hb2, (HX1.out.2.alloc _).keep hb2⟩; obtain ⟨p0, p1, p2, p3⟩ := HX2.out.1.cells; obtain ⟨q0, q1, q2, q3⟩ := HX2.out.2.cells; obtain ⟨u0, u1, u2, u3⟩ := (HX2.out.1.alloc (.cells #[.int .i64 N, .slice (some ⟨g, 0, none⟩) n n] 24)).cells; obtain ⟨v0, v1, v2, v3⟩ := (HX2.out.2.alloc (.cells #[.int .i64 N, .slice (some ⟨g, 0, none⟩) n n] 24)).cells; have HOWN : Hid (OwnW w2 (w1.heap.size + 1) g n (Bm.ofL n [i.toNat])) := (by have h := hown; simp only [World.size_alloc] at h; exact h); clear hb2 hown))
      | (go_at_call 30; ((with_reducible refine (or_any N a _ n c n xs (Bm.ofL n [i.toNat]) _ HN.out HOLn.out HR.out HOL.out rfl _ w2.heap.size (((HS.out.below (HB2.out.mono HB.out)).more (Nat.le_trans HB.out HB2.out.size)).alloc (Nat.le_refl _) _) (HOWN.out.seen.alloc (Nat.le_refl _) _) (by simp)).mono ?_); rintro e w3 ⟨g4, rfl, hown4, hb4⟩; have HA2 := Lib.hid ((Below.refl w2.heap.size w2).alloc (Nat.le_refl _) (.cells #[.int .i64 N, .slice (some ⟨g, 0, none⟩) n n] 24)); have HB4 := Lib.hid (HB2.out.trans ((HA2.out.trans (hb4.mono HA2.out.size)).mono HB2.out.size)); have HX4 : Hid (Box w3 (w.heap.size + 1) (.int .i64 0) (.slice none 0 0)) := (HX2.out.2.alloc _).keep hb4; obtain ⟨t0, t1, t2, t3⟩ := HX4.out.cells; have HOWN4 : Hid (OwnW w3 (w2.heap.size + 1) g4 n (List.zipWith Bm.orW xs (Bm.ofL n [i.toNat]))) := (by have h := hown4; simp only [World.size_alloc] at h; exact h); have HLT := Lib.hid HX2.out.2.lt; clear hb4 hown4)))
    obtain ⟨f0, f1, f2, f3⟩ := (HX4.out.set (.int .i64 N) (.slice (some ⟨g4, 0, none⟩) n n)).cells
    have hlt := HLT.out
    refine bodyPost_ret (v := .tuple #[.agg #[.int .i64 N, .slice (some ⟨g4, 0, none⟩) n n], .int .i64 0]) (by simp [results, Tryd.results65, go_sem, f0, f1]) rfl (.inl ⟨HII.out, _, rfl, ?_, ?_⟩)
    · exact rebase (ownsRow_setCell_below (ownsRow_setCell_below HOWN4.out (show w.heap.size + 1 < w2.heap.size + 1 by omega) _) (show w.heap.size + 1 < w2.heap.size + 1 by omega) _) (Nat.le_trans HB2.out.size (Nat.le_succ _))
    · exact (HB4.out.setCell (show w.heap.size ≤ w.heap.size + 1 by omega) _).setCell (show w.heap.size ≤ w.heap.size + 1 by omega) _
  · have HI : Hid (¬ InR N [i]) := fun h => hi (h i (by simp))
    have HII : Hid (¬ (0 ≤ i ∧ i < N)) := hi
    clear hi hN6
    go_enter Tryd.func65, Tryd.ntmps65
    go_wp2_with (first
      | (go_at_call 34; ((with_reducible refine (right_yes N a n c xs HN.out HR.out _ B (HS.out.below ((below2 w _ _).mono HB.out)) (by simp; omega)).mono ?_); rintro e w1 ⟨rfl, hb1⟩; have HB1 := Lib.hid ((below2 w _ _).trans (hb1.mono (by simp; omega))); have HX1 : Hid (Box w1 w.heap.size (.int .i64 N) (.slice a n c) ∧ Box w1 (w.heap.size + 1) (.int .i64 0) (.slice none 0 0)) := ⟨(box2 w _ _ _ _).1.keep hb1, (box2 w _ _ _ _).2.keep hb1⟩; obtain ⟨b0, b1, b2, b3⟩ := HX1.out.1.cells; clear hb1))
      | (go_at_call 35; ((with_reducible refine (of_no N HNI.out n HQ.out _ 1 1 [i] rfl H1.out _ (w1.heap.size + 1) (seenI_one w1 i _) (by simp) HI.out).mono ?_); rintro e w2 ⟨rfl, hb2⟩; have HA := Lib.hid ((Below.refl w1.heap.size w1).alloc (Nat.le_refl _) (.cells #[.int .i64 i] 3)); have HB2 := Lib.hid (HB1.out.trans ((HA.out.trans (hb2.mono HA.out.size)).mono HB1.out.size)); have HX2 : Hid (Box w2 (w.heap.size + 1) (.int .i64 0) (.slice none 0 0)) := (HX1.out.2.alloc _).keep hb2; obtain ⟨q0, q1, q2, q3⟩ := HX2.out.cells; obtain ⟨r0, r1, r2, r3⟩ := (HX2.out.alloc (.cells #[.int .i64 0, .slice none 0 0] 24)).cells; clear hb2)))
    obtain ⟨f0, f1, f2, f3⟩ := ((HX2.out.alloc (.cells #[.int .i64 0, .slice none 0 0] 24)).set (.int .i64 0) (.slice none 0 0)).cells
    refine bodyPost_ret (v := .tuple #[.agg #[.int .i64 0, .slice none 0 0], .int .i64 2]) (by simp [results, Tryd.results65, go_sem, f0, f1]) rfl (.inr ⟨HII.out, rfl, ?_⟩)
    first
    | exact (HB2.out.alloc HB2.out.size _)
    | exact ((HB2.out.alloc HB2.out.size _).setCell (show w.heap.size ≤ w.heap.size + 1 by omega) _).setCell (show w.heap.size ≤ w.heap.size + 1 by omega) _
end

set_option maxRecDepth 100000 in
set_option maxHeartbeats 2000000 in
theorem changeor_bad (N : Int) (a : Option Addr) (n c : Nat) (xs : List Nat) (hn : xs.length = n) (hX : ∀ x ∈ xs, x < 2 ^ 64) (hR : NotRt N xs) (i : Int) (w : World) (B : Nat) (hS : Seen w B .u64 a xs) (hB : B ≤ w.heap.size) :
    Calls Tryd.prog 65 #[.agg #[.int .i64 N, .slice a n c], .int .i64 i, .func (.func 30) #[] #[]] w (ErrOut w 50) := by
  have HN := Lib.hid hn
  have HX : Hid (∀ x ∈ xs, x < 2 ^ 64) := hX
  have HR : Hid (NotRt N xs) := hR
  have HS : Hid (Seen w B .u64 a xs) := hS
  have HB := Lib.hid hB
  clear hn hX hR hS
  go_enter Tryd.func65, Tryd.ntmps65
  go_wp2_with (go_at_call 34; ((with_reducible refine (right_no N a n c xs HN.out HX.out HR.out _ B (HS.out.below ((below2 w _ _).mono HB.out)) (by simp; omega)).mono ?_); rintro e w1 ⟨rfl, hb1⟩; have HB1 := Lib.hid ((below2 w _ _).trans (hb1.mono (by simp; omega))); have HX1 : Hid (Box w1 (w.heap.size + 1) (.int .i64 0) (.slice none 0 0)) := (box2 w _ _ _ _).2.keep hb1; obtain ⟨r0, r1, r2, r3⟩ := HX1.out.cells; clear hb1))
  refine bodyPost_ret (v := .tuple #[.agg #[.int .i64 0, .slice none 0 0], .int .i64 50]) (by simp [results, Tryd.results65, go_sem, r0, r1]) rfl ⟨rfl, ?_⟩
  first | exact HB1.out | exact (HB1.out.setCell (show w.heap.size ≤ w.heap.size + 1 by omega) _).setCell (show w.heap.size ≤ w.heap.size + 1 by omega) _

section
variable (N : Nat) (a : Option Addr) (n c : Nat) (xs : List Nat) (hn : xs.length = n) (hR : Bm.Rt N xs) (w : World) (B : Nat) (hS : Seen w B .u64 a xs) (hB : B ≤ w.heap.size)
include hn hR hS hB
set_option maxRecDepth 100000 in
set_option maxHeartbeats 2000000 in
theorem withI_any (i : Int) (hi : 0 ≤ i) (hi2 : i < N) :
    Calls Tryd.prog 36 #[.agg #[.int .i64 N, .slice a n c], .int .i64 i] w (SetOut w N n (List.zipWith Bm.orW xs (Bm.ofL n [i.toNat]))) := by
  have HN := Lib.hid hn
  have HR : Hid (Bm.Rt N xs) := hR
  have HS : Hid (Seen w B .u64 a xs) := hS
  have HB := Lib.hid hB
  have HI : Hid (0 ≤ i ∧ i < N) := ⟨hi, hi2⟩
  clear hn hR hS hi hi2
  go_enter Tryd.func36, Tryd.ntmps36
  go_wp2_with (go_at_call 65; ((with_reducible refine (changeor_any N a n c xs HN.out HR.out _ B (HS.out.below ((below2 w _ _).mono HB.out)) (by simp; omega) i).mono ?_); intro e w1 hh; obtain ⟨g, rfl, hown, hb1⟩ := hh.resolve_right (fun h => h.1 HI.out) |>.2; have HB1 := Lib.hid ((below2 w _ _).trans (hb1.mono (by simp; omega))); have HX1 : Hid (Box w1 (w.heap.size + 1) (.int .i64 0) (.slice none 0 0)) := (box2 w _ _ _ _).2.keep hb1; obtain ⟨r0, r1, r2, r3⟩ := HX1.out.cells; have HOWN : Hid (OwnW w1 (w.heap.size + 1 + 1) g n (List.zipWith Bm.orW xs (Bm.ofL n [i.toNat]))) := (by have h := hown; simp only [World.size_alloc] at h; exact h); clear hh hb1 hown))
  obtain ⟨f0, f1, f2, f3⟩ := (HX1.out.set (.int .i64 N) (.slice (some ⟨g, 0, none⟩) n n)).cells
  refine bodyPost_ret (v := .tuple #[.agg #[.int .i64 N, .slice (some ⟨g, 0, none⟩) n n], .int .i64 0]) (by simp [results, Tryd.results36, go_sem, f0, f1]) rfl ⟨_, rfl, ?_, ?_⟩
  · exact rebase (ownsRow_setCell_below (ownsRow_setCell_below HOWN.out (show w.heap.size + 1 < w.heap.size + 1 + 1 by omega) _) (show w.heap.size + 1 < w.heap.size + 1 + 1 by omega) _) (by omega)
  · exact (HB1.out.setCell (show w.heap.size ≤ w.heap.size + 1 by omega) _).setCell (show w.heap.size ≤ w.heap.size + 1 by omega) _
theorem withI_arg0 (i : Int) (hi : ¬ (0 ≤ i ∧ i < N)) : ∀ W, Below w.heap.size w W →
    Calls Tryd.prog 65 #[.agg #[.int .i64 N, .slice a n c], .int .i64 i, .func (.func 30) #[] #[]] W (ErrOut W 2) := fun W hb =>
  (changeor_any N a n c xs hn hR W B (hS.below (hb.mono hB)) (Nat.le_trans hB hb.size) i).mono fun e w' hh => hh.resolve_left (fun h => hi h.1) |>.2
end
set_option maxRecDepth 100000 in
set_option maxHeartbeats 2000000 in
theorem withI_err (N : Int) (a : Option Addr) (n c f : Nat) (i : Int) (w : World) (hJ : ∀ W, Below w.heap.size w W → Calls Tryd.prog 65 #[.agg #[.int .i64 N, .slice a n c], .int .i64 i, .func (.func 30) #[] #[]] W (ErrOut W f)) :
    Calls Tryd.prog 36 #[.agg #[.int .i64 N, .slice a n c], .int .i64 i] w (ErrOut w f) := by
  have HJ : Hid (∀ W, Below w.heap.size w W → Calls Tryd.prog 65 #[.agg #[.int .i64 N, .slice a n c], .int .i64 i, .func (.func 30) #[] #[]] W (ErrOut W f)) := hJ
  clear hJ
  go_enter Tryd.func36, Tryd.ntmps36
  go_wp2_with (go_at_call 65; ((with_reducible refine (HJ.out _ (below2 w _ _)).mono ?_); rintro e w1 ⟨rfl, hb1⟩; have HB1 := Lib.hid ((below2 w _ _).trans (hb1.mono (by simp; omega))); have HX1 : Hid (Box w1 (w.heap.size + 1) (.int .i64 0) (.slice none 0 0)) := (box2 w _ _ _ _).2.keep hb1; obtain ⟨r0, r1, r2, r3⟩ := HX1.out.cells; clear hb1))
  obtain ⟨f0, f1, f2, f3⟩ := (HX1.out.set (.int .i64 0) (.slice none 0 0)).cells
  refine bodyPost_ret (v := .tuple #[.agg #[.int .i64 0, .slice none 0 0], .int .i64 f]) (by simp [results, Tryd.results36, go_sem, f0, f1]) rfl ⟨rfl, ?_⟩
  exact (HB1.out.setCell (show w.heap.size ≤ w.heap.size + 1 by omega) _).setCell (show w.heap.size ≤ w.heap.size + 1 by omega) _
theorem withI_arg (N : Nat) (a : Option Addr) (n c : Nat) (xs : List Nat) (hn : xs.length = n) (hR : Bm.Rt N xs) (i : Int) (hi : ¬ (0 ≤ i ∧ i < N)) (w : World) (B : Nat) (hS : Seen w B .u64 a xs) (hB : B ≤ w.heap.size) :
    Calls Tryd.prog 36 #[.agg #[.int .i64 N, .slice a n c], .int .i64 i] w (ErrOut w 2) :=
  withI_err N a n c 2 i w (withI_arg0 N a n c xs hn hR w B hS hB i hi)
theorem withI_bad (N : Int) (a : Option Addr) (n c : Nat) (xs : List Nat) (hn : xs.length = n) (hX : ∀ x ∈ xs, x < 2 ^ 64) (hR : NotRt N xs) (i : Int) (w : World) (B : Nat) (hS : Seen w B .u64 a xs) (hB : B ≤ w.heap.size) :
    Calls Tryd.prog 36 #[.agg #[.int .i64 N, .slice a n c], .int .i64 i] w (ErrOut w 50) :=
  withI_err N a n c 50 i w (fun W hb => changeor_bad N a n c xs hn hX hR i W B (hS.below (hb.mono hB)) (Nat.le_trans hB hb.size))

section
variable (N : Nat) (a : Option Addr) (n c : Nat) (xs : List Nat) (hn : xs.length = n) (hR : Bm.Rt N xs) (w : World) (B : Nat) (hS : Seen w B .u64 a xs) (hB : B ≤ w.heap.size)
include hn hR hS hB

set_option maxRecDepth 100000 in
set_option maxHeartbeats 2000000 in
theorem changeminus_any (i : Int) :
    Calls Tryd.prog 65 #[.agg #[.int .i64 N, .slice a n c], .int .i64 i, .func (.func 32) #[] #[]] w (ChOut Bm.minusW w N n xs i) := by
  have HN := Lib.hid hn
  have HR : Hid (Bm.Rt N xs) := hR
  have HS : Hid (Seen w B .u64 a xs) := hS
  have HB := Lib.hid hB
  have HNI : Hid ((N : Int) ≤ 65536) := by have := hR.1; show _ ≤ _; omega
  have HQ : Hid ((N + 63) / 64 = n) := by rw [← hn]; exact hR.2.1.symm
  have H1 : Hid (1 ≤ maxLen) := by show 1 ≤ maxLen; unfold maxLen; omega
  have hN6 := hR.1
  clear hn hR hS
  by_cases hi : 0 ≤ i ∧ i < N
  · have HI : Hid (InR N [i]) := by intro z hz; rw [List.mem_singleton.1 hz]; exact hi
    have HII : Hid (0 ≤ i ∧ i < N) := hi
    have HOL : Hid (Bm.Rt N (Bm.ofL n [i.toNat])) := Bm.ofL_right [i.toNat] hN6 HQ.out (fun j hj => by rw [List.mem_singleton.1 hj]; omega)
    have HOLn : Hid ((Bm.ofL n [i.toNat]).length = n) := Bm.ofL_len _ _
    clear hi hN6
    go_enter Tryd.func65, Tryd.ntmps65
    go_wp2_with (first
      | (go_at_call 34; ((with_reducible refine (right_yes N a n c xs HN.out HR.out _ B (HS.out.below ((below2 w _ _).mono HB.out)) (by simp; omega)).mono ?_); rintro e w1 ⟨rfl, hb1⟩; have HB1 := Lib.hid ((below2 w _ _).trans (hb1.mono (by simp; omega))); have HX1 : Hid (Box w1 w.heap.size (.int .i64 N) (.slice a n c) ∧ Box w1 (w.heap.size + 1) (.int .i64 0) (.slice none 0 0)) := ⟨(box2 w _ _ _ _).1.keep hb1, (box2 w _ _ _ _).2.keep hb1⟩; obtain ⟨b0, b1, b2, b3⟩ := HX1.out.1.cells; clear hb1))
      | (go_at_call 35; ((with_reducible refine (of_yes N HNI.out n HQ.out _ 1 1 [i] rfl H1.out _ (w1.heap.size + 1) (seenI_one w1 i _) (by simp) HI.out).mono ?_); rintro e w2 ⟨g, rfl, hown, hb2⟩; have HA := Lib.hid ((Below.refl w1.heap.size w1).alloc (Nat.le_refl _) (.cells #[.int .i64 i] 3)); have HB2 := Lib.hid (HB1.out.trans ((HA.out.trans (hb2.mono HA.out.size)).mono HB1.out.size)); have HX2 : Hid (Box w2 w.heap.size (.int .i64 N) (.slice a n c) ∧ Box w2 (w.heap.size + 1) (.int .i64 0) (.slice none 0 0)) := ⟨(HX1.out.1.alloc _).keep hb2, (HX1.out.2.alloc _).keep hb2⟩; obtain ⟨p0, p1, p2, p3⟩ := HX2.out.1.cells; obtain ⟨q0, q1, q2, q3⟩ := HX2.out.2.cells; obtain ⟨u0, u1, u2, u3⟩ := (HX2.out.1.alloc (.cells #[.int .i64 N, .slice (some ⟨g, 0, none⟩) n n] 24)).cells; obtain ⟨v0, v1, v2, v3⟩ := (HX2.out.2.alloc (.cells #[.int .i64 N, .slice (some ⟨g, 0, none⟩) n n] 24)).cells; have HOWN : Hid (OwnW w2 (w1.heap.size + 1) g n (Bm.ofL n [i.toNat])) := (by have h := hown; simp only [World.size_alloc] at h; exact h); clear hb2 hown))
      | (go_at_call 32; ((with_reducible refine (minus_any N a _ n c n xs (Bm.ofL n [i.toNat]) _ HN.out HOLn.out HR.out HOL.out rfl _ w2.heap.size (((HS.out.below (HB2.out.mono HB.out)).more (Nat.le_trans HB.out HB2.out.size)).alloc (Nat.le_refl _) _) (HOWN.out.seen.alloc (Nat.le_refl _) _) (by simp)).mono ?_); rintro e w3 ⟨g4, rfl, hown4, hb4⟩; have HA2 := Lib.hid ((Below.refl w2.heap.size w2).alloc (Nat.le_refl _) (.cells #[.int .i64 N, .slice (some ⟨g, 0, none⟩) n n] 24)); have HB4 := Lib.hid (HB2.out.trans ((HA2.out.trans (hb4.mono HA2.out.size)).mono HB2.out.size)); have HX4 : Hid (Box w3 (w.heap.size + 1) (.int .i64 0) (.slice none 0 0)) := (HX2.out.2.alloc _).keep hb4; obtain ⟨t0, t1, t2, t3⟩ := HX4.out.cells; have HOWN4 : Hid (OwnW w3 (w2.heap.size + 1) g4 n (List.zipWith Bm.minusW xs (Bm.ofL n [i.toNat]))) := (by have h := hown4; simp only [World.size_alloc] at h; exact h); have HLT := Lib.hid HX2.out.2.lt; clear hb4 hown4)))
    obtain ⟨f0, f1, f2, f3⟩ := (HX4.out.set (.int .i64 N) (.slice (some ⟨g4, 0, none⟩) n n)).cells
    have hlt := HLT.out
    refine bodyPost_ret (v := .tuple #[.agg #[.int .i64 N, .slice (some ⟨g4, 0, none⟩) n n], .int .i64 0]) (by simp [results, Tryd.results65, go_sem, f0, f1]) rfl (.inl ⟨HII.out, _, rfl, ?_, ?_⟩)
    · exact rebase (ownsRow_setCell_below (ownsRow_setCell_below HOWN4.out (show w.heap.size + 1 < w2.heap.size + 1 by omega) _) (show w.heap.size + 1 < w2.heap.size + 1 by omega) _) (Nat.le_trans HB2.out.size (Nat.le_succ _))
    · exact (HB4.out.setCell (show w.heap.size ≤ w.heap.size + 1 by omega) _).setCell (show w.heap.size ≤ w.heap.size + 1 by omega) _
  · have HI : Hid (¬ InR N [i]) := fun h => hi (h i (by simp))
    have HII : Hid (¬ (0 ≤ i ∧ i < N)) := hi
    clear hi hN6
    go_enter Tryd.func65, Tryd.ntmps65
    go_wp2_with (first
      | (go_at_call 34; ((with_reducible refine (right_yes N a n c xs HN.out HR.out _ B (HS.out.below ((below2 w _ _).mono HB.out)) (by simp; omega)).mono ?_); rintro e w1 ⟨rfl, hb1⟩; have HB1 := Lib.hid ((below2 w _ _).trans (hb1.mono (by simp; omega))); have HX1 : Hid (Box w1 w.heap.size (.int .i64 N) (.slice a n c) ∧ Box w1 (w.heap.size + 1) (.int .i64 0) (.slice none 0 0)) := ⟨(box2 w _ _ _ _).1.keep hb1, (box2 w _ _ _ _).2.keep hb1⟩; obtain ⟨b0, b1, b2, b3⟩ := HX1.out.1.cells; clear hb1))
      | (go_at_call 35; ((with_reducible refine (of_no N HNI.out n HQ.out _ 1 1 [i] rfl H1.out _ (w1.heap.size + 1) (seenI_one w1 i _) (by simp) HI.out).mono ?_); rintro e w2 ⟨rfl, hb2⟩; have HA := Lib.hid ((Below.refl w1.heap.size w1).alloc (Nat.le_refl _) (.cells #[.int .i64 i] 3)); have HB2 := Lib.hid (HB1.out.trans ((HA.out.trans (hb2.mono HA.out.size)).mono HB1.out.size)); have HX2 : Hid (Box w2 (w.heap.size + 1) (.int .i64 0) (.slice none 0 0)) := (HX1.out.2.alloc _).keep hb2; obtain ⟨q0, q1, q2, q3⟩ := HX2.out.cells; obtain ⟨r0, r1, r2, r3⟩ := (HX2.out.alloc (.cells #[.int .i64 0, .slice none 0 0] 24)).cells; clear hb2)))
    obtain ⟨f0, f1, f2, f3⟩ := ((HX2.out.alloc (.cells #[.int .i64 0, .slice none 0 0] 24)).set (.int .i64 0) (.slice none 0 0)).cells
    refine bodyPost_ret (v := .tuple #[.agg #[.int .i64 0, .slice none 0 0], .int .i64 2]) (by simp [results, Tryd.results65, go_sem, f0, f1]) rfl (.inr ⟨HII.out, rfl, ?_⟩)
    first
    | exact (HB2.out.alloc HB2.out.size _)
    | exact ((HB2.out.alloc HB2.out.size _).setCell (show w.heap.size ≤ w.heap.size + 1 by omega) _).setCell (show w.heap.size ≤ w.heap.size + 1 by omega) _
end

set_option maxRecDepth 100000 in
set_option maxHeartbeats 2000000 in
theorem changeminus_bad (N : Int) (a : Option Addr) (n c : Nat) (xs : List Nat) (hn : xs.length = n) (hX : ∀ x ∈ xs, x < 2 ^ 64) (hR : NotRt N xs) (i : Int) (w : World) (B : Nat) (hS : Seen w B .u64 a xs) (hB : B ≤ w.heap.size) :
    Calls Tryd.prog 65 #[.agg #[.int .i64 N, .slice a n c], .int .i64 i, .func (.func 32) #[] #[]] w (ErrOut w 50) := by
  have HN := Lib.hid hn
  have HX : Hid (∀ x ∈ xs, x < 2 ^ 64) := hX
  have HR : Hid (NotRt N xs) := hR
  have HS : Hid (Seen w B .u64 a xs) := hS
  have HB := Lib.hid hB
  clear hn hX hR hS
  go_enter Tryd.func65, Tryd.ntmps65
  go_wp2_with (go_at_call 34; ((with_reducible refine (right_no N a n c xs HN.out HX.out HR.out _ B (HS.out.below ((below2 w _ _).mono HB.out)) (by simp; omega)).mono ?_); rintro e w1 ⟨rfl, hb1⟩; have HB1 := Lib.hid ((below2 w _ _).trans (hb1.mono (by simp; omega))); have HX1 : Hid (Box w1 (w.heap.size + 1) (.int .i64 0) (.slice none 0 0)) := (box2 w _ _ _ _).2.keep hb1; obtain ⟨r0, r1, r2, r3⟩ := HX1.out.cells; clear hb1))
  refine bodyPost_ret (v := .tuple #[.agg #[.int .i64 0, .slice none 0 0], .int .i64 50]) (by simp [results, Tryd.results65, go_sem, r0, r1]) rfl ⟨rfl, ?_⟩
  first | exact HB1.out | exact (HB1.out.setCell (show w.heap.size ≤ w.heap.size + 1 by omega) _).setCell (show w.heap.size ≤ w.heap.size + 1 by omega) _

section
variable (N : Nat) (a : Option Addr) (n c : Nat) (xs : List Nat) (hn : xs.length = n) (hR : Bm.Rt N xs) (w : World) (B : Nat) (hS : Seen w B .u64 a xs) (hB : B ≤ w.heap.size)
include hn hR hS hB
set_option maxRecDepth 100000 in
set_option maxHeartbeats 2000000 in
theorem withoutI_any (i : Int) (hi : 0 ≤ i) (hi2 : i < N) :
    Calls Tryd.prog 37 #[.agg #[.int .i64 N, .slice a n c], .int .i64 i] w (SetOut w N n (List.zipWith Bm.minusW xs (Bm.ofL n [i.toNat]))) := by
  have HN := Lib.hid hn
  have HR : Hid (Bm.Rt N xs) := hR
  have HS : Hid (Seen w B .u64 a xs) := hS
  have HB := Lib.hid hB
  have HI : Hid (0 ≤ i ∧ i < N) := ⟨hi, hi2⟩
  clear hn hR hS hi hi2
  go_enter Tryd.func37, Tryd.ntmps37
  go_wp2_with (go_at_call 65; ((with_reducible refine (changeminus_any N a n c xs HN.out HR.out _ B (HS.out.below ((below2 w _ _).mono HB.out)) (by simp; omega) i).mono ?_); intro e w1 hh; obtain ⟨g, rfl, hown, hb1⟩ := hh.resolve_right (fun h => h.1 HI.out) |>.2; have HB1 := Lib.hid ((below2 w _ _).trans (hb1.mono (by simp; omega))); have HX1 : Hid (Box w1 (w.heap.size + 1) (.int .i64 0) (.slice none 0 0)) := (box2 w _ _ _ _).2.keep hb1; obtain ⟨r0, r1, r2, r3⟩ := HX1.out.cells; have HOWN : Hid (OwnW w1 (w.heap.size + 1 + 1) g n (List.zipWith Bm.minusW xs (Bm.ofL n [i.toNat]))) := (by have h := hown; simp only [World.size_alloc] at h; exact h); clear hh hb1 hown))
  obtain ⟨f0, f1, f2, f3⟩ := (HX1.out.set (.int .i64 N) (.slice (some ⟨g, 0, none⟩) n n)).cells
  refine bodyPost_ret (v := .tuple #[.agg #[.int .i64 N, .slice (some ⟨g, 0, none⟩) n n], .int .i64 0]) (by simp [results, Tryd.results37, go_sem, f0, f1]) rfl ⟨_, rfl, ?_, ?_⟩
  · exact rebase (ownsRow_setCell_below (ownsRow_setCell_below HOWN.out (show w.heap.size + 1 < w.heap.size + 1 + 1 by omega) _) (show w.heap.size + 1 < w.heap.size + 1 + 1 by omega) _) (by omega)
  · exact (HB1.out.setCell (show w.heap.size ≤ w.heap.size + 1 by omega) _).setCell (show w.heap.size ≤ w.heap.size + 1 by omega) _
theorem withoutI_arg0 (i : Int) (hi : ¬ (0 ≤ i ∧ i < N)) : ∀ W, Below w.heap.size w W →
    Calls Tryd.prog 65 #[.agg #[.int .i64 N, .slice a n c], .int .i64 i, .func (.func 32) #[] #[]] W (ErrOut W 2) := fun W hb =>
  (changeminus_any N a n c xs hn hR W B (hS.below (hb.mono hB)) (Nat.le_trans hB hb.size) i).mono fun e w' hh => hh.resolve_left (fun h => hi h.1) |>.2
end
set_option maxRecDepth 100000 in
set_option maxHeartbeats 2000000 in
theorem withoutI_err (N : Int) (a : Option Addr) (n c f : Nat) (i : Int) (w : World) (hJ : ∀ W, Below w.heap.size w W → Calls Tryd.prog 65 #[.agg #[.int .i64 N, .slice a n c], .int .i64 i, .func (.func 32) #[] #[]] W (ErrOut W f)) :
    Calls Tryd.prog 37 #[.agg #[.int .i64 N, .slice a n c], .int .i64 i] w (ErrOut w f) := by
  have HJ : Hid (∀ W, Below w.heap.size w W → Calls Tryd.prog 65 #[.agg #[.int .i64 N, .slice a n c], .int .i64 i, .func (.func 32) #[] #[]] W (ErrOut W f)) := hJ
  clear hJ
  go_enter Tryd.func37, Tryd.ntmps37
  go_wp2_with (go_at_call 65; ((with_reducible refine (HJ.out _ (below2 w _ _)).mono ?_); rintro e w1 ⟨rfl, hb1⟩; have HB1 := Lib.hid ((below2 w _ _).trans (hb1.mono (by simp; omega))); have HX1 : Hid (Box w1 (w.heap.size + 1) (.int .i64 0) (.slice none 0 0)) := (box2 w _ _ _ _).2.keep hb1; obtain ⟨r0, r1, r2, r3⟩ := HX1.out.cells; clear hb1))
  obtain ⟨f0, f1, f2, f3⟩ := (HX1.out.set (.int .i64 0) (.slice none 0 0)).cells
  refine bodyPost_ret (v := .tuple #[.agg #[.int .i64 0, .slice none 0 0], .int .i64 f]) (by simp [results, Tryd.results37, go_sem, f0, f1]) rfl ⟨rfl, ?_⟩
  exact (HB1.out.setCell (show w.heap.size ≤ w.heap.size + 1 by omega) _).setCell (show w.heap.size ≤ w.heap.size + 1 by omega) _
theorem withoutI_arg (N : Nat) (a : Option Addr) (n c : Nat) (xs : List Nat) (hn : xs.length = n) (hR : Bm.Rt N xs) (i : Int) (hi : ¬ (0 ≤ i ∧ i < N)) (w : World) (B : Nat) (hS : Seen w B .u64 a xs) (hB : B ≤ w.heap.size) :
    Calls Tryd.prog 37 #[.agg #[.int .i64 N, .slice a n c], .int .i64 i] w (ErrOut w 2) :=
  withoutI_err N a n c 2 i w (withoutI_arg0 N a n c xs hn hR w B hS hB i hi)
theorem withoutI_bad (N : Int) (a : Option Addr) (n c : Nat) (xs : List Nat) (hn : xs.length = n) (hX : ∀ x ∈ xs, x < 2 ^ 64) (hR : NotRt N xs) (i : Int) (w : World) (B : Nat) (hS : Seen w B .u64 a xs) (hB : B ≤ w.heap.size) :
    Calls Tryd.prog 37 #[.agg #[.int .i64 N, .slice a n c], .int .i64 i] w (ErrOut w 50) :=
  withoutI_err N a n c 50 i w (fun W hb => changeminus_bad N a n c xs hn hX hR i W B (hS.below (hb.mono hB)) (Nat.le_trans hB hb.size))

end Go.Proofs.YtkochcolmkgkgaaDoor
