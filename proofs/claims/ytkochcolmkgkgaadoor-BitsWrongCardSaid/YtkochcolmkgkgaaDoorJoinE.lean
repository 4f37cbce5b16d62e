/-
  Or, And, Minus.
-/
import Derived.Test.YtkochcolmkgkgaaDoorTog
import Derived.Test.YtkochcolmkgkgaaDoorBox
import Derived.WalkMore
namespace Go.Proofs.YtkochcolmkgkgaaDoor
open Go.RowKit
set_option linter.unusedVariables false

/-- What Or, And, Minus return. -/
def SetOut (w : World) (N q : Nat) (zs : List Nat) (e : Ending) (w' : World) : Prop := ∃ g, e = .returned (.tuple #[.agg #[.int .i64 N, .slice (some ⟨g, 0, none⟩) q q], .int .i64 0]) ∧ OwnW w' w.heap.size g q zs ∧ Below w.heap.size w w'
def ErrOut (w : World) (f : Nat) (e : Ending) (w' : World) : Prop := e = .returned (.tuple #[.agg #[.int .i64 0, .slice none 0 0], .int .i64 f]) ∧ Below w.heap.size w w'
/-- Three boxes: two sets that came in, one that goes out. -/
def Boxes (W : World) (b : Nat) (u1 v1 u2 v2 u3 v3 : Value) : Prop := Box W b u1 v1 ∧ Box W (b + 1) u2 v2 ∧ Box W (b + 1 + 1) u3 v3
theorem Boxes.keep {w w' : World} {b : Nat} {u1 v1 u2 v2 u3 v3 : Value} (h : Boxes w b u1 v1 u2 v2 u3 v3) (hb : Below w.heap.size w w') : Boxes w' b u1 v1 u2 v2 u3 v3 := ⟨h.1.keep hb, h.2.1.keep hb, h.2.2.keep hb⟩

section
variable (N M : Int) (a b : Option Addr) (n m c d : Nat) (xs ys : List Nat) (hn : xs.length = n) (hm : ys.length = m) (hX : ∀ x ∈ xs, x < 2 ^ 64) (hY : ∀ y ∈ ys, y < 2 ^ 64) (f : Value) (w : World) (B : Nat) (hS : Seen w B .u64 a xs) (hS' : Seen w B .u64 b ys) (hB : B ≤ w.heap.size)
include hn hX hS hB
set_option maxRecDepth 100000 in
set_option maxHeartbeats 2000000 in
theorem join_bad1 (hR : NotRt N xs) : Calls Tryd.prog 61 #[.agg #[.int .i64 N, .slice a n c], .agg #[.int .i64 M, .slice b m d], f] w (ErrOut w 50) := by
  have HN := Lib.hid hn
  have HX : Hid (∀ y ∈ xs, y < 2 ^ 64) := hX
  have HR : Hid (NotRt N xs) := hR
  have HS : Hid (Seen w B .u64 a xs) := hS
  have HB := Lib.hid hB
  clear hn hX hR hS
  go_enter Tryd.func61, Tryd.ntmps61
  go_wp2_with (first
    | (go_at_call 34; ((with_reducible refine (right_no N a n c xs HN.out HX.out HR.out _ B (HS.out.below ((below3 w _ _ _).mono HB.out)) (by simp; omega)).mono ?_); rintro e w1 ⟨rfl, hb1⟩; have HB1 := Lib.hid ((below3 w _ _ _).trans (hb1.mono (by simp; omega))); have HX1 : Hid (Boxes w1 w.heap.size (.int .i64 N) (.slice a n c) (.int .i64 M) (.slice b m d) (.int .i64 0) (.slice none 0 0)) := (show Boxes _ _ _ _ _ _ _ _ from box3 w _ _ _ _ _ _).keep hb1; obtain ⟨r0, r1, r2, r3⟩ := HX1.out.2.2.cells; clear hb1)))
  refine bodyPost_ret (v := .tuple #[.agg #[.int .i64 0, .slice none 0 0], .int .i64 50]) (by simp [results, Tryd.results61, go_sem, r0, r1]) rfl ⟨rfl, ?_⟩
  first | exact HB1.out | exact (HB1.out.setCell (show w.heap.size ≤ w.heap.size + 1 + 1 by omega) _).setCell (show w.heap.size ≤ w.heap.size + 1 + 1 by omega) _

include hm hY hS'
set_option maxRecDepth 100000 in
set_option maxHeartbeats 2000000 in
theorem join_bad2 (N' : Nat) (hNN : N = (N' : Int)) (hR' : Bm.Rt N' xs) (hR : NotRt M ys) : Calls Tryd.prog 61 #[.agg #[.int .i64 N, .slice a n c], .agg #[.int .i64 M, .slice b m d], f] w (ErrOut w 50) := by
  subst hNN
  have HN := Lib.hid hn
  have HM := Lib.hid hm
  have HX : Hid (∀ y ∈ xs, y < 2 ^ 64) := hX
  have HY : Hid (∀ y ∈ ys, y < 2 ^ 64) := hY
  have HR : Hid (NotRt M ys) := hR
  have HR1 : Hid (Bm.Rt N' xs) := hR'
  have HS : Hid (Seen w B .u64 a xs) := hS
  have HS2 : Hid (Seen w B .u64 b ys) := hS'
  have HB := Lib.hid hB
  clear hn hm hX hY hR hR' hS hS'
  go_enter Tryd.func61, Tryd.ntmps61
  go_wp2_with (first
    | (go_at_call 34; ((with_reducible refine (right_yes N' a n c xs HN.out HR1.out _ B (HS.out.below ((below3 w _ _ _).mono HB.out)) (by simp; omega)).mono ?_); rintro e w1 ⟨rfl, hb1⟩; have HB1 := Lib.hid ((below3 w _ _ _).trans (hb1.mono (by simp; omega))); have HX1 : Hid (Boxes w1 w.heap.size (.int .i64 N') (.slice a n c) (.int .i64 M) (.slice b m d) (.int .i64 0) (.slice none 0 0)) := (show Boxes _ _ _ _ _ _ _ _ from box3 w _ _ _ _ _ _).keep hb1; obtain ⟨b0, b1, b2, b3⟩ := HX1.out.2.1.cells; clear hb1))
    | (go_at_call 34; ((with_reducible refine (right_no M b m d ys HM.out HY.out HR.out w1 B (HS2.out.below (HB1.out.mono HB.out)) (Nat.le_trans HB.out HB1.out.size)).mono ?_); rintro e w2 ⟨rfl, hb2⟩; have HB2 := Lib.hid (HB1.out.trans (hb2.mono HB1.out.size)); have HX2 := Lib.hid (HX1.out.keep hb2); obtain ⟨r0, r1, r2, r3⟩ := HX2.out.2.2.cells; clear hb2)))
  refine bodyPost_ret (v := .tuple #[.agg #[.int .i64 0, .slice none 0 0], .int .i64 50]) (by simp [results, Tryd.results61, go_sem, r0, r1]) rfl ⟨rfl, ?_⟩
  first | exact HB2.out | exact (HB2.out.setCell (show w.heap.size ≤ w.heap.size + 1 + 1 by omega) _).setCell (show w.heap.size ≤ w.heap.size + 1 + 1 by omega) _

omit hX hY in
set_option maxRecDepth 100000 in
set_option maxHeartbeats 2000000 in
theorem join_size (N' M' : Nat) (hNN : N = (N' : Int)) (hMM : M = (M' : Int)) (hne : N' ≠ M') (hR : Bm.Rt N' xs) (hR' : Bm.Rt M' ys) : Calls Tryd.prog 61 #[.agg #[.int .i64 N, .slice a n c], .agg #[.int .i64 M, .slice b m d], f] w (ErrOut w 51) := by
  subst hNN
  subst hMM
  have HN := Lib.hid hn
  have HM := Lib.hid hm
  have HR1 : Hid (Bm.Rt N' xs) := hR
  have HR2 : Hid (Bm.Rt M' ys) := hR'
  have HS : Hid (Seen w B .u64 a xs) := hS
  have HS2 : Hid (Seen w B .u64 b ys) := hS'
  have HB := Lib.hid hB
  have e1 : ¬ (N' : Int) = (M' : Int) := by omega
  have e2 : ((N' : Int) == (M' : Int)) = false := by simp; omega
  have e3 : ((N' : Int) != (M' : Int)) = true := by simp; omega
  clear hn hm hR hR' hS hS' hne
  go_enter Tryd.func61, Tryd.ntmps61
  go_wp2_with (first
    | (go_at_call 34; ((with_reducible refine (right_yes N' a n c xs HN.out HR1.out _ B (HS.out.below ((below3 w _ _ _).mono HB.out)) (by simp; omega)).mono ?_); rintro e w1 ⟨rfl, hb1⟩; have HB1 := Lib.hid ((below3 w _ _ _).trans (hb1.mono (by simp; omega))); have HX1 : Hid (Boxes w1 w.heap.size (.int .i64 N') (.slice a n c) (.int .i64 M') (.slice b m d) (.int .i64 0) (.slice none 0 0)) := (show Boxes _ _ _ _ _ _ _ _ from box3 w _ _ _ _ _ _).keep hb1; obtain ⟨b0, b1, b2, b3⟩ := HX1.out.2.1.cells; clear hb1))
    | (go_at_call 34; ((with_reducible refine (right_yes M' b m d ys HM.out HR2.out w1 B (HS2.out.below (HB1.out.mono HB.out)) (Nat.le_trans HB.out HB1.out.size)).mono ?_); rintro e w2 ⟨rfl, hb2⟩; have HB2 := Lib.hid (HB1.out.trans (hb2.mono HB1.out.size)); have HX2 := Lib.hid (HX1.out.keep hb2); obtain ⟨p0, p1, p2, p3⟩ := HX2.out.1.cells; obtain ⟨q0, q1, q2, q3⟩ := HX2.out.2.1.cells; obtain ⟨r0, r1, r2, r3⟩ := HX2.out.2.2.cells; clear hb2)))
  refine bodyPost_ret (v := .tuple #[.agg #[.int .i64 0, .slice none 0 0], .int .i64 51]) (by simp [results, Tryd.results61, go_sem, r0, r1]) rfl ⟨rfl, ?_⟩
  first | exact HB2.out | exact (HB2.out.setCell (show w.heap.size ≤ w.heap.size + 1 + 1 by omega) _).setCell (show w.heap.size ≤ w.heap.size + 1 + 1 by omega) _
end

end Go.Proofs.YtkochcolmkgkgaaDoor
