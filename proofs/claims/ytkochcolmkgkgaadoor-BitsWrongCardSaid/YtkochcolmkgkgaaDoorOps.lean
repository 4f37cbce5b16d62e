/-
  Or, And, Minus: the calls themselves.
-/
import Derived.Test.YtkochcolmkgkgaaDoorJoin
namespace Go.Proofs.YtkochcolmkgkgaaDoor
open Go.RowKit
set_option linter.unusedVariables false

set_option maxRecDepth 100000 in
set_option maxHeartbeats 1000000 in
theorem or_any (N : Nat) (a b : Option Addr) (n c d : Nat) (xs ys zs : List Nat) (hn : xs.length = n) (hm : ys.length = n) (hR : Bm.Rt N xs) (hR' : Bm.Rt N ys) (hz : List.zipWith Bm.orW xs ys = zs) (w : World) (B : Nat) (hS : Seen w B .u64 a xs) (hS' : Seen w B .u64 b ys) (hB : B ≤ w.heap.size) :
    Calls Tryd.prog 30 #[.agg #[.int .i64 N, .slice a n c], .agg #[.int .i64 N, .slice b n d]] w (SetOut w N n zs) := by
  subst hz
  have HN := Lib.hid hn
  have HM := Lib.hid hm
  have HR : Hid (Bm.Rt N xs) := hR
  have HR2 : Hid (Bm.Rt N ys) := hR'
  have HS : Hid (Seen w B .u64 a xs) := hS
  have HS2 : Hid (Seen w B .u64 b ys) := hS'
  have HB := Lib.hid hB
  obtain ⟨g0, g1, g2, g3⟩ := (box3 w (.int .i64 N) (.slice a n c) (.int .i64 N) (.slice b n d) (.int .i64 0) (.slice none 0 0)).1.cells
  clear hn hm hR hR' hS hS' g0 g1 g2 g3
  go_enter Tryd.func30, Tryd.ntmps30
  go_wp2_with (first
    | (go_at_call 61; ((with_reducible refine (joinor_any N a b n c d xs ys HN.out HM.out HR.out HR2.out _ B (HS.out.below ((below3 w _ _ _).mono HB.out)) (HS2.out.below ((below3 w _ _ _).mono HB.out)) (by simp; omega)).mono ?_); rintro e w1 ⟨g, rfl, hown, hb1⟩; have HB1 := Lib.hid ((below3 w _ _ _).trans (hb1.mono (by simp; omega))); have HX1 : Hid (Boxes w1 w.heap.size (.int .i64 N) (.slice a n c) (.int .i64 N) (.slice b n d) (.int .i64 0) (.slice none 0 0)) := (show Boxes _ _ _ _ _ _ _ _ from box3 w _ _ _ _ _ _).keep hb1; have HOWN : Hid (OwnW w1 (w.heap.size + 1 + 1 + 1) g n (List.zipWith Bm.orW xs ys)) := (by have h := hown; simp only [World.size_alloc] at h; exact h); obtain ⟨r0, r1, r2, r3⟩ := HX1.out.2.2.cells; clear hb1 hown)))
  obtain ⟨f0, f1, f2, f3⟩ := (HX1.out.2.2.set (.int .i64 N) (.slice (some ⟨g, 0, none⟩) n n)).cells
  refine bodyPost_ret (v := .tuple #[.agg #[.int .i64 N, .slice (some ⟨g, 0, none⟩) n n], .int .i64 0]) (by simp [results, Tryd.results30, go_sem, f0, f1]) rfl ⟨_, rfl, ?_, ?_⟩
  · exact rebase (ownsRow_setCell_below (ownsRow_setCell_below HOWN.out (show w.heap.size + 1 + 1 < w.heap.size + 1 + 1 + 1 by omega) _) (show w.heap.size + 1 + 1 < w.heap.size + 1 + 1 + 1 by omega) _) (by omega)
  · exact (HB1.out.setCell (show w.heap.size ≤ w.heap.size + 1 + 1 by omega) _).setCell (show w.heap.size ≤ w.heap.size + 1 + 1 by omega) _

set_option maxRecDepth 100000 in
set_option maxHeartbeats 1000000 in
theorem or_err (N M : Int) (a b : Option Addr) (n m c d f : Nat) (w : World) (hJ : ∀ W, Below w.heap.size w W → Calls Tryd.prog 61 #[.agg #[.int .i64 N, .slice a n c], .agg #[.int .i64 M, .slice b m d], .func (.func 62) #[] #[]] W (ErrOut W f)) :
    Calls Tryd.prog 30 #[.agg #[.int .i64 N, .slice a n c], .agg #[.int .i64 M, .slice b m d]] w (ErrOut w f) := by
  have HJ : Hid (∀ W, Below w.heap.size w W → Calls Tryd.prog 61 #[.agg #[.int .i64 N, .slice a n c], .agg #[.int .i64 M, .slice b m d], .func (.func 62) #[] #[]] W (ErrOut W f)) := hJ
  clear hJ
  go_enter Tryd.func30, Tryd.ntmps30
  go_wp2_with (first
    | (go_at_call 61; ((with_reducible refine (HJ.out _ (below3 w _ _ _)).mono ?_); rintro e w1 ⟨rfl, hb1⟩; have HB1 := Lib.hid ((below3 w _ _ _).trans (hb1.mono (by simp; omega))); have HX1 : Hid (Boxes w1 w.heap.size (.int .i64 N) (.slice a n c) (.int .i64 M) (.slice b m d) (.int .i64 0) (.slice none 0 0)) := (show Boxes _ _ _ _ _ _ _ _ from box3 w _ _ _ _ _ _).keep hb1; obtain ⟨r0, r1, r2, r3⟩ := HX1.out.2.2.cells; clear hb1)))
  obtain ⟨f0, f1, f2, f3⟩ := (HX1.out.2.2.set (.int .i64 0) (.slice none 0 0)).cells
  refine bodyPost_ret (v := .tuple #[.agg #[.int .i64 0, .slice none 0 0], .int .i64 f]) (by simp [results, Tryd.results30, go_sem, f0, f1]) rfl ⟨rfl, ?_⟩
  first | exact HB1.out | exact (HB1.out.setCell (show w.heap.size ≤ w.heap.size + 1 + 1 by omega) _).setCell (show w.heap.size ≤ w.heap.size + 1 + 1 by omega) _

set_option maxRecDepth 100000 in
set_option maxHeartbeats 1000000 in
theorem and_any (N : Nat) (a b : Option Addr) (n c d : Nat) (xs ys zs : List Nat) (hn : xs.length = n) (hm : ys.length = n) (hR : Bm.Rt N xs) (hR' : Bm.Rt N ys) (hz : List.zipWith Bm.andW xs ys = zs) (w : World) (B : Nat) (hS : Seen w B .u64 a xs) (hS' : Seen w B .u64 b ys) (hB : B ≤ w.heap.size) :
    Calls Tryd.prog 31 #[.agg #[.int .i64 N, .slice a n c], .agg #[.int .i64 N, .slice b n d]] w (SetOut w N n zs) := by
  subst hz
  have HN := Lib.hid hn
  have HM := Lib.hid hm
  have HR : Hid (Bm.Rt N xs) := hR
  have HR2 : Hid (Bm.Rt N ys) := hR'
  have HS : Hid (Seen w B .u64 a xs) := hS
  have HS2 : Hid (Seen w B .u64 b ys) := hS'
  have HB := Lib.hid hB
  obtain ⟨g0, g1, g2, g3⟩ := (box3 w (.int .i64 N) (.slice a n c) (.int .i64 N) (.slice b n d) (.int .i64 0) (.slice none 0 0)).1.cells
  clear hn hm hR hR' hS hS' g0 g1 g2 g3
  go_enter Tryd.func31, Tryd.ntmps31
  go_wp2_with (first
    | (go_at_call 61; ((with_reducible refine (joinand_any N a b n c d xs ys HN.out HM.out HR.out HR2.out _ B (HS.out.below ((below3 w _ _ _).mono HB.out)) (HS2.out.below ((below3 w _ _ _).mono HB.out)) (by simp; omega)).mono ?_); rintro e w1 ⟨g, rfl, hown, hb1⟩; have HB1 := Lib.hid ((below3 w _ _ _).trans (hb1.mono (by simp; omega))); have HX1 : Hid (Boxes w1 w.heap.size (.int .i64 N) (.slice a n c) (.int .i64 N) (.slice b n d) (.int .i64 0) (.slice none 0 0)) := (show Boxes _ _ _ _ _ _ _ _ from box3 w _ _ _ _ _ _).keep hb1; have HOWN : Hid (OwnW w1 (w.heap.size + 1 + 1 + 1) g n (List.zipWith Bm.andW xs ys)) := (by have h := hown; simp only [World.size_alloc] at h; exact h); obtain ⟨r0, r1, r2, r3⟩ := HX1.out.2.2.cells; clear hb1 hown)))
  obtain ⟨f0, f1, f2, f3⟩ := (HX1.out.2.2.set (.int .i64 N) (.slice (some ⟨g, 0, none⟩) n n)).cells
  refine bodyPost_ret (v := .tuple #[.agg #[.int .i64 N, .slice (some ⟨g, 0, none⟩) n n], .int .i64 0]) (by simp [results, Tryd.results31, go_sem, f0, f1]) rfl ⟨_, rfl, ?_, ?_⟩
  · exact rebase (ownsRow_setCell_below (ownsRow_setCell_below HOWN.out (show w.heap.size + 1 + 1 < w.heap.size + 1 + 1 + 1 by omega) _) (show w.heap.size + 1 + 1 < w.heap.size + 1 + 1 + 1 by omega) _) (by omega)
  · exact (HB1.out.setCell (show w.heap.size ≤ w.heap.size + 1 + 1 by omega) _).setCell (show w.heap.size ≤ w.heap.size + 1 + 1 by omega) _

set_option maxRecDepth 100000 in
set_option maxHeartbeats 1000000 in
theorem and_err (N M : Int) (a b : Option Addr) (n m c d f : Nat) (w : World) (hJ : ∀ W, Below w.heap.size w W → Calls Tryd.prog 61 #[.agg #[.int .i64 N, .slice a n c], .agg #[.int .i64 M, .slice b m d], .func (.func 63) #[] #[]] W (ErrOut W f)) :
    Calls Tryd.prog 31 #[.agg #[.int .i64 N, .slice a n c], .agg #[.int .i64 M, .slice b m d]] w (ErrOut w f) := by
  have HJ : Hid (∀ W, Below w.heap.size w W → Calls Tryd.prog 61 #[.agg #[.int .i64 N, .slice a n c], .agg #[.int .i64 M, .slice b m d], .func (.func 63) #[] #[]] W (ErrOut W f)) := hJ
  clear hJ
  go_enter Tryd.func31, Tryd.ntmps31
  go_wp2_with (first
    | (go_at_call 61; ((with_reducible refine (HJ.out _ (below3 w _ _ _)).mono ?_); rintro e w1 ⟨rfl, hb1⟩; have HB1 := Lib.hid ((below3 w _ _ _).trans (hb1.mono (by simp; omega))); have HX1 : Hid (Boxes w1 w.heap.size (.int .i64 N) (.slice a n c) (.int .i64 M) (.slice b m d) (.int .i64 0) (.slice none 0 0)) := (show Boxes _ _ _ _ _ _ _ _ from box3 w _ _ _ _ _ _).keep hb1; obtain ⟨r0, r1, r2, r3⟩ := HX1.out.2.2.cells; clear hb1)))
  obtain ⟨f0, f1, f2, f3⟩ := (HX1.out.2.2.set (.int .i64 0) (.slice none 0 0)).cells
  refine bodyPost_ret (v := .tuple #[.agg #[.int .i64 0, .slice none 0 0], .int .i64 f]) (by simp [results, Tryd.results31, go_sem, f0, f1]) rfl ⟨rfl, ?_⟩
  first | exact HB1.out | exact (HB1.out.setCell (show w.heap.size ≤ w.heap.size + 1 + 1 by omega) _).setCell (show w.heap.size ≤ w.heap.size + 1 + 1 by omega) _

set_option maxRecDepth 100000 in
set_option maxHeartbeats 1000000 in
theorem minus_any (N : Nat) (a b : Option Addr) (n c d : Nat) (xs ys zs : List Nat) (hn : xs.length = n) (hm : ys.length = n) (hR : Bm.Rt N xs) (hR' : Bm.Rt N ys) (hz : List.zipWith Bm.minusW xs ys = zs) (w : World) (B : Nat) (hS : Seen w B .u64 a xs) (hS' : Seen w B .u64 b ys) (hB : B ≤ w.heap.size) :
    Calls Tryd.prog 32 #[.agg #[.int .i64 N, .slice a n c], .agg #[.int .i64 N, .slice b n d]] w (SetOut w N n zs) := by
  subst hz
  have HN := Lib.hid hn
  have HM := Lib.hid hm
  have HR : Hid (Bm.Rt N xs) := hR
  have HR2 : Hid (Bm.Rt N ys) := hR'
  have HS : Hid (Seen w B .u64 a xs) := hS
  have HS2 : Hid (Seen w B .u64 b ys) := hS'
  have HB := Lib.hid hB
  obtain ⟨g0, g1, g2, g3⟩ := (box3 w (.int .i64 N) (.slice a n c) (.int .i64 N) (.slice b n d) (.int .i64 0) (.slice none 0 0)).1.cells
  clear hn hm hR hR' hS hS' g0 g1 g2 g3
  go_enter Tryd.func32, Tryd.ntmps32
  go_wp2_with (first
    | (go_at_call 61; ((with_reducible refine (joinminus_any N a b n c d xs ys HN.out HM.out HR.out HR2.out _ B (HS.out.below ((below3 w _ _ _).mono HB.out)) (HS2.out.below ((below3 w _ _ _).mono HB.out)) (by simp; omega)).mono ?_); rintro e w1 ⟨g, rfl, hown, hb1⟩; have HB1 := Lib.hid ((below3 w _ _ _).trans (hb1.mono (by simp; omega))); have HX1 : Hid (Boxes w1 w.heap.size (.int .i64 N) (.slice a n c) (.int .i64 N) (.slice b n d) (.int .i64 0) (.slice none 0 0)) := (show Boxes _ _ _ _ _ _ _ _ from box3 w _ _ _ _ _ _).keep hb1; have HOWN : Hid (OwnW w1 (w.heap.size + 1 + 1 + 1) g n (List.zipWith Bm.minusW xs ys)) := (by have h := hown; simp only [World.size_alloc] at h; exact h); obtain ⟨r0, r1, r2, r3⟩ := HX1.out.2.2.cells; clear hb1 hown)))
  obtain ⟨f0, f1, f2, f3⟩ := (HX1.out.2.2.set (.int .i64 N) (.slice (some ⟨g, 0, none⟩) n n)).cells
  refine bodyPost_ret (v := .tuple #[.agg #[.int .i64 N, .slice (some ⟨g, 0, none⟩) n n], .int .i64 0]) (by simp [results, Tryd.results32, go_sem, f0, f1]) rfl ⟨_, rfl, ?_, ?_⟩
  · exact rebase (ownsRow_setCell_below (ownsRow_setCell_below HOWN.out (show w.heap.size + 1 + 1 < w.heap.size + 1 + 1 + 1 by omega) _) (show w.heap.size + 1 + 1 < w.heap.size + 1 + 1 + 1 by omega) _) (by omega)
  · exact (HB1.out.setCell (show w.heap.size ≤ w.heap.size + 1 + 1 by omega) _).setCell (show w.heap.size ≤ w.heap.size + 1 + 1 by omega) _

set_option maxRecDepth 100000 in
set_option maxHeartbeats 1000000 in
theorem minus_err (N M : Int) (a b : Option Addr) (n m c d f : Nat) (w : World) (hJ : ∀ W, Below w.heap.size w W → Calls Tryd.prog 61 #[.agg #[.int .i64 N, .slice a n c], .agg #[.int .i64 M, .slice b m d], .func (.func 64) #[] #[]] W (ErrOut W f)) :
    Calls Tryd.prog 32 #[.agg #[.int .i64 N, .slice a n c], .agg #[.int .i64 M, .slice b m d]] w (ErrOut w f) := by
  have HJ : Hid (∀ W, Below w.heap.size w W → Calls Tryd.prog 61 #[.agg #[.int .i64 N, .slice a n c], .agg #[.int .i64 M, .slice b m d], .func (.func 64) #[] #[]] W (ErrOut W f)) := hJ
  clear hJ
  go_enter Tryd.func32, Tryd.ntmps32
  go_wp2_with (first
    | (go_at_call 61; ((with_reducible refine (HJ.out _ (below3 w _ _ _)).mono ?_); rintro e w1 ⟨rfl, hb1⟩; have HB1 := Lib.hid ((below3 w _ _ _).trans (hb1.mono (by simp; omega))); have HX1 : Hid (Boxes w1 w.heap.size (.int .i64 N) (.slice a n c) (.int .i64 M) (.slice b m d) (.int .i64 0) (.slice none 0 0)) := (show Boxes _ _ _ _ _ _ _ _ from box3 w _ _ _ _ _ _).keep hb1; obtain ⟨r0, r1, r2, r3⟩ := HX1.out.2.2.cells; clear hb1)))
  obtain ⟨f0, f1, f2, f3⟩ := (HX1.out.2.2.set (.int .i64 0) (.slice none 0 0)).cells
  refine bodyPost_ret (v := .tuple #[.agg #[.int .i64 0, .slice none 0 0], .int .i64 f]) (by simp [results, Tryd.results32, go_sem, f0, f1]) rfl ⟨rfl, ?_⟩
  first | exact HB1.out | exact (HB1.out.setCell (show w.heap.size ≤ w.heap.size + 1 + 1 by omega) _).setCell (show w.heap.size ≤ w.heap.size + 1 + 1 by omega) _

end Go.Proofs.YtkochcolmkgkgaaDoor
