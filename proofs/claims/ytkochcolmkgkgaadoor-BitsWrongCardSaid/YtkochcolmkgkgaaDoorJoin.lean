/-
  Or, And, Minus of right sets.
-/
import Derived.Test.YtkochcolmkgkgaaDoorJoinE
namespace Go.Proofs.YtkochcolmkgkgaaDoor
open Go.RowKit
set_option linter.unusedVariables false

set_option maxRecDepth 100000 in
set_option maxHeartbeats 2000000 in
theorem joinor_any (N : Nat) (a b : Option Addr) (n c d : Nat) (xs ys : List Nat) (hn : xs.length = n) (hm : ys.length = n) (hR : Bm.Rt N xs) (hR' : Bm.Rt N ys) (w : World) (B : Nat) (hS : Seen w B .u64 a xs) (hS' : Seen w B .u64 b ys) (hB : B ≤ w.heap.size) :
    Calls Tryd.prog 61 #[.agg #[.int .i64 N, .slice a n c], .agg #[.int .i64 N, .slice b n d], .func (.func 62) #[] #[]] w (SetOut w N n (List.zipWith Bm.orW xs ys)) := by
  have HN := Lib.hid hn
  have HM := Lib.hid hm
  have HR : Hid (Bm.Rt N xs) := hR
  have HR2 : Hid (Bm.Rt N ys) := hR'
  have HX : Hid (∀ y ∈ xs, y < 2 ^ 64) := hR.2.2.1
  have HY : Hid (∀ y ∈ ys, y < 2 ^ 64) := hR'.2.2.1
  have HS : Hid (Seen w B .u64 a xs) := hS
  have HS2 : Hid (Seen w B .u64 b ys) := hS'
  have HB := Lib.hid hB
  have HNQ : Hid (n ≤ 1024) := by have := hR.2.1; have := hR.1; show _ ≤ _; omega
  clear hn hm hR hR' hS hS'
  go_enter Tryd.func61, Tryd.ntmps61
  go_wp2_with (first
    | (go_at_call 34; ((with_reducible refine (right_yes N a n c xs HN.out HR.out _ B (HS.out.below ((below3 w _ _ _).mono HB.out)) (by simp; omega)).mono ?_); rintro e w1 ⟨rfl, hb1⟩; have HB1 := Lib.hid ((below3 w _ _ _).trans (hb1.mono (by simp; omega))); have HX1 : Hid (Boxes w1 w.heap.size (.int .i64 N) (.slice a n c) (.int .i64 N) (.slice b n d) (.int .i64 0) (.slice none 0 0)) := (show Boxes _ _ _ _ _ _ _ _ from box3 w _ _ _ _ _ _).keep hb1; obtain ⟨b0, b1, b2, b3⟩ := HX1.out.2.1.cells; clear hb1))
    | (go_at_call 34; ((with_reducible refine (right_yes N b n d ys HM.out HR2.out w1 B (HS2.out.below (HB1.out.mono HB.out)) (Nat.le_trans HB.out HB1.out.size)).mono ?_); rintro e w2 ⟨rfl, hb2⟩; have HB2 := Lib.hid (HB1.out.trans (hb2.mono HB1.out.size)); have HX2 := Lib.hid (HX1.out.keep hb2); obtain ⟨p0, p1, p2, p3⟩ := HX2.out.1.cells; obtain ⟨q0, q1, q2, q3⟩ := HX2.out.2.1.cells; obtain ⟨r0, r1, r2, r3⟩ := HX2.out.2.2.cells; clear hb2)))
  go_region_with (first
    | (go_at_call 72; go_loud (refine (togor_any a b n c d xs ys HN.out HM.out HX.out HY.out HNQ.out _ B (by exact HS.out.below (HB2.out.mono HB.out).drew) (by exact HS2.out.below (HB2.out.mono HB.out).drew) (by exact Nat.le_trans HB.out HB2.out.size)).mono ?_); rintro e w3 ⟨g, rfl, hown3, hb3'⟩; have hb3 : Below w2.heap.size w2 w3 := (Below.refl _ w2).drew.trans hb3'; have HB3 := Lib.hid (HB2.out.trans (hb3.mono HB2.out.size)); have HX3 := Lib.hid (HX2.out.keep hb3); obtain ⟨s0, s1, s2, s3⟩ := HX3.out.1.cells; obtain ⟨t0, t1, t2, t3⟩ := HX3.out.2.1.cells; obtain ⟨u0, u1, u2, u3⟩ := HX3.out.2.2.cells; have HOWN : Hid (OwnW w3 w2.heap.size g n (List.zipWith Bm.orW xs ys)) := hown3; have HLT := Lib.hid HX2.out.2.2.lt; clear hb3 hb3' hown3))
  all_goals
    rename_i hcont
    refine hcont _ _ ?_
    obtain ⟨f0, f1, f2, f3⟩ := (HX3.out.2.2.set (.int .i64 N) (.slice (some ⟨g, 0, none⟩) n n)).cells
    go_wp2
    refine bodyPost_ret (v := .tuple #[.agg #[.int .i64 N, .slice (some ⟨g, 0, none⟩) n n], .int .i64 0]) (by simp [results, Tryd.results61, go_sem, f0, f1]) rfl ⟨_, rfl, ?_, ?_⟩
    · have hlt := HLT.out
      exact rebase (ownsRow_setCell_below (ownsRow_setCell_below HOWN.out (by exact hlt) _) (by exact hlt) _) HB2.out.size
    · exact (HB3.out.setCell (show w.heap.size ≤ w.heap.size + 1 + 1 by omega) _).setCell (show w.heap.size ≤ w.heap.size + 1 + 1 by omega) _

set_option maxRecDepth 100000 in
set_option maxHeartbeats 2000000 in
theorem joinand_any (N : Nat) (a b : Option Addr) (n c d : Nat) (xs ys : List Nat) (hn : xs.length = n) (hm : ys.length = n) (hR : Bm.Rt N xs) (hR' : Bm.Rt N ys) (w : World) (B : Nat) (hS : Seen w B .u64 a xs) (hS' : Seen w B .u64 b ys) (hB : B ≤ w.heap.size) :
    Calls Tryd.prog 61 #[.agg #[.int .i64 N, .slice a n c], .agg #[.int .i64 N, .slice b n d], .func (.func 63) #[] #[]] w (SetOut w N n (List.zipWith Bm.andW xs ys)) := by
  have HN := Lib.hid hn
  have HM := Lib.hid hm
  have HR : Hid (Bm.Rt N xs) := hR
  have HR2 : Hid (Bm.Rt N ys) := hR'
  have HX : Hid (∀ y ∈ xs, y < 2 ^ 64) := hR.2.2.1
  have HY : Hid (∀ y ∈ ys, y < 2 ^ 64) := hR'.2.2.1
  have HS : Hid (Seen w B .u64 a xs) := hS
  have HS2 : Hid (Seen w B .u64 b ys) := hS'
  have HB := Lib.hid hB
  have HNQ : Hid (n ≤ 1024) := by have := hR.2.1; have := hR.1; show _ ≤ _; omega
  clear hn hm hR hR' hS hS'
  go_enter Tryd.func61, Tryd.ntmps61
  go_wp2_with (first
    | (go_at_call 34; ((with_reducible refine (right_yes N a n c xs HN.out HR.out _ B (HS.out.below ((below3 w _ _ _).mono HB.out)) (by simp; omega)).mono ?_); rintro e w1 ⟨rfl, hb1⟩; have HB1 := Lib.hid ((below3 w _ _ _).trans (hb1.mono (by simp; omega))); have HX1 : Hid (Boxes w1 w.heap.size (.int .i64 N) (.slice a n c) (.int .i64 N) (.slice b n d) (.int .i64 0) (.slice none 0 0)) := (show Boxes _ _ _ _ _ _ _ _ from box3 w _ _ _ _ _ _).keep hb1; obtain ⟨b0, b1, b2, b3⟩ := HX1.out.2.1.cells; clear hb1))
    | (go_at_call 34; ((with_reducible refine (right_yes N b n d ys HM.out HR2.out w1 B (HS2.out.below (HB1.out.mono HB.out)) (Nat.le_trans HB.out HB1.out.size)).mono ?_); rintro e w2 ⟨rfl, hb2⟩; have HB2 := Lib.hid (HB1.out.trans (hb2.mono HB1.out.size)); have HX2 := Lib.hid (HX1.out.keep hb2); obtain ⟨p0, p1, p2, p3⟩ := HX2.out.1.cells; obtain ⟨q0, q1, q2, q3⟩ := HX2.out.2.1.cells; obtain ⟨r0, r1, r2, r3⟩ := HX2.out.2.2.cells; clear hb2)))
  go_region_with (first
    | (go_at_call 72; go_loud (refine (togand_any a b n c d xs ys HN.out HM.out HX.out HY.out HNQ.out _ B (by exact HS.out.below (HB2.out.mono HB.out).drew) (by exact HS2.out.below (HB2.out.mono HB.out).drew) (by exact Nat.le_trans HB.out HB2.out.size)).mono ?_); rintro e w3 ⟨g, rfl, hown3, hb3'⟩; have hb3 : Below w2.heap.size w2 w3 := (Below.refl _ w2).drew.trans hb3'; have HB3 := Lib.hid (HB2.out.trans (hb3.mono HB2.out.size)); have HX3 := Lib.hid (HX2.out.keep hb3); obtain ⟨s0, s1, s2, s3⟩ := HX3.out.1.cells; obtain ⟨t0, t1, t2, t3⟩ := HX3.out.2.1.cells; obtain ⟨u0, u1, u2, u3⟩ := HX3.out.2.2.cells; have HOWN : Hid (OwnW w3 w2.heap.size g n (List.zipWith Bm.andW xs ys)) := hown3; have HLT := Lib.hid HX2.out.2.2.lt; clear hb3 hb3' hown3))
  all_goals
    rename_i hcont
    refine hcont _ _ ?_
    obtain ⟨f0, f1, f2, f3⟩ := (HX3.out.2.2.set (.int .i64 N) (.slice (some ⟨g, 0, none⟩) n n)).cells
    go_wp2
    refine bodyPost_ret (v := .tuple #[.agg #[.int .i64 N, .slice (some ⟨g, 0, none⟩) n n], .int .i64 0]) (by simp [results, Tryd.results61, go_sem, f0, f1]) rfl ⟨_, rfl, ?_, ?_⟩
    · have hlt := HLT.out
      exact rebase (ownsRow_setCell_below (ownsRow_setCell_below HOWN.out (by exact hlt) _) (by exact hlt) _) HB2.out.size
    · exact (HB3.out.setCell (show w.heap.size ≤ w.heap.size + 1 + 1 by omega) _).setCell (show w.heap.size ≤ w.heap.size + 1 + 1 by omega) _

set_option maxRecDepth 100000 in
set_option maxHeartbeats 2000000 in
theorem joinminus_any (N : Nat) (a b : Option Addr) (n c d : Nat) (xs ys : List Nat) (hn : xs.length = n) (hm : ys.length = n) (hR : Bm.Rt N xs) (hR' : Bm.Rt N ys) (w : World) (B : Nat) (hS : Seen w B .u64 a xs) (hS' : Seen w B .u64 b ys) (hB : B ≤ w.heap.size) :
    Calls Tryd.prog 61 #[.agg #[.int .i64 N, .slice a n c], .agg #[.int .i64 N, .slice b n d], .func (.func 64) #[] #[]] w (SetOut w N n (List.zipWith Bm.minusW xs ys)) := by
  have HN := Lib.hid hn
  have HM := Lib.hid hm
  have HR : Hid (Bm.Rt N xs) := hR
  have HR2 : Hid (Bm.Rt N ys) := hR'
  have HX : Hid (∀ y ∈ xs, y < 2 ^ 64) := hR.2.2.1
  have HY : Hid (∀ y ∈ ys, y < 2 ^ 64) := hR'.2.2.1
  have HS : Hid (Seen w B .u64 a xs) := hS
  have HS2 : Hid (Seen w B .u64 b ys) := hS'
  have HB := Lib.hid hB
  have HNQ : Hid (n ≤ 1024) := by have := hR.2.1; have := hR.1; show _ ≤ _; omega
  clear hn hm hR hR' hS hS'
  go_enter Tryd.func61, Tryd.ntmps61
  go_wp2_with (first
    | (go_at_call 34; ((with_reducible refine (right_yes N a n c xs HN.out HR.out _ B (HS.out.below ((below3 w _ _ _).mono HB.out)) (by simp; omega)).mono ?_); rintro e w1 ⟨rfl, hb1⟩; have HB1 := Lib.hid ((below3 w _ _ _).trans (hb1.mono (by simp; omega))); have HX1 : Hid (Boxes w1 w.heap.size (.int .i64 N) (.slice a n c) (.int .i64 N) (.slice b n d) (.int .i64 0) (.slice none 0 0)) := (show Boxes _ _ _ _ _ _ _ _ from box3 w _ _ _ _ _ _).keep hb1; obtain ⟨b0, b1, b2, b3⟩ := HX1.out.2.1.cells; clear hb1))
    | (go_at_call 34; ((with_reducible refine (right_yes N b n d ys HM.out HR2.out w1 B (HS2.out.below (HB1.out.mono HB.out)) (Nat.le_trans HB.out HB1.out.size)).mono ?_); rintro e w2 ⟨rfl, hb2⟩; have HB2 := Lib.hid (HB1.out.trans (hb2.mono HB1.out.size)); have HX2 := Lib.hid (HX1.out.keep hb2); obtain ⟨p0, p1, p2, p3⟩ := HX2.out.1.cells; obtain ⟨q0, q1, q2, q3⟩ := HX2.out.2.1.cells; obtain ⟨r0, r1, r2, r3⟩ := HX2.out.2.2.cells; clear hb2)))
  go_region_with (first
    | (go_at_call 72; go_loud (refine (togminus_any a b n c d xs ys HN.out HM.out HX.out HY.out HNQ.out _ B (by exact HS.out.below (HB2.out.mono HB.out).drew) (by exact HS2.out.below (HB2.out.mono HB.out).drew) (by exact Nat.le_trans HB.out HB2.out.size)).mono ?_); rintro e w3 ⟨g, rfl, hown3, hb3'⟩; have hb3 : Below w2.heap.size w2 w3 := (Below.refl _ w2).drew.trans hb3'; have HB3 := Lib.hid (HB2.out.trans (hb3.mono HB2.out.size)); have HX3 := Lib.hid (HX2.out.keep hb3); obtain ⟨s0, s1, s2, s3⟩ := HX3.out.1.cells; obtain ⟨t0, t1, t2, t3⟩ := HX3.out.2.1.cells; obtain ⟨u0, u1, u2, u3⟩ := HX3.out.2.2.cells; have HOWN : Hid (OwnW w3 w2.heap.size g n (List.zipWith Bm.minusW xs ys)) := hown3; have HLT := Lib.hid HX2.out.2.2.lt; clear hb3 hb3' hown3))
  all_goals
    rename_i hcont
    refine hcont _ _ ?_
    obtain ⟨f0, f1, f2, f3⟩ := (HX3.out.2.2.set (.int .i64 N) (.slice (some ⟨g, 0, none⟩) n n)).cells
    go_wp2
    refine bodyPost_ret (v := .tuple #[.agg #[.int .i64 N, .slice (some ⟨g, 0, none⟩) n n], .int .i64 0]) (by simp [results, Tryd.results61, go_sem, f0, f1]) rfl ⟨_, rfl, ?_, ?_⟩
    · have hlt := HLT.out
      exact rebase (ownsRow_setCell_below (ownsRow_setCell_below HOWN.out (by exact hlt) _) (by exact hlt) _) HB2.out.size
    · exact (HB3.out.setCell (show w.heap.size ≤ w.heap.size + 1 + 1 by omega) _).setCell (show w.heap.size ≤ w.heap.size + 1 + 1 by omega) _

end Go.Proofs.YtkochcolmkgkgaaDoor
