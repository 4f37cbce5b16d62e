/-
  Not.
-/
import Derived.Test.YtkochcolmkgkgaaDoorOps
import Derived.Test.YtkochcolmkgkgaaDoorAll
import Derived.Deep.RegionWith
namespace Go.Proofs.YtkochcolmkgkgaaDoor
open Go.RowKit
set_option linter.unusedVariables false

section
variable (N : Nat) (a : Option Addr) (n c : Nat) (xs zs : List Nat) (hn : xs.length = n) (hR : Bm.Rt N xs) (w : World) (B : Nat) (hS : Seen w B .u64 a xs) (hB : B ≤ w.heap.size)
include hn hR hS hB

set_option maxRecDepth 100000 in
set_option maxHeartbeats 2000000 in
theorem not_any (hz : List.zipWith Bm.minusW (Bm.full N) xs = zs) :
    Calls Tryd.prog 19 #[.agg #[.int .i64 N, .slice a n c]] w (SetOut w N n zs) := by
  have HN := Lib.hid hn
  have HR : Hid (Bm.Rt N xs) := hR
  have HZ := Lib.hid hz
  have HS : Hid (Seen w B .u64 a xs) := hS
  have HB := Lib.hid hB
  have HNI : Hid ((N : Int) ≤ 65536) := by have := hR.1; show _ ≤ _; omega
  have HQ : Hid ((N + 63) / 64 = n) := by rw [← hn]; exact hR.2.1.symm
  have HFR : Hid (Bm.Rt N (Bm.full N)) := Bm.full_right N hR.1
  have HFL : Hid ((Bm.full N).length = n) := (Bm.full_len N).trans HQ.out
  clear hn hR hS hz
  go_enter Tryd.func19, Tryd.ntmps19
  go_wp2_with (go_at_call 34; ((with_reducible refine (right_yes N a n c xs HN.out HR.out _ B (HS.out.below ((below2 w _ _).mono HB.out)) (by simp; omega)).mono ?_); rintro e w1 ⟨rfl, hb1⟩; have HB1 := Lib.hid ((below2 w _ _).trans (hb1.mono (by simp; omega))); have HX1 : Hid (Box w1 w.heap.size (.int .i64 N) (.slice a n c) ∧ Box w1 (w.heap.size + 1) (.int .i64 0) (.slice none 0 0)) := ⟨(box2 w _ _ _ _).1.keep hb1, (box2 w _ _ _ _).2.keep hb1⟩; obtain ⟨b0, b1, b2, b3⟩ := HX1.out.1.cells; clear hb1))
  go_region_with (first
    | (go_at_call 56; refine (all_any N HNI.out n HQ.out _).mono ?_; rintro e w3 ⟨g, rfl, hown3, hb3'⟩; have hb3 : Below w1.heap.size w1 w3 := (Below.refl _ w1).drew.trans hb3'; have HB3 := Lib.hid (HB1.out.trans (hb3.mono HB1.out.size)); have HX3 : Hid (Box w3 w.heap.size (.int .i64 N) (.slice a n c) ∧ Box w3 (w.heap.size + 1) (.int .i64 0) (.slice none 0 0)) := ⟨HX1.out.1.keep hb3, HX1.out.2.keep hb3⟩; obtain ⟨s0, s1, s2, s3⟩ := HX3.out.1.cells; have HOWN : Hid (OwnW w3 w1.heap.size g n (Bm.full N)) := hown3; clear hb3 hb3' hown3)
    | (go_at_call 32; refine (minus_any N _ a n n c (Bm.full N) xs zs HFL.out HN.out HFR.out HR.out HZ.out w3 w3.heap.size HOWN.out.seen ((HS.out.below (HB3.out.mono HB.out)).more (Nat.le_trans HB.out HB3.out.size)) (Nat.le_refl _)).mono ?_; rintro e w4 ⟨g4, rfl, hown4, hb4⟩; have HB4 := Lib.hid (HB3.out.trans (hb4.mono HB3.out.size)); have HX4 := Lib.hid (HX3.out.2.keep hb4); obtain ⟨t0, t1, t2, t3⟩ := HX4.out.cells; have HOWN4 := Lib.hid hown4; have HLT := Lib.hid HX3.out.2.lt; clear hb4 hown4))
  all_goals
    rename_i hcont
    refine hcont _ _ ?_
    obtain ⟨f0, f1, f2, f3⟩ := (HX4.out.set (.int .i64 N) (.slice (some ⟨g4, 0, none⟩) n n)).cells
    go_wp2
    refine bodyPost_ret (v := .tuple #[.agg #[.int .i64 N, .slice (some ⟨g4, 0, none⟩) n n], .int .i64 0]) (by simp [results, Tryd.results19, go_sem, f0, f1]) rfl ⟨_, rfl, ?_, ?_⟩
    · have hlt := HLT.out
      exact rebase (ownsRow_setCell_below (ownsRow_setCell_below HOWN4.out (by exact hlt) _) (by exact hlt) _) HB3.out.size
    · exact (HB4.out.setCell (show w.heap.size ≤ w.heap.size + 1 by omega) _).setCell (show w.heap.size ≤ w.heap.size + 1 by omega) _
end

set_option maxRecDepth 100000 in
set_option maxHeartbeats 1000000 in
theorem not_bad (N : Int) (a : Option Addr) (n c : Nat) (xs : List Nat) (hn : xs.length = n) (hX : ∀ x ∈ xs, x < 2 ^ 64) (hR : NotRt N xs) (w : World) (B : Nat) (hS : Seen w B .u64 a xs) (hB : B ≤ w.heap.size) :
    Calls Tryd.prog 19 #[.agg #[.int .i64 N, .slice a n c]] w (ErrOut w 50) := by
  have HN := Lib.hid hn
  have HX : Hid (∀ x ∈ xs, x < 2 ^ 64) := hX
  have HR : Hid (NotRt N xs) := hR
  have HS : Hid (Seen w B .u64 a xs) := hS
  have HB := Lib.hid hB
  clear hn hX hR hS
  go_enter Tryd.func19, Tryd.ntmps19
  go_wp2_with (go_at_call 34; ((with_reducible refine (right_no N a n c xs HN.out HX.out HR.out _ B (HS.out.below ((below2 w _ _).mono HB.out)) (by simp; omega)).mono ?_); rintro e w1 ⟨rfl, hb1⟩; have HB1 := Lib.hid ((below2 w _ _).trans (hb1.mono (by simp; omega))); have HX1 : Hid (Box w1 (w.heap.size + 1) (.int .i64 0) (.slice none 0 0)) := (box2 w _ _ _ _).2.keep hb1; obtain ⟨r0, r1, r2, r3⟩ := HX1.out.cells; clear hb1))
  refine bodyPost_ret (v := .tuple #[.agg #[.int .i64 0, .slice none 0 0], .int .i64 50]) (by simp [results, Tryd.results19, go_sem, r0, r1]) rfl ⟨rfl, ?_⟩
  first | exact HB1.out | exact (HB1.out.setCell (show w.heap.size ≤ w.heap.size + 1 by omega) _).setCell (show w.heap.size ≤ w.heap.size + 1 by omega) _
end Go.Proofs.YtkochcolmkgkgaaDoor
