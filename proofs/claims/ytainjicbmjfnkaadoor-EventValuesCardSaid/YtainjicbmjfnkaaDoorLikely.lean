/-
  likely: the ways that end without an event.
-/
import Derived.Test.YtainjicbmjfnkaaDoorSplit
import Derived.Test.YtainjicbmjfnkaaDoorFind
import Derived.Test.YtainjicbmjfnkaaDoorWithM
namespace Go.Proofs.YtainjicbmjfnkaaDoor
open Go.RowKit
set_option linter.unusedVariables false

def zeroE : Value := .agg #[.int .i64 0, .int .i64 0, .int .u8 0, .int .u8 0, .int .i64 0, .int .i64 0, .int .i64 0, .int .i64 0, .int .i64 0, .int .u64 0, .int .i64 0]
set_option maxRecDepth 100000 in
set_option maxHeartbeats 1000000 in
theorem likely_short (s : List UInt8) (hs : s.length ≤ 1000000) (L : Nat) (hL : (Ev.wordsOf s).length = L) (h3 : L ≤ 3) (w : World) (hM : Ml w) : Calls Tryd.prog 42 #[.string (Ev.str s)] w fun e w' => e = .returned (.tuple #[zeroE, .bool false]) ∧ Below w.heap.size w w' := by
  have HL := Lib.hid hL
  have HS := Lib.hid hs
  have HB1 : Hid (Below w.heap.size w (w.alloc (.cells #[.int .i64 0, .int .i64 0, .int .u8 0, .int .u8 0, .int .i64 0, .int .i64 0, .int .i64 0, .int .i64 0, .int .i64 0, .int .u64 0, .int .i64 0] 24))) := (Below.refl _ w).alloc (Nat.le_refl _) _
  have HXB := Lib.hid (EBox.new w 0 0 0 0 0 0 0 0 0 0 0)
  have HM := Lib.hid (hM.below HB1.out)
  have h3i : (L : Int) ≤ 3 := by omega
  clear hL hs hM
  go_enter Tryd.func42, Tryd.ntmps42
  go_wp2_with (go_at_call 61; ((with_reducible refine (split_any s HS.out L HL.out _ HM.out).mono ?_); rintro e w2 ⟨c, rfl, hc, hw, hb⟩; have HB := Lib.hid (HB1.out.trans (hb.mono HB1.out.size)); obtain ⟨y0, y1, y2, y3, y4, y5, y6, y7, y8, y9, y10⟩ := (HXB.out.keep hb).cells; have HY2 := Lib.hid (HXB.out.keep hb); have f0 := HY2.out.free 0; have f1 := HY2.out.free 1; have f2 := HY2.out.free 2; have f3 := HY2.out.free 3; have f4 := HY2.out.free 4; have f5 := HY2.out.free 5; have f6 := HY2.out.free 6; have f7 := HY2.out.free 7; have f8 := HY2.out.free 8; have f9 := HY2.out.free 9; have f10 := HY2.out.free 10; clear hb hw hc))
  have hg := EBox.setAll HY2.out 0 0 0 0 0 0 0 0 0 0 0
  have hbz := below_setAll HB.out (Nat.le_refl _) 0 0 0 0 0 0 0 0 0 0 0
  generalize (((((((((((w2.setCell ⟨w.heap.size, 0, none⟩ (.int .i64 0)).setCell ⟨w.heap.size, 1, none⟩ (.int .i64 0)).setCell ⟨w.heap.size, 2, none⟩ (.int .u8 0)).setCell ⟨w.heap.size, 3, none⟩ (.int .u8 0)).setCell ⟨w.heap.size, 4, none⟩ (.int .i64 0)).setCell ⟨w.heap.size, 5, none⟩ (.int .i64 0)).setCell ⟨w.heap.size, 6, none⟩ (.int .i64 0)).setCell ⟨w.heap.size, 7, none⟩ (.int .i64 0)).setCell ⟨w.heap.size, 8, none⟩ (.int .i64 0)).setCell ⟨w.heap.size, 9, none⟩ (.int .u64 0)).setCell ⟨w.heap.size, 10, none⟩ (.int .i64 0)) = Wz at hg hbz ⊢
  obtain ⟨g0, g1, g2, g3, g4, g5, g6, g7, g8, g9, g10⟩ := hg.cells
  refine bodyPost_ret (v := .tuple #[zeroE, .bool false]) ?_ rfl ⟨rfl, hbz⟩
  simp [results, Tryd.results42, go_sem, zeroE, g0, g1, g2, g3, g4, g5, g6, g7, g8, g9, g10]
set_option maxRecDepth 100000 in
set_option maxHeartbeats 1000000 in
theorem likely_find (s : List UInt8) (hs : s.length ≤ 1000000) (L : Nat) (hL : (Ev.wordsOf s).length = L) (h3 : 3 < L) (x : List UInt8) (hx : (Ev.wordsOf s)[3]? = some x) (hf : Ev.FindOut (Ev.str x) 0 false) (w : World) (hM : Ml w) (hE : Ev.HE w) : Calls Tryd.prog 42 #[.string (Ev.str s)] w fun e w' => e = .returned (.tuple #[zeroE, .bool false]) ∧ Below w.heap.size w w' := by
  have HL := Lib.hid hL
  have HS := Lib.hid hs
  have HB1 : Hid (Below w.heap.size w (w.alloc (.cells #[.int .i64 0, .int .i64 0, .int .u8 0, .int .u8 0, .int .i64 0, .int .i64 0, .int .i64 0, .int .i64 0, .int .i64 0, .int .u64 0, .int .i64 0] 24))) := (Below.refl _ w).alloc (Nat.le_refl _) _
  have HXB := Lib.hid (EBox.new w 0 0 0 0 0 0 0 0 0 0 0)
  have HM := Lib.hid (hM.below HB1.out)
  have HE := Lib.hid (hE.below HB1.out)
  have HX := Lib.hid hx
  have HF := Lib.hid hf
  have h3i : (3 : Int) < (L : Int) := by omega
  clear hL hs hM hE hx hf
  go_enter Tryd.func42, Tryd.ntmps42
  go_wp2_with (first
    | (go_at_call 61; ((with_reducible refine (split_any s HS.out L HL.out _ HM.out).mono ?_); rintro e w2 ⟨c, rfl, hc, hw, hb⟩; obtain ⟨b, off, hbo, hlt, hcx⟩ := hw 3 x HX.out; cases hbo; simp only [World.size_alloc, Nat.zero_add] at hcx; have HB := Lib.hid (HB1.out.trans (hb.mono HB1.out.size)); obtain ⟨y0, y1, y2, y3, y4, y5, y6, y7, y8, y9, y10⟩ := (HXB.out.keep hb).cells; have HY2 := Lib.hid (HXB.out.keep hb); have f0 := HY2.out.free 0; have f1 := HY2.out.free 1; have f2 := HY2.out.free 2; have f3 := HY2.out.free 3; have f4 := HY2.out.free 4; have f5 := HY2.out.free 5; have f6 := HY2.out.free 6; have f7 := HY2.out.free 7; have f8 := HY2.out.free 8; have f9 := HY2.out.free 9; have f10 := HY2.out.free 10; have HE2 := Lib.hid (HE.out.below hb); clear hb hw hlt))
    | (go_at_call 24; ((with_reducible refine (find_any (Ev.str x) 0 false HF.out _ HE2.out).mono ?_); rintro e w3 ⟨rfl, rfl⟩)))
  have hg := EBox.setAll HY2.out 0 0 0 0 0 0 0 0 0 0 0
  have hbz := below_setAll HB.out (Nat.le_refl _) 0 0 0 0 0 0 0 0 0 0 0
  generalize (((((((((((w3.setCell ⟨w.heap.size, 0, none⟩ (.int .i64 0)).setCell ⟨w.heap.size, 1, none⟩ (.int .i64 0)).setCell ⟨w.heap.size, 2, none⟩ (.int .u8 0)).setCell ⟨w.heap.size, 3, none⟩ (.int .u8 0)).setCell ⟨w.heap.size, 4, none⟩ (.int .i64 0)).setCell ⟨w.heap.size, 5, none⟩ (.int .i64 0)).setCell ⟨w.heap.size, 6, none⟩ (.int .i64 0)).setCell ⟨w.heap.size, 7, none⟩ (.int .i64 0)).setCell ⟨w.heap.size, 8, none⟩ (.int .i64 0)).setCell ⟨w.heap.size, 9, none⟩ (.int .u64 0)).setCell ⟨w.heap.size, 10, none⟩ (.int .i64 0)) = Wz at hg hbz ⊢
  obtain ⟨g0, g1, g2, g3, g4, g5, g6, g7, g8, g9, g10⟩ := hg.cells
  refine bodyPost_ret (v := .tuple #[zeroE, .bool false]) ?_ rfl ⟨rfl, hbz⟩
  simp [results, Tryd.results42, go_sem, zeroE, g0, g1, g2, g3, g4, g5, g6, g7, g8, g9, g10]
end Go.Proofs.YtainjicbmjfnkaaDoor
