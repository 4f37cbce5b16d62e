/-
  Read.
-/
import Derived.Test.YtainjicbmjfnkaaDoorLikA
namespace Go.Proofs.YtainjicbmjfnkaaDoor
open Go.RowKit
set_option linter.unusedVariables false

set_option maxRecDepth 100000 in
set_option maxHeartbeats 1000000 in
theorem read_no (s : List UInt8) (sq tm : Int) (cp kd : Nat) (tk gr to_ wg tc : Int) (mk : Nat) (gt : Int) (hli : LikelyIs s sq tm cp kd tk gr to_ wg tc mk gt false) (w : World) (hM : Ml w) (hE : Ev.HE w) (hR : Er w) (hT : Pw w) : Calls Tryd.prog 16 #[.string (Ev.str s)] w fun e w' => e = .returned (.tuple #[.agg #[.int .i64 0, .int .i64 0, .int .u8 0, .int .u8 0, .int .i64 0, .int .i64 0, .int .i64 0, .int .i64 0, .int .i64 0, .int .u64 0, .int .i64 0], .int .i64 63]) ∧ Below w.heap.size w w' := by
  have HB1 : Hid (Below w.heap.size w (w.alloc (.cells #[.int .i64 0, .int .i64 0, .int .u8 0, .int .u8 0, .int .i64 0, .int .i64 0, .int .i64 0, .int .i64 0, .int .i64 0, .int .u64 0, .int .i64 0] 24))) := (Below.refl _ w).alloc (Nat.le_refl _) _
  have HXB := Lib.hid (EBox.new w 0 0 0 0 0 0 0 0 0 0 0)
  have HM := Lib.hid (hM.below HB1.out)
  have HE := Lib.hid (hE.below HB1.out)
  have HR := Lib.hid (hR.below HB1.out)
  have HT := Lib.hid (hT.below HB1.out)
  have HLI : Hid (∀ w : World, Ml w → Ev.HE w → Er w → Calls Tryd.prog 42 #[.string (Ev.str s)] w fun e w' => e = .returned (.tuple #[.agg #[.int .i64 sq, .int .i64 tm, .int .u8 cp, .int .u8 kd, .int .i64 tk, .int .i64 gr, .int .i64 to_, .int .i64 wg, .int .i64 tc, .int .u64 mk, .int .i64 gt], .bool false]) ∧ Below w.heap.size w w') := hli
  clear hM hE hR hT hli
  go_enter Tryd.func16, Tryd.ntmps16
  go_wp2_with (go_at_call 42; ((with_reducible refine (HLI.out _ HM.out HE.out HR.out).mono ?_); rintro e w2 ⟨rfl, hb⟩; have HB2 := Lib.hid (HB1.out.trans (hb.mono HB1.out.size)); have HB3 := Lib.hid (HB2.out.alloc HB2.out.size (.cells #[.int .i64 sq, .int .i64 tm, .int .u8 cp, .int .u8 kd, .int .i64 tk, .int .i64 gr, .int .i64 to_, .int .i64 wg, .int .i64 tc, .int .u64 mk, .int .i64 gt] 24)); have HY3 := Lib.hid ((HXB.out.keep hb).alloc (.cells #[.int .i64 sq, .int .i64 tm, .int .u8 cp, .int .u8 kd, .int .i64 tk, .int .i64 gr, .int .i64 to_, .int .i64 wg, .int .i64 tc, .int .u64 mk, .int .i64 gt] 24)); have HO3 := Lib.hid (EBox.new w2 sq tm cp kd tk gr to_ wg tc mk gt); obtain ⟨W3, hW3⟩ : ∃ W, w2.alloc (.cells #[.int .i64 sq, .int .i64 tm, .int .u8 cp, .int .u8 kd, .int .i64 tk, .int .i64 gr, .int .i64 to_, .int .i64 wg, .int .i64 tc, .int .u64 mk, .int .i64 gt] 24) = W := ⟨_, rfl⟩; rw [hW3] at HB3 HY3 HO3; obtain ⟨z0, z1, z2, z3, z4, z5, z6, z7, z8, z9, z10⟩ := HY3.out.cells; have f0 := HY3.out.free 0; have f1 := HY3.out.free 1; have f2 := HY3.out.free 2; have f3 := HY3.out.free 3; have f4 := HY3.out.free 4; have f5 := HY3.out.free 5; have f6 := HY3.out.free 6; have f7 := HY3.out.free 7; have f8 := HY3.out.free 8; have f9 := HY3.out.free 9; have f10 := HY3.out.free 10; clear hb))
  have hg := EBox.setAll HY3.out 0 0 0 0 0 0 0 0 0 0 0
  have hbz := below_setAll HB3.out (Nat.le_refl _) 0 0 0 0 0 0 0 0 0 0 0
  generalize (((((((((((W3.setCell ⟨w.heap.size, 0, none⟩ (.int .i64 0)).setCell ⟨w.heap.size, 1, none⟩ (.int .i64 0)).setCell ⟨w.heap.size, 2, none⟩ (.int .u8 0)).setCell ⟨w.heap.size, 3, none⟩ (.int .u8 0)).setCell ⟨w.heap.size, 4, none⟩ (.int .i64 0)).setCell ⟨w.heap.size, 5, none⟩ (.int .i64 0)).setCell ⟨w.heap.size, 6, none⟩ (.int .i64 0)).setCell ⟨w.heap.size, 7, none⟩ (.int .i64 0)).setCell ⟨w.heap.size, 8, none⟩ (.int .i64 0)).setCell ⟨w.heap.size, 9, none⟩ (.int .u64 0)).setCell ⟨w.heap.size, 10, none⟩ (.int .i64 0)) = Wz at hg hbz ⊢
  obtain ⟨g0, g1, g2, g3, g4, g5, g6, g7, g8, g9, g10⟩ := hg.cells
  refine bodyPost_ret (v := .tuple #[.agg #[.int .i64 0, .int .i64 0, .int .u8 0, .int .u8 0, .int .i64 0, .int .i64 0, .int .i64 0, .int .i64 0, .int .i64 0, .int .u64 0, .int .i64 0], .int .i64 63]) ?_ rfl ⟨rfl, hbz⟩
  simp [results, Tryd.results16, go_sem, g0, g1, g2, g3, g4, g5, g6, g7, g8, g9, g10]
set_option maxRecDepth 100000 in
set_option maxHeartbeats 1000000 in
theorem read_same (s : List UInt8) (sq tm : Int) (cp kd : Nat) (tk gr to_ wg tc : Int) (mk : Nat) (gt : Int) (hli : LikelyIs s sq tm cp kd tk gr to_ wg tc mk gt true) (hw : Ev.WF sq tm cp kd tk gr to_ wg tc mk gt) (hr : Ev.check sq tm cp kd tk gr to_ wg tc mk gt = 0) (vs : List Nat) (hvs : Ev.vals kd tk gr to_ wg tc mk gt = vs) (hst : (Ev.text sq tm cp kd vs == s) = true) (w : World) (hM : Ml w) (hE : Ev.HE w) (hR : Er w) (hT : Pw w) : Calls Tryd.prog 16 #[.string (Ev.str s)] w fun e w' => e = .returned (.tuple #[.agg #[.int .i64 sq, .int .i64 tm, .int .u8 cp, .int .u8 kd, .int .i64 tk, .int .i64 gr, .int .i64 to_, .int .i64 wg, .int .i64 tc, .int .u64 mk, .int .i64 gt], .int .i64 0]) ∧ Below w.heap.size w w' := by
  have HB1 : Hid (Below w.heap.size w (w.alloc (.cells #[.int .i64 0, .int .i64 0, .int .u8 0, .int .u8 0, .int .i64 0, .int .i64 0, .int .i64 0, .int .i64 0, .int .i64 0, .int .u64 0, .int .i64 0] 24))) := (Below.refl _ w).alloc (Nat.le_refl _) _
  have HXB := Lib.hid (EBox.new w 0 0 0 0 0 0 0 0 0 0 0)
  have HM := Lib.hid (hM.below HB1.out)
  have HE := Lib.hid (hE.below HB1.out)
  have HR := Lib.hid (hR.below HB1.out)
  have HT := Lib.hid (hT.below HB1.out)
  have HLI : Hid (∀ w : World, Ml w → Ev.HE w → Er w → Calls Tryd.prog 42 #[.string (Ev.str s)] w fun e w' => e = .returned (.tuple #[.agg #[.int .i64 sq, .int .i64 tm, .int .u8 cp, .int .u8 kd, .int .i64 tk, .int .i64 gr, .int .i64 to_, .int .i64 wg, .int .i64 tc, .int .u64 mk, .int .i64 gt], .bool true]) ∧ Below w.heap.size w w') := hli
  have HWF : Hid (Ev.WF sq tm cp kd tk gr to_ wg tc mk gt) := hw
  have HCK := Lib.hid hr
  have HVS := Lib.hid hvs
  have hsb : ((Ev.str (Ev.text sq tm cp kd vs)).toList == (Ev.str s).toList) = true := by rw [ByteArray.toList_eq, ByteArray.toList_eq]; simpa [Ev.str] using hst
  clear hw hr hvs hst
  clear hM hE hR hT hli
  go_enter Tryd.func16, Tryd.ntmps16
  go_wp2_with (first
    | (go_at_call 42; ((with_reducible refine (HLI.out _ HM.out HE.out HR.out).mono ?_); rintro e w2 ⟨rfl, hb⟩; have HB2 := Lib.hid (HB1.out.trans (hb.mono HB1.out.size)); have HB3 := Lib.hid (HB2.out.alloc HB2.out.size (.cells #[.int .i64 sq, .int .i64 tm, .int .u8 cp, .int .u8 kd, .int .i64 tk, .int .i64 gr, .int .i64 to_, .int .i64 wg, .int .i64 tc, .int .u64 mk, .int .i64 gt] 24)); have HY3 := Lib.hid ((HXB.out.keep hb).alloc (.cells #[.int .i64 sq, .int .i64 tm, .int .u8 cp, .int .u8 kd, .int .i64 tk, .int .i64 gr, .int .i64 to_, .int .i64 wg, .int .i64 tc, .int .u64 mk, .int .i64 gt] 24)); have HO3 := Lib.hid (EBox.new w2 sq tm cp kd tk gr to_ wg tc mk gt); have HE3 := Lib.hid ((HE.out.below hb).below ((Below.refl _ w2).alloc (Nat.le_refl _) (.cells #[.int .i64 sq, .int .i64 tm, .int .u8 cp, .int .u8 kd, .int .i64 tk, .int .i64 gr, .int .i64 to_, .int .i64 wg, .int .i64 tc, .int .u64 mk, .int .i64 gt] 24))); have HT3 := Lib.hid ((HT.out.below hb).below ((Below.refl _ w2).alloc (Nat.le_refl _) (.cells #[.int .i64 sq, .int .i64 tm, .int .u8 cp, .int .u8 kd, .int .i64 tk, .int .i64 gr, .int .i64 to_, .int .i64 wg, .int .i64 tc, .int .u64 mk, .int .i64 gt] 24))); obtain ⟨W3, hW3⟩ : ∃ W, w2.alloc (.cells #[.int .i64 sq, .int .i64 tm, .int .u8 cp, .int .u8 kd, .int .i64 tk, .int .i64 gr, .int .i64 to_, .int .i64 wg, .int .i64 tc, .int .u64 mk, .int .i64 gt] 24) = W := ⟨_, rfl⟩; rw [hW3] at HB3 HY3 HO3 HE3 HT3; obtain ⟨p0, p1, p2, p3, p4, p5, p6, p7, p8, p9, p10⟩ := HO3.out.cells; clear hb))
    | (go_at_call 15; ((with_reducible refine (text_yes sq tm cp kd tk gr to_ wg tc mk gt HWF.out HCK.out vs HVS.out _ rfl _ HE3.out HT3.out).mono ?_); rintro e w4 ⟨rfl, hb⟩; have HB4 := Lib.hid (HB3.out.trans (hb.mono HB3.out.size)); have HY4 := Lib.hid (HY3.out.keep hb); have HO4 := Lib.hid (HO3.out.keep hb); obtain ⟨z0, z1, z2, z3, z4, z5, z6, z7, z8, z9, z10⟩ := HY4.out.cells; obtain ⟨o0, o1, o2, o3, o4, o5, o6, o7, o8, o9, o10⟩ := HO4.out.cells; have f0 := HY4.out.free 0; have f1 := HY4.out.free 1; have f2 := HY4.out.free 2; have f3 := HY4.out.free 3; have f4 := HY4.out.free 4; have f5 := HY4.out.free 5; have f6 := HY4.out.free 6; have f7 := HY4.out.free 7; have f8 := HY4.out.free 8; have f9 := HY4.out.free 9; have f10 := HY4.out.free 10; clear hb)))
  have hg := EBox.setAll HY4.out sq tm cp kd tk gr to_ wg tc mk gt
  have hbz := below_setAll HB4.out (Nat.le_refl _) sq tm cp kd tk gr to_ wg tc mk gt
  generalize (((((((((((w4.setCell ⟨w.heap.size, 0, none⟩ (.int .i64 sq)).setCell ⟨w.heap.size, 1, none⟩ (.int .i64 tm)).setCell ⟨w.heap.size, 2, none⟩ (.int .u8 cp)).setCell ⟨w.heap.size, 3, none⟩ (.int .u8 kd)).setCell ⟨w.heap.size, 4, none⟩ (.int .i64 tk)).setCell ⟨w.heap.size, 5, none⟩ (.int .i64 gr)).setCell ⟨w.heap.size, 6, none⟩ (.int .i64 to_)).setCell ⟨w.heap.size, 7, none⟩ (.int .i64 wg)).setCell ⟨w.heap.size, 8, none⟩ (.int .i64 tc)).setCell ⟨w.heap.size, 9, none⟩ (.int .u64 mk)).setCell ⟨w.heap.size, 10, none⟩ (.int .i64 gt)) = Wz at hg hbz ⊢
  obtain ⟨g0, g1, g2, g3, g4, g5, g6, g7, g8, g9, g10⟩ := hg.cells
  refine bodyPost_ret (v := .tuple #[.agg #[.int .i64 sq, .int .i64 tm, .int .u8 cp, .int .u8 kd, .int .i64 tk, .int .i64 gr, .int .i64 to_, .int .i64 wg, .int .i64 tc, .int .u64 mk, .int .i64 gt], .int .i64 0]) ?_ rfl ⟨rfl, hbz⟩
  simp [results, Tryd.results16, go_sem, g0, g1, g2, g3, g4, g5, g6, g7, g8, g9, g10]
set_option maxRecDepth 100000 in
set_option maxHeartbeats 1000000 in
theorem read_other (s : List UInt8) (sq tm : Int) (cp kd : Nat) (tk gr to_ wg tc : Int) (mk : Nat) (gt : Int) (hli : LikelyIs s sq tm cp kd tk gr to_ wg tc mk gt true) (hw : Ev.WF sq tm cp kd tk gr to_ wg tc mk gt) (hr : Ev.check sq tm cp kd tk gr to_ wg tc mk gt = 0) (vs : List Nat) (hvs : Ev.vals kd tk gr to_ wg tc mk gt = vs) (hst : (Ev.text sq tm cp kd vs == s) = false) (w : World) (hM : Ml w) (hE : Ev.HE w) (hR : Er w) (hT : Pw w) : Calls Tryd.prog 16 #[.string (Ev.str s)] w fun e w' => e = .returned (.tuple #[.agg #[.int .i64 0, .int .i64 0, .int .u8 0, .int .u8 0, .int .i64 0, .int .i64 0, .int .i64 0, .int .i64 0, .int .i64 0, .int .u64 0, .int .i64 0], .int .i64 63]) ∧ Below w.heap.size w w' := by
  have HB1 : Hid (Below w.heap.size w (w.alloc (.cells #[.int .i64 0, .int .i64 0, .int .u8 0, .int .u8 0, .int .i64 0, .int .i64 0, .int .i64 0, .int .i64 0, .int .i64 0, .int .u64 0, .int .i64 0] 24))) := (Below.refl _ w).alloc (Nat.le_refl _) _
  have HXB := Lib.hid (EBox.new w 0 0 0 0 0 0 0 0 0 0 0)
  have HM := Lib.hid (hM.below HB1.out)
  have HE := Lib.hid (hE.below HB1.out)
  have HR := Lib.hid (hR.below HB1.out)
  have HT := Lib.hid (hT.below HB1.out)
  have HLI : Hid (∀ w : World, Ml w → Ev.HE w → Er w → Calls Tryd.prog 42 #[.string (Ev.str s)] w fun e w' => e = .returned (.tuple #[.agg #[.int .i64 sq, .int .i64 tm, .int .u8 cp, .int .u8 kd, .int .i64 tk, .int .i64 gr, .int .i64 to_, .int .i64 wg, .int .i64 tc, .int .u64 mk, .int .i64 gt], .bool true]) ∧ Below w.heap.size w w') := hli
  have HWF : Hid (Ev.WF sq tm cp kd tk gr to_ wg tc mk gt) := hw
  have HCK := Lib.hid hr
  have HVS := Lib.hid hvs
  have hsb : ((Ev.str (Ev.text sq tm cp kd vs)).toList == (Ev.str s).toList) = false := by rw [ByteArray.toList_eq, ByteArray.toList_eq]; simpa [Ev.str] using hst
  clear hw hr hvs hst
  clear hM hE hR hT hli
  go_enter Tryd.func16, Tryd.ntmps16
  go_wp2_with (first
    | (go_at_call 42; ((with_reducible refine (HLI.out _ HM.out HE.out HR.out).mono ?_); rintro e w2 ⟨rfl, hb⟩; have HB2 := Lib.hid (HB1.out.trans (hb.mono HB1.out.size)); have HB3 := Lib.hid (HB2.out.alloc HB2.out.size (.cells #[.int .i64 sq, .int .i64 tm, .int .u8 cp, .int .u8 kd, .int .i64 tk, .int .i64 gr, .int .i64 to_, .int .i64 wg, .int .i64 tc, .int .u64 mk, .int .i64 gt] 24)); have HY3 := Lib.hid ((HXB.out.keep hb).alloc (.cells #[.int .i64 sq, .int .i64 tm, .int .u8 cp, .int .u8 kd, .int .i64 tk, .int .i64 gr, .int .i64 to_, .int .i64 wg, .int .i64 tc, .int .u64 mk, .int .i64 gt] 24)); have HO3 := Lib.hid (EBox.new w2 sq tm cp kd tk gr to_ wg tc mk gt); have HE3 := Lib.hid ((HE.out.below hb).below ((Below.refl _ w2).alloc (Nat.le_refl _) (.cells #[.int .i64 sq, .int .i64 tm, .int .u8 cp, .int .u8 kd, .int .i64 tk, .int .i64 gr, .int .i64 to_, .int .i64 wg, .int .i64 tc, .int .u64 mk, .int .i64 gt] 24))); have HT3 := Lib.hid ((HT.out.below hb).below ((Below.refl _ w2).alloc (Nat.le_refl _) (.cells #[.int .i64 sq, .int .i64 tm, .int .u8 cp, .int .u8 kd, .int .i64 tk, .int .i64 gr, .int .i64 to_, .int .i64 wg, .int .i64 tc, .int .u64 mk, .int .i64 gt] 24))); obtain ⟨W3, hW3⟩ : ∃ W, w2.alloc (.cells #[.int .i64 sq, .int .i64 tm, .int .u8 cp, .int .u8 kd, .int .i64 tk, .int .i64 gr, .int .i64 to_, .int .i64 wg, .int .i64 tc, .int .u64 mk, .int .i64 gt] 24) = W := ⟨_, rfl⟩; rw [hW3] at HB3 HY3 HO3 HE3 HT3; obtain ⟨p0, p1, p2, p3, p4, p5, p6, p7, p8, p9, p10⟩ := HO3.out.cells; clear hb))
    | (go_at_call 15; ((with_reducible refine (text_yes sq tm cp kd tk gr to_ wg tc mk gt HWF.out HCK.out vs HVS.out _ rfl _ HE3.out HT3.out).mono ?_); rintro e w4 ⟨rfl, hb⟩; have HB4 := Lib.hid (HB3.out.trans (hb.mono HB3.out.size)); have HY4 := Lib.hid (HY3.out.keep hb); have HO4 := Lib.hid (HO3.out.keep hb); obtain ⟨z0, z1, z2, z3, z4, z5, z6, z7, z8, z9, z10⟩ := HY4.out.cells; obtain ⟨o0, o1, o2, o3, o4, o5, o6, o7, o8, o9, o10⟩ := HO4.out.cells; have f0 := HY4.out.free 0; have f1 := HY4.out.free 1; have f2 := HY4.out.free 2; have f3 := HY4.out.free 3; have f4 := HY4.out.free 4; have f5 := HY4.out.free 5; have f6 := HY4.out.free 6; have f7 := HY4.out.free 7; have f8 := HY4.out.free 8; have f9 := HY4.out.free 9; have f10 := HY4.out.free 10; clear hb)))
  have hg := EBox.setAll HY4.out 0 0 0 0 0 0 0 0 0 0 0
  have hbz := below_setAll HB4.out (Nat.le_refl _) 0 0 0 0 0 0 0 0 0 0 0
  generalize (((((((((((w4.setCell ⟨w.heap.size, 0, none⟩ (.int .i64 0)).setCell ⟨w.heap.size, 1, none⟩ (.int .i64 0)).setCell ⟨w.heap.size, 2, none⟩ (.int .u8 0)).setCell ⟨w.heap.size, 3, none⟩ (.int .u8 0)).setCell ⟨w.heap.size, 4, none⟩ (.int .i64 0)).setCell ⟨w.heap.size, 5, none⟩ (.int .i64 0)).setCell ⟨w.heap.size, 6, none⟩ (.int .i64 0)).setCell ⟨w.heap.size, 7, none⟩ (.int .i64 0)).setCell ⟨w.heap.size, 8, none⟩ (.int .i64 0)).setCell ⟨w.heap.size, 9, none⟩ (.int .u64 0)).setCell ⟨w.heap.size, 10, none⟩ (.int .i64 0)) = Wz at hg hbz ⊢
  obtain ⟨g0, g1, g2, g3, g4, g5, g6, g7, g8, g9, g10⟩ := hg.cells
  refine bodyPost_ret (v := .tuple #[.agg #[.int .i64 0, .int .i64 0, .int .u8 0, .int .u8 0, .int .i64 0, .int .i64 0, .int .i64 0, .int .i64 0, .int .i64 0, .int .u64 0, .int .i64 0], .int .i64 63]) ?_ rfl ⟨rfl, hbz⟩
  simp [results, Tryd.results16, go_sem, g0, g1, g2, g3, g4, g5, g6, g7, g8, g9, g10]
namespace Ev
/-- What Read returns. -/
def ReadOut (s : List UInt8) (sq tm : Int) (cp kd : Nat) (tk gr to_ wg tc : Int) (mk : Nat) (gt : Int) (r : Nat) : Prop := (r = 0 ∧ WF sq tm cp kd tk gr to_ wg tc mk gt ∧ check sq tm cp kd tk gr to_ wg tc mk gt = 0 ∧ text sq tm cp kd (vals kd tk gr to_ wg tc mk gt) = s) ∨
  (r = 63 ∧ sq = 0 ∧ tm = 0 ∧ cp = 0 ∧ kd = 0 ∧ tk = 0 ∧ gr = 0 ∧ to_ = 0 ∧ wg = 0 ∧ tc = 0 ∧ mk = 0 ∧ gt = 0 ∧ ∀ e : E, e.right → e.text ≠ s)
theorem read_total (s : List UInt8) : ∃ sq tm cp kd tk gr to_ wg tc mk gt r, ReadOut s sq tm cp kd tk gr to_ wg tc mk gt r := by
  by_cases h : ∃ e : E, e.right ∧ e.text = s
  · obtain ⟨e, h1, h2⟩ := h
    exact ⟨e.sq, e.tm, e.cp, e.kd, e.tk, e.gr, e.to_, e.wg, e.tc, e.mk, e.gt, 0, .inl ⟨rfl, h1.1, h1.2, h2⟩⟩
  · exact ⟨0, 0, 0, 0, 0, 0, 0, 0, 0, 0, 0, 63, .inr ⟨rfl, rfl, rfl, rfl, rfl, rfl, rfl, rfl, rfl, rfl, rfl, rfl, fun e h1 h2 => h ⟨e, h1, h2⟩⟩⟩
end Ev
/-- Read, whatever the string is. -/
theorem read_any (s : List UInt8) (hs : s.length ≤ 1000000) (sq tm : Int) (cp kd : Nat) (tk gr to_ wg tc : Int) (mk : Nat) (gt : Int) (r : Nat) (ho : Ev.ReadOut s sq tm cp kd tk gr to_ wg tc mk gt r) (w : World) (hM : Ml w) (hE : Ev.HE w) (hR : Er w) (hT : Pw w) : Calls Tryd.prog 16 #[.string (Ev.str s)] w fun e w' => e = .returned (.tuple #[.agg #[.int .i64 sq, .int .i64 tm, .int .u8 cp, .int .u8 kd, .int .i64 tk, .int .i64 gr, .int .i64 to_, .int .i64 wg, .int .i64 tc, .int .u64 mk, .int .i64 gt], .int .i64 r]) ∧ Below w.heap.size w w' := by
  rcases ho with ⟨rfl, h1, h2, h3⟩ | ⟨rfl, rfl, rfl, rfl, rfl, rfl, rfl, rfl, rfl, rfl, rfl, rfl, h3⟩
  · exact read_same s sq tm cp kd tk gr to_ wg tc mk gt (likely_text h1 h2 s hs h3) h1 h2 _ rfl (by rw [h3]; simp) w hM hE hR hT
  · obtain ⟨sq, tm, cp, kd, tk, gr, to_, wg, tc, mk, gt, ok, h4, h5⟩ := likely_is s hs
    cases ok with
    | false => exact read_no s sq tm cp kd tk gr to_ wg tc mk gt h5 w hM hE hR hT
    | true =>
      have hr := h4 rfl
      refine read_other s sq tm cp kd tk gr to_ wg tc mk gt h5 hr.1 hr.2 _ rfl ?_ w hM hE hR hT
      rw [beq_eq_false_iff_ne]
      exact h3 (.ev sq tm cp kd tk gr to_ wg tc mk gt) hr
end Go.Proofs.YtainjicbmjfnkaaDoor
