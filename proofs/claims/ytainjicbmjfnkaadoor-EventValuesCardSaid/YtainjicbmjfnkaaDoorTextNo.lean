/-
  Text of a wrong event.
-/
import Derived.Test.YtainjicbmjfnkaaDoorValues
import Derived.Test.YtainjicbmjfnkaaDoorFmt
namespace Go.Proofs.YtainjicbmjfnkaaDoor
open Go.RowKit
set_option linter.unusedVariables false

set_option maxRecDepth 100000 in
set_option maxHeartbeats 1000000 in
theorem text_no (sq tm : Int) (cp kd : Nat) (tk gr to_ wg tc : Int) (mk : Nat) (gt : Int) (hw : Ev.WF sq tm cp kd tk gr to_ wg tc mk gt) (r : Nat) (hr : Ev.check sq tm cp kd tk gr to_ wg tc mk gt = r) (hr0 : r ≠ 0) (w : World) (hE : Ev.HE w) : Calls Tryd.prog 15 #[.agg #[.int .i64 sq, .int .i64 tm, .int .u8 cp, .int .u8 kd, .int .i64 tk, .int .i64 gr, .int .i64 to_, .int .i64 wg, .int .i64 tc, .int .u64 mk, .int .i64 gt]] w fun e w' => e = .returned (.tuple #[.string ⟨#[]⟩, .int .i64 r]) ∧ Below w.heap.size w w' := by
  have HX := Lib.hid (EBox.new w sq tm cp kd tk gr to_ wg tc mk gt)
  have HBW : Hid (Below w.heap.size w (w.alloc (.cells #[.int .i64 sq, .int .i64 tm, .int .u8 cp, .int .u8 kd, .int .i64 tk, .int .i64 gr, .int .i64 to_, .int .i64 wg, .int .i64 tc, .int .u64 mk, .int .i64 gt] 24))) := (Below.refl _ w).alloc (Nat.le_refl _) _
  have HEW := Lib.hid (hE.below HBW.out)
  have HWF : Hid (Ev.WF sq tm cp kd tk gr to_ wg tc mk gt) := hw
  have HR := Lib.hid hr
  have HR0 := Lib.hid hr0
  have h1 : ((r : Int) == 0) = false := by simp; exact hr0
  have h2 : (r == 0) = false := by simp; exact hr0
  clear hr hr0 hE hw
  obtain ⟨x0, x1, x2, x3, x4, x5, x6, x7, x8, x9, x10⟩ := HX.out.cells
  go_enter Tryd.func15, Tryd.ntmps15
  go_wp2_with (go_at_call 18; ((with_reducible refine (values_no sq tm cp kd tk gr to_ wg tc mk gt HWF.out r HR.out HR0.out _ HEW.out).mono ?_); rintro e w2 ⟨rfl, hb⟩; have HW2 := Lib.hid (HBW.out.trans (hb.mono HBW.out.size)); clear hb))
  go_ret2
  exact ⟨rfl, HW2.out⟩
end Go.Proofs.YtainjicbmjfnkaaDoor
