/-
  place, value.
-/
import Derived.Test.YtainjicbmjfnkaaDoorName
namespace Go.Proofs.YtainjicbmjfnkaaDoor
open Go.RowKit
set_option linter.unusedVariables false

theorem as_int_yes (W : World) (v : Value) : (Instr.typeAssert (.iface 47 v) 20 47 true).run Tryd.prog W = .ok (.tuple #[v, .bool true]) W := by kernel_rfl
theorem as_int_no (W : World) (v : Value) : (Instr.typeAssert (.iface 115 v) 20 47 true).run Tryd.prog W = .ok (.tuple #[.pointer none, .bool false]) W := by kernel_rfl
theorem as_uint_no (W : World) (v : Value) : (Instr.typeAssert (.iface 47 v) 20 115 true).run Tryd.prog W = .ok (.tuple #[.pointer none, .bool false]) W := by kernel_rfl
theorem as_uint_yes (W : World) (v : Value) : (Instr.typeAssert (.iface 115 v) 20 115 true).run Tryd.prog W = .ok (.tuple #[v, .bool true]) W := by kernel_rfl
set_option maxRecDepth 100000 in
theorem place_any (b f : Nat) (hf : f < 7) (w : World) : Calls Tryd.prog 65 #[.pointer (some ⟨b, 0, none⟩), .int .u8 f] w fun e w' => e = .returned (.iface (if f = 5 then 115 else 47) (.pointer (some ⟨b, 4 + f, none⟩))) ∧ w' = w := by
  rcases (show f = 0 ∨ f = 1 ∨ f = 2 ∨ f = 3 ∨ f = 4 ∨ f = 5 ∨ f = 6 by omega) with rfl | rfl | rfl | rfl | rfl | rfl | rfl
  all_goals
    go_enter Tryd.func65, Tryd.ntmps65
    go_wp2
    go_ret
    exact ⟨rfl, rfl⟩
namespace Ev
/-- A field of an event, by its number. -/
def fld (tk gr to_ wg tc : Int) (mk : Nat) (gt : Int) (f : Nat) : Int := match f with
  | 0 => tk | 1 => gr | 2 => to_ | 3 => wg | 4 => tc | 5 => mk | _ => gt
end Ev
/-- Block b is a box with an event. -/
def EBox (w : World) (b : Nat) (sq tm : Int) (cp kd : Nat) (tk gr to_ wg tc : Int) (mk : Nat) (gt : Int) : Prop := w.heap[b]? = some (.cells #[.int .i64 sq, .int .i64 tm, .int .u8 cp, .int .u8 kd, .int .i64 tk, .int .i64 gr, .int .i64 to_, .int .i64 wg, .int .i64 tc, .int .u64 mk, .int .i64 gt] 24)
theorem EBox.lt {w : World} {b : Nat} {sq tm : Int} {cp kd : Nat} {tk gr to_ wg tc : Int} {mk : Nat} {gt : Int} (h : EBox w b sq tm cp kd tk gr to_ wg tc mk gt) : b < w.heap.size := (Array.getElem?_eq_some_iff.1 h).1
theorem EBox.new (w : World) (sq tm : Int) (cp kd : Nat) (tk gr to_ wg tc : Int) (mk : Nat) (gt : Int) : EBox (w.alloc (.cells #[.int .i64 sq, .int .i64 tm, .int .u8 cp, .int .u8 kd, .int .i64 tk, .int .i64 gr, .int .i64 to_, .int .i64 wg, .int .i64 tc, .int .u64 mk, .int .i64 gt] 24)) w.heap.size sq tm cp kd tk gr to_ wg tc mk gt := heap_alloc_new w _
theorem EBox.keep {w w' : World} {b : Nat} {sq tm : Int} {cp kd : Nat} {tk gr to_ wg tc : Int} {mk : Nat} {gt : Int} (h : EBox w b sq tm cp kd tk gr to_ wg tc mk gt) (hb : Below w.heap.size w w') : EBox w' b sq tm cp kd tk gr to_ wg tc mk gt := (hb.block b h.lt).trans h
theorem EBox.alloc {w : World} {b : Nat} {sq tm : Int} {cp kd : Nat} {tk gr to_ wg tc : Int} {mk : Nat} {gt : Int} (h : EBox w b sq tm cp kd tk gr to_ wg tc mk gt) (o : Obj) : EBox (w.alloc o) b sq tm cp kd tk gr to_ wg tc mk gt := (Below.heap_alloc w o b h.lt).trans h
theorem EBox.cells {w : World} {b : Nat} {sq tm : Int} {cp kd : Nat} {tk gr to_ wg tc : Int} {mk : Nat} {gt : Int} (h : EBox w b sq tm cp kd tk gr to_ wg tc mk gt) : w.cell? ⟨b, 0, none⟩ = some (.int .i64 sq) ∧ w.cell? ⟨b, 1, none⟩ = some (.int .i64 tm) ∧ w.cell? ⟨b, 2, none⟩ = some (.int .u8 cp) ∧ w.cell? ⟨b, 3, none⟩ = some (.int .u8 kd) ∧ w.cell? ⟨b, 4, none⟩ = some (.int .i64 tk) ∧ w.cell? ⟨b, 5, none⟩ = some (.int .i64 gr) ∧ w.cell? ⟨b, 6, none⟩ = some (.int .i64 to_) ∧ w.cell? ⟨b, 7, none⟩ = some (.int .i64 wg) ∧ w.cell? ⟨b, 8, none⟩ = some (.int .i64 tc) ∧ w.cell? ⟨b, 9, none⟩ = some (.int .u64 mk) ∧ w.cell? ⟨b, 10, none⟩ = some (.int .i64 gt) := by
  unfold EBox at h
  unfold World.cell?
  dsimp only
  rw [h]
  exact ⟨rfl, rfl, rfl, rfl, rfl, rfl, rfl, rfl, rfl, rfl, rfl⟩
theorem EBox.free {w : World} {b : Nat} {sq tm : Int} {cp kd : Nat} {tk gr to_ wg tc : Int} {mk : Nat} {gt : Int} (h : EBox w b sq tm cp kd tk gr to_ wg tc mk gt) (i : Nat) : w.frozen? ⟨b, i, none⟩ = false := by
  unfold EBox at h
  unfold World.frozen?
  dsimp only
  rw [h]
  simp
set_option maxRecDepth 100000 in
set_option maxHeartbeats 1000000 in
theorem value_any (sq tm : Int) (cp kd : Nat) (tk gr to_ wg tc : Int) (mk : Nat) (gt : Int) (f : Nat) (hf : f < 7) (w : World) : Calls Tryd.prog 46 #[.agg #[.int .i64 sq, .int .i64 tm, .int .u8 cp, .int .u8 kd, .int .i64 tk, .int .i64 gr, .int .i64 to_, .int .i64 wg, .int .i64 tc, .int .u64 mk, .int .i64 gt], .int .u8 f] w fun e w' => e = .returned (.int .u64 (if f = 5 then (mk : Int) else IntKind.u64.wrap (Ev.fld tk gr to_ wg tc mk gt f))) ∧ Below w.heap.size w w' := by
  have HF := Lib.hid hf
  have HX := Lib.hid (EBox.new w sq tm cp kd tk gr to_ wg tc mk gt)
  have HBW : Hid (Below w.heap.size w (w.alloc (.cells #[.int .i64 sq, .int .i64 tm, .int .u8 cp, .int .u8 kd, .int .i64 tk, .int .i64 gr, .int .i64 to_, .int .i64 wg, .int .i64 tc, .int .u64 mk, .int .i64 gt] 24))) := (Below.refl _ w).alloc (Nat.le_refl _) _
  obtain ⟨x0, x1, x2, x3, x4, x5, x6, x7, x8, x9, x10⟩ := HX.out.cells
  rcases (show f = 0 ∨ f = 1 ∨ f = 2 ∨ f = 3 ∨ f = 4 ∨ f = 5 ∨ f = 6 by omega) with rfl | rfl | rfl | rfl | rfl | rfl | rfl
  · clear hf
    have s1 := as_int_yes
    have s2 := as_int_no
    have s3 := as_uint_yes
    have HP : Hid (Calls Tryd.prog 65 #[.pointer (some ⟨w.heap.size, 0, none⟩), .int .u8 0] (w.alloc (.cells #[.int .i64 sq, .int .i64 tm, .int .u8 cp, .int .u8 kd, .int .i64 tk, .int .i64 gr, .int .i64 to_, .int .i64 wg, .int .i64 tc, .int .u64 mk, .int .i64 gt] 24)) fun e w' => e = .returned (.iface 47 (.pointer (some ⟨w.heap.size, 4, none⟩))) ∧ w' = (w.alloc (.cells #[.int .i64 sq, .int .i64 tm, .int .u8 cp, .int .u8 kd, .int .i64 tk, .int .i64 gr, .int .i64 to_, .int .i64 wg, .int .i64 tc, .int .u64 mk, .int .i64 gt] 24))) := place_any w.heap.size 0 HF.out _
    go_enter Tryd.func46, Tryd.ntmps46
    go_wp2_with (go_at_call 65; ((with_reducible refine HP.out.mono ?_); rintro e w' ⟨rfl, rfl⟩))
    go_ret
    exact ⟨rfl, HBW.out⟩
  · clear hf
    have s1 := as_int_yes
    have s2 := as_int_no
    have s3 := as_uint_yes
    have HP : Hid (Calls Tryd.prog 65 #[.pointer (some ⟨w.heap.size, 0, none⟩), .int .u8 1] (w.alloc (.cells #[.int .i64 sq, .int .i64 tm, .int .u8 cp, .int .u8 kd, .int .i64 tk, .int .i64 gr, .int .i64 to_, .int .i64 wg, .int .i64 tc, .int .u64 mk, .int .i64 gt] 24)) fun e w' => e = .returned (.iface 47 (.pointer (some ⟨w.heap.size, 5, none⟩))) ∧ w' = (w.alloc (.cells #[.int .i64 sq, .int .i64 tm, .int .u8 cp, .int .u8 kd, .int .i64 tk, .int .i64 gr, .int .i64 to_, .int .i64 wg, .int .i64 tc, .int .u64 mk, .int .i64 gt] 24))) := place_any w.heap.size 1 HF.out _
    go_enter Tryd.func46, Tryd.ntmps46
    go_wp2_with (go_at_call 65; ((with_reducible refine HP.out.mono ?_); rintro e w' ⟨rfl, rfl⟩))
    go_ret
    exact ⟨rfl, HBW.out⟩
  · clear hf
    have s1 := as_int_yes
    have s2 := as_int_no
    have s3 := as_uint_yes
    have HP : Hid (Calls Tryd.prog 65 #[.pointer (some ⟨w.heap.size, 0, none⟩), .int .u8 2] (w.alloc (.cells #[.int .i64 sq, .int .i64 tm, .int .u8 cp, .int .u8 kd, .int .i64 tk, .int .i64 gr, .int .i64 to_, .int .i64 wg, .int .i64 tc, .int .u64 mk, .int .i64 gt] 24)) fun e w' => e = .returned (.iface 47 (.pointer (some ⟨w.heap.size, 6, none⟩))) ∧ w' = (w.alloc (.cells #[.int .i64 sq, .int .i64 tm, .int .u8 cp, .int .u8 kd, .int .i64 tk, .int .i64 gr, .int .i64 to_, .int .i64 wg, .int .i64 tc, .int .u64 mk, .int .i64 gt] 24))) := place_any w.heap.size 2 HF.out _
    go_enter Tryd.func46, Tryd.ntmps46
    go_wp2_with (go_at_call 65; ((with_reducible refine HP.out.mono ?_); rintro e w' ⟨rfl, rfl⟩))
    go_ret
    exact ⟨rfl, HBW.out⟩
  · clear hf
    have s1 := as_int_yes
    have s2 := as_int_no
    have s3 := as_uint_yes
    have HP : Hid (Calls Tryd.prog 65 #[.pointer (some ⟨w.heap.size, 0, none⟩), .int .u8 3] (w.alloc (.cells #[.int .i64 sq, .int .i64 tm, .int .u8 cp, .int .u8 kd, .int .i64 tk, .int .i64 gr, .int .i64 to_, .int .i64 wg, .int .i64 tc, .int .u64 mk, .int .i64 gt] 24)) fun e w' => e = .returned (.iface 47 (.pointer (some ⟨w.heap.size, 7, none⟩))) ∧ w' = (w.alloc (.cells #[.int .i64 sq, .int .i64 tm, .int .u8 cp, .int .u8 kd, .int .i64 tk, .int .i64 gr, .int .i64 to_, .int .i64 wg, .int .i64 tc, .int .u64 mk, .int .i64 gt] 24))) := place_any w.heap.size 3 HF.out _
    go_enter Tryd.func46, Tryd.ntmps46
    go_wp2_with (go_at_call 65; ((with_reducible refine HP.out.mono ?_); rintro e w' ⟨rfl, rfl⟩))
    go_ret
    exact ⟨rfl, HBW.out⟩
  · clear hf
    have s1 := as_int_yes
    have s2 := as_int_no
    have s3 := as_uint_yes
    have HP : Hid (Calls Tryd.prog 65 #[.pointer (some ⟨w.heap.size, 0, none⟩), .int .u8 4] (w.alloc (.cells #[.int .i64 sq, .int .i64 tm, .int .u8 cp, .int .u8 kd, .int .i64 tk, .int .i64 gr, .int .i64 to_, .int .i64 wg, .int .i64 tc, .int .u64 mk, .int .i64 gt] 24)) fun e w' => e = .returned (.iface 47 (.pointer (some ⟨w.heap.size, 8, none⟩))) ∧ w' = (w.alloc (.cells #[.int .i64 sq, .int .i64 tm, .int .u8 cp, .int .u8 kd, .int .i64 tk, .int .i64 gr, .int .i64 to_, .int .i64 wg, .int .i64 tc, .int .u64 mk, .int .i64 gt] 24))) := place_any w.heap.size 4 HF.out _
    go_enter Tryd.func46, Tryd.ntmps46
    go_wp2_with (go_at_call 65; ((with_reducible refine HP.out.mono ?_); rintro e w' ⟨rfl, rfl⟩))
    go_ret
    exact ⟨rfl, HBW.out⟩
  · clear hf
    have s1 := as_int_yes
    have s2 := as_int_no
    have s3 := as_uint_yes
    have HP : Hid (Calls Tryd.prog 65 #[.pointer (some ⟨w.heap.size, 0, none⟩), .int .u8 5] (w.alloc (.cells #[.int .i64 sq, .int .i64 tm, .int .u8 cp, .int .u8 kd, .int .i64 tk, .int .i64 gr, .int .i64 to_, .int .i64 wg, .int .i64 tc, .int .u64 mk, .int .i64 gt] 24)) fun e w' => e = .returned (.iface 115 (.pointer (some ⟨w.heap.size, 9, none⟩))) ∧ w' = (w.alloc (.cells #[.int .i64 sq, .int .i64 tm, .int .u8 cp, .int .u8 kd, .int .i64 tk, .int .i64 gr, .int .i64 to_, .int .i64 wg, .int .i64 tc, .int .u64 mk, .int .i64 gt] 24))) := place_any w.heap.size 5 HF.out _
    go_enter Tryd.func46, Tryd.ntmps46
    go_wp2_with (go_at_call 65; ((with_reducible refine HP.out.mono ?_); rintro e w' ⟨rfl, rfl⟩))
    go_ret
    exact ⟨rfl, HBW.out⟩
  · clear hf
    have s1 := as_int_yes
    have s2 := as_int_no
    have s3 := as_uint_yes
    have HP : Hid (Calls Tryd.prog 65 #[.pointer (some ⟨w.heap.size, 0, none⟩), .int .u8 6] (w.alloc (.cells #[.int .i64 sq, .int .i64 tm, .int .u8 cp, .int .u8 kd, .int .i64 tk, .int .i64 gr, .int .i64 to_, .int .i64 wg, .int .i64 tc, .int .u64 mk, .int .i64 gt] 24)) fun e w' => e = .returned (.iface 47 (.pointer (some ⟨w.heap.size, 10, none⟩))) ∧ w' = (w.alloc (.cells #[.int .i64 sq, .int .i64 tm, .int .u8 cp, .int .u8 kd, .int .i64 tk, .int .i64 gr, .int .i64 to_, .int .i64 wg, .int .i64 tc, .int .u64 mk, .int .i64 gt] 24))) := place_any w.heap.size 6 HF.out _
    go_enter Tryd.func46, Tryd.ntmps46
    go_wp2_with (go_at_call 65; ((with_reducible refine HP.out.mono ?_); rintro e w' ⟨rfl, rfl⟩))
    go_ret
    exact ⟨rfl, HBW.out⟩
end Go.Proofs.YtainjicbmjfnkaaDoor
