/-
  start, put, hasOther.
-/
import Derived.Test.YtainjicbmjfnkaaDoorEvEq
namespace Go.Proofs.YtainjicbmjfnkaaDoor
open Go.RowKit
set_option linter.unusedVariables false

set_option maxRecDepth 100000 in
theorem start_any (sq tm : Int) (cp kd : Nat) (tk gr to_ wg tc : Int) (mk : Nat) (gt : Int) (w : World) : Calls Tryd.prog 47 #[.agg #[.int .i64 sq, .int .i64 tm, .int .u8 cp, .int .u8 kd, .int .i64 tk, .int .i64 gr, .int .i64 to_, .int .i64 wg, .int .i64 tc, .int .u64 mk, .int .i64 gt]] w fun e w' => e = .returned (.agg #[.int .i64 sq, .int .i64 tm, .int .u8 cp, .int .u8 kd, .int .i64 0, .int .i64 0, .int .i64 0, .int .i64 0, .int .i64 0, .int .u64 0, .int .i64 0]) ∧ Below w.heap.size w w' := by
  have HX := Lib.hid (EBox.new w sq tm cp kd tk gr to_ wg tc mk gt)
  have HXB := Lib.hid (HX.out.alloc (.cells #[.int .i64 0, .int .i64 0, .int .u8 0, .int .u8 0, .int .i64 0, .int .i64 0, .int .i64 0, .int .i64 0, .int .i64 0, .int .u64 0, .int .i64 0] 24))
  have HB := Lib.hid (((Below.refl w.heap.size w).alloc (Nat.le_refl _) (.cells #[.int .i64 sq, .int .i64 tm, .int .u8 cp, .int .u8 kd, .int .i64 tk, .int .i64 gr, .int .i64 to_, .int .i64 wg, .int .i64 tc, .int .u64 mk, .int .i64 gt] 24)).alloc (by simp) (.cells #[.int .i64 sq, .int .i64 tm, .int .u8 cp, .int .u8 kd, .int .i64 0, .int .i64 0, .int .i64 0, .int .i64 0, .int .i64 0, .int .u64 0, .int .i64 0] 24))
  have hz : (w.alloc (.cells #[.int .i64 sq, .int .i64 tm, .int .u8 cp, .int .u8 kd, .int .i64 tk, .int .i64 gr, .int .i64 to_, .int .i64 wg, .int .i64 tc, .int .u64 mk, .int .i64 gt] 24)).heap.size = w.heap.size + 1 := by simp
  have HY := EBox.new (w.alloc (.cells #[.int .i64 sq, .int .i64 tm, .int .u8 cp, .int .u8 kd, .int .i64 tk, .int .i64 gr, .int .i64 to_, .int .i64 wg, .int .i64 tc, .int .u64 mk, .int .i64 gt] 24)) sq tm cp kd 0 0 0 0 0 0 0
  rw [hz] at HY
  replace HY := Lib.hid HY
  clear hz
  obtain ⟨x0, x1, x2, x3, x4, x5, x6, x7, x8, x9, x10⟩ := HXB.out.cells
  go_enter Tryd.func47, Tryd.ntmps47
  go_wp2
  obtain ⟨y0, y1, y2, y3, y4, y5, y6, y7, y8, y9, y10⟩ := HY.out.cells
  refine bodyPost_ret (v := .agg #[.int .i64 sq, .int .i64 tm, .int .u8 cp, .int .u8 kd, .int .i64 0, .int .i64 0, .int .i64 0, .int .i64 0, .int .i64 0, .int .u64 0, .int .i64 0]) ?_ rfl ⟨rfl, HB.out⟩
  simp [results, Tryd.results47, go_sem]
theorem EBox.put {w : World} {b : Nat} {sq tm : Int} {cp kd : Nat} {tk gr to_ wg tc : Int} {mk : Nat} {gt : Int} (h : EBox w b sq tm cp kd tk gr to_ wg tc mk gt) (f : Nat) (hf : f < 7) (x : Int) (hx : 0 ≤ x) :
    EBox (w.setCell ⟨b, 4 + f, none⟩ (if f = 5 then .int .u64 x else .int .i64 (wrap64 x))) b sq tm cp kd (if f = 0 then wrap64 x else tk) (if f = 1 then wrap64 x else gr) (if f = 2 then wrap64 x else to_) (if f = 3 then wrap64 x else wg) (if f = 4 then wrap64 x else tc) (if f = 5 then x.toNat else mk) (if f = 6 then wrap64 x else gt) := by
  unfold EBox at *
  unfold World.setCell
  show (Array.modify _ _ _)[b]? = _
  rw [Array.getElem?_modify, if_pos rfl, h]
  rcases (show f = 0 ∨ f = 1 ∨ f = 2 ∨ f = 3 ∨ f = 4 ∨ f = 5 ∨ f = 6 by omega) with rfl | rfl | rfl | rfl | rfl | rfl | rfl
  all_goals first | rfl | (simp; done) | (simp [Int.toNat_of_nonneg hx]; done)
set_option maxRecDepth 100000 in
set_option maxHeartbeats 1000000 in
theorem put_any (b f : Nat) (hf : f < 7) (x : Int) (w : World) (sq tm : Int) (cp kd : Nat) (tk gr to_ wg tc : Int) (mk : Nat) (gt : Int) (h : EBox w b sq tm cp kd tk gr to_ wg tc mk gt) : Calls Tryd.prog 48 #[.pointer (some ⟨b, 0, none⟩), .int .u8 f, .int .u64 x] w fun e w' => (∃ v, e = .returned v) ∧ w' = w.setCell ⟨b, 4 + f, none⟩ (if f = 5 then .int .u64 x else .int .i64 (wrap64 x)) := by
  have HF := Lib.hid hf
  obtain ⟨x0, x1, x2, x3, x4, x5, x6, x7, x8, x9, x10⟩ := h.cells
  rcases (show f = 0 ∨ f = 1 ∨ f = 2 ∨ f = 3 ∨ f = 4 ∨ f = 5 ∨ f = 6 by omega) with rfl | rfl | rfl | rfl | rfl | rfl | rfl
  · have hfr := h.free 4
    clear hf h
    have s1 := as_int_yes
    have s2 := as_int_no
    have s3 := as_uint_yes
    have s4 := as_uint_no
    have HP : Hid (Calls Tryd.prog 65 #[.pointer (some ⟨b, 0, none⟩), .int .u8 0] w fun e w' => e = .returned (.iface 47 (.pointer (some ⟨b, 4, none⟩))) ∧ w' = w) := place_any b 0 HF.out _
    go_enter Tryd.func48, Tryd.ntmps48
    go_wp2_with (go_at_call 65; ((with_reducible refine HP.out.mono ?_); rintro e w' ⟨rfl, rfl⟩))
    refine bodyPost_end (results_none rfl _ _ _) rfl ?_
    exact ⟨⟨_, rfl⟩, rfl⟩
  · have hfr := h.free 5
    clear hf h
    have s1 := as_int_yes
    have s2 := as_int_no
    have s3 := as_uint_yes
    have s4 := as_uint_no
    have HP : Hid (Calls Tryd.prog 65 #[.pointer (some ⟨b, 0, none⟩), .int .u8 1] w fun e w' => e = .returned (.iface 47 (.pointer (some ⟨b, 5, none⟩))) ∧ w' = w) := place_any b 1 HF.out _
    go_enter Tryd.func48, Tryd.ntmps48
    go_wp2_with (go_at_call 65; ((with_reducible refine HP.out.mono ?_); rintro e w' ⟨rfl, rfl⟩))
    refine bodyPost_end (results_none rfl _ _ _) rfl ?_
    exact ⟨⟨_, rfl⟩, rfl⟩
  · have hfr := h.free 6
    clear hf h
    have s1 := as_int_yes
    have s2 := as_int_no
    have s3 := as_uint_yes
    have s4 := as_uint_no
    have HP : Hid (Calls Tryd.prog 65 #[.pointer (some ⟨b, 0, none⟩), .int .u8 2] w fun e w' => e = .returned (.iface 47 (.pointer (some ⟨b, 6, none⟩))) ∧ w' = w) := place_any b 2 HF.out _
    go_enter Tryd.func48, Tryd.ntmps48
    go_wp2_with (go_at_call 65; ((with_reducible refine HP.out.mono ?_); rintro e w' ⟨rfl, rfl⟩))
    refine bodyPost_end (results_none rfl _ _ _) rfl ?_
    exact ⟨⟨_, rfl⟩, rfl⟩
  · have hfr := h.free 7
    clear hf h
    have s1 := as_int_yes
    have s2 := as_int_no
    have s3 := as_uint_yes
    have s4 := as_uint_no
    have HP : Hid (Calls Tryd.prog 65 #[.pointer (some ⟨b, 0, none⟩), .int .u8 3] w fun e w' => e = .returned (.iface 47 (.pointer (some ⟨b, 7, none⟩))) ∧ w' = w) := place_any b 3 HF.out _
    go_enter Tryd.func48, Tryd.ntmps48
    go_wp2_with (go_at_call 65; ((with_reducible refine HP.out.mono ?_); rintro e w' ⟨rfl, rfl⟩))
    refine bodyPost_end (results_none rfl _ _ _) rfl ?_
    exact ⟨⟨_, rfl⟩, rfl⟩
  · have hfr := h.free 8
    clear hf h
    have s1 := as_int_yes
    have s2 := as_int_no
    have s3 := as_uint_yes
    have s4 := as_uint_no
    have HP : Hid (Calls Tryd.prog 65 #[.pointer (some ⟨b, 0, none⟩), .int .u8 4] w fun e w' => e = .returned (.iface 47 (.pointer (some ⟨b, 8, none⟩))) ∧ w' = w) := place_any b 4 HF.out _
    go_enter Tryd.func48, Tryd.ntmps48
    go_wp2_with (go_at_call 65; ((with_reducible refine HP.out.mono ?_); rintro e w' ⟨rfl, rfl⟩))
    refine bodyPost_end (results_none rfl _ _ _) rfl ?_
    exact ⟨⟨_, rfl⟩, rfl⟩
  · have hfr := h.free 9
    clear hf h
    have s1 := as_int_yes
    have s2 := as_int_no
    have s3 := as_uint_yes
    have s4 := as_uint_no
    have HP : Hid (Calls Tryd.prog 65 #[.pointer (some ⟨b, 0, none⟩), .int .u8 5] w fun e w' => e = .returned (.iface 115 (.pointer (some ⟨b, 9, none⟩))) ∧ w' = w) := place_any b 5 HF.out _
    go_enter Tryd.func48, Tryd.ntmps48
    go_wp2_with (go_at_call 65; ((with_reducible refine HP.out.mono ?_); rintro e w' ⟨rfl, rfl⟩))
    refine bodyPost_end (results_none rfl _ _ _) rfl ?_
    exact ⟨⟨_, rfl⟩, rfl⟩
  · have hfr := h.free 10
    clear hf h
    have s1 := as_int_yes
    have s2 := as_int_no
    have s3 := as_uint_yes
    have s4 := as_uint_no
    have HP : Hid (Calls Tryd.prog 65 #[.pointer (some ⟨b, 0, none⟩), .int .u8 6] w fun e w' => e = .returned (.iface 47 (.pointer (some ⟨b, 10, none⟩))) ∧ w' = w) := place_any b 6 HF.out _
    go_enter Tryd.func48, Tryd.ntmps48
    go_wp2_with (go_at_call 65; ((with_reducible refine HP.out.mono ?_); rintro e w' ⟨rfl, rfl⟩))
    refine bodyPost_end (results_none rfl _ _ _) rfl ?_
    exact ⟨⟨_, rfl⟩, rfl⟩
end Go.Proofs.YtainjicbmjfnkaaDoor
