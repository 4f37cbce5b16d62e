/-
  quantumref01.Write (a seat without the zigzag functions).
-/
import Derived.OwnWalk
import Derived.Test.YtdemlifjhlpclaaCounts
namespace Go.Proofs.Ytdemlifjhlpclaa
open Go.RowKit
set_option linter.unusedVariables false


set_option maxRecDepth 100000 in
set_option maxHeartbeats 1000000 in
theorem refWrite_any (x : Nat) (hx : x < 2 ^ 64) (w : World) : Calls Try.prog 42 #[.int .u64 x] w fun e w' => ∃ v, e = .returned v ∧ w'.ownsRow w.heap.size 5 1 v (Vi.form x).length ((Vi.form x).map fun x : Nat => Value.int .u8 x) ∧ Below w.heap.size w w' := by
  have hl := Vi.form_len10 x hx
  obtain ⟨i0, hi, hz0, hz1, hz2⟩ := info_parts infoB
  go_enter Try.func42, Try.ntmps42
  go_wp2
  go_loopw [0, 3] (fun s v wr => ∃ (y : Nat) (pre : List Nat), y < 2 ^ 64 ∧ s = .int .u64 y ∧ Hid (Vi.form x = pre ++ Vi.form y) ∧ wr.ownsRow w.heap.size 5 1 v pre.length (pre.map fun x : Nat => Value.int .u8 x) ∧ Below w.heap.size w wr) (fun s _ _ => (intOf s).toNat)
  case atStart => exact ⟨x, [], hx, rfl, rfl, World.ownsRow_nil _ _ _ _, Below.refl _ _⟩
  case round =>
    obtain ⟨y, pre, hy, rfl, HF, hrow, hB⟩ := hrel
    have hpre : pre.length ≤ 10 := by have := congrArg List.length HF.out; rw [List.length_append] at this; omega
    have hbs := hB.size
    by_cases hlt : y < 128
    · have H1 : Hid (Vi.form x = pre ++ [y]) := by have := HF.out; rwa [Vi.form_small hlt] at this
      clear HF
      go_wp2_with (at_builtin; refine wpList_append_own _ rfl _ _ 22 rfl w.heap.size 5 i0 (.int .u8 0) 1 1 Try.underlying22 hi hz0 hz1 hz2 rfl (by decide) _ _ _ rfl (hrow.alloc _) ⟨wr.heap.size, 0, none⟩ 1 1 [.int .u8 (y : Int)] rfl rfl (cell_one_new _ _ _) (by simp [Value.oneCell']) (by unfold maxLen; omega) (by omega) (by simp; omega) ?_; intro v2 w1 hown' hgrow _; obtain ⟨g', cap', rfl⟩ := ownsRow_succ hown')
      go_ret
      have hB1 : Below w.heap.size w w1 := (hB.alloc hbs _).grown hgrow (by simp; omega) (fun k ek => (hrow.lt k ek).1)
      exact ⟨_, rfl, by rw [H1.out]; simpa using hown', hB1⟩
    · have H1 : Hid (Vi.form x = (pre ++ [y % 128 + 128]) ++ Vi.form (y / 128)) := by have := HF.out; rw [Vi.form_big (x := y) (by omega)] at this; rw [this]; simp [Hid]
      clear HF
      go_wp2_with (at_builtin; refine wpList_append_own _ rfl _ _ 22 rfl w.heap.size 5 i0 (.int .u8 0) 1 1 Try.underlying22 hi hz0 hz1 hz2 rfl (by decide) _ _ _ rfl (hrow.alloc _) ⟨wr.heap.size, 0, none⟩ 1 1 [.int .u8 (128 + (y : Int) % 128)] rfl rfl (cell_one_new _ _ _) (by simp [Value.oneCell']) (by unfold maxLen; omega) (by omega) (by simp; omega) ?_; intro v2 w1 hown' hgrow _; obtain ⟨g', cap', rfl⟩ := ownsRow_succ hown')
      have hB1 : Below w.heap.size w w1 := (hB.alloc hbs _).grown hgrow (by simp; omega) (fun k ek => (hrow.lt k ek).1)
      refine ⟨⟨y / 128, pre ++ [y % 128 + 128], by omega, by go_num, H1, ?_, hB1⟩, by simp [intOf]; omega⟩
      have e : (128 + (y : Int) % 128) = ((y % 128 + 128 : Nat) : Int) := by omega
      rw [e] at hown'
      simpa using hown'

end Go.Proofs.Ytdemlifjhlpclaa
