/-
  The document's own answers of layer 1: sizes, forms, zigzag numbers.
-/
import Derived.OwnWalk
import Derived.Test.YthcagiamieeggaaAny
import Derived.Test.YthcagiamieeggaaHeap
namespace Go.Proofs.Ythcagiamieeggaa
open Go.RowKit
set_option linter.unusedVariables false

theorem infoB : (Try.prog.info? 5).map (fun i => (i.zero, i.size, i.bytes)) = some (some (.int .u8 0), 1, 1) := by kernel_rfl

set_option maxRecDepth 100000 in
set_option maxHeartbeats 400000 in
theorem refSize_any (x : Nat) (hx : x < 2 ^ 64) (w : World) : Calls Try.prog 25 #[.int .u64 x] w fun e w' => e = .returned (.int .i64 (Vi.grp x).length) ∧ w = w' := by
  have hl := Vi.grp_len10 x hx
  go_enter Try.func25, Try.ntmps25
  go_wp2
  go_loop [0, 3] (fun s n => ∃ y k : Nat, y < 2 ^ 64 ∧ s = .int .u64 y ∧ n = .int .i64 k ∧ Hid (k + (Vi.grp y).length = (Vi.grp x).length + 1)) (fun s _ => (intOf s).toNat)
  case atStart => exact ⟨x, 1, hx, rfl, rfl, by show 1 + _ = _; omega⟩
  case round =>
    obtain ⟨y, k, hy, rfl, rfl, HK⟩ := hrel
    have hp := Vi.grp_pos y
    have hk : k ≤ 11 := by have := HK.out; omega
    by_cases hlt : y < 128
    · have H1 : Hid ((k : Int) = ((Vi.grp x).length : Int)) := by
        have := HK.out; rw [Vi.grp_small hlt] at this; simp at this; show (k : Int) = _; omega
      go_wp2
      go_ret
      exact ⟨ret_int' H1.out, rfl⟩
    · have H1 : Hid (k + 1 + (Vi.grp (y / 128)).length = (Vi.grp x).length + 1) := by
        have := HK.out; rw [Vi.grp_big (by omega)] at this; simp at this; show _ = _; omega
      go_wp2
      go_round
      case rel => exact ⟨y / 128, k + 1, by omega, by go_num, by go_num, H1⟩
      case measure => simp [intOf]; omega

set_option maxRecDepth 100000 in
set_option maxHeartbeats 1000000 in
theorem refWrite_any (x : Nat) (hx : x < 2 ^ 64) (w : World) : Calls Try.prog 26 #[.int .u64 x] w fun e w' => ∃ v, e = .returned v ∧ w'.ownsRow w.heap.size 5 1 v (Vi.form x).length ((Vi.form x).map fun x : Nat => Value.int .u8 x) ∧ Below w.heap.size w w' := by
  have hl := Vi.form_len10 x hx
  obtain ⟨i0, hi, hz0, hz1, hz2⟩ := info_parts infoB
  go_enter Try.func26, Try.ntmps26
  go_wp2
  go_loopw [0, 3] (fun s v wr => ∃ (y : Nat) (pre : List Nat), y < 2 ^ 64 ∧ s = .int .u64 y ∧ Hid (Vi.form x = pre ++ Vi.form y) ∧ wr.ownsRow w.heap.size 5 1 v pre.length (pre.map fun x : Nat => Value.int .u8 x) ∧ Below w.heap.size w wr) (fun s _ _ => (intOf s).toNat)
  case atStart => exact ⟨x, [], hx, rfl, rfl, World.ownsRow_nil _ _ _ _, Below.refl _ _⟩
  case round =>
    obtain ⟨y, pre, hy, rfl, HF, hrow, hB⟩ := hrel
    have hpre : pre.length ≤ 10 := by have := congrArg List.length HF.out; rw [List.length_append] at this; omega
    have hbs := hB.size
    by_cases hlt : y < 128
    · have H1 : Hid (Vi.form x = pre ++ [y]) := by have := HF.out; rwa [Vi.form_small hlt] at this
      clear HF
      go_wp2_with (at_builtin; refine wpList_append_own _ rfl _ _ 25 rfl w.heap.size 5 i0 (.int .u8 0) 1 1 Try.underlying25 hi hz0 hz1 hz2 rfl (by decide) _ _ _ rfl (hrow.alloc _) ⟨wr.heap.size, 0, none⟩ 1 1 [.int .u8 (y : Int)] rfl rfl (cell_one_new _ _ _) (by simp [Value.oneCell']) (by unfold maxLen; omega) (by omega) (by simp; omega) ?_; intro v2 w1 hown' hgrow _; obtain ⟨g', cap', rfl⟩ := ownsRow_succ hown')
      go_ret
      have hB1 : Below w.heap.size w w1 := (hB.alloc hbs _).grown hgrow (by simp; omega) (fun k ek => (hrow.lt k ek).1)
      exact ⟨_, rfl, by rw [H1.out]; simpa using hown', hB1⟩
    · have H1 : Hid (Vi.form x = (pre ++ [y % 128 + 128]) ++ Vi.form (y / 128)) := by have := HF.out; rw [Vi.form_big (x := y) (by omega)] at this; rw [this]; simp [Hid]
      clear HF
      go_wp2_with (at_builtin; refine wpList_append_own _ rfl _ _ 25 rfl w.heap.size 5 i0 (.int .u8 0) 1 1 Try.underlying25 hi hz0 hz1 hz2 rfl (by decide) _ _ _ rfl (hrow.alloc _) ⟨wr.heap.size, 0, none⟩ 1 1 [.int .u8 (128 + (y : Int) % 128)] rfl rfl (cell_one_new _ _ _) (by simp [Value.oneCell']) (by unfold maxLen; omega) (by omega) (by simp; omega) ?_; intro v2 w1 hown' hgrow _; obtain ⟨g', cap', rfl⟩ := ownsRow_succ hown')
      have hB1 : Below w.heap.size w w1 := (hB.alloc hbs _).grown hgrow (by simp; omega) (fun k ek => (hrow.lt k ek).1)
      refine ⟨⟨y / 128, pre ++ [y % 128 + 128], by omega, by go_num, H1, ?_, hB1⟩, by simp [intOf]; omega⟩
      have e : (128 + (y : Int) % 128) = ((y % 128 + 128 : Nat) : Int) := by omega
      rw [e] at hown'
      simpa using hown'

set_option maxRecDepth 100000 in
set_option maxHeartbeats 400000 in
theorem refZigzag_any (n : Int) (h1 : -9223372036854775808 ≤ n) (h2 : n ≤ 9223372036854775807) (w : World) :
    Calls Try.prog 27 #[.int .i64 n] w fun e w' => e = .returned (.int .u64 (zz n)) ∧ w = w' := by
  by_cases hn : n < 0
  · have HZ : Hid (2 * (-(n + 1)) + 1 = zz n) := by unfold zz; rw [if_pos hn]; show _ = _; omega
    go_enter Try.func27, Try.ntmps27
    go_wp2
    go_ret
    exact ⟨ret_int' (by rw [← HZ.out]), rfl⟩
  · have HZ : Hid (2 * n = zz n) := by unfold zz; rw [if_neg hn]; rfl
    go_enter Try.func27, Try.ntmps27
    go_wp2
    go_ret
    exact ⟨ret_int' HZ.out, rfl⟩

set_option maxRecDepth 100000 in
set_option maxHeartbeats 400000 in
theorem refUnzigzag_any (x : Nat) (hx : x < 2 ^ 64) (w : World) :
    Calls Try.prog 28 #[.int .u64 x] w fun e w' => e = .returned (.int .i64 (uz x)) ∧ w = w' := by
  by_cases ho : x % 2 = 1
  · have HZ : Hid (-((x : Int) / 2) - 1 = uz x) := by unfold uz; rw [if_pos ho]; rfl
    have e1 : (((x : Int) % 2) == 0) = false := by simp; omega
    go_enter Try.func28, Try.ntmps28
    go_wp2
    go_ret
    exact ⟨ret_int' HZ.out, rfl⟩
  · have HZ : Hid ((x : Int) / 2 = uz x) := by unfold uz; rw [if_neg ho]; rfl
    have e1 : (((x : Int) % 2) == 0) = true := by simp; omega
    go_enter Try.func28, Try.ntmps28
    go_wp2
    go_ret
    exact ⟨ret_int' HZ.out, rfl⟩

end Go.Proofs.Ythcagiamieeggaa
