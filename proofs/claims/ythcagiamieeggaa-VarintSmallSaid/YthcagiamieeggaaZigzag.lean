/-
  The walk of VarintZigzag.
-/
import Derived.Deep.RegionWith
import Derived.OpenShut
import Derived.Test.YthcagiamieeggaaAwake
namespace Go.Proofs.Ythcagiamieeggaa
open Go.RowKit
set_option linter.unusedVariables false

theorem uz_zz (a : Int) (p : Nat) (h : zz a = (p : Int)) : uz p = a := by unfold zz at h; unfold uz; split at h <;> split <;> omega
theorem neg_wrap (a : Int) (h1 : -9223372036854775808 ≤ a) (h : a < 0) : IntKind.u64.wrap (-IntKind.u64.wrap a) = -a := by
  rw [IntKind.wrap_u64, IntKind.wrap_u64]; omega
theorem ret_true {c : Bool} (h : c = true) : Ending.returned (.bool c) = .returned (.bool true) := by rw [h]
theorem zz_uz (x : Nat) : zz (uz x) = (x : Int) := by unfold zz uz; split <;> split <;> omega
theorem uz_bd (x : Nat) (h : x < 2 ^ 64) : -9223372036854775808 ≤ uz x ∧ uz x ≤ 9223372036854775807 := by unfold uz; split <;> omega

set_option maxRecDepth 100000 in
set_option maxHeartbeats 2000000 in
theorem zigzag_law (x : Nat) (a b : Int) (hx : x < 2 ^ 64) (ha1 : -9223372036854775808 ≤ a) (ha2 : a ≤ 9223372036854775807) (hb1 : -9223372036854775808 ≤ b) (hb2 : b ≤ 9223372036854775807) (w : World) :
    Calls Try.prog 10 #[.int .u64 x, .int .i64 a, .int .i64 b] w fun e w' => e = .returned (.bool true) ∧ Below w.heap.size w w' := by
  obtain ⟨p, hp⟩ : ∃ p : Nat, zz a = (p : Int) := ⟨(zz a).toNat, by unfold zz; split <;> omega⟩
  obtain ⟨q, hq⟩ : ∃ q : Nat, zz b = (q : Int) := ⟨(zz b).toNat, by unfold zz; split <;> omega⟩
  have hp64 : p < 2 ^ 64 := by unfold zz at hp; split at hp <;> omega
  have hq64 : q < 2 ^ 64 := by unfold zz at hq; split at hq <;> omega
  have hub := uz_bd x hx
  have HP := Lib.hid hp
  have HQ := Lib.hid hq
  have h1 : ((p : Int) == (q : Int)) = (a == b) := by
    rw [Bool.eq_iff_iff]; simp only [beq_iff_eq]; unfold zz at hp hq; split at hp <;> split at hq <;> omega
  have h2 : ((p : Int) % 2 == 1) = decide (a < 0) := by
    rw [Bool.eq_iff_iff]; simp only [beq_iff_eq, decide_eq_true_eq]; unfold zz at hp; split at hp <;> omega
  clear hp hq
  have neg_a := neg_wrap a ha1
  have neg_b := neg_wrap b hb1
  go_enter Try.func10, Try.ntmps10
  go_wp2_with (first
    | (go_at_call 13; refine (awake_any _).mono ?_; rintro e w1 ⟨rfl, hB⟩)
    | (go_at_call_of 23 a; refine (zigzag_any a ha1 ha2 _).mono ?_; rintro e w' ⟨rfl, rfl⟩; rw [HP.out])
    | (go_at_call_of 23 b; refine (zigzag_any b hb1 hb2 _).mono ?_; rintro e w' ⟨rfl, rfl⟩; rw [HQ.out])
    | (go_at_call_of 24 x; refine (unzigzag_any x hx _).mono ?_; rintro e w' ⟨rfl, rfl⟩)
    | (go_at_call_of 24 p; refine (unzigzag_any p hp64 _).mono ?_; rintro e w' ⟨rfl, rfl⟩; rw [uz_zz a p HP.out])
    | (go_at_call_of 23 (uz x); refine (zigzag_any (uz x) hub.1 hub.2 _).mono ?_; rintro e w' ⟨rfl, rfl⟩; rw [zz_uz x]))
  all_goals go_ret
  all_goals refine ⟨?_, hB⟩
  all_goals first | rfl | skip
  all_goals refine ret_true ?_
  all_goals simp only [Bool.or_eq_true, beq_iff_eq, decide_eq_decide]
  all_goals have e1 := HP.out
  all_goals have e2 := HQ.out
  all_goals unfold zz at e1 e2
  all_goals split at e1 <;> split at e2 <;> omega

theorem zigzag_walk (a0 : Int) (a1 : Int) (a2 : Int) (w0 : (Lit.int .u64 a0).wf = true) (w1 : (Lit.int .i64 a1).wf = true) (w2 : (Lit.int .i64 a2).wf = true) (w : World) :
    Calls Try.prog 10 #[.int .u64 a0, .int .i64 a1, .int .i64 a2] w fun e w' => e = .returned (.bool true) ∧ Below w.heap.size w w' := by
  have b0 := bounds_u64 w0
  have b1 := bounds_i64 w1
  have b2 := bounds_i64 w2
  obtain ⟨x, rfl⟩ := Int.eq_ofNat_of_zero_le b0.1
  exact zigzag_law x a1 a2 (by omega) b1.1 b1.2 b2.1 b2.2 w

end Go.Proofs.Ythcagiamieeggaa
