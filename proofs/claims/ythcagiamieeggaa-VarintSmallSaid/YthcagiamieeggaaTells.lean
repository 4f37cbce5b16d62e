/-
  tells, and the walk of VarintTells.
-/
import Derived.OpenShut
import Derived.Test.YthcagiamieeggaaRef
import Derived.Test.YthcagiamieeggaaPrefix
namespace Go.Proofs.Ythcagiamieeggaa
open Go.RowKit
set_option linter.unusedVariables false

set_option maxRecDepth 100000 in
set_option maxHeartbeats 2000000 in
theorem tells_any (x : Nat) (n : Int) (hx : x < 2 ^ 64) (h1 : -9223372036854775808 ≤ n) (h2 : n ≤ 9223372036854775807) (w : World) :
    Calls Try.prog 12 #[.int .u64 x, .int .i64 n] w fun e w' => e = .returned (.bool true) ∧ Below w.heap.size w w' := by
  have hl := Vi.form_len10 x hx
  have hp := Vi.form_pos x
  have hll : (Vi.form x).length ≤ maxLen := by unfold maxLen; omega
  go_enter Try.func12, Try.ntmps12
  go_wp2_with (first
    | (go_at_call 17; refine (size_any x hx _).mono ?_; rintro e w1 ⟨rfl, hB1⟩)
    | (go_at_call 25; refine (refSize_any x hx _).mono ?_; rintro e w' ⟨rfl, rfl⟩)
    | (go_at_call 16; refine (write_any x hx _).mono ?_; rintro e w2 ⟨v, rfl, hown1, hB2⟩; obtain ⟨g1, c1, rfl⟩ := own_form hown1 hp)
    | (go_at_call 26; refine (refWrite_any x hx _).mono ?_; rintro e w3 ⟨v, rfl, hown2, hB3⟩; obtain ⟨g2, c2, rfl⟩ := own_form hown2 hp)
    | (go_at_call 19; refine (same_at _ _ _ _ (Vi.form x) (Vi.form x) _ _ true rfl rfl (by simp) _ _ _ ((Seen.of_own (k := .u8) hown1).below hB3) (Seen.of_own (k := .u8) hown2) hll hll).mono ?_; rintro e w4 ⟨rfl, hB4⟩)
    | (go_at_call 23; refine (zigzag_any n h1 h2 _).mono ?_; rintro e w' ⟨rfl, rfl⟩)
    | (go_at_call 27; refine (refZigzag_any n h1 h2 _).mono ?_; rintro e w' ⟨rfl, rfl⟩)
    | (go_at_call 24; refine (unzigzag_any x hx _).mono ?_; rintro e w' ⟨rfl, rfl⟩)
    | (go_at_call 28; refine (refUnzigzag_any x hx _).mono ?_; rintro e w' ⟨rfl, rfl⟩))
  go_ret
  exact ⟨rfl, ((hB1.trans (hB2.mono hB1.size)).trans (hB3.mono (Nat.le_trans hB1.size hB2.size))).trans (hB4.mono (Nat.le_trans (Nat.le_trans hB1.size hB2.size) hB3.size))⟩

set_option maxRecDepth 100000 in
set_option maxHeartbeats 2000000 in
theorem tells_walk (a0 : Int) (a1 : Int) (w0 : (Lit.int .u64 a0).wf = true) (w1 : (Lit.int .i64 a1).wf = true) (w : World) :
    Calls Try.prog 3 #[.int .u64 a0, .int .i64 a1] w fun e w' => e = .returned (.bool true) ∧ Below w.heap.size w w' := by
  have b0 := bounds_u64 w0
  have b1 := bounds_i64 w1
  obtain ⟨x, rfl⟩ := Int.eq_ofNat_of_zero_le b0.1
  have hx : x < 2 ^ 64 := by omega
  clear b0 w0 w1
  go_enter Try.func3, Try.ntmps3
  go_wp2_with (first
    | (go_at_call 12; refine (tells_any x a1 hx b1.1 b1.2 _).mono ?_; rintro e w2 ⟨rfl, hB1⟩)
    | (go_at_call 13; refine (awake_any _).mono ?_; rintro e w3 ⟨rfl, hB2⟩))
  go_ret
  exact ⟨rfl, hB1.trans (hB2.mono hB1.size)⟩

end Go.Proofs.Ythcagiamieeggaa
