/-
  How many bits a number has: Len64, Len, Degree.
-/
import Derived.Test.YtoecddkglenigaaDoorGf
import Derived.Test.YtoecddkglenigaaDoorProg
import Derived.Lib.Strings
import Derived.Lib.Slices
import Derived.Lib.Small
import Derived.Lib.Walk
import Derived.Lib.BitFns
namespace Go.Proofs.YtoecddkglenigaaDoor
set_option linter.unusedVariables false

theorem len_half (n : Nat) (h : n ≠ 0) : Gf.len n = Gf.len (n / 2) + 1 := by
  by_cases h1 : n / 2 = 0
  · have : n = 1 := by omega
    subst this; decide
  · have e := Gf.len_two h1
    have l := Gf.len_le (p := n) (n := Gf.len (2 * (n / 2)))
    have k := Gf.len_pos h1
    obtain ⟨m, hm⟩ : ∃ m, Gf.len (n / 2) = m + 1 := ⟨Gf.len (n / 2) - 1, by omega⟩
    have a1 := Gf.lt_len.1 (show m < Gf.len (n / 2) by omega)
    have a2 := Gf.len_le.1 (Nat.le_of_eq hm)
    rw [hm]
    exact Gf.len_eq (by rw [Nat.pow_succ]; omega) (by rw [Nat.pow_succ 2 (m + 1)]; omega)
theorem bitLen_len (n : Nat) (hn : n < 2 ^ 64) : Lib.bitLen n = Gf.len n := by
  induction n using Nat.strongRecOn with
  | ind n ih =>
    by_cases h : n = 0
    · subst h; rfl
    · rw [Lib.bitLen_half n h hn, len_half n h, ih (n / 2) (by omega) (by omega)]; omega
theorem len_div (k x : Nat) (h : x / 2 ^ k ≠ 0) : Gf.len x = Gf.len (x / 2 ^ k) + k := by
  induction k generalizing x with
  | zero => simp
  | succ k ih =>
    have e : x / 2 ^ (k + 1) = x / 2 / 2 ^ k := by rw [Nat.pow_succ, Nat.mul_comm, Nat.div_div_eq_div_mul]
    have hx : x ≠ 0 := by intro e; subst e; simp at h
    rw [e] at h ⊢
    rw [len_half x hx, ih (x / 2) h]; omega
theorem len_at (x k : Nat) (v : Int) (hv : v.toNat = x / 2 ^ k) (h : 1 ≤ x / 2 ^ k) : (k : Int) + (Gf.len v.toNat : Int) = (Gf.len x : Int) := by
  rw [hv, len_div k x (by omega)]; omega

/-- One way of the table: what is looked up, and the bits that were cut off before. -/
theorem len_way (x : Int) (h0 : 0 ≤ x) (h1 : x ≤ 18446744073709551615) (k : Nat) (v : Int) (hv : v.toNat = x.toNat / 2 ^ k) (hb : 0 ≤ v ∧ v ≤ 255) (h : k = 0 ∨ 1 ≤ x.toNat / 2 ^ k) : (Lib.bitLen v.toNat : Int) + (k : Int) = (Gf.len x.toNat : Int) ∧ Lib.bitLen v.toNat ≤ 8 := by
  refine ⟨?_, Lib.bitLen_le8' v hb.1 hb.2⟩
  rw [bitLen_len _ (by omega)]
  rcases h with h | h
  · subst h; rw [hv]; simp
  · have := len_at x.toNat k v hv h; omega

set_option maxRecDepth 100000 in
set_option maxHeartbeats 4000000 in
theorem len64_int (x : Int) (h0 : 0 ≤ x) (h1 : x ≤ 18446744073709551615) (w : World) : Calls Tryd.prog 76 #[.int .u64 x] w fun e w' => e = .returned (.int .i64 (Gf.len x.toNat)) ∧ w = w' := by
  go_enter Tryd.func76, Tryd.ntmps76
  go_wp2
  all_goals
    go_ret
    refine ⟨congrArg Ending.returned (congrArg (Value.int IntKind.i64) ?_), rfl⟩
  all_goals first
    | (rw [Lib.len8_of (x / 4294967296 / 65536 / 256 % 256) (by omega) (by omega)]
       obtain ⟨s, l⟩ := len_way x h0 h1 56 (x / 4294967296 / 65536 / 256 % 256) (by omega) (by omega) (by omega)
       omega)
    | (rw [Lib.len8_of (x / 4294967296 / 65536 % 256) (by omega) (by omega)]
       obtain ⟨s, l⟩ := len_way x h0 h1 48 (x / 4294967296 / 65536 % 256) (by omega) (by omega) (by omega)
       omega)
    | (rw [Lib.len8_of (x / 4294967296 / 256 % 256) (by omega) (by omega)]
       obtain ⟨s, l⟩ := len_way x h0 h1 40 (x / 4294967296 / 256 % 256) (by omega) (by omega) (by omega)
       omega)
    | (rw [Lib.len8_of (x / 4294967296 % 256) (by omega) (by omega)]
       obtain ⟨s, l⟩ := len_way x h0 h1 32 (x / 4294967296 % 256) (by omega) (by omega) (by omega)
       omega)
    | (rw [Lib.len8_of (x / 65536 / 256 % 256) (by omega) (by omega)]
       obtain ⟨s, l⟩ := len_way x h0 h1 24 (x / 65536 / 256 % 256) (by omega) (by omega) (by omega)
       omega)
    | (rw [Lib.len8_of (x / 65536 % 256) (by omega) (by omega)]
       obtain ⟨s, l⟩ := len_way x h0 h1 16 (x / 65536 % 256) (by omega) (by omega) (by omega)
       omega)
    | (rw [Lib.len8_of (x / 256 % 256) (by omega) (by omega)]
       obtain ⟨s, l⟩ := len_way x h0 h1 8 (x / 256 % 256) (by omega) (by omega) (by omega)
       omega)
    | (rw [Lib.len8_of (x % 256) (by omega) (by omega)]
       obtain ⟨s, l⟩ := len_way x h0 h1 0 (x % 256) (by omega) (by omega) (by omega)
       omega)

end Go.Proofs.YtoecddkglenigaaDoor
