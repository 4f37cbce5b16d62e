/-
  Order, Reverse, Power's errors.
-/
import Derived.Test.YtoecddkglenigaaDoorMulMod
namespace Go.Proofs.YtoecddkglenigaaDoor
open Go.RowKit
set_option linter.unusedVariables false

/-- The powers of x modulo m. -/
def pw (m : Nat) : Nat → Nat
  | 0 => Gf.pmod 1 m
  | k + 1 => Gf.pmod (2 * pw m k) m
theorem two_pmul1 (z : Nat) : 2 * z = Gf.pmul z 2 := by have := Gf.pmul_two z 1; rw [Gf.pmul_one] at this; exact this.symm
theorem pw_one (m : Nat) (hm : m ≠ 0) : pw m 1 = Gf.pmod 2 m := by
  show Gf.pmod (2 * Gf.pmod 1 m) m = _
  rw [two_pmul1, Gf.mod_mul _ _ hm, Gf.one_pmul]
theorem pw_len (m : Nat) (hm : m ≠ 0) (k : Nat) : Gf.len (pw m k) < Gf.len m := by cases k <;> exact Gf.mod_len _ hm
theorem pw_63 (m : Nat) (hm : m ≠ 0) (h : m < 2 ^ 64) (k : Nat) : pw m k < 2 ^ 63 := Gf.len_le.1 (by have := pw_len m hm k; have := len_64 h; omega)

theorem mod_by2 (m r : Nat) (hm : m < 2 ^ 64) (hr : Gf.pmod m 2 = r) (w : World) : Calls Tryd.prog 64 #[.int .u64 m, .int .u64 2] w fun e w' => e = .returned (.int .u64 r) ∧ w = w' := mod_any m 2 hm (by decide) (by decide) r hr w
theorem mod_2by (m r : Nat) (hm : m < 2 ^ 64) (h0 : m ≠ 0) (hr : Gf.pmod 2 m = r) (w : World) : Calls Tryd.prog 64 #[.int .u64 2, .int .u64 m] w fun e w' => e = .returned (.int .u64 r) ∧ w = w' := mod_any 2 m (by decide) hm h0 r hr w
/-- Reverse, as the program reckons it: one step with a mask. -/
def revS (x d mk : Int) : Int := bits .or .u64 (bits .and .u64 (x / d) mk) (IntKind.u64.wrap (bits .and .u64 x mk * d))
def revB (x : Int) : Int :=
  bits .or .u64 (revS (revS x 256 71777214294589695) 65536 281470681808895 / 4294967296) (IntKind.u64.wrap (revS (revS x 256 71777214294589695) 65536 281470681808895 * 4294967296))
def revI (x : Int) : Int := revB (revS (revS (revS x 2 6148914691236517205) 4 3689348814741910323) 16 1085102592571150095)
set_option maxRecDepth 100000 in
theorem rev_bytes (x : Int) (w : World) : Calls Tryd.prog 90 #[.int .u64 x] w fun e w' => e = .returned (.int .u64 (revB x)) ∧ w = w' := by
  go_enter Tryd.func90, Tryd.ntmps90
  go_wp2
  go_ret
  exact ⟨rfl, rfl⟩
set_option maxRecDepth 100000 in
theorem rev_bits (x : Int) (w : World) : Calls Tryd.prog 83 #[.int .u64 x] w fun e w' => e = .returned (.int .u64 (revI x)) ∧ w = w' := by
  go_enter Tryd.func83, Tryd.ntmps83
  go_wp2_with (go_at_call 90; ((refine (rev_bytes _ _).mono ?_); rintro e w1 ⟨rfl, rfl⟩))
  go_ret
  exact ⟨rfl, rfl⟩
set_option maxRecDepth 100000 in
theorem reverse_any (x : Int) (n : Nat) (hn : n ≤ 64) (y : Int) (hy : revI x / 2 ^ (64 - n) = y) (w : World) : Calls Tryd.prog 65 #[.int .u64 x, .int .i64 n] w fun e w' => e = .returned (.tuple #[.int .u64 y, .int .i64 0]) ∧ w = w' := by
  obtain ⟨k, hk⟩ : ∃ k, 64 - n = k := ⟨_, rfl⟩
  rw [hk] at hy
  have hnI : (n : Int) ≤ 64 := by omega
  have hn0 : (0 : Int) ≤ (n : Int) := by omega
  have hkI : (64 : Int) - (n : Int) = (k : Int) := by omega
  have hk0 : (0 : Int) ≤ (k : Int) := by omega
  have hk64 : (k : Int) ≤ 64 := by omega
  have HY := Lib.hid hy
  clear hy hk hn
  go_enter Tryd.func65, Tryd.ntmps65
  go_wp2_with (go_at_call 83; ((with_reducible refine (rev_bits _ _).mono ?_); rintro e w1 ⟨rfl, rfl⟩))
  go_ret2
  exact ⟨by rw [← HY.out]; rfl, rfl⟩
set_option maxRecDepth 100000 in
theorem reverse_arg (x : Nat) (n : Int) (h : n < 0 ∨ 64 < n) (w : World) : Calls Tryd.prog 65 #[.int .u64 x, .int .i64 n] w fun e w' => e = .returned (.tuple #[.int .u64 0, .int .i64 2]) ∧ w = w' := by
  by_cases hn : n < 0
  · clear h
    go_enter Tryd.func65, Tryd.ntmps65
    go_wp2
    go_ret2
    exact ⟨rfl, rfl⟩
  · have h1 : 64 < n := by omega
    have h2 : 0 ≤ n := by omega
    clear h hn
    go_enter Tryd.func65, Tryd.ntmps65
    go_wp2
    go_ret2
    exact ⟨rfl, rfl⟩
set_option maxRecDepth 100000 in
theorem power_arg (n : Int) (m : Nat) (h : m = 0 ∨ n < 0) (w : World) : Calls Tryd.prog 66 #[.int .i64 n, .int .u64 m] w fun e w' => e = .returned (.tuple #[.int .u64 0, .int .i64 2]) ∧ Below w.heap.size w w' := by
  by_cases hm : m = 0
  · subst hm
    clear h
    go_enter Tryd.func66, Tryd.ntmps66
    go_wp2
    go_ret2
    exact ⟨rfl, (Below.refl _ w).alloc (Nat.le_refl _) _⟩
  · have h1 : n < 0 := by omega
    have hmI : ((m : Int) == 0) = false := by simp; omega
    clear h hm
    go_enter Tryd.func66, Tryd.ntmps66
    go_wp2
    go_ret2
    exact ⟨rfl, (Below.refl _ w).alloc (Nat.le_refl _) _⟩

end Go.Proofs.YtoecddkglenigaaDoor
