/-
  Order, Reverse, Power's errors.
-/
import Derived.Test.YtnnakoljbdlhoaaDoorMulMod
namespace Go.Proofs.YtnnakoljbdlhoaaDoor
open Go.RowKit
set_option linter.unusedVariables false

/-- The powers of x modulo m. -/
def pw (m : Nat) : Nat → Nat
  | 0 => Gf.pmod 1 m
  | k + 1 => Gf.pmod (2 * pw m k) m
theorem two_pmul1 (z : Nat) : 2 * z = Gf.pmul z 2 := by have := Gf.pmul_two z 1; rw [Gf.pmul_one] at this; exact this.symm
theorem pw_one (m : Nat) (hm : m ≠ 0) : pw m 1 = Gf.pmod 2 m := by
  show Gf.pmod (2 * Gf.pmod 1 m) m = _
  rw [two_pmul1, Gf.mod_mul _ _ hm, Gf.one_pmul]
theorem pw_len (m : Nat) (hm : m ≠ 0) (k : Nat) : Gf.len (pw m k) < Gf.len m := by cases k <;> exact Gf.mod_len _ hm
theorem pw_63 (m : Nat) (hm : m ≠ 0) (h : m < 2 ^ 64) (k : Nat) : pw m k < 2 ^ 63 := Gf.len_le.1 (by have := pw_len m hm k; have := len_64 h; omega)

set_option maxRecDepth 100000 in
theorem order_arg (m : Nat) (hm : m < 2 ^ 64) (h : Gf.len m ≤ 1 ∨ 21 < Gf.len m) (w : World) : Calls Tryd.prog 26 #[.int .u64 m] w fun e w' => e = .returned (.tuple #[.int .i64 0, .int .i64 2]) ∧ w = w' := by
  have HM := Lib.hid hm
  have hl64 := len_64 hm
  obtain ⟨d, hd⟩ : ∃ d : Int, d = (Gf.len m : Int) - 1 := ⟨_, rfl⟩
  have HD := Lib.hid hd
  rcases h with h | h
  · have hI : d < 1 := by omega
    clear hm hd h
    go_enter Tryd.func26, Tryd.ntmps26
    go_wp2_with (go_at_call 23; ((with_reducible refine (degree_any m HM.out d HD.out _).mono ?_); rintro e w1 ⟨rfl, rfl⟩))
    go_ret2
    exact ⟨rfl, rfl⟩
  · have hI : 20 < d := by omega
    have hI2 : 1 ≤ d := by omega
    clear hm hd h
    go_enter Tryd.func26, Tryd.ntmps26
    go_wp2_with (go_at_call 23; ((with_reducible refine (degree_any m HM.out d HD.out _).mono ?_); rintro e w1 ⟨rfl, rfl⟩))
    go_ret2
    exact ⟨rfl, rfl⟩
theorem mod_by2 (m r : Nat) (hm : m < 2 ^ 64) (hr : Gf.pmod m 2 = r) (w : World) : Calls Tryd.prog 44 #[.int .u64 m, .int .u64 2] w fun e w' => e = .returned (.int .u64 r) ∧ w = w' := mod_any m 2 hm (by decide) (by decide) r hr w
theorem mod_2by (m r : Nat) (hm : m < 2 ^ 64) (h0 : m ≠ 0) (hr : Gf.pmod 2 m = r) (w : World) : Calls Tryd.prog 44 #[.int .u64 2, .int .u64 m] w fun e w' => e = .returned (.int .u64 r) ∧ w = w' := mod_any 2 m (by decide) hm h0 r hr w
set_option maxRecDepth 100000 in
theorem order_none (m : Nat) (hm : m < 2 ^ 64) (h1 : 2 ≤ Gf.len m) (h2 : Gf.len m ≤ 21) (h0 : Gf.pmod m 2 = 0) (w : World) : Calls Tryd.prog 26 #[.int .u64 m] w fun e w' => e = .returned (.tuple #[.int .i64 0, .int .i64 6]) ∧ w = w' := by
  have HM := Lib.hid hm
  have H0 := Lib.hid h0
  obtain ⟨d, hd⟩ : ∃ d : Int, d = (Gf.len m : Int) - 1 := ⟨_, rfl⟩
  have HD := Lib.hid hd
  have hI : 1 ≤ d := by omega
  have hI2 : d ≤ 20 := by omega
  clear hm hd h0
  go_enter Tryd.func26, Tryd.ntmps26
  go_wp2_with (first
    | (go_at_call 23; ((with_reducible refine (degree_any m HM.out d HD.out _).mono ?_); rintro e w1 ⟨rfl, rfl⟩))
    | (go_at_call 44; go_loud ((refine (mod_any m 2 HM.out (by decide) (by decide) 0 H0.out _).mono ?_); rintro e w1 ⟨rfl, rfl⟩)))
  go_ret2
  exact ⟨rfl, rfl⟩
set_option maxRecDepth 100000 in
set_option maxHeartbeats 1000000 in
theorem order_is (m N : Nat) (hm : m < 2 ^ 64) (h1 : 2 ≤ Gf.len m) (h2 : Gf.len m ≤ 21) (h0 : Gf.pmod m 2 ≠ 0) (hN : 1 ≤ N) (hN2 : N ≤ 1000000000) (hone : pw m N = 1) (hmin : ∀ k, 1 ≤ k → k < N → pw m k ≠ 1) (w : World) : Calls Tryd.prog 26 #[.int .u64 m] w fun e w' => e = .returned (.tuple #[.int .i64 N, .int .i64 0]) ∧ w = w' := by
  have hm0 : m ≠ 0 := by intro e; subst e; simp [Gf.len_zero] at h1
  have HM0 := Lib.hid hm0
  have HM := Lib.hid hm
  obtain ⟨r, hr⟩ : ∃ r, Gf.pmod m 2 = r := ⟨_, rfl⟩
  rw [hr] at h0
  have hrI : ((r : Int) == 0) = false := by simp; omega
  have HR := Lib.hid hr
  have HONE := Lib.hid hone
  have HMIN := Lib.hid hmin
  obtain ⟨d, hd⟩ : ∃ d : Int, d = (Gf.len m : Int) - 1 := ⟨_, rfl⟩
  have HD := Lib.hid hd
  have hI : 1 ≤ d := by omega
  have hI2 : d ≤ 20 := by omega
  have hI3 : decide (d < 1) = false := by simp; omega
  have hI4 : decide (20 < d) = false := by simp; omega
  obtain ⟨x1, hx1⟩ : ∃ x1, pw m 1 = x1 := ⟨_, rfl⟩
  have HX1 := Lib.hid hx1
  have HX2 : Hid (Gf.pmod 2 m = x1) := by show _ = _; rw [← pw_one m hm0]; exact hx1
  clear hm hd h0 hm0 hr hone hmin hx1
  go_enter Tryd.func26, Tryd.ntmps26
  go_wp2_with (first
    | (go_at_call 23; ((with_reducible refine (degree_any m HM.out d HD.out _).mono ?_); rintro e w1 ⟨rfl, rfl⟩))
    | (go_at_call 44; ((with_reducible refine (mod_by2 m r HM.out HR.out _).mono ?_); rintro e w1 ⟨rfl, rfl⟩))
    | (go_at_call 44; ((with_reducible refine (mod_2by m x1 HM.out HM0.out HX2.out _).mono ?_); rintro e w1 ⟨rfl, rfl⟩)))
  go_loop [5, 6] (fun n x => ∃ k y : Nat, 1 ≤ k ∧ k ≤ N ∧ n = .int .i64 k ∧ x = .int .u64 y ∧ Hid (pw m k = y)) (fun n _ => N - (intOf n).toNat)
  case atStart => exact ⟨1, x1, Nat.le_refl _, hN, rfl, rfl, HX1⟩
  case round =>
    obtain ⟨k, y, hk1, hkN, rfl, rfl, HY⟩ := hrel
    by_cases hy : y = 1
    · have hyI : ((y : Int) != 1) = false := by simp [hy]
      have HK : Hid (k = N) := by
        rcases Nat.lt_or_ge k N with h | h
        · exact absurd (HY.out.trans hy) (HMIN.out k hk1 h)
        · show k = N; omega
      clear hy
      go_wp2
      go_ret2
      exact ⟨by rw [← HK.out]; rfl, rfl⟩
    · have hyI : ((y : Int) != 1) = true := by simp; omega
      have hlt : k < N := by
        rcases Nat.lt_or_ge k N with h | h
        · exact h
        · exact absurd (HY.out.symm.trans ((show k = N by omega) ▸ HONE.out)) hy
      obtain ⟨z, hz⟩ : ∃ z, Gf.pmod (2 * y) m = z := ⟨_, rfl⟩
      have HZ := Lib.hid hz
      have HY63 : Hid (y < 2 ^ 63) := by show _ < _; rw [← HY.out]; exact pw_63 m HM0.out HM.out k
      have HLT := Lib.hid hlt
      clear hy hz hlt
      go_wp2_with (go_at_call 48; ((with_reducible refine (timesX_any y m HY63.out HM.out HM0.out z HZ.out _).mono ?_); rintro e w1 ⟨rfl, rfl⟩))
      go_round
      case rel => exact ⟨k + 1, z, by omega, HLT.out, by go_num, rfl, by show pw m (k + 1) = z; rw [pw, HY.out, HZ.out]⟩
      case measure => have := HLT.out; simp [intOf]; omega

/-- Reverse, as the program reckons it: one step with a mask. -/
def revS (x d mk : Int) : Int := bits .or .u64 (bits .and .u64 (x / d) mk) (IntKind.u64.wrap (bits .and .u64 x mk * d))
def revB (x : Int) : Int :=
  bits .or .u64 (revS (revS x 256 71777214294589695) 65536 281470681808895 / 4294967296) (IntKind.u64.wrap (revS (revS x 256 71777214294589695) 65536 281470681808895 * 4294967296))
def revI (x : Int) : Int := revB (revS (revS (revS x 2 6148914691236517205) 4 3689348814741910323) 16 1085102592571150095)
set_option maxRecDepth 100000 in
theorem rev_bytes (x : Int) (w : World) : Calls Tryd.prog 63 #[.int .u64 x] w fun e w' => e = .returned (.int .u64 (revB x)) ∧ w = w' := by
  go_enter Tryd.func63, Tryd.ntmps63
  go_wp2
  go_ret
  exact ⟨rfl, rfl⟩
set_option maxRecDepth 100000 in
theorem rev_bits (x : Int) (w : World) : Calls Tryd.prog 49 #[.int .u64 x] w fun e w' => e = .returned (.int .u64 (revI x)) ∧ w = w' := by
  go_enter Tryd.func49, Tryd.ntmps49
  go_wp2_with (go_at_call 63; ((refine (rev_bytes _ _).mono ?_); rintro e w1 ⟨rfl, rfl⟩))
  go_ret
  exact ⟨rfl, rfl⟩
set_option maxRecDepth 100000 in
theorem reverse_any (x : Int) (n : Nat) (hn : n ≤ 64) (y : Int) (hy : revI x / 2 ^ (64 - n) = y) (w : World) : Calls Tryd.prog 28 #[.int .u64 x, .int .i64 n] w fun e w' => e = .returned (.tuple #[.int .u64 y, .int .i64 0]) ∧ w = w' := by
  obtain ⟨k, hk⟩ : ∃ k, 64 - n = k := ⟨_, rfl⟩
  rw [hk] at hy
  have hnI : (n : Int) ≤ 64 := by omega
  have hn0 : (0 : Int) ≤ (n : Int) := by omega
  have hkI : (64 : Int) - (n : Int) = (k : Int) := by omega
  have hk0 : (0 : Int) ≤ (k : Int) := by omega
  have hk64 : (k : Int) ≤ 64 := by omega
  have HY := Lib.hid hy
  clear hy hk hn
  go_enter Tryd.func28, Tryd.ntmps28
  go_wp2_with (go_at_call 49; ((with_reducible refine (rev_bits _ _).mono ?_); rintro e w1 ⟨rfl, rfl⟩))
  go_ret2
  trace_state
  exact ⟨by rw [← HY.out]; rfl, rfl⟩
set_option maxRecDepth 100000 in
theorem reverse_arg (x : Nat) (n : Int) (h : n < 0 ∨ 64 < n) (w : World) : Calls Tryd.prog 28 #[.int .u64 x, .int .i64 n] w fun e w' => e = .returned (.tuple #[.int .u64 0, .int .i64 2]) ∧ w = w' := by
  by_cases hn : n < 0
  · clear h
    go_enter Tryd.func28, Tryd.ntmps28
    go_wp2
    go_ret2
    exact ⟨rfl, rfl⟩
  · have h1 : 64 < n := by omega
    have h2 : 0 ≤ n := by omega
    clear h hn
    go_enter Tryd.func28, Tryd.ntmps28
    go_wp2
    go_ret2
    exact ⟨rfl, rfl⟩
set_option maxRecDepth 100000 in
theorem power_arg (n : Int) (m : Nat) (h : m = 0 ∨ n < 0) (w : World) : Calls Tryd.prog 25 #[.int .i64 n, .int .u64 m] w fun e w' => e = .returned (.tuple #[.int .u64 0, .int .i64 2]) ∧ Below w.heap.size w w' := by
  by_cases hm : m = 0
  · subst hm
    clear h
    go_enter Tryd.func25, Tryd.ntmps25
    go_wp2
    go_ret2
    exact ⟨rfl, (Below.refl _ w).alloc (Nat.le_refl _) _⟩
  · have h1 : n < 0 := by omega
    have hmI : ((m : Int) == 0) = false := by simp; omega
    clear h hm
    go_enter Tryd.func25, Tryd.ntmps25
    go_wp2
    go_ret2
    exact ⟨rfl, (Below.refl _ w).alloc (Nat.le_refl _) _⟩

end Go.Proofs.YtnnakoljbdlhoaaDoor
