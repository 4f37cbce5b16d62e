/-
  Shift, Join, Bit.
-/
import Derived.Test.YtoecddkglenigaaDoorSum
namespace Go.Proofs.YtoecddkglenigaaDoor
open Go.RowKit
set_option linter.unusedVariables false

theorem power_G (n : Nat) (hn : n < 2 ^ 63) (p : Nat) (hp : pw Crc.G n = p) (w : World) :
    Calls Tryd.prog 66 #[.int .i64 n, .int .u64 4374732215] w fun e w' => e = .returned (.tuple #[.int .u64 p, .int .i64 0]) ∧ Below w.heap.size w w' := power_any n Crc.G hn (by decide) (by decide) p hp w
theorem powerC_any (n : Nat) (hn : n < 2 ^ 63) (p : Nat) (hp : pw Crc.G n = p) (w : World) :
    Calls Tryd.prog 47 #[.int .i64 n] w fun e w' => e = .returned (.int .u64 p) ∧ Below w.heap.size w w' := by
  have HN := Lib.hid hn
  have HP := Lib.hid hp
  clear hn hp
  go_enter Tryd.func47, Tryd.ntmps47
  go_wp2_with (go_at_call 66; ((with_reducible refine (power_G n HN.out p HP.out _).mono ?_); rintro e w1 ⟨rfl, hbel⟩))
  go_ret
  exact ⟨rfl, hbel⟩
theorem reverse_32 (x : Nat) (hx : x < 2 ^ 64) (y : Nat) (hy : rvN x 32 = y) (w : World) : Calls Tryd.prog 65 #[.int .u64 x, .int .i64 32] w fun e w' => e = .returned (.tuple #[.int .u64 y, .int .i64 0]) ∧ w = w' := reverse_is x 32 hx (by decide) y hy w
theorem polynomial_any (c : Nat) (hc : c < 2 ^ 32) (p : Nat) (hp : rvN c 32 = p) (w : World) :
    Calls Tryd.prog 46 #[.int .u32 c] w fun e w' => e = .returned (.int .u64 p) ∧ w = w' := by
  have HC : Hid (c < 2 ^ 64) := by show _ < _; omega
  have HP := Lib.hid hp
  have hw : IntKind.u64.wrap (c : Int) = (c : Int) := by rw [IntKind.wrap_u64]; omega
  clear hc hp
  go_enter Tryd.func46, Tryd.ntmps46
  go_wp2_with (go_at_call 65; ((with_reducible refine (reverse_32 c HC.out p HP.out _).mono ?_); rintro e w1 ⟨rfl, rfl⟩))
  go_ret
  exact ⟨rfl, rfl⟩
theorem number_any (p : Nat) (hp : p < 2 ^ 64) (c : Nat) (hc : rvN p 32 = c) (w : World) :
    Calls Tryd.prog 48 #[.int .u64 p] w fun e w' => e = .returned (.int .u32 c) ∧ w = w' := by
  have hl : c < 2 ^ 32 := by rw [← hc]; exact rvN_lt _ _ (by decide)
  have hw : IntKind.u32.wrap (c : Int) = (c : Int) := wrap32 c hl
  have HP := Lib.hid hp
  have HC := Lib.hid hc
  clear hc hp hl
  go_enter Tryd.func48, Tryd.ntmps48
  go_wp2_with (go_at_call 65; ((with_reducible refine (reverse_32 p HP.out c HC.out _).mono ?_); rintro e w1 ⟨rfl, rfl⟩))
  go_ret
  exact ⟨rfl, rfl⟩
theorem mulMod_G (a b : Nat) (ha : a < 2 ^ 64) (hb : b < 2 ^ 64) (r : Nat) (hr : Gf.pmod (Gf.pmul a b) Crc.G = r) (w : World) : Calls Tryd.prog 45 #[.int .u64 a, .int .u64 b, .int .u64 4374732215] w fun e w' => e = .returned (.tuple #[.int .u64 r, .int .i64 0]) ∧ w = w' :=
  mulModP_any a b Crc.G ha hb (by decide) (by decide) r hr w

set_option maxHeartbeats 1000000 in
theorem shift_any (c n : Nat) (hc : c < 2 ^ 32) (hn : n ≤ 16777216) (r : Nat) (hr : Crc.sts (8 * n) c = r) (w : World) :
    Calls Tryd.prog 22 #[.int .u32 c, .int .i64 n] w fun e w' => e = .returned (.tuple #[.int .u32 r, .int .i64 0]) ∧ Below w.heap.size w w' := by
  have h1 : ¬ (n : Int) < 0 := by omega
  have h2 : ¬ (16777216 : Int) < (n : Int) := by omega
  have h1b : decide ((n : Int) < 0) = false := by simp
  have h2b : decide ((16777216 : Int) < (n : Int)) = false := by simp; omega
  obtain ⟨m, hm⟩ : ∃ m : Nat, 8 * n = m := ⟨_, rfl⟩
  have hmi : 8 * (n : Int) = (m : Int) := by omega
  have HM : Hid (m < 2 ^ 63) := by show _ < _; omega
  have hm31 : (m : Int) ≤ 2147483647 := by omega
  obtain ⟨p, hp⟩ : ∃ p, rvN c 32 = p := ⟨_, rfl⟩
  obtain ⟨q, hq⟩ : ∃ q, pw Crc.G m = q := ⟨_, rfl⟩
  obtain ⟨z, hz⟩ : ∃ z, Gf.pmod (Gf.pmul p q) Crc.G = z := ⟨_, rfl⟩
  have HPL : Hid (p < 2 ^ 64) := by show _ < _; have := rvN_lt c 32 (by decide); omega
  have HQL : Hid (q < 2 ^ 64) := by show _ < _; have := Crc.pw_G m; omega
  have HZL : Hid (z < 2 ^ 64) := by show _ < _; have := Crc.pmod_G (Gf.pmul p q); omega
  have HZR : Hid (rvN z 32 = r) := by show _ = _; rw [← hz, ← hp, ← hq, Crc.shift_eq c m hc, ← hm]; exact hr
  have HC := Lib.hid hc
  have HP := Lib.hid hp
  have HQ := Lib.hid hq
  have HZ := Lib.hid hz
  clear hc hr hm hp hq hz
  go_enter Tryd.func22, Tryd.ntmps22
  go_wp2_with (first
    | (go_at_call 46; ((with_reducible refine (polynomial_any c HC.out p HP.out _).mono ?_); rintro e w1 ⟨rfl, rfl⟩))
    | (go_at_call 47; ((with_reducible refine (powerC_any m HM.out q HQ.out _).mono ?_); rintro e w2 ⟨rfl, hbel⟩))
    | (go_at_call 45; ((with_reducible refine (mulMod_G p q HPL.out HQL.out z HZ.out _).mono ?_); rintro e w3 ⟨rfl, rfl⟩))
    | (go_at_call 48; ((with_reducible refine (number_any z HZL.out r HZR.out _).mono ?_); rintro e w4 ⟨rfl, rfl⟩)))
  go_ret2
  exact ⟨rfl, hbel⟩
theorem shift_arg (c n : Int) (hn : n < 0 ∨ 16777216 < n) (w : World) :
    Calls Tryd.prog 22 #[.int .u32 c, .int .i64 n] w fun e w' => e = .returned (.tuple #[.int .u32 0, .int .i64 2]) ∧ w = w' := by
  rcases hn with h | h
  · go_enter Tryd.func22, Tryd.ntmps22
    go_wp2
    go_ret2
    exact ⟨rfl, rfl⟩
  · have h0 : ¬ n < 0 := by omega
    have h0b : decide (n < 0) = false := by simp; omega
    go_enter Tryd.func22, Tryd.ntmps22
    go_wp2
    go_ret2
    exact ⟨rfl, rfl⟩

theorem join_any (a b n : Nat) (ha : a < 2 ^ 32) (hb : b < 2 ^ 32) (hn : n ≤ 16777216) (r : Nat) (hr : Crc.sts (8 * n) a ^^^ b = r) (w : World) :
    Calls Tryd.prog 34 #[.int .u32 a, .int .u32 b, .int .i64 n] w fun e w' => e = .returned (.tuple #[.int .u32 r, .int .i64 0]) ∧ Below w.heap.size w w' := by
  obtain ⟨s, hs⟩ : ∃ s, Crc.sts (8 * n) a = s := ⟨_, rfl⟩
  have hsl : s < 2 ^ 32 := by rw [← hs]; exact Crc.sts_lt _ ha
  have hx : bits .xor .u32 (s : Int) (b : Int) = (r : Int) := xb hsl hb (by rw [← hs]; exact hr)
  have HA := Lib.hid ha
  have HN := Lib.hid hn
  have HS := Lib.hid hs
  clear ha hb hn hr hs hsl
  go_enter Tryd.func34, Tryd.ntmps34
  go_wp2_with (go_at_call 22; ((with_reducible refine (shift_any a n HA.out HN.out s HS.out _).mono ?_); rintro e w1 ⟨rfl, hbel⟩))
  go_ret2
  exact ⟨rfl, hbel⟩
theorem join_arg (a b n : Int) (hn : n < 0 ∨ 16777216 < n) (w : World) :
    Calls Tryd.prog 34 #[.int .u32 a, .int .u32 b, .int .i64 n] w fun e w' => e = .returned (.tuple #[.int .u32 0, .int .i64 2]) ∧ w = w' := by
  have HN := Lib.hid hn
  clear hn
  go_enter Tryd.func34, Tryd.ntmps34
  go_wp2_with (go_at_call 22; ((with_reducible refine (shift_arg a n HN.out _).mono ?_); rintro e w1 ⟨rfl, rfl⟩))
  go_ret2
  exact ⟨rfl, rfl⟩

/-- Whether n bytes have the bit k. -/
theorem hasBit_any (n k : Int) (hn : 0 ≤ n) (hm : n ≤ 16777216) (r : Bool) (hr : decide (0 ≤ k ∧ k < 8 * n) = r) (w : World) :
    Calls Tryd.prog 49 #[.int .i64 n, .int .i64 k] w fun e w' => e = .returned (.bool r) ∧ w = w' := by
  by_cases h : 0 ≤ k
  · have hr2 : decide (k < 8 * n) = r := by rw [← hr]; simp; omega
    clear hr
    go_enter Tryd.func49, Tryd.ntmps49
    go_wp2
    go_ret
    first
      | exact ⟨rfl, rfl⟩
      | exact ⟨congrArg (fun b => Ending.returned (Value.bool b)) hr2, rfl⟩
  · obtain rfl : r = false := by rw [← hr]; simp; omega
    clear hr
    have h1 : decide (0 ≤ k) = false := by simp; omega
    go_enter Tryd.func49, Tryd.ntmps49
    go_wp2
    go_ret
    exact ⟨rfl, rfl⟩
theorem bitPower_any (n k : Nat) (hn : n ≤ 16777216) (hk : k < 8 * n) (p : Nat) (hp : pw Crc.G (8 * n - 1 - k + 32) = p) (w : World) :
    Calls Tryd.prog 50 #[.int .i64 n, .int .i64 k] w fun e w' => e = .returned (.int .u64 p) ∧ Below w.heap.size w w' := by
  obtain ⟨m, hm⟩ : ∃ m : Nat, 8 * n - 1 - k + 32 = m := ⟨_, rfl⟩
  rw [hm] at hp
  have hmi : 8 * (n : Int) - 1 - (k : Int) + 32 = (m : Int) := by omega
  have HM : Hid (m < 2 ^ 63) := by show _ < _; omega
  have HP := Lib.hid hp
  have hn' : (n : Int) ≤ 16777216 := by omega
  have hk' : (k : Int) < 134217728 := by omega
  clear hp hm hk hn
  go_enter Tryd.func50, Tryd.ntmps50
  go_wp2_with (go_at_call 47; ((with_reducible refine (powerC_any m HM.out p HP.out _).mono ?_); rintro e w2 ⟨rfl, hbel⟩))
  go_ret
  exact ⟨rfl, hbel⟩
theorem bit_any (n k : Nat) (hn1 : 1 ≤ n) (hn : n ≤ 16777216) (hk : k < 8 * n) (r : Nat) (hr : Crc.part n k = r) (w : World) :
    Calls Tryd.prog 23 #[.int .i64 n, .int .i64 k] w fun e w' => e = .returned (.tuple #[.int .u32 r, .int .i64 0]) ∧ Below w.heap.size w w' := by
  obtain ⟨p, hp⟩ : ∃ p, pw Crc.G (8 * n - 1 - k + 32) = p := ⟨_, rfl⟩
  have HP := Lib.hid hp
  have HPL : Hid (p < 2 ^ 64) := by show _ < _; rw [← hp]; have := Crc.pw_G (8 * n - 1 - k + 32); omega
  have HR : Hid (rvN p 32 = r) := by show _ = _; rw [← hp, Crc.rv_part n k hk]; exact hr
  have HH : Hid (decide (0 ≤ (k : Int) ∧ (k : Int) < 8 * (n : Int)) = true) := by show _ = _; simp; omega
  have HN := Lib.hid hn
  have HK := Lib.hid hk
  have h1 : ¬ (n : Int) < 1 := by omega
  have h2 : ¬ (16777216 : Int) < (n : Int) := by omega
  have h1b : decide ((n : Int) < 1) = false := by simp; omega
  have h2b : decide ((16777216 : Int) < (n : Int)) = false := by simp; omega
  have hN0 : (0 : Int) ≤ (n : Int) := by omega
  have HNI : Hid ((n : Int) ≤ 16777216) := by show _ ≤ _; omega
  clear hp hr hn1 hn hk
  go_enter Tryd.func23, Tryd.ntmps23
  go_wp2_with (first
    | (go_at_call 49; ((with_reducible refine (hasBit_any n k hN0 HNI.out true HH.out _).mono ?_); rintro e w1 ⟨rfl, rfl⟩))
    | (go_at_call 50; ((with_reducible refine (bitPower_any n k HN.out HK.out p HP.out _).mono ?_); rintro e w2 ⟨rfl, hbel⟩))
    | (go_at_call 48; ((with_reducible refine (number_any p HPL.out r HR.out _).mono ?_); rintro e w4 ⟨rfl, rfl⟩)))
  go_ret2
  exact ⟨rfl, hbel⟩
theorem bit_arg (n k : Int) (h : n < 1 ∨ 16777216 < n ∨ k < 0 ∨ 8 * n ≤ k) (w : World) :
    Calls Tryd.prog 23 #[.int .i64 n, .int .i64 k] w fun e w' => e = .returned (.tuple #[.int .u32 0, .int .i64 2]) ∧ w = w' := by
  by_cases h1 : n < 1
  · clear h
    go_enter Tryd.func23, Tryd.ntmps23
    go_wp2
    go_ret2
    exact ⟨rfl, rfl⟩
  · have h1b : decide (n < 1) = false := by simp; omega
    by_cases h2 : 16777216 < n
    · clear h
      go_enter Tryd.func23, Tryd.ntmps23
      go_wp2
      go_ret2
      exact ⟨rfl, rfl⟩
    · have h2b : decide (16777216 < n) = false := by simp; omega
      have HN : Hid (0 ≤ n) := by show _ ≤ _; omega
      have HM : Hid (n ≤ 16777216) := by show _ ≤ _; omega
      have HF : Hid (decide (0 ≤ k ∧ k < 8 * n) = false) := by show _ = _; simp; omega
      clear h
      go_enter Tryd.func23, Tryd.ntmps23
      go_wp2_with (go_at_call 49; ((with_reducible refine (hasBit_any n k HN.out HM.out false HF.out _).mono ?_); rintro e w1 ⟨rfl, rfl⟩))
      go_ret2
      exact ⟨rfl, rfl⟩

end Go.Proofs.YtoecddkglenigaaDoor
