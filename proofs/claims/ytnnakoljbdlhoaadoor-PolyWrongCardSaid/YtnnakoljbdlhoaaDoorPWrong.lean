/-
  The walk of PolyWrong.
-/
import Derived.Test.YtnnakoljbdlhoaaDoorAwake3
namespace Go.Proofs.YtnnakoljbdlhoaaDoor
open Go.RowKit
set_option linter.unusedVariables false

set_option maxRecDepth 100000 in
theorem power_zero (n : Int) (w : World) : Calls Tryd.prog 25 #[.int .i64 n, .int .u64 0] w fun e w' => e = .returned (.tuple #[.int .u64 0, .int .i64 2]) ∧ Below w.heap.size w w' :=
  power_arg n 0 (.inl rfl) w
set_option maxRecDepth 100000 in
theorem power_neg (n m : Int) (h : n < 0) (w : World) : Calls Tryd.prog 25 #[.int .i64 n, .int .u64 m] w fun e w' => e = .returned (.tuple #[.int .u64 0, .int .i64 2]) ∧ Below w.heap.size w w' := by
  go_enter Tryd.func25, Tryd.ntmps25
  go_wp2
  all_goals
    go_ret2
    exact ⟨rfl, (Below.refl _ w).alloc (Nat.le_refl _) _⟩
theorem len_or (a k : Nat) : k + 1 ≤ Gf.len (a ||| 2 ^ k) := by
  have h : (a ||| 2 ^ k).testBit k = true := by rw [Nat.testBit_or, Nat.testBit_two_pow_self, Bool.or_true]
  exact Nat.succ_le_of_lt (Gf.lt_len.2 (Gf.ge_of_bit h))
theorem or_64 (a k : Nat) (ha : a < 2 ^ 64) (hk : k < 64) : a ||| 2 ^ k < 2 ^ 64 := Nat.or_lt_two_pow ha (pow_64 hk)

set_option maxRecDepth 100000 in
set_option maxHeartbeats 4000000 in
theorem wrong_law (a b : Nat) (ha : a < 2 ^ 64) (hb : b < 2 ^ 64) (n : Int) (hn1 : -9223372036854775808 ≤ n) (hn2 : n ≤ 9223372036854775807) (w : World) :
    Calls Tryd.prog 12 #[.int .u64 a, .int .u64 b, .int .i64 n] w fun e w' => e = .returned (.bool true) ∧ Below w.heap.size w w' := by
  obtain ⟨v1, hv1⟩ : ∃ v1 : Int, max n 0 = v1 := ⟨_, rfl⟩
  obtain ⟨v2, hv2⟩ : ∃ v2 : Int, min n (-1) = v2 := ⟨_, rfl⟩
  obtain ⟨v3, hv3⟩ : ∃ v3 : Int, max (a : Int) 1 = v3 := ⟨_, rfl⟩
  obtain ⟨v4, hv4⟩ : ∃ v4 : Int, max n 65 = v4 := ⟨_, rfl⟩
  have hv2' : (if -1 < n then -1 else n) = v2 := by rw [← hv2]; split <;> omega
  have h2 : v2 < 0 := by omega
  have h4 : 64 < v4 := by omega
  have H2 := Lib.hid h2
  have H4 := Lib.hid h4
  have HA := Lib.hid ha
  have HB := Lib.hid hb
  have haI : (a : Int) ≤ 18446744073709551615 := by omega
  obtain ⟨c, hc⟩ : ∃ c, a ||| 2 ^ 21 = c := ⟨_, rfl⟩
  have HC := Lib.hid hc
  have hor : bits .or .u64 (a : Int) 2097152 = (c : Int) := by
    have := u64_or_nat a 2097152 ha (by decide)
    rw [← hc]; exact this
  obtain ⟨x1, hx1⟩ : ∃ x1, a ||| 2 ^ 40 = x1 := ⟨_, rfl⟩
  obtain ⟨x2, hx2⟩ : ∃ x2, b ||| 2 ^ 24 = x2 := ⟨_, rfl⟩
  have hor1 : bits .or .u64 (a : Int) 1099511627776 = (x1 : Int) := by
    have := u64_or_nat a 1099511627776 ha (by decide)
    rw [← hx1]; exact this
  have hor2 : bits .or .u64 (b : Int) 16777216 = (x2 : Int) := by
    have := u64_or_nat b 16777216 hb (by decide)
    rw [← hx2]; exact this
  have HX1 : Hid (x1 < 2 ^ 64) := by show _ < _; rw [← hx1]; exact or_64 a 40 ha (by decide)
  have HX2 : Hid (x2 < 2 ^ 64) := by show _ < _; rw [← hx2]; exact or_64 b 24 hb (by decide)
  have HXL : Hid (65 < Gf.len x1 + Gf.len x2) := by show _ < _; have h1 := len_or a 40; have h2 := len_or b 24; rw [hx1] at h1; rw [hx2] at h2; omega
  obtain ⟨d, hd⟩ : ∃ d, a % 262144 = d := ⟨_, rfl⟩
  have hdI : (a : Int) % 262144 = (d : Int) := by omega
  have hd2 : d < 262144 := by omega
  obtain ⟨f, hf⟩ : ∃ f, 2 + d * 2 = f := ⟨_, rfl⟩
  have hfI : (2 : Int) + (d : Int) * 2 = (f : Int) := by omega
  have hdB : (d : Int) < 262144 := by omega
  have HF64 : Hid (f < 2 ^ 64) := by show _ < _; omega
  have HF1 : Hid (2 ≤ Gf.len f) := Nat.succ_le_of_lt (Gf.lt_len.2 (by omega))
  have HF2 : Hid (Gf.len f ≤ 21) := Gf.len_le.2 (by omega)
  have HF0 : Hid (Gf.pmod f 2 = 0) := by
    have e : f = Gf.pmul (d + 1) 2 := by rw [← two_pmul1]; omega
    show _ = _
    rw [e]; exact Gf.mul_mod_self _ (by decide)
  clear ha hb hc hx1 hx2 hd hf hd2
  go_enter Tryd.func12, Tryd.ntmps12
  go_wp2_with (first
    | (go_at_call 22; ((with_reducible refine (div_zero a _).mono ?_); rintro e w1 ⟨rfl, rfl⟩))
    | (go_at_call 21; ((with_reducible refine (mulModP_zero a b _).mono ?_); rintro e w1 ⟨rfl, rfl⟩))
    | (go_at_call 25; ((with_reducible refine (power_zero v1 _).mono ?_); rintro e w1 ⟨rfl, hB1⟩))
    | (go_at_call 25; ((with_reducible refine (power_neg v2 v3 H2.out _).mono ?_); rintro e w2 ⟨rfl, hB2⟩)))
  have hbb : Below w.heap.size w w2 := hB1.trans (hB2.mono hB1.size)
  have hblk := World.alloc_heap_new w2 (.cells #[.int .u64 0, .int .u64 1, .int .u64 c, .int .u64 9223372036854775808] 22)
  have HB3 := Lib.hid (hbb.alloc hbb.size (.cells #[.int .u64 0, .int .u64 1, .int .u64 c, .int .u64 9223372036854775808] 22))
  obtain ⟨W, hW⟩ : ∃ W, w2.alloc (.cells #[.int .u64 0, .int .u64 1, .int .u64 c, .int .u64 9223372036854775808] 22) = W := ⟨_, rfl⟩
  rw [hW] at hblk HB3 ⊢
  have HL : Hid (∀ k, k < 4 → ∃ m : Nat, m < 2 ^ 64 ∧ (Gf.len m ≤ 1 ∨ 21 < Gf.len m) ∧ W.cell? ⟨w2.heap.size, k, none⟩ = some (.int .u64 (m : Int))) := by
    intro k hk
    match k, hk with
    | 0, _ => exact ⟨0, by decide, .inl (by decide), by simp [World.cell?, hblk]⟩
    | 1, _ => exact ⟨1, by decide, .inl (by decide), by simp [World.cell?, hblk]⟩
    | 2, _ => exact ⟨c, by rw [← HC.out]; exact or_64 a 21 HA.out (by decide), .inr (by rw [← HC.out]; exact len_or a 21), by simp [World.cell?, hblk]⟩
    | 3, _ => exact ⟨9223372036854775808, by decide, .inr (by decide +kernel), by simp [World.cell?, hblk]⟩
  clear hblk hW hB1 hB2 hbb
  go_loop [87] (fun i => ∃ k : Nat, k ≤ 4 ∧ i = .int .i64 k) (fun i => 4 - (intOf i).toNat)
  case atStart => exact ⟨0, by decide, rfl⟩
  case round =>
    obtain ⟨k, hk, rfl⟩ := hrel
    by_cases hlt : k < 4
    · obtain ⟨m, hm64, hml, hmc⟩ := HL.out k hlt
      have hkI : (k : Int) < 4 := by omega
      have HM := Lib.hid hm64
      have HML := Lib.hid hml
      clear hm64 hml
      go_wp2_with (go_at_call 26; ((with_reducible refine (order_arg m HM.out HML.out _).mono ?_); rintro e w1 ⟨rfl, rfl⟩))
      go_round
      case rel => exact ⟨k + 1, by omega, by go_num⟩
      case measure => simp [intOf]; omega
    · have hkI : ¬ ((k : Int) < 4) := by omega
      have hkI2 : (4 : Int) ≤ (k : Int) := by omega
      clear hlt
      go_wp2_with (first
        | (go_at_call 26; go_loud ((with_reducible refine (order_none f HF64.out HF1.out HF2.out HF0.out _).mono ?_); rintro e w3 ⟨rfl, rfl⟩))
        | (go_at_call 20; go_loud ((with_reducible refine (mul_long x1 x2 HX1.out HX2.out HXL.out _).mono ?_); rintro e w4 ⟨rfl, hB4⟩))
        | (go_at_call 28; ((with_reducible refine (reverse_arg a v2 (.inl H2.out) _).mono ?_); rintro e w5 ⟨rfl, rfl⟩))
        | (go_at_call 28; ((with_reducible refine (reverse_arg a v4 (.inr H4.out) _).mono ?_); rintro e w5 ⟨rfl, rfl⟩))
        | (go_at_call 14; ((with_reducible refine (awake_any _).mono ?_); rintro e w6 ⟨rfl, hB6⟩)))
      go_ret
      have h4 := HB3.out.trans (hB4.mono HB3.out.size)
      exact ⟨rfl, h4.trans (hB6.mono h4.size)⟩
theorem wrong_walk (a0 a1 a2 : Int) (w0 : (Lit.int .u64 a0).wf = true) (w1 : (Lit.int .u64 a1).wf = true) (w2 : (Lit.int .i64 a2).wf = true) (w : World) :
    Calls Tryd.prog 12 #[.int .u64 a0, .int .u64 a1, .int .i64 a2] w fun e w' => e = .returned (.bool true) ∧ Below w.heap.size w w' := by
  have b0 := bounds_u64 w0
  have b1 := bounds_u64 w1
  have b2 := bounds_i64 w2
  obtain ⟨x, rfl⟩ := Int.eq_ofNat_of_zero_le b0.1
  obtain ⟨y, rfl⟩ := Int.eq_ofNat_of_zero_le b1.1
  exact wrong_law x y (by omega) (by omega) a2 b2.1 b2.2 w

end Go.Proofs.YtnnakoljbdlhoaaDoor
