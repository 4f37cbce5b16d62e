/-
  Gcd, mulMod, MulMod, Irreducible, Order.
-/
import Derived.Test.YtoecddkglenigaaDoorDiv
namespace Go.Proofs.YtoecddkglenigaaDoor
open Go.RowKit
set_option linter.unusedVariables false

theorem gcd_zero_right (a : Nat) : Gf.pgcd a 0 = a := rfl
theorem div_pow_cast (b j : Nat) : ((b : Int) / (2 : Int) ^ j) = ((b / 2 ^ j : Nat) : Int) := by rw [← cast_pow]; exact (Int.natCast_ediv b (2 ^ j)).symm
/-- A bit, as the program asks for it. -/
theorem bit_at (b j : Nat) (hb : b < 2 ^ 64) : bits .and .u64 ((b : Int) / (2 : Int) ^ j) 1 = ((b / 2 ^ j % 2 : Nat) : Int) := by
  have h : b / 2 ^ j < 2 ^ 64 := Nat.lt_of_le_of_lt (Nat.div_le_self _ _) hb
  have := u64_and_nat (b / 2 ^ j) 1 h (by decide)
  rw [div_pow_cast, ← Nat.and_one_is_mod]
  exact this
/-- One step of a product modulo m. -/
theorem mod_step {a m : Nat} (hm : m ≠ 0) (ha : Gf.len a < Gf.len m) (y : Nat) : Gf.pmod (Gf.pmul a y) m = (if y % 2 = 1 then a else 0) ^^^ Gf.pmod (2 * Gf.pmod (Gf.pmul a (y / 2)) m) m := by
  rw [Gf.pmul_step a y, Gf.mod_xor _ _ hm]
  congr 1
  · split
    · exact Gf.mod_small ha
    · exact Gf.zero_mod m
  · have e : ∀ z, 2 * z = Gf.pmul z 2 := fun z => by have := Gf.pmul_two z 1; rw [Gf.pmul_one] at this; exact this.symm
    rw [e (Gf.pmul a (y / 2)), e (Gf.pmod _ m), Gf.mod_mul _ _ hm]
theorem mod_63 {a m : Nat} (hm : m ≠ 0) (h : m < 2 ^ 64) : Gf.pmod a m < 2 ^ 63 := Gf.len_le.1 (by have := Gf.mod_len a hm; have := len_64 h; omega)
set_option maxRecDepth 100000 in
set_option maxHeartbeats 1000000 in
theorem mulMod_any (a b m : Nat) (ha : Gf.len a < Gf.len m) (hb : b < 2 ^ 64) (hm : m < 2 ^ 64) (h0 : m ≠ 0) (r : Nat) (hr : Gf.pmod (Gf.pmul a b) m = r) (w : World) : Calls Tryd.prog 63 #[.int .u64 a, .int .u64 b, .int .u64 m] w fun e w' => e = .returned (.int .u64 r) ∧ w = w' := by
  have HA := Lib.hid ha
  have HB := Lib.hid hb
  have HM := Lib.hid hm
  have H0 := Lib.hid h0
  have HR := Lib.hid hr
  have hl64 := len_64 hb
  obtain ⟨db, hdb⟩ : ∃ db : Int, db = (Gf.len b : Int) - 1 := ⟨_, rfl⟩
  have HDB := Lib.hid hdb
  clear ha hb hm h0 hr hdb
  go_enter Tryd.func63, Tryd.ntmps63
  go_wp2_with (go_at_call 80; ((with_reducible refine (degree_any b HB.out db HDB.out _).mono ?_); rintro e w1 ⟨rfl, rfl⟩))
  go_loop [7, 8] (fun p i => ∃ k x : Nat, k ≤ Gf.len b ∧ i = .int .i64 ((k : Int) - 1) ∧ p = .int .u64 x ∧ Hid (Gf.pmod (Gf.pmul a (b / 2 ^ k)) m = x)) (fun _ i => (intOf i + 1).toNat)
  case atStart => exact ⟨Gf.len b, 0, Nat.le_refl _, by rw [HDB.out], rfl, by show _ = _; rw [Nat.div_eq_of_lt (Gf.len_le.1 (Nat.le_refl _)), Gf.pmul_zero, Gf.zero_mod]⟩
  case round =>
    obtain ⟨k, x, hk, rfl, rfl, HX⟩ := hrel
    by_cases hk0 : k = 0
    · have hkI : ¬ (0 : Int) ≤ (k : Int) - 1 := by omega
      have HE : Hid (x = r) := by
        have h := HX.out
        rw [hk0, Nat.pow_zero, Nat.div_one, HR.out] at h
        exact h.symm
      obtain rfl : x = r := HE.out
      clear hk0
      go_wp2
      go_ret
      exact ⟨rfl, rfl⟩
    · obtain ⟨j, rfl⟩ : ∃ j, k = j + 1 := ⟨k - 1, by omega⟩
      have hj : ((j + 1 : Nat) : Int) - 1 = (j : Int) := by omega
      have hj0 : (0 : Int) ≤ (j : Int) := by omega
      have hj64 : (j : Int) < 64 := by omega
      rw [hj]
      have hx63 : x < 2 ^ 63 := by rw [← HX.out]; exact mod_63 H0.out HM.out
      have HX63 := Lib.hid hx63
      obtain ⟨y, hy⟩ : ∃ y, b / 2 ^ j = y := ⟨_, rfl⟩
      obtain ⟨z, hz⟩ : ∃ z, Gf.pmod (2 * x) m = z := ⟨_, rfl⟩
      have HY := Lib.hid hy
      have HZ := Lib.hid hz
      have hstep := mod_step H0.out HA.out y
      have hy2 : y / 2 = b / 2 ^ (j + 1) := by rw [← hy, Nat.pow_succ, Nat.div_div_eq_div_mul]
      rw [hy2, HX.out, hz] at hstep
      have hbit := bit_at b j HB.out
      rw [hy] at hbit
      by_cases hodd : y % 2 = 1
      · rw [if_pos hodd] at hstep
        have hb1 : (bits .and .u64 ((b : Int) / (2 : Int) ^ j) 1 == 1) = true := by rw [hbit, hodd]; rfl
        have hz64 : z < 2 ^ 64 := by rw [← hz]; exact mod_64 HM.out H0.out
        have ha64 : a < 2 ^ 64 := Gf.len_le.1 (by have := len_64 HM.out; have := HA.out; omega)
        have HXR : Hid (bits .xor .u64 (z : Int) (a : Int) = ((z ^^^ a : Nat) : Int)) := u64_xor_nat z a hz64 ha64
        have HS := Lib.hid hstep
        clear hk0 hj hx63 hy hz hstep hy2 hbit hodd hz64 ha64
        go_wp2_with (go_at_call 81; ((with_reducible refine (timesX_any x m HX63.out HM.out H0.out z HZ.out _).mono ?_); rintro e w1 ⟨rfl, rfl⟩))
        go_round
        case rel => exact ⟨j, z ^^^ a, Nat.le_of_succ_le hk, rfl, congrArg (Value.int .u64) HXR.out, by show _ = _; rw [HY.out, HS.out, Nat.xor_comm]⟩
        case measure => simp [intOf]
      · rw [if_neg hodd, Nat.zero_xor] at hstep
        have hb1 : (bits .and .u64 ((b : Int) / (2 : Int) ^ j) 1 == 1) = false := by
          rw [hbit, show y % 2 = 0 by omega]; rfl
        have HS := Lib.hid hstep
        clear hk0 hj hx63 hy hz hstep hy2 hbit hodd
        go_wp2_with (go_at_call 81; ((with_reducible refine (timesX_any x m HX63.out HM.out H0.out z HZ.out _).mono ?_); rintro e w1 ⟨rfl, rfl⟩))
        go_round
        case rel => exact ⟨j, z, Nat.le_of_succ_le hk, rfl, rfl, by show _ = _; rw [HY.out]; exact HS.out⟩
        case measure => simp [intOf]

set_option maxRecDepth 100000 in
theorem mulModP_any (a b m : Nat) (ha : a < 2 ^ 64) (hb : b < 2 ^ 64) (hm : m < 2 ^ 64) (h0 : m ≠ 0) (r : Nat) (hr : Gf.pmod (Gf.pmul a b) m = r) (w : World) : Calls Tryd.prog 45 #[.int .u64 a, .int .u64 b, .int .u64 m] w fun e w' => e = .returned (.tuple #[.int .u64 r, .int .i64 0]) ∧ w = w' := by
  obtain ⟨c, hc⟩ : ∃ c, Gf.pmod a m = c := ⟨_, rfl⟩
  have HC := Lib.hid hc
  have HCL : Hid (Gf.len c < Gf.len m) := by show _ < _; rw [← hc]; exact Gf.mod_len a h0
  have HR : Hid (Gf.pmod (Gf.pmul c b) m = r) := by show _ = _; rw [← hc, Gf.mod_mul _ _ h0]; exact hr
  have HA := Lib.hid ha
  have HB := Lib.hid hb
  have HM := Lib.hid hm
  have H0 := Lib.hid h0
  have hmI : ((m : Int) == 0) = false := by simp; omega
  clear hc ha hb hm h0 hr
  go_enter Tryd.func45, Tryd.ntmps45
  go_wp2_with (first
    | (go_at_call 64; ((with_reducible refine (mod_any a m HA.out HM.out H0.out c HC.out _).mono ?_); rintro e w1 ⟨rfl, rfl⟩))
    | (go_at_call 63; ((with_reducible refine (mulMod_any c b m HCL.out HB.out HM.out H0.out r HR.out _).mono ?_); rintro e w1 ⟨rfl, rfl⟩)))
  go_ret2
  exact ⟨rfl, rfl⟩
theorem mulModP_zero (a b : Nat) (w : World) : Calls Tryd.prog 45 #[.int .u64 a, .int .u64 b, .int .u64 0] w fun e w' => e = .returned (.tuple #[.int .u64 0, .int .i64 2]) ∧ w = w' := by
  go_enter Tryd.func45, Tryd.ntmps45
  go_wp2
  go_ret2
  exact ⟨rfl, rfl⟩

/-- What Irreducible reports: no common divisor with any of the powers. -/
def irrF (p : Nat) : Nat → Nat → Bool
  | 0, _ => true
  | n + 1, x => if Gf.pgcd (Gf.pmod (Gf.pmul x x) p ^^^ 2) p = 1 then irrF p n (Gf.pmod (Gf.pmul x x) p) else false
def irr (p : Nat) : Bool := if Gf.len p ≤ 1 then false else irrF p ((Gf.len p - 1) / 2) (Gf.pmod 2 p)
theorem gcd_64 {a b : Nat} (ha : a < 2 ^ 64) (hb : b < 2 ^ 64) : Gf.pgcd a b < 2 ^ 64 := by
  by_cases h : a = 0
  · subst h
    by_cases hb0 : b = 0
    · subst hb0; decide
    · exact Gf.len_le.1 (Nat.le_trans ((Gf.gcd_right 0 b).len hb0) (len_64 hb))
  · exact Gf.len_le.1 (Nat.le_trans ((Gf.gcd_left a b).len h) (len_64 ha))
end Go.Proofs.YtoecddkglenigaaDoor
