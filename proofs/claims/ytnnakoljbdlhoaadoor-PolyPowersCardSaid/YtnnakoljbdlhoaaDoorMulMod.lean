/-
  Gcd, mulMod, MulMod, Irreducible, Order.
-/
import Derived.Test.YtnnakoljbdlhoaaDoorDiv
namespace Go.Proofs.YtnnakoljbdlhoaaDoor
open Go.RowKit
set_option linter.unusedVariables false

theorem gcd_zero_right (a : Nat) : Gf.pgcd a 0 = a := rfl
set_option maxRecDepth 100000 in
set_option maxHeartbeats 1000000 in
theorem gcd_any (a b : Nat) (ha : a < 2 ^ 64) (hb : b < 2 ^ 64) (g : Nat) (hg : Gf.pgcd a b = g) (w : World) : Calls Tryd.prog 24 #[.int .u64 a, .int .u64 b] w fun e w' => e = .returned (.int .u64 g) ∧ w = w' := by
  have HA := Lib.hid ha
  have HB := Lib.hid hb
  have HG := Lib.hid hg
  clear ha hb hg
  go_enter Tryd.func24, Tryd.ntmps24
  go_wp2
  go_loop [0, 1] (fun x y => ∃ p q : Nat, x = .int .u64 p ∧ y = .int .u64 q ∧ Hid (p < 2 ^ 64 ∧ q < 2 ^ 64) ∧ Hid (Gf.pgcd p q = g)) (fun _ y => Gf.len (intOf y).toNat)
  case atStart => exact ⟨a, b, rfl, rfl, ⟨HA.out, HB.out⟩, HG⟩
  case round =>
    obtain ⟨p, q, rfl, rfl, HP, HE⟩ := hrel
    by_cases hq : q = 0
    · have HE0 : Hid (p = g) := by have := HE.out; rw [hq, gcd_zero_right] at this; exact this
      have hqI : ((q : Int) != 0) = false := by simp [hq]
      obtain rfl : p = g := HE0.out
      clear hq
      go_wp2
      go_ret
      exact ⟨rfl, rfl⟩
    · have HQ0 : Hid (q ≠ 0) := hq
      have hqI : ((q : Int) != 0) = true := by simp [hq]
      obtain ⟨r, hr⟩ : ∃ r, Gf.pmod p q = r := ⟨_, rfl⟩
      have HR := Lib.hid hr
      clear hq hr
      go_wp2_with (go_at_call 44; ((with_reducible refine (mod_any p q HP.out.1 HP.out.2 HQ0.out r HR.out _).mono ?_); rintro e w1 ⟨rfl, rfl⟩))
      have hln : Gf.len r < Gf.len q := by rw [← HR.out]; exact Gf.mod_len p HQ0.out
      go_round
      case rel => exact ⟨q, r, rfl, rfl, ⟨HP.out.2, by rw [← HR.out]; exact mod_64 HP.out.2 HQ0.out⟩, by rw [← HR.out]; exact (Gf.gcd_step p HQ0.out).trans HE.out⟩
      case measure => simp [intOf]; exact hln

theorem div_pow_cast (b j : Nat) : ((b : Int) / (2 : Int) ^ j) = ((b / 2 ^ j : Nat) : Int) := by rw [← cast_pow]; exact (Int.natCast_ediv b (2 ^ j)).symm
/-- A bit, as the program asks for it. -/
theorem bit_at (b j : Nat) (hb : b < 2 ^ 64) : bits .and .u64 ((b : Int) / (2 : Int) ^ j) 1 = ((b / 2 ^ j % 2 : Nat) : Int) := by
  have h : b / 2 ^ j < 2 ^ 64 := Nat.lt_of_le_of_lt (Nat.div_le_self _ _) hb
  have := u64_and_nat (b / 2 ^ j) 1 h (by decide)
  rw [div_pow_cast, ← Nat.and_one_is_mod]
  exact this
/-- One step of a product modulo m. -/
theorem mod_step {a m : Nat} (hm : m ≠ 0) (ha : Gf.len a < Gf.len m) (y : Nat) : Gf.pmod (Gf.pmul a y) m = (if y % 2 = 1 then a else 0) ^^^ Gf.pmod (2 * Gf.pmod (Gf.pmul a (y / 2)) m) m := by
  rw [Gf.pmul_step a y, Gf.mod_xor _ _ hm]
  congr 1
  · split
    · exact Gf.mod_small ha
    · exact Gf.zero_mod m
  · have e : ∀ z, 2 * z = Gf.pmul z 2 := fun z => by have := Gf.pmul_two z 1; rw [Gf.pmul_one] at this; exact this.symm
    rw [e (Gf.pmul a (y / 2)), e (Gf.pmod _ m), Gf.mod_mul _ _ hm]
theorem mod_63 {a m : Nat} (hm : m ≠ 0) (h : m < 2 ^ 64) : Gf.pmod a m < 2 ^ 63 := Gf.len_le.1 (by have := Gf.mod_len a hm; have := len_64 h; omega)
set_option maxRecDepth 100000 in
set_option maxHeartbeats 1000000 in
theorem mulMod_any (a b m : Nat) (ha : Gf.len a < Gf.len m) (hb : b < 2 ^ 64) (hm : m < 2 ^ 64) (h0 : m ≠ 0) (r : Nat) (hr : Gf.pmod (Gf.pmul a b) m = r) (w : World) : Calls Tryd.prog 43 #[.int .u64 a, .int .u64 b, .int .u64 m] w fun e w' => e = .returned (.int .u64 r) ∧ w = w' := by
  have HA := Lib.hid ha
  have HB := Lib.hid hb
  have HM := Lib.hid hm
  have H0 := Lib.hid h0
  have HR := Lib.hid hr
  have hl64 := len_64 hb
  obtain ⟨db, hdb⟩ : ∃ db : Int, db = (Gf.len b : Int) - 1 := ⟨_, rfl⟩
  have HDB := Lib.hid hdb
  clear ha hb hm h0 hr hdb
  go_enter Tryd.func43, Tryd.ntmps43
  go_wp2_with (go_at_call 23; ((with_reducible refine (degree_any b HB.out db HDB.out _).mono ?_); rintro e w1 ⟨rfl, rfl⟩))
  go_loop [7, 8] (fun p i => ∃ k x : Nat, k ≤ Gf.len b ∧ i = .int .i64 ((k : Int) - 1) ∧ p = .int .u64 x ∧ Hid (Gf.pmod (Gf.pmul a (b / 2 ^ k)) m = x)) (fun _ i => (intOf i + 1).toNat)
  case atStart => exact ⟨Gf.len b, 0, Nat.le_refl _, by rw [HDB.out], rfl, by show _ = _; rw [Nat.div_eq_of_lt (Gf.len_le.1 (Nat.le_refl _)), Gf.pmul_zero, Gf.zero_mod]⟩
  case round =>
    obtain ⟨k, x, hk, rfl, rfl, HX⟩ := hrel
    by_cases hk0 : k = 0
    · have hkI : ¬ (0 : Int) ≤ (k : Int) - 1 := by omega
      have HE : Hid (x = r) := by
        have h := HX.out
        rw [hk0, Nat.pow_zero, Nat.div_one, HR.out] at h
        exact h.symm
      obtain rfl : x = r := HE.out
      clear hk0
      go_wp2
      go_ret
      exact ⟨rfl, rfl⟩
    · obtain ⟨j, rfl⟩ : ∃ j, k = j + 1 := ⟨k - 1, by omega⟩
      have hj : ((j + 1 : Nat) : Int) - 1 = (j : Int) := by omega
      have hj0 : (0 : Int) ≤ (j : Int) := by omega
      have hj64 : (j : Int) < 64 := by omega
      rw [hj]
      have hx63 : x < 2 ^ 63 := by rw [← HX.out]; exact mod_63 H0.out HM.out
      have HX63 := Lib.hid hx63
      obtain ⟨y, hy⟩ : ∃ y, b / 2 ^ j = y := ⟨_, rfl⟩
      obtain ⟨z, hz⟩ : ∃ z, Gf.pmod (2 * x) m = z := ⟨_, rfl⟩
      have HY := Lib.hid hy
      have HZ := Lib.hid hz
      have hstep := mod_step H0.out HA.out y
      have hy2 : y / 2 = b / 2 ^ (j + 1) := by rw [← hy, Nat.pow_succ, Nat.div_div_eq_div_mul]
      rw [hy2, HX.out, hz] at hstep
      have hbit := bit_at b j HB.out
      rw [hy] at hbit
      by_cases hodd : y % 2 = 1
      · rw [if_pos hodd] at hstep
        have hb1 : (bits .and .u64 ((b : Int) / (2 : Int) ^ j) 1 == 1) = true := by rw [hbit, hodd]; rfl
        have hz64 : z < 2 ^ 64 := by rw [← hz]; exact mod_64 HM.out H0.out
        have ha64 : a < 2 ^ 64 := Gf.len_le.1 (by have := len_64 HM.out; have := HA.out; omega)
        have HXR : Hid (bits .xor .u64 (z : Int) (a : Int) = ((z ^^^ a : Nat) : Int)) := u64_xor_nat z a hz64 ha64
        have HS := Lib.hid hstep
        clear hk0 hj hx63 hy hz hstep hy2 hbit hodd hz64 ha64
        go_wp2_with (go_at_call 48; ((with_reducible refine (timesX_any x m HX63.out HM.out H0.out z HZ.out _).mono ?_); rintro e w1 ⟨rfl, rfl⟩))
        go_round
        case rel => exact ⟨j, z ^^^ a, Nat.le_of_succ_le hk, rfl, congrArg (Value.int .u64) HXR.out, by show _ = _; rw [HY.out, HS.out, Nat.xor_comm]⟩
        case measure => simp [intOf]
      · rw [if_neg hodd, Nat.zero_xor] at hstep
        have hb1 : (bits .and .u64 ((b : Int) / (2 : Int) ^ j) 1 == 1) = false := by
          rw [hbit, show y % 2 = 0 by omega]; rfl
        have HS := Lib.hid hstep
        clear hk0 hj hx63 hy hz hstep hy2 hbit hodd
        go_wp2_with (go_at_call 48; ((with_reducible refine (timesX_any x m HX63.out HM.out H0.out z HZ.out _).mono ?_); rintro e w1 ⟨rfl, rfl⟩))
        go_round
        case rel => exact ⟨j, z, Nat.le_of_succ_le hk, rfl, rfl, by show _ = _; rw [HY.out]; exact HS.out⟩
        case measure => simp [intOf]

set_option maxRecDepth 100000 in
theorem mulModP_any (a b m : Nat) (ha : a < 2 ^ 64) (hb : b < 2 ^ 64) (hm : m < 2 ^ 64) (h0 : m ≠ 0) (r : Nat) (hr : Gf.pmod (Gf.pmul a b) m = r) (w : World) : Calls Tryd.prog 21 #[.int .u64 a, .int .u64 b, .int .u64 m] w fun e w' => e = .returned (.tuple #[.int .u64 r, .int .i64 0]) ∧ w = w' := by
  obtain ⟨c, hc⟩ : ∃ c, Gf.pmod a m = c := ⟨_, rfl⟩
  have HC := Lib.hid hc
  have HCL : Hid (Gf.len c < Gf.len m) := by show _ < _; rw [← hc]; exact Gf.mod_len a h0
  have HR : Hid (Gf.pmod (Gf.pmul c b) m = r) := by show _ = _; rw [← hc, Gf.mod_mul _ _ h0]; exact hr
  have HA := Lib.hid ha
  have HB := Lib.hid hb
  have HM := Lib.hid hm
  have H0 := Lib.hid h0
  have hmI : ((m : Int) == 0) = false := by simp; omega
  clear hc ha hb hm h0 hr
  go_enter Tryd.func21, Tryd.ntmps21
  go_wp2_with (first
    | (go_at_call 44; ((with_reducible refine (mod_any a m HA.out HM.out H0.out c HC.out _).mono ?_); rintro e w1 ⟨rfl, rfl⟩))
    | (go_at_call 43; ((with_reducible refine (mulMod_any c b m HCL.out HB.out HM.out H0.out r HR.out _).mono ?_); rintro e w1 ⟨rfl, rfl⟩)))
  go_ret2
  exact ⟨rfl, rfl⟩
theorem mulModP_zero (a b : Nat) (w : World) : Calls Tryd.prog 21 #[.int .u64 a, .int .u64 b, .int .u64 0] w fun e w' => e = .returned (.tuple #[.int .u64 0, .int .i64 2]) ∧ w = w' := by
  go_enter Tryd.func21, Tryd.ntmps21
  go_wp2
  go_ret2
  exact ⟨rfl, rfl⟩

/-- What Irreducible reports: no common divisor with any of the powers. -/
def irrF (p : Nat) : Nat → Nat → Bool
  | 0, _ => true
  | n + 1, x => if Gf.pgcd (Gf.pmod (Gf.pmul x x) p ^^^ 2) p = 1 then irrF p n (Gf.pmod (Gf.pmul x x) p) else false
def irr (p : Nat) : Bool := if Gf.len p ≤ 1 then false else irrF p ((Gf.len p - 1) / 2) (Gf.pmod 2 p)
theorem gcd_64 {a b : Nat} (ha : a < 2 ^ 64) (hb : b < 2 ^ 64) : Gf.pgcd a b < 2 ^ 64 := by
  by_cases h : a = 0
  · subst h
    by_cases hb0 : b = 0
    · subst hb0; decide
    · exact Gf.len_le.1 (Nat.le_trans ((Gf.gcd_right 0 b).len hb0) (len_64 hb))
  · exact Gf.len_le.1 (Nat.le_trans ((Gf.gcd_left a b).len h) (len_64 ha))
set_option maxRecDepth 100000 in
set_option maxHeartbeats 1000000 in
theorem irr_any (p : Nat) (hp : p < 2 ^ 64) (r : Bool) (hr : irr p = r) (w : World) : Calls Tryd.prog 27 #[.int .u64 p] w fun e w' => e = .returned (.bool r) ∧ w = w' := by
  have HP := Lib.hid hp
  have hl64 := len_64 hp
  obtain ⟨dp, hdp⟩ : ∃ dp : Int, dp = (Gf.len p : Int) - 1 := ⟨_, rfl⟩
  have HDP := Lib.hid hdp
  unfold irr at hr
  by_cases hl : Gf.len p ≤ 1
  · rw [if_pos hl] at hr
    subst hr
    have hI : dp < 1 := by omega
    clear hp hdp hl
    go_enter Tryd.func27, Tryd.ntmps27
    go_wp2_with (go_at_call 23; ((with_reducible refine (degree_any p HP.out dp HDP.out _).mono ?_); rintro e w1 ⟨rfl, rfl⟩))
    go_ret
    exact ⟨rfl, rfl⟩
  · rw [if_neg hl] at hr
    have hp0 : p ≠ 0 := by intro e; subst e; simp [Gf.len_zero] at hl
    have H0 := Lib.hid hp0
    have hI : 1 ≤ dp := by omega
    have hI2 : dp ≤ 63 := by omega
    have hI3 : decide (dp < 1) = false := by simp; omega
    obtain ⟨h, hh⟩ : ∃ h, (Gf.len p - 1) / 2 = h := ⟨_, rfl⟩
    have hhI : dp / 2 = (h : Int) := by omega
    have HHI := Lib.hid hhI
    have hh32 : h ≤ 31 := by omega
    obtain ⟨x0, hx0⟩ : ∃ x0, Gf.pmod 2 p = x0 := ⟨_, rfl⟩
    have HX0 := Lib.hid hx0
    rw [hh, hx0] at hr
    have HR := Lib.hid hr
    clear hp hdp hl hp0 hh hx0 hr hhI
    go_enter Tryd.func27, Tryd.ntmps27
    go_wp2_with (first
      | (go_at_call 23; ((with_reducible refine (degree_any p HP.out dp HDP.out _).mono ?_); rintro e w1 ⟨rfl, rfl⟩))
      | (go_at_call 44; go_loud ((refine (mod_any 2 p (by decide) HP.out H0.out x0 HX0.out _).mono ?_); rintro e w1 ⟨rfl, rfl⟩)))
    go_loop [4, 13] (fun x i => ∃ k y : Nat, k ≤ h ∧ i = .int .i64 k ∧ x = .int .u64 y ∧ Hid (irrF p (h - k) y = r) ∧ Hid (Gf.len y < Gf.len p)) (fun _ i => h - (intOf i).toNat)
    case atStart => exact ⟨0, x0, Nat.zero_le _, rfl, rfl, HR, by show _ < _; rw [← HX0.out]; exact Gf.mod_len 2 H0.out⟩
    case round =>
      obtain ⟨k, y, hk, rfl, rfl, HE, HY⟩ := hrel
      by_cases hlt : k < h
      · have hkI : (k : Int) < dp / 2 := by rw [HHI.out]; omega
        have HLT := Lib.hid hlt
        obtain ⟨z, hz⟩ : ∃ z, Gf.pmod (Gf.pmul y y) p = z := ⟨_, rfl⟩
        obtain ⟨g, hg⟩ : ∃ g, Gf.pgcd (z ^^^ 2) p = g := ⟨_, rfl⟩
        have hy64 : y < 2 ^ 64 := Gf.len_le.1 (by have := HY.out; omega)
        have hz64 : z < 2 ^ 64 := by rw [← hz]; exact mod_64 HP.out H0.out
        have hx64 : z ^^^ 2 < 2 ^ 64 := Gf.xor_lt hz64 (by decide)
        have hxr := u64_xor_nat z 2 hz64 (by decide)
        have hxr2 : bits .xor .u64 (z : Int) 2 = ((z ^^^ 2 : Nat) : Int) := hxr
        obtain ⟨v, hv⟩ : ∃ v, z ^^^ 2 = v := ⟨_, rfl⟩
        rw [hv] at hxr2 hg hx64
        have HZ := Lib.hid hz
        have HG := Lib.hid hg
        have HY64 := Lib.hid hy64
        have HV64 := Lib.hid hx64
        have HZL : Hid (Gf.len z < Gf.len p) := by show _ < _; rw [← hz]; exact Gf.mod_len _ H0.out
        have HEE : Hid ((if g = 1 then irrF p (h - (k + 1)) z else false) = r) := by
          have he := HE.out
          rw [show h - k = (h - (k + 1)) + 1 by omega, irrF, hz, hv, hg] at he
          exact he
        by_cases hg1 : g = 1
        · have hgI : ((g : Int) != 1) = false := by simp [hg1]
          have HEF : Hid (irrF p (h - (k + 1)) z = r) := by have := HEE.out; rw [if_pos hg1] at this; exact this
          clear hz hg hy64 hz64 hx64 hxr hv hg1 hlt
          go_wp2_with (first
            | (go_at_call 43; ((with_reducible refine (mulMod_any y y p HY.out HY64.out HP.out H0.out z HZ.out _).mono ?_); rintro e w1 ⟨rfl, rfl⟩))
            | (go_at_call 24; ((with_reducible refine (gcd_any v p HV64.out HP.out g HG.out _).mono ?_); rintro e w1 ⟨rfl, rfl⟩)))
          go_round
          case rel => exact ⟨k + 1, z, HLT.out, by go_num, rfl, HEF, HZL⟩
          case measure => have := HLT.out; simp [intOf]; omega
        · have hgI : ((g : Int) != 1) = true := by simp; omega
          have HEF : Hid (false = r) := by have := HEE.out; rw [if_neg hg1] at this; exact this
          obtain rfl : false = r := HEF.out
          clear hz hg hy64 hz64 hx64 hxr hv hg1 hlt
          go_wp2_with (first
            | (go_at_call 43; ((with_reducible refine (mulMod_any y y p HY.out HY64.out HP.out H0.out z HZ.out _).mono ?_); rintro e w1 ⟨rfl, rfl⟩))
            | (go_at_call 24; ((with_reducible refine (gcd_any v p HV64.out HP.out g HG.out _).mono ?_); rintro e w1 ⟨rfl, rfl⟩)))
          go_ret
          exact ⟨rfl, rfl⟩
      · have hge : h ≤ k := by omega
        have hgeI : dp / 2 ≤ (k : Int) := by rw [HHI.out]; omega
        have HEF : Hid (true = r) := by have := HE.out; rw [show h - k = 0 by omega] at this; exact this
        obtain rfl : true = r := HEF.out
        clear hlt
        go_wp2
        go_ret
        exact ⟨rfl, rfl⟩

end Go.Proofs.YtnnakoljbdlhoaaDoor
