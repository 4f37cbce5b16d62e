/-
  The walk of PolyDivides.
-/
import Derived.Test.YtnnakoljbdlhoaaDoorPRing
namespace Go.Proofs.YtnnakoljbdlhoaaDoor
open Go.RowKit
set_option linter.unusedVariables false

theorem pdiv_len {a b : Nat} (ha : a < 2 ^ 64) (hb : b < 2 ^ 64) (h0 : b ≠ 0) : Gf.pdiv a b < 2 ^ 64 ∧ Gf.len (Gf.pdiv a b) + Gf.len b ≤ 65 := by
  by_cases hq : Gf.pdiv a b = 0
  · rw [hq, Gf.len_zero]
    have := len_64 hb
    exact ⟨by decide, by omega⟩
  · have h1 := Gf.divmod a h0
    have h2 : Gf.pmul (Gf.pdiv a b) b = a ^^^ Gf.pmod a b := by
      conv => rhs; lhs; rw [← h1]
      rw [Nat.xor_assoc, Nat.xor_self, Nat.xor_zero]
    have h3 : Gf.len (Gf.pmul (Gf.pdiv a b) b) ≤ 64 := Gf.len_le.2 (by rw [h2]; exact Gf.xor_lt ha (mod_64 hb h0))
    have h4 := Gf.len_pmul hq h0
    have h5 := Gf.len_pos h0
    exact ⟨Gf.len_le.1 (by omega), by omega⟩

set_option maxRecDepth 100000 in
set_option maxHeartbeats 4000000 in
/-- The last part: a common factor. 'q', 'r', .. of the first part are what they may. -/
theorem divides_law (a b c : Nat) (ha : a < 2 ^ 64) (hb : b < 2 ^ 64) (hc : c < 2 ^ 64) (w : World) :
    Calls Tryd.prog 8 #[.int .u64 a, .int .u64 b, .int .u64 c] w fun e w' => e = .returned (.bool true) ∧ Below w.heap.size w w' := by
  obtain ⟨x, hx⟩ : ∃ x, a % 1099511627776 = x := ⟨_, rfl⟩
  obtain ⟨y, hy⟩ : ∃ x, b % 1099511627776 = x := ⟨_, rfl⟩
  obtain ⟨d, hd⟩ : ∃ x, (c % 4096) ||| 1 = x := ⟨_, rfl⟩
  have hxI : (a : Int) % 1099511627776 = (x : Int) := by omega
  have hyI : (b : Int) % 1099511627776 = (y : Int) := by omega
  have hx2 : x < 2 ^ 40 := by omega
  have hy2 : y < 2 ^ 40 := by omega
  have lx : Gf.len x ≤ 40 := Gf.len_le.2 hx2
  have ly : Gf.len y ≤ 40 := Gf.len_le.2 hy2
  have hd2 : d < 2 ^ 12 := by rw [← hd]; exact Nat.or_lt_two_pow (by omega) (by decide)
  have hd0 : d ≠ 0 := by
    intro e
    have : (d : Nat).testBit 0 = true := by rw [← hd, Nat.testBit_or]; simp
    rw [e] at this; simp at this
  have ld : Gf.len d ≤ 12 := Gf.len_le.2 hd2
  obtain ⟨c2, hc2⟩ : ∃ x, c % 4096 = x := ⟨_, rfl⟩
  have hcI : (c : Int) % 4096 = (c2 : Int) := by omega
  have hdI : bits .or .u64 (c2 : Int) 1 = (d : Int) := by
    have := u64_or_nat c2 1 (by omega) (by decide)
    rw [← hd, hc2]; exact this
  obtain ⟨p, hp⟩ : ∃ r, Gf.pmul x d = r := ⟨_, rfl⟩
  obtain ⟨q, hq⟩ : ∃ r, Gf.pmul y d = r := ⟨_, rfl⟩
  have lp : p < 2 ^ 64 := Gf.len_le.1 (by have := len_prod x d; rw [hp] at this; omega)
  have lq : q < 2 ^ 64 := Gf.len_le.1 (by have := len_prod y d; rw [hq] at this; omega)
  obtain ⟨s, hs⟩ : ∃ r, Gf.pgcd p q = r := ⟨_, rfl⟩
  have ls : s < 2 ^ 64 := by rw [← hs]; exact gcd_64 lp lq
  have hsd : Gf.pmod s d = 0 := Gf.mod_of_dvd hd0 (by rw [← hs]; exact Gf.dvd_gcd ⟨x, hp⟩ ⟨y, hq⟩)
  obtain ⟨g, hg⟩ : ∃ r, Gf.pgcd a b = r := ⟨_, rfl⟩
  have hg2 : Gf.pgcd b a = g := by rw [Gf.gcd_comm]; exact hg
  have lg : g < 2 ^ 64 := by rw [← hg]; exact gcd_64 ha hb
  have ga : g ≠ 0 → Gf.pmod a g = 0 := fun h => Gf.mod_of_dvd h (by rw [← hg]; exact Gf.gcd_left a b)
  have gb : g ≠ 0 → Gf.pmod b g = 0 := fun h => Gf.mod_of_dvd h (by rw [← hg]; exact Gf.gcd_right a b)
  have gz : g = 0 ↔ a = 0 ∧ b = 0 := by rw [← hg]; exact Gf.gcd_zero
  have HA := Lib.hid ha
  have HB := Lib.hid hb
  have HD : Hid (d < 2 ^ 64 ∧ d ≠ 0) := ⟨by omega, hd0⟩
  have HX : Hid (x < 2 ^ 64 ∧ y < 2 ^ 64) := ⟨by omega, by omega⟩
  have HL : Hid (Gf.len x + Gf.len d ≤ 65 ∧ Gf.len y + Gf.len d ≤ 65) := ⟨by omega, by omega⟩
  have HP := Lib.hid hp
  have HQ := Lib.hid hq
  have HPQ : Hid (p < 2 ^ 64 ∧ q < 2 ^ 64) := ⟨lp, lq⟩
  have HS := Lib.hid hs
  have LS := Lib.hid ls
  have HSD := Lib.hid hsd
  have HG := Lib.hid hg
  have HG2 := Lib.hid hg2
  have LG := Lib.hid lg
  have GA := Lib.hid ga
  have GB := Lib.hid gb
  have HQR : Hid (b ≠ 0 → Gf.pdiv a b < 2 ^ 64 ∧ Gf.len (Gf.pdiv a b) + Gf.len b ≤ 65) := fun h => pdiv_len ha hb h
  obtain ⟨k, hk⟩ : ∃ r, Gf.pdiv a b = r := ⟨_, rfl⟩
  obtain ⟨r, hr⟩ : ∃ r, Gf.pmod a b = r := ⟨_, rfl⟩
  obtain ⟨l, hl⟩ : ∃ r, Gf.pmul k b = r := ⟨_, rfl⟩
  obtain ⟨k1, hk1⟩ : ∃ r, Gf.pdiv a g = r := ⟨_, rfl⟩
  obtain ⟨k2, hk2⟩ : ∃ r, Gf.pdiv b g = r := ⟨_, rfl⟩
  obtain ⟨k3, hk3⟩ : ∃ r, Gf.pdiv s d = r := ⟨_, rfl⟩
  rw [hk] at HQR
  have HK := Lib.hid hk
  have HR := Lib.hid hr
  have HL2 := Lib.hid hl
  have HK1 := Lib.hid hk1
  have HK2 := Lib.hid hk2
  have HK3 := Lib.hid hk3
  obtain ⟨dr, hdr⟩ : ∃ dp : Int, dp = (Gf.len r : Int) - 1 := ⟨_, rfl⟩
  obtain ⟨db, hdb⟩ : ∃ dn : Int, dn = (Gf.len b : Int) - 1 := ⟨_, rfl⟩
  have HDR := Lib.hid hdr
  have HDB := Lib.hid hdb
  have hrest : b ≠ 0 → bits .xor .u64 (l : Int) (r : Int) = (a : Int) ∧ dr < db ∧ r < 2 ^ 64 := fun h => by
    have h1 := Gf.divmod a h
    have h2 := Gf.mod_len a h
    rw [hk, hr, hl] at h1
    rw [hr] at h2
    have hr64 : r < 2 ^ 64 := by rw [← hr]; exact mod_64 hb h
    have hl64 : l < 2 ^ 64 := by
      have e : l = a ^^^ r := by rw [← h1, Nat.xor_assoc, Nat.xor_self, Nat.xor_zero]
      rw [e]; exact Gf.xor_lt ha hr64
    exact ⟨xor_i hl64 hr64 h1, by omega, hr64⟩
  clear hx hy hd hx2 hy2 lx ly hd2 hd0 ld hp hq lp lq hs ls hsd hg hg2 lg ga gb hk hr hl hk1 hk2 hk3 hdr hdb hc hc2 ha hb
  by_cases hb0 : b = 0
  · have hbI : ¬ ((0 : Int) < (b : Int)) := by omega
    have hbI2 : ((b : Int) == 0) = true := by simp; omega
    clear hrest
    by_cases ha0 : a = 0
    · have hg0 : g = 0 := gz.2 ⟨ha0, hb0⟩
      have haI2 : ((a : Int) == 0) = true := by simp; omega
      have hgI : ¬ ((0 : Int) < (g : Int)) := by omega
      have hgI2 : ((g : Int) == 0) = true := by simp; omega
      clear ha0 hg0 gz hb0
      go_enter Tryd.func8, Tryd.ntmps8
      go_wp2_with (first
        | (go_at_call 24; ((with_reducible refine (gcd_any a b HA.out HB.out g HG.out _).mono ?_); rintro e w1 ⟨rfl, rfl⟩))
        | (go_at_call 24; ((with_reducible refine (gcd_any b a HB.out HA.out g HG2.out _).mono ?_); rintro e w1 ⟨rfl, rfl⟩))
        | (go_at_call 20; ((with_reducible refine (mul_any x d HX.out.1 HD.out.1 HL.out.1 p HP.out _).mono ?_); rintro e w3 ⟨rfl, hB3⟩))
        | (go_at_call 20; ((with_reducible refine (mul_any y d HX.out.2 HD.out.1 HL.out.2 q HQ.out _).mono ?_); rintro e w4 ⟨rfl, hB4⟩))
        | (go_at_call 24; ((with_reducible refine (gcd_any p q HPQ.out.1 HPQ.out.2 s HS.out _).mono ?_); rintro e w1 ⟨rfl, rfl⟩))
        | (go_at_call 22; ((with_reducible refine (div_as s d LS.out HD.out.1 HD.out.2 k3 0 HK3.out HSD.out _).mono ?_); rintro e w1 ⟨rfl, rfl⟩))
        | (go_at_call 14; ((with_reducible refine (awake_any _).mono ?_); rintro e w10 ⟨rfl, hB10⟩)))
      go_ret
      refine ⟨rfl, ?_⟩
      have t4 := hB3.trans (hB4.mono hB3.size)
      exact t4.trans (hB10.mono t4.size)
    · have hg0 : g ≠ 0 := fun e => ha0 (gz.1 e).1
      have haI2 : ((a : Int) == 0) = false := by simp; omega
      have hgI : (0 : Int) < (g : Int) := by omega
      have hgI2 : ((g : Int) == 0) = false := by simp; omega
      have HG0 := Lib.hid hg0
      clear ha0 hg0 gz hb0
      go_enter Tryd.func8, Tryd.ntmps8
      go_wp2_with (first
        | (go_at_call 24; ((with_reducible refine (gcd_any a b HA.out HB.out g HG.out _).mono ?_); rintro e w1 ⟨rfl, rfl⟩))
        | (go_at_call 24; ((with_reducible refine (gcd_any b a HB.out HA.out g HG2.out _).mono ?_); rintro e w1 ⟨rfl, rfl⟩))
        | (go_at_call 22; ((with_reducible refine (div_as a g HA.out LG.out HG0.out k1 0 HK1.out (GA.out HG0.out) _).mono ?_); rintro e w1 ⟨rfl, rfl⟩))
        | (go_at_call 22; ((with_reducible refine (div_as b g HB.out LG.out HG0.out k2 0 HK2.out (GB.out HG0.out) _).mono ?_); rintro e w1 ⟨rfl, rfl⟩))
        | (go_at_call 20; ((with_reducible refine (mul_any x d HX.out.1 HD.out.1 HL.out.1 p HP.out _).mono ?_); rintro e w3 ⟨rfl, hB3⟩))
        | (go_at_call 20; ((with_reducible refine (mul_any y d HX.out.2 HD.out.1 HL.out.2 q HQ.out _).mono ?_); rintro e w4 ⟨rfl, hB4⟩))
        | (go_at_call 24; ((with_reducible refine (gcd_any p q HPQ.out.1 HPQ.out.2 s HS.out _).mono ?_); rintro e w1 ⟨rfl, rfl⟩))
        | (go_at_call 22; ((with_reducible refine (div_as s d LS.out HD.out.1 HD.out.2 k3 0 HK3.out HSD.out _).mono ?_); rintro e w1 ⟨rfl, rfl⟩))
        | (go_at_call 14; ((with_reducible refine (awake_any _).mono ?_); rintro e w10 ⟨rfl, hB10⟩)))
      go_ret
      refine ⟨rfl, ?_⟩
      have t4 := hB3.trans (hB4.mono hB3.size)
      exact t4.trans (hB10.mono t4.size)
  · obtain ⟨hxr, hdlt, hr64⟩ := hrest hb0
    have HR64 := Lib.hid hr64
    have hbI : (0 : Int) < (b : Int) := by omega
    have hbI2 : ((b : Int) == 0) = false := by simp; omega
    have hg0 : g ≠ 0 := fun e => hb0 (gz.1 e).2
    have hgI : (0 : Int) < (g : Int) := by omega
    have hgI2 : ((g : Int) == 0) = false := by simp; omega
    have HB0 := Lib.hid hb0
    have HG0 := Lib.hid hg0
    clear hrest hr64 hb0 hg0 gz
    by_cases ha0 : (a : Int) == 0
    all_goals
      go_enter Tryd.func8, Tryd.ntmps8
      go_wp2_with (first
        | (go_at_call 22; ((with_reducible refine (div_as a b HA.out HB.out HB0.out k r HK.out HR.out _).mono ?_); rintro e w1 ⟨rfl, rfl⟩))
        | (go_at_call 20; ((with_reducible refine (mul_any k b (HQR.out HB0.out).1 HB.out (HQR.out HB0.out).2 l HL2.out _).mono ?_); rintro e w2 ⟨rfl, hB2⟩))
        | (go_at_call 23; ((with_reducible refine (degree_any r HR64.out dr HDR.out _).mono ?_); rintro e w1 ⟨rfl, rfl⟩))
        | (go_at_call 23; ((with_reducible refine (degree_any b HB.out db HDB.out _).mono ?_); rintro e w1 ⟨rfl, rfl⟩))
        | (go_at_call 24; ((with_reducible refine (gcd_any a b HA.out HB.out g HG.out _).mono ?_); rintro e w1 ⟨rfl, rfl⟩))
        | (go_at_call 24; ((with_reducible refine (gcd_any b a HB.out HA.out g HG2.out _).mono ?_); rintro e w1 ⟨rfl, rfl⟩))
        | (go_at_call 22; ((with_reducible refine (div_as a g HA.out LG.out HG0.out k1 0 HK1.out (GA.out HG0.out) _).mono ?_); rintro e w1 ⟨rfl, rfl⟩))
        | (go_at_call 22; ((with_reducible refine (div_as b g HB.out LG.out HG0.out k2 0 HK2.out (GB.out HG0.out) _).mono ?_); rintro e w1 ⟨rfl, rfl⟩))
        | (go_at_call 20; ((with_reducible refine (mul_any x d HX.out.1 HD.out.1 HL.out.1 p HP.out _).mono ?_); rintro e w3 ⟨rfl, hB3⟩))
        | (go_at_call 20; ((with_reducible refine (mul_any y d HX.out.2 HD.out.1 HL.out.2 q HQ.out _).mono ?_); rintro e w4 ⟨rfl, hB4⟩))
        | (go_at_call 24; ((with_reducible refine (gcd_any p q HPQ.out.1 HPQ.out.2 s HS.out _).mono ?_); rintro e w1 ⟨rfl, rfl⟩))
        | (go_at_call 22; ((with_reducible refine (div_as s d LS.out HD.out.1 HD.out.2 k3 0 HK3.out HSD.out _).mono ?_); rintro e w1 ⟨rfl, rfl⟩))
        | (go_at_call 14; ((with_reducible refine (awake_any _).mono ?_); rintro e w10 ⟨rfl, hB10⟩)))
      go_ret
      refine ⟨rfl, ?_⟩
      have t3 := hB2.trans (hB3.mono hB2.size)
      have t4 := t3.trans (hB4.mono t3.size)
      exact t4.trans (hB10.mono t4.size)
theorem divides_walk (a0 a1 a2 : Int) (w0 : (Lit.int .u64 a0).wf = true) (w1 : (Lit.int .u64 a1).wf = true) (w2 : (Lit.int .u64 a2).wf = true) (w : World) :
    Calls Tryd.prog 8 #[.int .u64 a0, .int .u64 a1, .int .u64 a2] w fun e w' => e = .returned (.bool true) ∧ Below w.heap.size w w' := by
  have b0 := bounds_u64 w0
  have b1 := bounds_u64 w1
  have b2 := bounds_u64 w2
  obtain ⟨x, rfl⟩ := Int.eq_ofNat_of_zero_le b0.1
  obtain ⟨y, rfl⟩ := Int.eq_ofNat_of_zero_le b1.1
  obtain ⟨z, rfl⟩ := Int.eq_ofNat_of_zero_le b2.1
  exact divides_law x y z (by omega) (by omega) (by omega) w

end Go.Proofs.YtnnakoljbdlhoaaDoor
