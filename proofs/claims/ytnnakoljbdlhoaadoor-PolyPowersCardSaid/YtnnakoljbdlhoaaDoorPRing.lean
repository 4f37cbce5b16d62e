/-
  The walk of PolyRing.
-/
import Derived.Test.YtnnakoljbdlhoaaDoorAwake3
namespace Go.Proofs.YtnnakoljbdlhoaaDoor
open Go.RowKit
set_option linter.unusedVariables false

theorem mul_by1 (a : Nat) (ha : a < 2 ^ 64) (w : World) : Calls Tryd.prog 20 #[.int .u64 a, .int .u64 1] w fun e w' => e = .returned (.tuple #[.int .u64 a, .int .i64 0]) ∧ Below w.heap.size w w' :=
  mul_any a 1 ha (by decide) (by have := len_64 ha; rw [Gf.len_one]; omega) a (Gf.pmul_one a) w
theorem mulMod_by1 (a m : Nat) (ha : a < 2 ^ 64) (hm : m < 2 ^ 64) (h0 : m ≠ 0) (r : Nat) (hr : Gf.pmod a m = r) (w : World) : Calls Tryd.prog 21 #[.int .u64 a, .int .u64 1, .int .u64 m] w fun e w' => e = .returned (.tuple #[.int .u64 r, .int .i64 0]) ∧ w = w' :=
  mulModP_any a 1 m ha (by decide) hm h0 r (by rw [Gf.pmul_one]; exact hr) w
theorem div_as (a b : Nat) (ha : a < 2 ^ 64) (hb : b < 2 ^ 64) (h0 : b ≠ 0) (q r : Nat) (hq : Gf.pdiv a b = q) (hr : Gf.pmod a b = r) (w : World) : Calls Tryd.prog 22 #[.int .u64 a, .int .u64 b] w fun e w' => e = .returned (.tuple #[.int .u64 q, .int .u64 r, .int .i64 0]) ∧ w = w' := by
  subst hq hr; exact div_any a b ha hb h0 w
theorem xor_i {a b r : Nat} (ha : a < 2 ^ 64) (hb : b < 2 ^ 64) (h : a ^^^ b = r) : bits .xor .u64 (a : Int) (b : Int) = (r : Int) := by
  rw [u64_xor_nat a b ha hb, h]
theorem len_20 {x : Nat} (h : x < 2 ^ 20) : Gf.len x ≤ 20 := Gf.len_le.2 h
theorem len_prod (a b : Nat) : Gf.len (Gf.pmul a b) ≤ Gf.len a + Gf.len b := by
  by_cases ha : a = 0
  · subst ha; rw [Gf.zero_pmul, Gf.len_zero]; omega
  by_cases hb : b = 0
  · subst hb; rw [Gf.pmul_zero, Gf.len_zero]; omega
  have := Gf.len_pmul ha hb
  omega

set_option maxRecDepth 100000 in
set_option maxHeartbeats 4000000 in
theorem ring_law (a b c m : Nat) (ha : a < 2 ^ 64) (hb : b < 2 ^ 64) (hc : c < 2 ^ 64) (hm : m < 2 ^ 64) (w : World) :
    Calls Tryd.prog 7 #[.int .u64 a, .int .u64 b, .int .u64 c, .int .u64 m] w fun e w' => e = .returned (.bool true) ∧ Below w.heap.size w w' := by
  obtain ⟨x, hx⟩ : ∃ x, a % 1048576 = x := ⟨_, rfl⟩
  obtain ⟨y, hy⟩ : ∃ x, b % 1048576 = x := ⟨_, rfl⟩
  obtain ⟨z, hz⟩ : ∃ x, c % 1048576 = x := ⟨_, rfl⟩
  have hxI : (a : Int) % 1048576 = (x : Int) := by omega
  have hyI : (b : Int) % 1048576 = (y : Int) := by omega
  have hzI : (c : Int) % 1048576 = (z : Int) := by omega
  have hx2 : x < 2 ^ 20 := by omega
  have hy2 : y < 2 ^ 20 := by omega
  have hz2 : z < 2 ^ 20 := by omega
  have lx := len_20 hx2
  have ly := len_20 hy2
  have lz := len_20 hz2
  obtain ⟨n, hn⟩ : ∃ n : Nat, max (m : Int) 1 = (n : Int) := ⟨max m 1, by omega⟩
  have hn0 : n ≠ 0 := by omega
  have hn64 : n < 2 ^ 64 := by omega
  obtain ⟨yz, hyz⟩ : ∃ r, y ^^^ z = r := ⟨_, rfl⟩
  have hyz2 : yz < 2 ^ 20 := by rw [← hyz]; exact Gf.xor_lt hy2 hz2
  have lyz := len_20 hyz2
  obtain ⟨pxy, hpxy⟩ : ∃ r, Gf.pmul x y = r := ⟨_, rfl⟩
  obtain ⟨pyz, hpyz⟩ : ∃ r, Gf.pmul y z = r := ⟨_, rfl⟩
  obtain ⟨pxz, hpxz⟩ : ∃ r, Gf.pmul x z = r := ⟨_, rfl⟩
  obtain ⟨all, hall⟩ : ∃ r, Gf.pmul pxy z = r := ⟨_, rfl⟩
  obtain ⟨sum, hsum⟩ : ∃ r, pxy ^^^ pxz = r := ⟨_, rfl⟩
  have lpxy : Gf.len pxy ≤ 40 := by have := len_prod x y; rw [hpxy] at this; omega
  have lpyz : Gf.len pyz ≤ 40 := by have := len_prod y z; rw [hpyz] at this; omega
  have lpxz : Gf.len pxz ≤ 40 := by have := len_prod x z; rw [hpxz] at this; omega
  have b64 : ∀ {t : Nat}, Gf.len t ≤ 40 → t < 2 ^ 64 := fun h => Gf.len_le.1 (Nat.le_trans h (by decide))
  have hyx : Gf.pmul y x = pxy := by rw [Gf.pmul_comm]; exact hpxy
  have hall2 : Gf.pmul x pyz = all := by rw [← hpyz, ← Gf.pmul_assoc, hpxy]; exact hall
  have hsum2 : Gf.pmul x yz = sum := by rw [← hyz, Gf.pmul_xor, hpxy, hpxz]; exact hsum
  have hxs : bits .xor .u64 (pxy : Int) (pxz : Int) = (sum : Int) := xor_i (b64 lpxy) (b64 lpxz) hsum
  have hys : bits .xor .u64 (y : Int) (z : Int) = (yz : Int) := xor_i (by omega) (by omega) hyz
  obtain ⟨bc, hbc⟩ : ∃ r, b ^^^ c = r := ⟨_, rfl⟩
  have hbs : bits .xor .u64 (b : Int) (c : Int) = (bc : Int) := xor_i hb hc hbc
  have hbc64 : bc < 2 ^ 64 := by rw [← hbc]; exact Gf.xor_lt hb hc
  obtain ⟨p, hp⟩ : ∃ r, Gf.pmod (Gf.pmul a b) n = r := ⟨_, rfl⟩
  obtain ⟨q, hq⟩ : ∃ r, Gf.pmod (Gf.pmul b c) n = r := ⟨_, rfl⟩
  obtain ⟨r, hr⟩ : ∃ r, Gf.pmod (Gf.pmul p c) n = r := ⟨_, rfl⟩
  obtain ⟨t, ht⟩ : ∃ r, Gf.pmod (Gf.pmul a c) n = r := ⟨_, rfl⟩
  obtain ⟨u, hu⟩ : ∃ r, p ^^^ t = r := ⟨_, rfl⟩
  obtain ⟨v, hv⟩ : ∃ r, Gf.pmod a n = r := ⟨_, rfl⟩
  obtain ⟨d, hd⟩ : ∃ r, Gf.pdiv a n = r := ⟨_, rfl⟩
  have hs2 : Gf.pmod (Gf.pmul a q) n = r := by
    rw [← hr, ← hp, ← hq, Gf.mul_mod _ _ hn0, Gf.mod_mul _ _ hn0, Gf.pmul_assoc]
  have hu2 : Gf.pmod (Gf.pmul a bc) n = u := by
    rw [← hu, ← hp, ← ht, ← hbc, Gf.pmul_xor, Gf.mod_xor _ _ hn0]
  have hp64 : p < 2 ^ 64 := by rw [← hp]; exact mod_64 hn64 hn0
  have hq64 : q < 2 ^ 64 := by rw [← hq]; exact mod_64 hn64 hn0
  have ht64 : t < 2 ^ 64 := by rw [← ht]; exact mod_64 hn64 hn0
  have hus : bits .xor .u64 (p : Int) (t : Int) = (u : Int) := xor_i hp64 ht64 hu
  have lp : Gf.len p < Gf.len n := by rw [← hp]; exact Gf.mod_len _ hn0
  obtain ⟨dp, hdp⟩ : ∃ dp : Int, dp = (Gf.len p : Int) - 1 := ⟨_, rfl⟩
  obtain ⟨dn, hdn⟩ : ∃ dn : Int, dn = (Gf.len n : Int) - 1 := ⟨_, rfl⟩
  obtain ⟨mx, hmx⟩ : ∃ mx : Int, max dn 1 = mx := ⟨_, rfl⟩
  have hlt : dp < mx := by omega
  have HA := Lib.hid ha
  have HB := Lib.hid hb
  have HC := Lib.hid hc
  have HN := Lib.hid hn64
  have HN0 := Lib.hid hn0
  have HXY : Hid ((x < 2 ^ 64 ∧ y < 2 ^ 64 ∧ z < 2 ^ 64 ∧ yz < 2 ^ 64) ∧ pxy < 2 ^ 64 ∧ pyz < 2 ^ 64) := ⟨⟨by omega, by omega, by omega, by omega⟩, b64 lpxy, b64 lpyz⟩
  have HL : Hid ((Gf.len x + Gf.len y ≤ 65 ∧ Gf.len y + Gf.len x ≤ 65 ∧ Gf.len y + Gf.len z ≤ 65) ∧ (Gf.len pxy + Gf.len z ≤ 65 ∧ Gf.len x + Gf.len pyz ≤ 65) ∧ Gf.len x + Gf.len z ≤ 65 ∧ Gf.len x + Gf.len yz ≤ 65) := ⟨⟨by omega, by omega, by omega⟩, ⟨by omega, by omega⟩, by omega, by omega⟩
  have H1 := Lib.hid hpxy
  have H2 := Lib.hid hyx
  have H3 := Lib.hid hpyz
  have H4 := Lib.hid hall
  have H5 := Lib.hid hall2
  have H6 := Lib.hid hpxz
  have H7 := Lib.hid hsum2
  have H8 := Lib.hid hp
  have H9 := Lib.hid hq
  have H10 := Lib.hid hr
  have H11 := Lib.hid hs2
  have H12 := Lib.hid ht
  have H13 := Lib.hid hu2
  have H14 := Lib.hid hv
  have H15 := Lib.hid hd
  have HP : Hid (p < 2 ^ 64 ∧ q < 2 ^ 64 ∧ bc < 2 ^ 64) := ⟨hp64, hq64, hbc64⟩
  have HDP := Lib.hid hdp
  have HDN := Lib.hid hdn
  clear hx hy hz hx2 hy2 hz2 lx ly lz hyz hyz2 lyz lpxy lpyz lpxz b64 hbc hbc64 hu hp64 hq64 ht64 lp ha hb hc hn64 hn0 hpxy hyx hpyz hall hall2 hpxz hsum2 hsum hp hq hr hs2 ht hu2 hv hd hdp hdn hm
  go_enter Tryd.func7, Tryd.ntmps7
  go_wp2_with (first
    | (go_at_call 20; ((with_reducible refine (mul_any x y HXY.out.1.1 HXY.out.1.2.1 HL.out.1.1 pxy H1.out _).mono ?_); rintro e w1 ⟨rfl, hB1⟩))
    | (go_at_call 20; ((with_reducible refine (mul_any y x HXY.out.1.2.1 HXY.out.1.1 HL.out.1.2.1 pxy H2.out _).mono ?_); rintro e w2 ⟨rfl, hB2⟩))
    | (go_at_call 20; ((with_reducible refine (mul_any y z HXY.out.1.2.1 HXY.out.1.2.2.1 HL.out.1.2.2 pyz H3.out _).mono ?_); rintro e w3 ⟨rfl, hB3⟩))
    | (go_at_call 20; ((with_reducible refine (mul_any pxy z HXY.out.2.1 HXY.out.1.2.2.1 HL.out.2.1.1 all H4.out _).mono ?_); rintro e w4 ⟨rfl, hB4⟩))
    | (go_at_call 20; ((with_reducible refine (mul_any x pyz HXY.out.1.1 HXY.out.2.2 HL.out.2.1.2 all H5.out _).mono ?_); rintro e w5 ⟨rfl, hB5⟩))
    | (go_at_call 20; ((with_reducible refine (mul_any x z HXY.out.1.1 HXY.out.1.2.2.1 HL.out.2.2.1 pxz H6.out _).mono ?_); rintro e w6 ⟨rfl, hB6⟩))
    | (go_at_call 20; ((with_reducible refine (mul_any x yz HXY.out.1.1 HXY.out.1.2.2.2 HL.out.2.2.2 sum H7.out _).mono ?_); rintro e w7 ⟨rfl, hB7⟩))
    | (go_at_call 20; ((with_reducible refine (mul_by1 a HA.out _).mono ?_); rintro e w8 ⟨rfl, hB8⟩))
    | (go_at_call 21; ((with_reducible refine (mulModP_any a b n HA.out HB.out HN.out HN0.out p H8.out _).mono ?_); rintro e w9 ⟨rfl, rfl⟩))
    | (go_at_call 21; ((with_reducible refine (mulModP_any b c n HB.out HC.out HN.out HN0.out q H9.out _).mono ?_); rintro e w9 ⟨rfl, rfl⟩))
    | (go_at_call 21; ((with_reducible refine (mulModP_any p c n HP.out.1 HC.out HN.out HN0.out r H10.out _).mono ?_); rintro e w9 ⟨rfl, rfl⟩))
    | (go_at_call 21; ((with_reducible refine (mulModP_any a q n HA.out HP.out.2.1 HN.out HN0.out r H11.out _).mono ?_); rintro e w9 ⟨rfl, rfl⟩))
    | (go_at_call 21; ((with_reducible refine (mulModP_any a c n HA.out HC.out HN.out HN0.out t H12.out _).mono ?_); rintro e w9 ⟨rfl, rfl⟩))
    | (go_at_call 21; ((with_reducible refine (mulModP_any a bc n HA.out HP.out.2.2 HN.out HN0.out u H13.out _).mono ?_); rintro e w9 ⟨rfl, rfl⟩))
    | (go_at_call 21; ((with_reducible refine (mulMod_by1 a n HA.out HN.out HN0.out v H14.out _).mono ?_); rintro e w9 ⟨rfl, rfl⟩))
    | (go_at_call 22; ((with_reducible refine (div_as a n HA.out HN.out HN0.out d v H15.out H14.out _).mono ?_); rintro e w9 ⟨rfl, rfl⟩))
    | (go_at_call 23; ((with_reducible refine (degree_any p HP.out.1 dp HDP.out _).mono ?_); rintro e w9 ⟨rfl, rfl⟩))
    | (go_at_call 23; ((with_reducible refine (degree_any n HN.out dn HDN.out _).mono ?_); rintro e w9 ⟨rfl, rfl⟩))
    | (go_at_call 14; ((with_reducible refine (awake_any _).mono ?_); rintro e w10 ⟨rfl, hB10⟩)))
  go_ret
  refine ⟨rfl, ?_⟩
  have s1 := hB1.size
  have t2 := hB1.trans (hB2.mono hB1.size)
  have t3 := t2.trans (hB3.mono t2.size)
  have t4 := t3.trans (hB4.mono t3.size)
  have t5 := t4.trans (hB5.mono t4.size)
  have t6 := t5.trans (hB6.mono t5.size)
  have t7 := t6.trans (hB7.mono t6.size)
  have t8 := t7.trans (hB8.mono t7.size)
  exact t8.trans (hB10.mono t8.size)
theorem ring_walk (a0 a1 a2 a3 : Int) (w0 : (Lit.int .u64 a0).wf = true) (w1 : (Lit.int .u64 a1).wf = true) (w2 : (Lit.int .u64 a2).wf = true) (w3 : (Lit.int .u64 a3).wf = true) (w : World) :
    Calls Tryd.prog 7 #[.int .u64 a0, .int .u64 a1, .int .u64 a2, .int .u64 a3] w fun e w' => e = .returned (.bool true) ∧ Below w.heap.size w w' := by
  have b0 := bounds_u64 w0
  have b1 := bounds_u64 w1
  have b2 := bounds_u64 w2
  have b3 := bounds_u64 w3
  obtain ⟨x, rfl⟩ := Int.eq_ofNat_of_zero_le b0.1
  obtain ⟨y, rfl⟩ := Int.eq_ofNat_of_zero_le b1.1
  obtain ⟨z, rfl⟩ := Int.eq_ofNat_of_zero_le b2.1
  obtain ⟨m, rfl⟩ := Int.eq_ofNat_of_zero_le b3.1
  exact ring_law x y z m (by omega) (by omega) (by omega) (by omega) w

end Go.Proofs.YtnnakoljbdlhoaaDoor
