/-
  The walk of PolyProducts.
-/
import Derived.Test.YtnnakoljbdlhoaaDoorPRing
import Derived.Test.YtnnakoljbdlhoaaDoorIrr
namespace Go.Proofs.YtnnakoljbdlhoaaDoor
open Go.RowKit
set_option linter.unusedVariables false

theorem irr_2 (w : World) : Calls Tryd.prog 27 #[.int .u64 2] w fun e w' => e = .returned (.bool true) ∧ w = w' := irr_any 2 (by decide) true (by decide +kernel) w
theorem irr_3 (w : World) : Calls Tryd.prog 27 #[.int .u64 3] w fun e w' => e = .returned (.bool true) ∧ w = w' := irr_any 3 (by decide) true (by decide +kernel) w
theorem irr_0 (w : World) : Calls Tryd.prog 27 #[.int .u64 0] w fun e w' => e = .returned (.bool false) ∧ w = w' := irr_any 0 (by decide) false (by decide +kernel) w
theorem irr_1 (w : World) : Calls Tryd.prog 27 #[.int .u64 1] w fun e w' => e = .returned (.bool false) ∧ w = w' := irr_any 1 (by decide) false (by decide +kernel) w
theorem gcd_is1 (a b : Nat) (ha : a < 2 ^ 64) (hb : b < 2 ^ 64) (hg : Gf.pgcd a b = 1) (w : World) : Calls Tryd.prog 24 #[.int .u64 a, .int .u64 b] w fun e w' => e = .returned (.int .u64 1) ∧ w = w' := gcd_any a b ha hb 1 hg w
theorem two_len {x : Nat} (h : 2 ≤ x) : 2 ≤ Gf.len x := Nat.succ_le_of_lt (Gf.lt_len.2 (by omega))
theorem irr_ne {p : Nat} (h : irr p = true) : p ≠ 0 := by intro e; subst e; revert h; decide

set_option maxRecDepth 100000 in
set_option maxHeartbeats 4000000 in
theorem products_law (a b p q : Nat) (ha : a < 2 ^ 32) (hb : b < 2 ^ 32) (hp : p < 2 ^ 64) (hq : q < 2 ^ 64) (w : World) :
    Calls Tryd.prog 10 #[.int .u32 a, .int .u32 b, .int .u64 p, .int .u64 q] w fun e w' => e = .returned (.bool true) ∧ Below w.heap.size w w' := by
  obtain ⟨x, hx⟩ : ∃ n : Nat, max (a : Int) 2 = (n : Int) := ⟨max a 2, by omega⟩
  obtain ⟨y, hy⟩ : ∃ n : Nat, max (b : Int) 2 = (n : Int) := ⟨max b 2, by omega⟩
  have hx2 : 2 ≤ x := by omega
  have hy2 : 2 ≤ y := by omega
  have hx32 : x < 2 ^ 32 := by omega
  have hy32 : y < 2 ^ 32 := by omega
  have hwx : IntKind.u64.wrap (x : Int) = (x : Int) := wrap_nat _ (by omega)
  have hwy : IntKind.u64.wrap (y : Int) = (y : Int) := wrap_nat _ (by omega)
  have lx : Gf.len x ≤ 32 := Gf.len_le.2 hx32
  have ly : Gf.len y ≤ 32 := Gf.len_le.2 hy32
  obtain ⟨z, hz⟩ : ∃ r, Gf.pmul x y = r := ⟨_, rfl⟩
  have hzl := len_prod x y
  have hzl2 := Gf.len_pmul (a := x) (b := y) (by omega) (by omega)
  have hzi := irr_pmul (two_len hx2) (two_len hy2)
  rw [hz] at hzl hzl2 hzi
  have hz64 : z < 2 ^ 64 := Gf.len_le.1 (by omega)
  obtain ⟨dx, hdx⟩ : ∃ d : Int, d = (Gf.len x : Int) - 1 := ⟨_, rfl⟩
  obtain ⟨dy, hdy⟩ : ∃ d : Int, d = (Gf.len y : Int) - 1 := ⟨_, rfl⟩
  obtain ⟨dz, hdz⟩ : ∃ d : Int, d = (Gf.len z : Int) - 1 := ⟨_, rfl⟩
  have hdd : dx + dy = dz := by omega
  have hdw : IntKind.i64.wrap dz = dz := by rw [IntKind.wrap_i64]; omega
  have HXY : Hid ((x < 2 ^ 64 ∧ y < 2 ^ 64) ∧ Gf.len x + Gf.len y ≤ 65 ∧ Gf.pmul x y = z) := ⟨⟨by omega, by omega⟩, by omega, hz⟩
  have HZ : Hid (z < 2 ^ 64 ∧ irr z = false) := ⟨hz64, hzi⟩
  have HDX := Lib.hid hdx
  have HDY := Lib.hid hdy
  have HDZ := Lib.hid hdz
  have HP := Lib.hid hp
  have HQ := Lib.hid hq
  clear hx2 hy2 hx32 hy32 lx ly hz hzl hzl2 hzi hz64 hdx hdy hdz ha hb hp hq
  cases hi : irr p with
  | false =>
    have HI := Lib.hid hi
    clear hi
    go_enter Tryd.func10, Tryd.ntmps10
    go_wp2_with (first
      | (go_at_call 20; ((with_reducible refine (mul_any x y HXY.out.1.1 HXY.out.1.2 HXY.out.2.1 z HXY.out.2.2 _).mono ?_); rintro e w1 ⟨rfl, hB1⟩))
      | (go_at_call 27; ((with_reducible refine (irr_any z HZ.out.1 false HZ.out.2 _).mono ?_); rintro e w1 ⟨rfl, rfl⟩))
      | (go_at_call 27; ((with_reducible refine (irr_any p HP.out false HI.out _).mono ?_); rintro e w1 ⟨rfl, rfl⟩))
      | (go_at_call 27; ((with_reducible refine (irr_2 _).mono ?_); rintro e w1 ⟨rfl, rfl⟩))
      | (go_at_call 27; ((with_reducible refine (irr_3 _).mono ?_); rintro e w1 ⟨rfl, rfl⟩))
      | (go_at_call 27; ((with_reducible refine (irr_0 _).mono ?_); rintro e w1 ⟨rfl, rfl⟩))
      | (go_at_call 27; ((with_reducible refine (irr_1 _).mono ?_); rintro e w1 ⟨rfl, rfl⟩))
      | (go_at_call 23; ((with_reducible refine (degree_any x HXY.out.1.1 dx HDX.out _).mono ?_); rintro e w1 ⟨rfl, rfl⟩))
      | (go_at_call 23; ((with_reducible refine (degree_any y HXY.out.1.2 dy HDY.out _).mono ?_); rintro e w1 ⟨rfl, rfl⟩))
      | (go_at_call 23; ((with_reducible refine (degree_any z HZ.out.1 dz HDZ.out _).mono ?_); rintro e w1 ⟨rfl, rfl⟩))
      | (go_at_call 14; ((with_reducible refine (awake_any _).mono ?_); rintro e w10 ⟨rfl, hB10⟩)))
    go_ret
    exact ⟨rfl, hB1.trans (hB10.mono hB1.size)⟩
  | true =>
    have hp0 := irr_ne hi
    obtain ⟨k, hk⟩ : ∃ r, Gf.pdiv q p = r := ⟨_, rfl⟩
    obtain ⟨r, hr⟩ : ∃ r, Gf.pmod q p = r := ⟨_, rfl⟩
    have hrl : Gf.len r < Gf.len p := by rw [← hr]; exact Gf.mod_len q hp0
    have HR64 : Hid (r < 2 ^ 64) := by show _ < _; rw [← hr]; exact mod_64 HP.out hp0
    have HG : Hid (r ≠ 0 → Gf.pgcd p r = 1) := fun h => irr_gcd hi h hrl
    have HI := Lib.hid hi
    have HK := Lib.hid hk
    have HR := Lib.hid hr
    have HP0 := Lib.hid hp0
    clear hi hk hr hrl hp0
    by_cases hr0 : r = 0
    · have hrI : ¬ ((0 : Int) < (r : Int)) := by omega
      clear hr0
      go_enter Tryd.func10, Tryd.ntmps10
      go_wp2_with (first
        | (go_at_call 20; ((with_reducible refine (mul_any x y HXY.out.1.1 HXY.out.1.2 HXY.out.2.1 z HXY.out.2.2 _).mono ?_); rintro e w1 ⟨rfl, hB1⟩))
        | (go_at_call 27; ((with_reducible refine (irr_any z HZ.out.1 false HZ.out.2 _).mono ?_); rintro e w1 ⟨rfl, rfl⟩))
        | (go_at_call 27; ((with_reducible refine (irr_any p HP.out true HI.out _).mono ?_); rintro e w1 ⟨rfl, rfl⟩))
        | (go_at_call 22; ((with_reducible refine (div_as q p HQ.out HP.out HP0.out k r HK.out HR.out _).mono ?_); rintro e w1 ⟨rfl, rfl⟩))
        | (go_at_call 27; ((with_reducible refine (irr_2 _).mono ?_); rintro e w1 ⟨rfl, rfl⟩))
        | (go_at_call 27; ((with_reducible refine (irr_3 _).mono ?_); rintro e w1 ⟨rfl, rfl⟩))
        | (go_at_call 27; ((with_reducible refine (irr_0 _).mono ?_); rintro e w1 ⟨rfl, rfl⟩))
        | (go_at_call 27; ((with_reducible refine (irr_1 _).mono ?_); rintro e w1 ⟨rfl, rfl⟩))
        | (go_at_call 23; ((with_reducible refine (degree_any x HXY.out.1.1 dx HDX.out _).mono ?_); rintro e w1 ⟨rfl, rfl⟩))
        | (go_at_call 23; ((with_reducible refine (degree_any y HXY.out.1.2 dy HDY.out _).mono ?_); rintro e w1 ⟨rfl, rfl⟩))
        | (go_at_call 23; ((with_reducible refine (degree_any z HZ.out.1 dz HDZ.out _).mono ?_); rintro e w1 ⟨rfl, rfl⟩))
        | (go_at_call 14; ((with_reducible refine (awake_any _).mono ?_); rintro e w10 ⟨rfl, hB10⟩)))
      go_ret
      exact ⟨rfl, hB1.trans (hB10.mono hB1.size)⟩
    · have hrI : (0 : Int) < (r : Int) := by omega
      have HR0 := Lib.hid hr0
      clear hr0
      go_enter Tryd.func10, Tryd.ntmps10
      go_wp2_with (first
        | (go_at_call 20; ((with_reducible refine (mul_any x y HXY.out.1.1 HXY.out.1.2 HXY.out.2.1 z HXY.out.2.2 _).mono ?_); rintro e w1 ⟨rfl, hB1⟩))
        | (go_at_call 27; ((with_reducible refine (irr_any z HZ.out.1 false HZ.out.2 _).mono ?_); rintro e w1 ⟨rfl, rfl⟩))
        | (go_at_call 27; ((with_reducible refine (irr_any p HP.out true HI.out _).mono ?_); rintro e w1 ⟨rfl, rfl⟩))
        | (go_at_call 22; ((with_reducible refine (div_as q p HQ.out HP.out HP0.out k r HK.out HR.out _).mono ?_); rintro e w1 ⟨rfl, rfl⟩))
        | (go_at_call 24; ((with_reducible refine (gcd_is1 p r HP.out HR64.out (HG.out HR0.out) _).mono ?_); rintro e w1 ⟨rfl, rfl⟩))
        | (go_at_call 27; ((with_reducible refine (irr_2 _).mono ?_); rintro e w1 ⟨rfl, rfl⟩))
        | (go_at_call 27; ((with_reducible refine (irr_3 _).mono ?_); rintro e w1 ⟨rfl, rfl⟩))
        | (go_at_call 27; ((with_reducible refine (irr_0 _).mono ?_); rintro e w1 ⟨rfl, rfl⟩))
        | (go_at_call 27; ((with_reducible refine (irr_1 _).mono ?_); rintro e w1 ⟨rfl, rfl⟩))
        | (go_at_call 23; ((with_reducible refine (degree_any x HXY.out.1.1 dx HDX.out _).mono ?_); rintro e w1 ⟨rfl, rfl⟩))
        | (go_at_call 23; ((with_reducible refine (degree_any y HXY.out.1.2 dy HDY.out _).mono ?_); rintro e w1 ⟨rfl, rfl⟩))
        | (go_at_call 23; ((with_reducible refine (degree_any z HZ.out.1 dz HDZ.out _).mono ?_); rintro e w1 ⟨rfl, rfl⟩))
        | (go_at_call 14; ((with_reducible refine (awake_any _).mono ?_); rintro e w10 ⟨rfl, hB10⟩)))
      go_ret
      exact ⟨rfl, hB1.trans (hB10.mono hB1.size)⟩
theorem products_walk (a0 a1 a2 a3 : Int) (w0 : (Lit.int .u32 a0).wf = true) (w1 : (Lit.int .u32 a1).wf = true) (w2 : (Lit.int .u64 a2).wf = true) (w3 : (Lit.int .u64 a3).wf = true) (w : World) :
    Calls Tryd.prog 10 #[.int .u32 a0, .int .u32 a1, .int .u64 a2, .int .u64 a3] w fun e w' => e = .returned (.bool true) ∧ Below w.heap.size w w' := by
  have b0 := bounds_u32 w0
  have b1 := bounds_u32 w1
  have b2 := bounds_u64 w2
  have b3 := bounds_u64 w3
  obtain ⟨x, rfl⟩ := Int.eq_ofNat_of_zero_le b0.1
  obtain ⟨y, rfl⟩ := Int.eq_ofNat_of_zero_le b1.1
  obtain ⟨z, rfl⟩ := Int.eq_ofNat_of_zero_le b2.1
  obtain ⟨m, rfl⟩ := Int.eq_ofNat_of_zero_le b3.1
  exact products_law x y z m (by omega) (by omega) (by omega) (by omega) w

end Go.Proofs.YtnnakoljbdlhoaaDoor
