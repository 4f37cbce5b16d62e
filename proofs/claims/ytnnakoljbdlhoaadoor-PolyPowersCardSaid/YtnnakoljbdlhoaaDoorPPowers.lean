/-
  The walk of PolyPowers.
-/
import Derived.Test.YtnnakoljbdlhoaaDoorPProducts
import Derived.Test.YtnnakoljbdlhoaaDoorOrd
namespace Go.Proofs.YtnnakoljbdlhoaaDoor
open Go.RowKit
set_option linter.unusedVariables false

theorem power_as (n s r : Nat) (hn : n < 2 ^ 63) (hs : s < 2 ^ 64) (h0 : s ≠ 0) (hr : pw s n = r) (w : World) : Calls Tryd.prog 25 #[.int .i64 n, .int .u64 s] w fun e w' => e = .returned (.tuple #[.int .u64 r, .int .i64 0]) ∧ Below w.heap.size w w' :=
  power_any n s hn hs h0 r hr w
theorem power_is1 (n s : Nat) (hn : n < 2 ^ 63) (hs : s < 2 ^ 64) (h0 : s ≠ 0) (hr : pw s n = 1) (w : World) : Calls Tryd.prog 25 #[.int .i64 n, .int .u64 s] w fun e w' => e = .returned (.tuple #[.int .u64 1, .int .i64 0]) ∧ Below w.heap.size w w' :=
  power_any n s hn hs h0 1 hr w
theorem power_of0 (s : Nat) (hs : s < 2 ^ 64) (h0 : s ≠ 0) (hr : pw s 0 = 1) (w : World) : Calls Tryd.prog 25 #[.int .i64 0, .int .u64 s] w fun e w' => e = .returned (.tuple #[.int .u64 1, .int .i64 0]) ∧ Below w.heap.size w w' :=
  power_any 0 s (by decide) hs h0 1 hr w
theorem power_03 (w : World) : Calls Tryd.prog 25 #[.int .i64 0, .int .u64 3] w fun e w' => e = .returned (.tuple #[.int .u64 1, .int .i64 0]) ∧ Below w.heap.size w w' :=
  power_any 0 3 (by decide) (by decide) (by decide) 1 (by decide +kernel) w
theorem power_13 (w : World) : Calls Tryd.prog 25 #[.int .i64 1, .int .u64 3] w fun e w' => e = .returned (.tuple #[.int .u64 1, .int .i64 0]) ∧ Below w.heap.size w w' :=
  power_any 1 3 (by decide) (by decide) (by decide) 1 (by decide +kernel) w
theorem degree_3 (w : World) : Calls Tryd.prog 23 #[.int .u64 3] w fun e w' => e = .returned (.int .i64 1) ∧ w = w' :=
  degree_any 3 (by decide) 1 (by decide +kernel) w
theorem wrap64_of {q : Int} (h0 : 0 ≤ q) (h1 : q ≤ 9223372036854775807) : wrap64 q = q := by unfold wrap64; omega
theorem wrapi_of {q : Int} (h0 : 0 ≤ q) (h1 : q ≤ 9223372036854775807) : IntKind.i64.wrap q = q := by rw [IntKind.wrap_i64]; omega
theorem mod2_odd {s : Nat} (h : s % 2 = 1) : Gf.pmod s 2 ≠ 0 := fun e => by
  obtain ⟨q, hq⟩ := Gf.dvd_of_mod (by decide) e
  rw [← two_pmul1] at hq
  omega

set_option maxRecDepth 100000 in
set_option maxHeartbeats 8000000 in
theorem powers_law (m n k a : Nat) (hm : m < 2 ^ 64) (hn : n < 2 ^ 32) (hk : k < 2 ^ 32) (ha : a < 2 ^ 16) (w : World) :
    Calls Tryd.prog 9 #[.int .u64 m, .int .u32 n, .int .u32 k, .int .u16 a] w fun e w' => e = .returned (.bool true) ∧ Below w.heap.size w w' := by
  obtain ⟨u, hu⟩ : ∃ n : Nat, max (m : Int) 1 = (n : Int) := ⟨max m 1, by omega⟩
  have hu0 : u ≠ 0 := by omega
  have hu64 : u < 2 ^ 64 := by omega
  have hwn : IntKind.i64.wrap (n : Int) = (n : Int) := by rw [IntKind.wrap_i64]; omega
  have hwk : IntKind.i64.wrap (k : Int) = (k : Int) := by rw [IntKind.wrap_i64]; omega
  obtain ⟨t, ht⟩ : ∃ t, n + k = t := ⟨_, rfl⟩
  have htI : (n : Int) + (k : Int) = (t : Int) := by omega
  have hwt : IntKind.i64.wrap (t : Int) = (t : Int) := by rw [IntKind.wrap_i64]; omega
  have ht63 : t < 2 ^ 63 := by omega
  obtain ⟨x, hx⟩ : ∃ r, pw u n = r := ⟨_, rfl⟩
  obtain ⟨y, hy⟩ : ∃ r, pw u k = r := ⟨_, rfl⟩
  obtain ⟨z, hz⟩ : ∃ r, pw u t = r := ⟨_, rfl⟩
  have hzm : Gf.pmod (Gf.pmul x y) u = z := by rw [← hx, ← hy, ← pw_add hu0, ht]; exact hz
  have HX64 : Hid (x < 2 ^ 64 ∧ y < 2 ^ 64) := by
    refine ⟨?_, ?_⟩
    · rw [← hx]; have := pw_63 u hu0 hu64 n; omega
    · rw [← hy]; have := pw_63 u hu0 hu64 k; omega
  have HU : Hid (u < 2 ^ 64 ∧ u ≠ 0) := ⟨hu64, hu0⟩
  have HN : Hid (n < 2 ^ 63 ∧ k < 2 ^ 63 ∧ t < 2 ^ 63) := ⟨by omega, by omega, ht63⟩
  have HX := Lib.hid hx
  have HY := Lib.hid hy
  have HZ := Lib.hid hz
  have HZM := Lib.hid hzm
  have hwa : IntKind.u64.wrap (a : Int) = (a : Int) := wrap_nat _ (by omega)
  obtain ⟨b, hb⟩ : ∃ b, a % 32768 = b := ⟨_, rfl⟩
  have hbI : (a : Int) % 32768 = (b : Int) := by omega
  have hb15 : b < 2 ^ 15 := by omega
  obtain ⟨s, hs⟩ : ∃ s, b ||| 1 = s := ⟨_, rfl⟩
  have hs15 : s < 2 ^ 15 := by rw [← hs]; exact Nat.or_lt_two_pow hb15 (by decide)
  have hodd : s % 2 = 1 := by
    have : (s : Nat).testBit 0 = true := by rw [← hs, Nat.testBit_or]; simp
    rw [Nat.testBit_zero] at this; simpa using this
  have hsI : bits .or .u64 (b : Int) 1 = (s : Int) := by
    have := u64_or_nat b 1 (by omega) (by decide)
    rw [← hs]; exact this
  clear hu0 hu64 ht ht63 hx hy hz hzm hb hb15 hs hm ha
  have hn1 : (0 : Int) ≤ (n : Int) := by omega
  have hk1 : (0 : Int) ≤ (k : Int) := by omega
  have hn2 : (n : Int) < 4294967296 := by omega
  have hk2 : (k : Int) < 4294967296 := by omega
  clear hn hk
  by_cases h1 : s = 1
  · subst h1
    have hsI' : bits .or .u64 (b : Int) 1 = 1 := hsI
    clear hsI hs15 hodd
    go_enter Tryd.func9, Tryd.ntmps9
    go_wp2_with (first
      | (go_at_call 25; ((with_reducible refine (power_as n u x HN.out.1 HU.out.1 HU.out.2 HX.out _).mono ?_); rintro e w1 ⟨rfl, hB1⟩))
      | (go_at_call 25; ((with_reducible refine (power_as k u y HN.out.2.1 HU.out.1 HU.out.2 HY.out _).mono ?_); rintro e w2 ⟨rfl, hB2⟩))
      | (go_at_call 25; ((with_reducible refine (power_as t u z HN.out.2.2 HU.out.1 HU.out.2 HZ.out _).mono ?_); rintro e w3 ⟨rfl, hB3⟩))
      | (go_at_call 21; ((with_reducible refine (mulModP_any x y u HX64.out.1 HX64.out.2 HU.out.1 HU.out.2 z HZM.out _).mono ?_); rintro e w9 ⟨rfl, rfl⟩))
      | (go_at_call 26; ((with_reducible refine (c_ord3 _).mono ?_); rintro e w9 ⟨rfl, rfl⟩))
      | (go_at_call 25; ((with_reducible refine (power_03 _).mono ?_); rintro e w4 ⟨rfl, hB4⟩))
      | (go_at_call 25; ((with_reducible refine (power_13 _).mono ?_); rintro e w5 ⟨rfl, hB5⟩)))
    have t3 := (hB1.trans (hB2.mono hB1.size))
    have t4 := t3.trans (hB3.mono t3.size)
    have t5 := t4.trans (hB4.mono t4.size)
    have T5 := Lib.hid (t5.trans (hB5.mono t5.size))
    clear hB1 hB2 hB3 hB4 hB5 t3 t4 t5
    refine wp_loop_rounds 1 ?_
    rw [rounds_succ]
    go_wp2_with (first
      | (go_at_call 27; ((with_reducible refine (irr_3 _).mono ?_); rintro e w9 ⟨rfl, rfl⟩))
      | (go_at_call 23; ((with_reducible refine (degree_3 _).mono ?_); rintro e w9 ⟨rfl, rfl⟩))
      | (go_at_call 14; ((with_reducible refine (awake_any _).mono ?_); rintro e w10 ⟨rfl, hB10⟩)))
    go_ret
    exact ⟨rfl, T5.out.trans (hB10.mono T5.out.size)⟩
  · have hsb : ((s : Int) == 1) = false := by simp; omega
    have hl2 : 2 ≤ Gf.len s := Nat.succ_le_of_lt (Gf.lt_len.2 (by omega))
    have hl15 : Gf.len s ≤ 15 := Gf.len_le.2 hs15
    have hs2 := mod2_odd hodd
    obtain ⟨N, hN1, hNB, hone, hmin⟩ := order_exists hl2 hs2
    have hNmax : N ≤ 16384 := Nat.le_trans hNB (Nat.pow_le_pow_right (by decide) (by omega) : 2 ^ (Gf.len s - 1) ≤ 2 ^ 14)
    have hs0 : s ≠ 0 := by omega
    have HS : Hid ((s < 2 ^ 64 ∧ s ≠ 0) ∧ (2 ≤ Gf.len s ∧ Gf.len s ≤ 21) ∧ Gf.pmod s 2 ≠ 0) := ⟨⟨by omega, hs0⟩, ⟨hl2, by omega⟩, hs2⟩
    have HNN : Hid ((1 ≤ N ∧ N ≤ 1000000000) ∧ N < 2 ^ 63 ∧ pw s N = 1 ∧ ∀ k, 1 ≤ k → k < N → pw s k ≠ 1) := ⟨⟨hN1, by omega⟩, by omega, hone, hmin⟩
    have HS1 : Hid (pw s 0 = 1) := Gf.one_mod hl2
    have hNI : (1 : Int) ≤ (N : Int) := by omega
    have hNI2 : (N : Int) ≤ 16384 := by omega
    obtain ⟨d, hd⟩ : ∃ d : Nat, Gf.len s - 1 = d := ⟨_, rfl⟩
    have HD : Hid ((d : Int) = (Gf.len s : Int) - 1) := by show _ = _; omega
    obtain ⟨P, hP⟩ : ∃ P : Nat, 2 ^ d = P := ⟨_, rfl⟩
    have hPmax : P ≤ 16384 := by rw [← hP]; exact (Nat.pow_le_pow_right (by decide) (by omega) : 2 ^ d ≤ 2 ^ 14)
    have hP1 : 1 ≤ P := by rw [← hP]; exact Nat.pow_pos (by decide)
    have hdI : (d : Int) < 64 := by omega
    have hdI0 : (0 : Int) ≤ (d : Int) := by omega
    have hPI : IntKind.i64.wrap ((2 : Int) ^ d) = (P : Int) := by rw [← cast_pow, hP, IntKind.wrap_i64]; omega
    have hPI2 : (2 : Int) ^ d = (P : Int) := by rw [← cast_pow, hP]
    have hPlo : (1 : Int) ≤ (P : Int) := by omega
    have hPhi : (P : Int) ≤ 16384 := by omega
    have HIR : Hid (irr s = true → (P - 1) % N = 0) := fun h => by
      have := order_irr h hs2 hN1 hone hmin
      rw [hd, hP] at this; exact this
    clear hl2 hl15 hs2 hs15 hodd hN1 hNB hone hmin hNmax hs0 hd hP hPmax hP1 h1
    have hNx : ¬ ((N : Int) < 1) := by omega
    have hNy : decide ((N : Int) < 1) = false := by simp; omega
    go_enter Tryd.func9, Tryd.ntmps9
    go_wp2_with (first
      | (go_at_call 25; ((with_reducible refine (power_as n u x HN.out.1 HU.out.1 HU.out.2 HX.out _).mono ?_); rintro e w1 ⟨rfl, hB1⟩))
      | (go_at_call 25; ((with_reducible refine (power_as k u y HN.out.2.1 HU.out.1 HU.out.2 HY.out _).mono ?_); rintro e w2 ⟨rfl, hB2⟩))
      | (go_at_call 25; ((with_reducible refine (power_as t u z HN.out.2.2 HU.out.1 HU.out.2 HZ.out _).mono ?_); rintro e w3 ⟨rfl, hB3⟩))
      | (go_at_call 21; ((with_reducible refine (mulModP_any x y u HX64.out.1 HX64.out.2 HU.out.1 HU.out.2 z HZM.out _).mono ?_); rintro e w9 ⟨rfl, rfl⟩))
      | (go_at_call 26; ((with_reducible refine (order_is s N HS.out.1.1 HS.out.2.1.1 HS.out.2.1.2 HS.out.2.2 HNN.out.1.1 HNN.out.1.2 HNN.out.2.2.1 HNN.out.2.2.2 _).mono ?_); rintro e w9 ⟨rfl, rfl⟩))
      | (go_at_call 25; ((with_reducible refine (power_of0 s HS.out.1.1 HS.out.1.2 HS1.out _).mono ?_); rintro e w4 ⟨rfl, hB4⟩))
      | (go_at_call 25; ((with_reducible refine (power_is1 N s HNN.out.2.1 HS.out.1.1 HS.out.1.2 HNN.out.2.2.1 _).mono ?_); rintro e w5 ⟨rfl, hB5⟩)))
    have t3 := (hB1.trans (hB2.mono hB1.size))
    have t4 := t3.trans (hB3.mono t3.size)
    have t5 := t4.trans (hB4.mono t4.size)
    have T5 := t5.trans (hB5.mono t5.size)
    clear hB1 hB2 hB3 hB4 hB5 t3 t4 t5
    go_loopw [23] (fun i wr => ∃ p : Nat, i = .int .i64 (p : Int) ∧ 2 ≤ p ∧ p ≤ N + 1 ∧ Below w.heap.size w wr) (fun i _ => N + 1 - (intOf i).toNat)
    case atStart => exact ⟨2, rfl, Nat.le_refl _, by have := HNN.out.1.1; omega, T5⟩
    case round =>
      obtain ⟨p, rfl, hp2, hpN, hbel⟩ := hrel
      have HBE := Lib.hid hbel
      have hp2I : (2 : Int) ≤ (p : Int) := by omega
      have hpz : ((p : Int) == 0) = false := by simp; omega
      clear hbel T5
      by_cases hlt : p ≤ N
      · have hltI : (p : Int) ≤ (N : Int) := by omega
        clear hu hwn hwk htI hwt hwa hbI hsI hn1 hk1 hn2 hk2 hsb hdI hdI0 hPI hPI2 hPlo hPhi hNx hNy
        obtain ⟨rm, hrm⟩ : ∃ r, N % p = r := ⟨_, rfl⟩
        have hmE : (N : Int) % (p : Int) = (rm : Int) := by omega
        have hmT : (N : Int).tmod (p : Int) = (rm : Int) := by rw [Int.tmod_eq_emod_of_nonneg (by omega)]; exact hmE
        have HLT := Lib.hid hlt
        have hp16 : (p : Int) ≤ 16384 := Int.le_trans hltI hNI2
        by_cases hr0 : rm = 0
        · subst hr0
          have hmE' : (N : Int) % (p : Int) = 0 := hmE
          have hmT' : (N : Int).tmod (p : Int) = 0 := hmT
          obtain ⟨q, hq⟩ : ∃ r, N / p = r := ⟨_, rfl⟩
          have hdE : (N : Int) / (p : Int) = (q : Int) := by rw [← hq]; exact (Int.natCast_ediv N p).symm
          have hdT : (N : Int).tdiv (p : Int) = (q : Int) := by rw [Int.tdiv_eq_ediv_of_nonneg (by omega)]; exact hdE
          have hqN : N = p * q := by have := Nat.div_add_mod N p; rw [hrm, hq] at this; omega
          have hq1 : 1 ≤ q := by
            rcases Nat.eq_zero_or_pos q with h | h
            · rw [h, Nat.mul_zero] at hqN; omega
            · exact h
          have hq2 : q < N := by
            have : 2 * q ≤ p * q := Nat.mul_le_mul_right q hp2
            omega
          have hq16 : q ≤ 16384 := Nat.le_trans (Nat.le_of_lt hq2) (Int.ofNat_le.1 hNI2)
          have hqI : (q : Int) ≤ 9223372036854775807 := Int.le_trans (Int.ofNat_le.2 hq16) (by decide)
          have hqw : wrap64 (q : Int) = (q : Int) := wrap64_of (Int.natCast_nonneg q) hqI
          have hqw2 : IntKind.i64.wrap (q : Int) = (q : Int) := wrapi_of (Int.natCast_nonneg q) hqI
          have HQ : Hid (q < 2 ^ 63) := Nat.lt_of_le_of_lt hq16 (by decide)
          clear hq16 hqI
          obtain ⟨v, hv⟩ : ∃ v, pw s q = v := ⟨_, rfl⟩
          have hv1 : v ≠ 1 := by rw [← hv]; exact HNN.out.2.2.2 q hq1 hq2
          have hvI : ((v : Int) == 1) = false := by simp; omega
          have HV := Lib.hid hv
          clear hrm hmE hmT hlt hq hqN hq1 hq2 hv hv1
          go_wp2_with (go_at_call 25; ((with_reducible refine (power_as q s v HQ.out HS.out.1.1 HS.out.1.2 HV.out _).mono ?_); rintro e w6 ⟨rfl, hB6⟩))
          go_roundw
          case rel => exact ⟨p + 1, by go_num, Nat.le_succ_of_le hp2, Nat.succ_le_succ HLT.out, HBE.out.trans (hB6.mono HBE.out.size)⟩
          case measure => have := HLT.out; simp [intOf]; omega
        · have hrI : (0 : Int) < (rm : Int) := by omega
          have hrI2 : decide ((0 : Int) < (rm : Int)) = true := by simp; omega
          have hrI3 : ¬ ((rm : Int) ≤ 0) := by omega
          clear hrm hr0 hlt
          go_wp2
          go_roundw
          case rel => exact ⟨p + 1, by go_num, Nat.le_succ_of_le hp2, Nat.succ_le_succ HLT.out, HBE.out⟩
          case measure => have := HLT.out; simp [intOf]; omega
      · have hltI : ¬ (p : Int) ≤ (N : Int) := by omega
        have hltI2 : (N : Int) < (p : Int) := by omega
        clear hlt hpN hp2
        cases hi : irr s with
        | false =>
          have HI := Lib.hid hi
          clear hi
          go_wp2_with (first
            | (go_at_call 27; ((with_reducible refine (irr_any s HS.out.1.1 false HI.out _).mono ?_); rintro e w9 ⟨rfl, rfl⟩))
            | (go_at_call 14; ((with_reducible refine (awake_any _).mono ?_); rintro e w10 ⟨rfl, hB10⟩)))
          go_ret
          exact ⟨rfl, HBE.out.trans (hB10.mono HBE.out.size)⟩
        | true =>
          have hP0 := HIR.out hi
          have hPc : ((P - 1 : Nat) : Int) = (P : Int) - 1 := by omega
          have hPE : ((P : Int) - 1) % (N : Int) = 0 := by rw [← hPc, ← Int.natCast_emod, hP0]; rfl
          have hPT : ((P : Int) - 1).tmod (N : Int) = 0 := by rw [Int.tmod_eq_emod_of_nonneg (by omega)]; exact hPE
          have hNz : ((N : Int) == 0) = false := by simp; omega
          have HI := Lib.hid hi
          clear hi hP0 hPc
          go_wp2_with (first
            | (go_at_call 27; ((with_reducible refine (irr_any s HS.out.1.1 true HI.out _).mono ?_); rintro e w9 ⟨rfl, rfl⟩))
            | (go_at_call 23; ((with_reducible refine (degree_any s HS.out.1.1 d HD.out _).mono ?_); rintro e w9 ⟨rfl, rfl⟩))
            | (go_at_call 14; ((with_reducible refine (awake_any _).mono ?_); rintro e w10 ⟨rfl, hB10⟩)))
          go_ret
          exact ⟨rfl, HBE.out.trans (hB10.mono HBE.out.size)⟩
theorem powers_walk (a0 a1 a2 a3 : Int) (w0 : (Lit.int .u64 a0).wf = true) (w1 : (Lit.int .u32 a1).wf = true) (w2 : (Lit.int .u32 a2).wf = true) (w3 : (Lit.int .u16 a3).wf = true) (w : World) :
    Calls Tryd.prog 9 #[.int .u64 a0, .int .u32 a1, .int .u32 a2, .int .u16 a3] w fun e w' => e = .returned (.bool true) ∧ Below w.heap.size w w' := by
  have b0 := bounds_u64 w0
  have b1 := bounds_u32 w1
  have b2 := bounds_u32 w2
  have b3 := bounds_u16 w3
  obtain ⟨x, rfl⟩ := Int.eq_ofNat_of_zero_le b0.1
  obtain ⟨y, rfl⟩ := Int.eq_ofNat_of_zero_le b1.1
  obtain ⟨z, rfl⟩ := Int.eq_ofNat_of_zero_le b2.1
  obtain ⟨m, rfl⟩ := Int.eq_ofNat_of_zero_le b3.1
  exact powers_law x y z m (by omega) (by omega) (by omega) (by omega) w

end Go.Proofs.YtnnakoljbdlhoaaDoor
