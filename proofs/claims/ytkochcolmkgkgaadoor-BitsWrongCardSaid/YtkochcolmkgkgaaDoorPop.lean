/-
  How many bits of a word are 1: math/bits.OnesCount64.
-/
import Derived.Test.YtkochcolmkgkgaaDoorBm
import Derived.Test.YtkochcolmkgkgaaDoorProg
import Derived.Lib.Strings
import Derived.Lib.Slices
import Derived.Lib.Small
import Derived.Lib.Walk
import Derived.Lib.BitFns
import Derived.Lib.Hide
import Derived.Laws.Bits64b
import Derived.Laws.Bits128
namespace Go.Proofs.YtkochcolmkgkgaaDoor
set_option linter.unusedVariables false
namespace Bm

def rep (c : Nat) : Nat → Nat
  | 0 => 0
  | n + 1 => 2 ^ 8 * rep c n + c
theorem and_byte (a b c d : Nat) (ha : a < 256) (hc : c < 256) : (2 ^ 8 * b + a) &&& (2 ^ 8 * d + c) = 2 ^ 8 * (b &&& d) + (a &&& c) := by
  apply Nat.eq_of_testBit_eq
  intro i
  rw [Nat.testBit_and, Nat.testBit_two_pow_mul_add _ (show a < 2 ^ 8 by omega), Nat.testBit_two_pow_mul_add _ (show c < 2 ^ 8 by omega), Nat.testBit_two_pow_mul_add _ (Nat.and_lt_two_pow _ (show c < 2 ^ 8 by omega))]
  split <;> simp
def t1 (a : Nat) : Nat := (a / 2 &&& 85) + (a &&& 85)
def t2 (a : Nat) : Nat := (a / 4 &&& 51) + (a &&& 51)
def s1 (n x : Nat) : Nat := (x / 2 &&& rep 85 n) + (x &&& rep 85 n)
def s2 (n x : Nat) : Nat := (x / 4 &&& rep 51 n) + (x &&& rep 51 n)
def s3 (n x : Nat) : Nat := (x / 16 + x) &&& rep 15 n
theorem d1 : ∀ (a : Fin 256) (c : Fin 2), (a.val / 2 + 128 * c.val) &&& 85 = a.val / 2 &&& 85 := by decide +kernel
theorem d2 : ∀ (a : Fin 256) (c : Fin 4), (a.val / 4 + 64 * c.val) &&& 51 = a.val / 4 &&& 51 := by decide +kernel
theorem d3 : ∀ (a : Fin 256) (c : Fin 5), (t2 (t1 a.val) / 16 + 16 * c.val + t2 (t1 a.val)) &&& 15 = cnt a.val 8 := by decide +kernel
theorem d4 : ∀ a : Fin 256, t1 a.val < 256 ∧ t2 (t1 a.val) ≤ 68 ∧ t2 (t1 a.val) % 16 ≤ 4 := by decide +kernel
theorem s1_step (n a y : Nat) (ha : a < 256) : s1 (n + 1) (2 ^ 8 * y + a) = 2 ^ 8 * s1 n y + t1 a := by
  unfold s1 t1
  have e : (2 ^ 8 * y + a) / 2 = 2 ^ 8 * (y / 2) + (a / 2 + 128 * (y % 2)) := by omega
  rw [rep, e, and_byte _ _ _ _ (by omega) (by decide), and_byte _ _ _ _ ha (by decide), show (a / 2 + 128 * (y % 2)) &&& 85 = a / 2 &&& 85 from d1 ⟨a, ha⟩ ⟨y % 2, by omega⟩]
  generalize y / 2 &&& rep 85 n = A; generalize y &&& rep 85 n = B; generalize a / 2 &&& 85 = C; generalize a &&& 85 = D
  omega
theorem s2_step (n a y : Nat) (ha : a < 256) : s2 (n + 1) (2 ^ 8 * y + a) = 2 ^ 8 * s2 n y + t2 a := by
  unfold s2 t2
  have e : (2 ^ 8 * y + a) / 4 = 2 ^ 8 * (y / 4) + (a / 4 + 64 * (y % 4)) := by omega
  rw [rep, e, and_byte _ _ _ _ (by omega) (by decide), and_byte _ _ _ _ ha (by decide), show (a / 4 + 64 * (y % 4)) &&& 51 = a / 4 &&& 51 from d2 ⟨a, ha⟩ ⟨y % 4, by omega⟩]
  generalize y / 4 &&& rep 51 n = A; generalize y &&& rep 51 n = B; generalize a / 4 &&& 51 = C; generalize a &&& 51 = D
  omega
theorem s2_low (n y : Nat) : s2 n (s1 n y) % 16 ≤ 4 := by
  cases n with
  | zero => simp [s2, rep]
  | succ n =>
    have e : y = 2 ^ 8 * (y / 256) + y % 256 := by omega
    have h := d4 ⟨y % 256, by omega⟩
    rw [e, s1_step _ _ _ (by omega), s2_step _ _ _ h.1]
    have := h.2.2
    simp only at this
    omega
def pf (n x : Nat) : Nat := s3 n (s2 n (s1 n x))
theorem pf_step (n a y : Nat) (ha : a < 256) : pf (n + 1) (2 ^ 8 * y + a) = 2 ^ 8 * pf n y + cnt a 8 := by
  have h := d4 ⟨a, ha⟩
  have hl := s2_low n y
  have hd := d3 ⟨a, ha⟩ ⟨s2 n (s1 n y) % 16, by omega⟩
  unfold pf
  rw [s1_step _ _ _ ha, s2_step _ _ _ h.1]
  unfold s3
  simp only at h hd
  generalize s2 n (s1 n y) = Y at *
  generalize t2 (t1 a) = T at *
  have e : (2 ^ 8 * Y + T) / 16 + (2 ^ 8 * Y + T) = 2 ^ 8 * (Y / 16 + Y) + (T / 16 + 16 * (Y % 16) + T) := by omega
  rw [rep, e, and_byte _ _ _ _ (by omega) (by decide), hd]
theorem cnt_byte (a y m : Nat) (ha : a < 256) : cnt (2 ^ 8 * y + a) (8 + m) = cnt a 8 + cnt y m := by
  rw [cnt_add, Nat.mul_add_div (by decide), Nat.div_eq_of_lt (show a < 2 ^ 8 by omega), Nat.add_zero]
  congr 1
  exact cnt_congr 8 (fun i hi => by rw [Nat.testBit_two_pow_mul_add _ (show a < 2 ^ 8 by omega), if_pos hi])
/-- The last steps. -/
theorem pf_sum (x : Nat) (hx : x < 2 ^ 64) : ∃ c p q : Nat, pf 8 x = c ∧ c + c / 256 = p ∧ p + p / 65536 = q ∧ c < 2 ^ 60 ∧ p < 2 ^ 61 ∧ q < 2 ^ 62 ∧ (q + q / 4294967296) % 128 = cnt x 64 := by
  refine ⟨_, _, _, rfl, rfl, rfl, ?_⟩
  have key : ∀ n x, x < 256 ^ (n + 1) → ∃ a y, a < 256 ∧ y < 256 ^ n ∧ x = 2 ^ 8 * y + a := by
    intro n x h
    refine ⟨x % 256, x / 256, Nat.mod_lt _ (by decide), ?_, by omega⟩
    rw [Nat.pow_succ] at h
    exact Nat.div_lt_of_lt_mul (by rw [Nat.mul_comm]; exact h)
  obtain ⟨a0, x1, h0, k1, rfl⟩ := key 7 x (by omega)
  obtain ⟨a1, x2, h1, k2, rfl⟩ := key 6 x1 (by omega)
  obtain ⟨a2, x3, h2, k3, rfl⟩ := key 5 x2 (by omega)
  obtain ⟨a3, x4, h3, k4, rfl⟩ := key 4 x3 (by omega)
  obtain ⟨a4, x5, h4, k5, rfl⟩ := key 3 x4 (by omega)
  obtain ⟨a5, x6, h5, k6, rfl⟩ := key 2 x5 (by omega)
  obtain ⟨a6, x7, h6, k7, rfl⟩ := key 1 x6 (by omega)
  obtain ⟨a7, x8, h7, k8, rfl⟩ := key 0 x7 (by omega)
  obtain rfl : x8 = 0 := by omega
  clear k1 k2 k3 k4 k5 k6 k7 k8 key hx
  rw [pf_step 7 _ _ h0, pf_step 6 _ _ h1, pf_step 5 _ _ h2, pf_step 4 _ _ h3, pf_step 3 _ _ h4, pf_step 2 _ _ h5, pf_step 1 _ _ h6, pf_step 0 _ _ h7]
  rw [cnt_byte _ _ 56 h0, cnt_byte _ _ 48 h1, cnt_byte _ _ 40 h2, cnt_byte _ _ 32 h3, cnt_byte _ _ 24 h4, cnt_byte _ _ 16 h5, cnt_byte _ _ 8 h6, cnt_byte _ _ 0 h7, cnt_zero]
  have e0 : pf 0 0 = 0 := by simp [pf, s3, rep]
  rw [e0]
  have b0 := cnt_le a0 8; have b1 := cnt_le a1 8; have b2 := cnt_le a2 8; have b3 := cnt_le a3 8
  have b4 := cnt_le a4 8; have b5 := cnt_le a5 8; have b6 := cnt_le a6 8; have b7 := cnt_le a7 8
  generalize cnt a0 8 = p0 at *; generalize cnt a1 8 = p1 at *; generalize cnt a2 8 = p2 at *; generalize cnt a3 8 = p3 at *
  generalize cnt a4 8 = p4 at *; generalize cnt a5 8 = p5 at *; generalize cnt a6 8 = p6 at *; generalize cnt a7 8 = p7 at *
  clear h0 h1 h2 h3 h4 h5 h6 h7 e0
  have c1 : (2 ^ 8 * (2 ^ 8 * (2 ^ 8 * (2 ^ 8 * (2 ^ 8 * (2 ^ 8 * (2 ^ 8 * (2 ^ 8 * 0 + p7) + p6) + p5) + p4) + p3) + p2) + p1) + p0) / 256 = p1 + 256 * (p2 + 256 * (p3 + 256 * (p4 + 256 * (p5 + 256 * (p6 + 256 * p7))))) := by omega
  rw [c1]
  obtain ⟨c, hc⟩ : ∃ c, 2 ^ 8 * (2 ^ 8 * (2 ^ 8 * (2 ^ 8 * (2 ^ 8 * (2 ^ 8 * (2 ^ 8 * (2 ^ 8 * 0 + p7) + p6) + p5) + p4) + p3) + p2) + p1) + p0 = c := ⟨_, rfl⟩
  rw [hc]
  have hcl : c < 2 ^ 60 := by omega
  obtain ⟨r0, e0⟩ : ∃ r, r = p0 + p1 := ⟨_, rfl⟩
  obtain ⟨r1, e1⟩ : ∃ r, r = p1 + p2 := ⟨_, rfl⟩
  obtain ⟨r2, e2⟩ : ∃ r, r = p2 + p3 := ⟨_, rfl⟩
  obtain ⟨r3, e3⟩ : ∃ r, r = p3 + p4 := ⟨_, rfl⟩
  obtain ⟨r4, e4⟩ : ∃ r, r = p4 + p5 := ⟨_, rfl⟩
  obtain ⟨r5, e5⟩ : ∃ r, r = p5 + p6 := ⟨_, rfl⟩
  obtain ⟨r6, e6⟩ : ∃ r, r = p6 + p7 := ⟨_, rfl⟩
  obtain ⟨p, hp⟩ : ∃ p, c + (p1 + 256 * (p2 + 256 * (p3 + 256 * (p4 + 256 * (p5 + 256 * (p6 + 256 * p7)))))) = p := ⟨_, rfl⟩
  have hp2 : p = r0 + 256 * (r1 + 256 * (r2 + 256 * (r3 + 256 * (r4 + 256 * (r5 + 256 * (r6 + 256 * p7)))))) := by omega
  rw [hp]
  have hpl : p < 2 ^ 61 := by omega
  have hsum : p0 + p1 + p2 + p3 + p4 + p5 + p6 + p7 = r0 + r2 + r4 + r6 := by omega
  have g0 : r0 ≤ 16 := by omega
  have g1 : r1 ≤ 16 := by omega
  have g2 : r2 ≤ 16 := by omega
  have g3 : r3 ≤ 16 := by omega
  have g4 : r4 ≤ 16 := by omega
  have g5 : r5 ≤ 16 := by omega
  have g6 : r6 ≤ 16 := by omega
  have hres : p0 + (p1 + (p2 + (p3 + (p4 + (p5 + (p6 + (p7 + 0))))))) = r0 + r2 + r4 + r6 := by omega
  rw [hres]
  clear hp hc e0 e1 e2 e3 e4 e5 e6 c1 b0 b1 b2 b3 b4 b5 b6 hsum hres
  have p1' : p / 65536 = r2 + 256 * (r3 + 256 * (r4 + 256 * (r5 + 256 * (r6 + 256 * p7)))) := by omega
  rw [p1']
  obtain ⟨q, hq⟩ : ∃ q, p + (r2 + 256 * (r3 + 256 * (r4 + 256 * (r5 + 256 * (r6 + 256 * p7))))) = q := ⟨_, rfl⟩
  rw [hq]
  obtain ⟨u0, f0⟩ : ∃ r, r = r0 + r2 := ⟨_, rfl⟩
  obtain ⟨u4, f4⟩ : ∃ r, r = r4 + r6 := ⟨_, rfl⟩
  have hq2 : q = u0 + 256 * (r1 + r3 + 256 * (r2 + r4 + 256 * (r3 + r5 + 256 * (u4 + 256 * (r5 + p7 + 256 * (r6 + 256 * p7)))))) := by omega
  have hql : q < 2 ^ 62 := by omega
  have hres : r0 + r2 + r4 + r6 = u0 + u4 := by omega
  rw [hres]
  refine ⟨hcl, hpl, hql, ?_⟩
  have q1 : q / 4294967296 = u4 + 256 * (r5 + p7 + 256 * (r6 + 256 * p7)) := by omega
  rw [q1, hq2]
  have v0 : u0 ≤ 32 := by omega
  have v4 : u4 ≤ 32 := by omega
  clear q1 hq2 hres f0 f4 hq hql p1' hp2 hpl hcl g0 g1 g2 g3 g4 g5 g6
  omega

end Bm

set_option maxRecDepth 100000 in
set_option maxHeartbeats 4000000 in
theorem ones_any (x : Nat) (hx : (x : Int) ≤ 18446744073709551615) (w : World) : Calls Tryd.prog 57 #[.int .u64 x] w fun e w' => e = .returned (.int .i64 (Bm.cnt x 64)) ∧ w = w' := by
  obtain ⟨c, p, q, hc, hp, hq, hcl, hpl, hql, hr⟩ := Bm.pf_sum x (by omega)
  have hx64 : x < 18446744073709551616 := by omega
  unfold Bm.pf at hc
  have r0 : Bm.rep 85 8 = 6148914691236517205 := by decide +kernel
  have r1 : Bm.rep 51 8 = 3689348814741910323 := by decide +kernel
  have r2 : Bm.rep 15 8 = 1085102592571150095 := by decide +kernel
  obtain ⟨A1, hA1⟩ : ∃ A, x / 2 &&& 6148914691236517205 = A := ⟨_, rfl⟩
  obtain ⟨A2, hA2⟩ : ∃ A, x &&& 6148914691236517205 = A := ⟨_, rfl⟩
  have lA1 : A1 < 2 ^ 63 := by rw [← hA1]; exact Nat.and_lt_two_pow _ (by decide)
  have lA2 : A2 < 2 ^ 63 := by rw [← hA2]; exact Nat.and_lt_two_pow _ (by decide)
  have e1 : bits .and .u64 ((x : Int) / 2) 6148914691236517205 = (A1 : Int) := by
    rw [← hA1]; exact bits_and_u64_nat (x / 2) 6148914691236517205 (by omega) (by decide)
  have e2 : bits .and .u64 (x : Int) 6148914691236517205 = (A2 : Int) := by
    rw [← hA2]; exact bits_and_u64_nat x 6148914691236517205 hx64 (by decide)
  obtain ⟨s1, hs1⟩ : ∃ s, A1 + A2 = s := ⟨_, rfl⟩
  have e3 : IntKind.u64.wrap ((A1 : Int) + (A2 : Int)) = (s1 : Int) := by rw [IntKind.wrap_u64]; omega
  have hs1' : Bm.s1 8 x = s1 := by unfold Bm.s1; rw [r0, hA1, hA2, hs1]
  obtain ⟨B1, hB1⟩ : ∃ A, s1 / 4 &&& 3689348814741910323 = A := ⟨_, rfl⟩
  obtain ⟨B2, hB2⟩ : ∃ A, s1 &&& 3689348814741910323 = A := ⟨_, rfl⟩
  have lB1 : B1 < 2 ^ 62 := by rw [← hB1]; exact Nat.and_lt_two_pow _ (by decide)
  have lB2 : B2 < 2 ^ 62 := by rw [← hB2]; exact Nat.and_lt_two_pow _ (by decide)
  have e4 : bits .and .u64 ((s1 : Int) / 4) 3689348814741910323 = (B1 : Int) := by
    rw [← hB1]; exact bits_and_u64_nat (s1 / 4) 3689348814741910323 (by omega) (by decide)
  have e5 : bits .and .u64 (s1 : Int) 3689348814741910323 = (B2 : Int) := by
    rw [← hB2]; exact bits_and_u64_nat s1 3689348814741910323 (by omega) (by decide)
  obtain ⟨s2, hs2⟩ : ∃ s, B1 + B2 = s := ⟨_, rfl⟩
  have e6 : IntKind.u64.wrap ((B1 : Int) + (B2 : Int)) = (s2 : Int) := by rw [IntKind.wrap_u64]; omega
  have hs2' : Bm.s2 8 s1 = s2 := by unfold Bm.s2; rw [r1, hB1, hB2, hs2]
  obtain ⟨m, hm⟩ : ∃ s, s2 / 16 + s2 = s := ⟨_, rfl⟩
  have e7 : IntKind.u64.wrap ((s2 : Int) / 16 + (s2 : Int)) = (m : Int) := by rw [IntKind.wrap_u64]; omega
  have e8 : bits .and .u64 (m : Int) 1085102592571150095 = (c : Int) := by
    rw [← hc, hs1', hs2', Bm.s3, r2, hm]
    exact bits_and_u64_nat m 1085102592571150095 (by omega) (by decide)
  have e9 : IntKind.u64.wrap ((c : Int) + (c : Int) / 256) = (p : Int) := by rw [IntKind.wrap_u64]; omega
  have e10 : IntKind.u64.wrap ((p : Int) + (p : Int) / 65536) = (q : Int) := by rw [IntKind.wrap_u64]; omega
  obtain ⟨r, hr'⟩ : ∃ r, q + q / 4294967296 = r := ⟨_, rfl⟩
  have e11 : IntKind.u64.wrap ((q : Int) + (q : Int) / 4294967296) = (r : Int) := by rw [IntKind.wrap_u64]; omega
  have e12 : IntKind.i64.wrap (r : Int) = (r : Int) := by rw [IntKind.wrap_i64]; omega
  rw [hr'] at hr
  have HR := Lib.hid hr
  clear hr hr' hc hp hq hs1 hs1' hs2 hs2' hm hA1 hA2 hB1 hB2 r0 r1 r2 hcl hpl hql lA1 lA2 lB1 lB2 hx64
  go_enter Tryd.func57, Tryd.ntmps57
  go_wp2
  go_ret
  refine ⟨congrArg Ending.returned (congrArg (Value.int IntKind.i64) ?_), rfl⟩
  rw [← HR.out, i64_and127]
  omega
end Go.Proofs.YtkochcolmkgkgaaDoor
