/-
  What Reverse64 is: the bits in the opposite order.
-/
import Derived.Test.YtoecddkglenigaaDoorOrder
namespace Go.Proofs.YtoecddkglenigaaDoor
open Go.RowKit

def rS (k : Nat) (m x : BitVec 64) : BitVec 64 := ((x >>> k) &&& m) ||| ((x &&& m) <<< k)
theorem rS_xor (k : Nat) (m : BitVec 64) (hd : m &&& (m <<< k) = 0#64) (a b : BitVec 64) : rS k m (a ^^^ b) = rS k m a ^^^ rS k m b := by
  apply BitVec.eq_of_getLsbD_eq
  intro i hi
  have h := congrArg (fun v => v.getLsbD i) hd
  simp only [rS, BitVec.getLsbD_or, BitVec.getLsbD_and, BitVec.getLsbD_ushiftRight, BitVec.getLsbD_shiftLeft, BitVec.getLsbD_xor, BitVec.getLsbD_zero] at h ⊢
  generalize a.getLsbD (k + i) = p1 at *
  generalize b.getLsbD (k + i) = p2 at *
  generalize a.getLsbD (i - k) = r1 at *
  generalize b.getLsbD (i - k) = r2 at *
  generalize m.getLsbD i = q1 at *
  generalize m.getLsbD (i - k) = q2 at *
  generalize decide (i < 64) = s1 at *
  generalize decide (i < k) = s2 at *
  clear hd hi
  revert h
  revert p1 p2 r1 r2 q1 q2 s1 s2
  decide
def rev (x : BitVec 64) : BitVec 64 :=
  rS 32 4294967295#64 (rS 16 281470681808895#64 (rS 8 71777214294589695#64 (rS 4 1085102592571150095#64 (rS 2 3689348814741910323#64 (rS 1 6148914691236517205#64 x)))))
theorem rev_xor (a b : BitVec 64) : rev (a ^^^ b) = rev a ^^^ rev b := by
  unfold rev
  rw [rS_xor 1 _ (by decide), rS_xor 2 _ (by decide), rS_xor 4 _ (by decide), rS_xor 8 _ (by decide), rS_xor 16 _ (by decide), rS_xor 32 _ (by decide)]
theorem rev_one : ∀ i j : Fin 64, (rev (1#64 <<< i.val)).getLsbD j.val = decide (i.val + j.val = 63) := by decide +kernel
theorem one_bit (n j : Nat) (hn : n < 64) (hj : j < 64) : (1#64 <<< n).getLsbD j = decide (n = j) := by
  have h : ∀ i j : Fin 64, (1#64 <<< i.val).getLsbD j.val = decide (i.val = j.val) := by decide +kernel
  exact h ⟨n, hn⟩ ⟨j, hj⟩
theorem rev_bits_n : ∀ n, n ≤ 64 → ∀ x : BitVec 64, (∀ i, n ≤ i → x.getLsbD i = false) → ∀ j, j < 64 → (rev x).getLsbD j = x.getLsbD (63 - j) := by
  intro n
  induction n with
  | zero =>
    intro _ x hx j hj
    have e : x = 0#64 := BitVec.eq_of_getLsbD_eq fun i hi => by rw [hx i (Nat.zero_le _)]; simp
    subst e
    rw [show rev 0#64 = 0#64 by decide]; simp
  | succ n ih =>
    intro hn x hx j hj
    cases hb : x.getLsbD n with
    | false =>
      refine ih (by omega) x (fun i hi => ?_) j hj
      by_cases e : i = n
      · rw [e]; exact hb
      · exact hx i (by omega)
    | true =>
      have h1 := ih (by omega) (x ^^^ (1#64 <<< n)) (fun i hi => by
        rw [BitVec.getLsbD_xor]
        by_cases e : i = n
        · rw [e, hb, one_bit n n (by omega) (by omega)]; simp
        · rw [hx i (by omega)]
          by_cases h64 : i < 64
          · rw [one_bit n i (by omega) h64]; simp; omega
          · rw [BitVec.getLsbD_of_ge _ _ (by omega)]; rfl) j hj
      have h2 := rev_one ⟨n, by omega⟩ ⟨j, hj⟩
      rw [rev_xor, BitVec.getLsbD_xor, BitVec.getLsbD_xor, one_bit n (63 - j) (by omega) (by omega)] at h1
      simp only at h2
      rw [h2] at h1
      have e : decide (n + j = 63) = decide (n = 63 - j) := by
        by_cases h : n = 63 - j
        · simp [h]; omega
        · simp [h]; omega
      rw [e] at h1
      revert h1
      generalize (rev x).getLsbD j = u
      generalize x.getLsbD (63 - j) = v
      generalize decide (n = 63 - j) = t
      revert u v t
      decide
/-- Reversed: bit j is bit 63 - j. -/
theorem rev_bit (x : BitVec 64) (j : Nat) (hj : j < 64) : (rev x).getLsbD j = x.getLsbD (63 - j) :=
  rev_bits_n 64 (Nat.le_refl _) x (fun _ hi => BitVec.getLsbD_of_ge _ _ hi) j hj

theorem m32_bit (i : Nat) (hi : i < 64) : (4294967295#64).getLsbD i = decide (i < 32) := by
  have h : ∀ i : Fin 64, (4294967295#64).getLsbD i.val = decide (i.val < 32) := by decide +kernel
  exact h ⟨i, hi⟩
theorem rS_32 (y : BitVec 64) : rS 32 4294967295#64 y = (y >>> 32) ||| (y <<< 32) := by
  apply BitVec.eq_of_getLsbD_eq
  intro i hi
  simp only [rS, BitVec.getLsbD_or, BitVec.getLsbD_and, BitVec.getLsbD_ushiftRight, BitVec.getLsbD_shiftLeft]
  rw [m32_bit i hi, m32_bit (i - 32) (by omega)]
  by_cases h : i < 32
  · simp [h]
  · rw [BitVec.getLsbD_of_ge y (32 + i) (by omega)]
    have h3 : i - 32 < 32 := by omega
    simp [h, h3]
theorem wrap_pow (n k : Nat) : IntKind.u64.wrap ((n : Int) * ((2 ^ k : Nat) : Int)) = ((n <<< k % 2 ^ 64 : Nat) : Int) := by
  rw [IntKind.wrap_u64, Nat.shiftLeft_eq]
  omega
theorem revS_eq (k : Nat) (m X : BitVec 64) (d mk : Int) (hd : d = ((2 ^ k : Nat) : Int)) (hm : mk = (m.toNat : Int)) : revS (X.toNat : Int) d mk = ((rS k m X).toNat : Int) := by
  subst hd hm
  unfold revS
  have h1 : (X.toNat : Int) / ((2 ^ k : Nat) : Int) = ((X >>> k).toNat : Int) := by
    rw [BitVec.toNat_ushiftRight, Nat.shiftRight_eq_div_pow]; exact (Int.natCast_ediv _ _).symm
  rw [h1, u64_and_nat _ _ (X >>> k).isLt m.isLt, u64_and_nat _ _ X.isLt m.isLt, wrap_pow]
  rw [← BitVec.toNat_and, ← BitVec.toNat_and, ← BitVec.toNat_shiftLeft]
  exact (u64_or_nat _ _ (BitVec.isLt _) (BitVec.isLt _)).trans (by rw [rS, BitVec.toNat_or])
theorem revI_eq (X : BitVec 64) : revI (X.toNat : Int) = ((rev X).toNat : Int) := by
  unfold revI revB rev
  rw [revS_eq 1 6148914691236517205#64 X 2 _ (by decide) (by decide), revS_eq 2 3689348814741910323#64 _ 4 _ (by decide) (by decide), revS_eq 4 1085102592571150095#64 _ 16 _ (by decide) (by decide), revS_eq 8 71777214294589695#64 _ 256 _ (by decide) (by decide), revS_eq 16 281470681808895#64 _ 65536 _ (by decide) (by decide)]
  generalize rS 16 281470681808895#64 (rS 8 71777214294589695#64 (rS 4 1085102592571150095#64 (rS 2 3689348814741910323#64 (rS 1 6148914691236517205#64 X)))) = Y
  rw [rS_32, BitVec.toNat_or, BitVec.toNat_shiftLeft]
  have h1 : (Y.toNat : Int) / (4294967296 : Int) = ((Y >>> 32).toNat : Int) := by
    rw [BitVec.toNat_ushiftRight, Nat.shiftRight_eq_div_pow]; omega
  rw [h1]
  have h2 : IntKind.u64.wrap ((Y.toNat : Int) * (4294967296 : Int)) = ((Y <<< 32).toNat : Int) := by
    rw [BitVec.toNat_shiftLeft, ← wrap_pow]; rfl
  rw [h2]
  rw [u64_or_nat _ _ (BitVec.isLt _) (BitVec.isLt _), BitVec.toNat_shiftLeft]

/-- The lower k bits in the opposite order. -/
def rv (X : BitVec 64) (k : Nat) : BitVec 64 := rev X >>> (64 - k)
theorem rv_bit (X : BitVec 64) (k j : Nat) (hk : k ≤ 64) : (rv X k).getLsbD j = (decide (j < k) && X.getLsbD (k - 1 - j)) := by
  unfold rv
  rw [BitVec.getLsbD_ushiftRight]
  by_cases h : j < k
  · rw [rev_bit X _ (by omega), show 63 - (64 - k + j) = k - 1 - j by omega]; simp [h]
  · rw [BitVec.getLsbD_of_ge _ _ (by omega)]; simp [h]
theorem rv_rv (X : BitVec 64) (k : Nat) (hk : k ≤ 64) : (rv (rv X k) k).toNat = X.toNat % 2 ^ k := by
  apply Nat.eq_of_testBit_eq
  intro j
  rw [Nat.testBit_mod_two_pow]
  show (rv (rv X k) k).getLsbD j = (decide (j < k) && X.getLsbD j)
  rw [rv_bit _ _ _ hk, rv_bit _ _ _ hk]
  by_cases h : j < k
  · have h2 : k - 1 - j < k := by omega
    rw [show k - 1 - (k - 1 - j) = j by omega]; simp [h, h2]
  · simp [h]
theorem rv_lt (X : BitVec 64) (k : Nat) (hk : k ≤ 64) : (rv X k).toNat < 2 ^ k := by
  apply Nat.lt_pow_two_of_testBit
  intro j hj
  show (rv X k).getLsbD j = false
  rw [rv_bit _ _ _ hk]; simp; omega
def rvN (x k : Nat) : Nat := (rv (BitVec.ofNat 64 x) k).toNat
theorem rvN_twice (x k : Nat) (hx : x < 2 ^ 64) (hk : k ≤ 64) : rvN (rvN x k) k = x % 2 ^ k := by
  unfold rvN
  rw [BitVec.ofNat_toNat, BitVec.setWidth_eq, rv_rv _ _ hk, BitVec.toNat_ofNat, Nat.mod_eq_of_lt hx]
theorem rvN_lt (x k : Nat) (hk : k ≤ 64) : rvN x k < 2 ^ k := rv_lt _ k hk
theorem reverse_is (x n : Nat) (hx : x < 2 ^ 64) (hn : n ≤ 64) (y : Nat) (hy : rvN x n = y) (w : World) : Calls Tryd.prog 65 #[.int .u64 x, .int .i64 n] w fun e w' => e = .returned (.tuple #[.int .u64 y, .int .i64 0]) ∧ w = w' := by
  refine reverse_any x n hn y ?_ w
  have h := revI_eq (BitVec.ofNat 64 x)
  rw [BitVec.toNat_ofNat, Nat.mod_eq_of_lt hx] at h
  rw [h, ← hy]
  unfold rvN rv
  rw [BitVec.toNat_ushiftRight, Nat.shiftRight_eq_div_pow, ← cast_pow]
  exact (Int.natCast_ediv _ _).symm

end Go.Proofs.YtoecddkglenigaaDoor
