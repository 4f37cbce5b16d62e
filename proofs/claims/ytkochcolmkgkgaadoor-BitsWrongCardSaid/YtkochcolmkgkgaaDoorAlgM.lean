/-
  The algebra of sets as lists of words.
-/
import Derived.Test.YtkochcolmkgkgaaDoorTog
import Derived.Test.YtkochcolmkgkgaaDoorAll
import Derived.Test.YtkochcolmkgkgaaDoorOf
namespace Go.Proofs.YtkochcolmkgkgaaDoor
open Go.RowKit
set_option linter.unusedVariables false
namespace Bm
theorem zip_len (f : Nat → Nat → Nat) {xs ys : List Nat} {q : Nat} (h1 : xs.length = q) (h2 : ys.length = q) : (List.zipWith f xs ys).length = q := by rw [List.length_zipWith, h1, h2, Nat.min_self]
theorem zip_lt (f : Nat → Nat → Nat) (hf : ∀ x y, x < 2 ^ 64 → y < 2 ^ 64 → f x y < 2 ^ 64) : ∀ (xs ys : List Nat) (h1 : ∀ x ∈ xs, x < 2 ^ 64) (h2 : ∀ y ∈ ys, y < 2 ^ 64), ∀ z ∈ List.zipWith f xs ys, z < 2 ^ 64
  | [], _, _, _ => by simp
  | _ :: _, [], _, _ => by simp
  | x :: xs, y :: ys, h1, h2 => by
    intro z hz
    rw [List.zipWith_cons_cons] at hz
    rcases List.mem_cons.1 hz with rfl | h
    · exact hf x y (h1 x (by simp)) (h2 y (by simp))
    · exact zip_lt f hf xs ys (fun a ha => h1 a (by simp [ha])) (fun a ha => h2 a (by simp [ha])) z h
theorem zip_getD (f : Nat → Nat → Nat) (h0 : f 0 0 = 0) {xs ys : List Nat} (hl : xs.length = ys.length) (j : Nat) : (List.zipWith f xs ys).getD j 0 = f (xs.getD j 0) (ys.getD j 0) := by
  rw [List.getD_eq_getElem?_getD, List.getD_eq_getElem?_getD, List.getD_eq_getElem?_getD, List.getElem?_zipWith]
  by_cases h : j < xs.length
  · rw [List.getElem?_eq_getElem h, List.getElem?_eq_getElem (by omega)]; rfl
  · rw [List.getElem?_eq_none (by omega), List.getElem?_eq_none (by omega)]; simp [h0]
theorem minus_bit (x y j : Nat) (hy : y < 2 ^ 64) (hj : j < 64) : (minusW x y).testBit j = (x.testBit j && !y.testBit j) := by
  unfold minusW
  rw [Nat.testBit_and]
  congr 1
  have := Nat.testBit_two_pow_sub_succ (x := y) (n := 64) hy j
  rw [show 2 ^ 64 - (y + 1) = 18446744073709551615 - y by omega] at this
  rw [this]; simp [hj]
theorem getD_lt {ys : List Nat} (h : ∀ y ∈ ys, y < 2 ^ 64) (j : Nat) : ys.getD j 0 < 2 ^ 64 := by
  rw [List.getD_eq_getElem?_getD]
  by_cases hj : j < ys.length
  · rw [List.getElem?_eq_getElem hj]; exact h _ (List.getElem_mem _)
  · rw [List.getElem?_eq_none (by omega)]; decide
section
variable {xs ys : List Nat} (h1 : ∀ x ∈ xs, x < 2 ^ 64) (h2 : ∀ y ∈ ys, y < 2 ^ 64) (hl : xs.length = ys.length)
include h1 h2 hl
theorem or_bit (i : Nat) : (val (List.zipWith orW xs ys)).testBit i = ((val xs).testBit i || (val ys).testBit i) := by
  rw [val_bit _ (zip_lt _ (fun _ _ => orW_lt) xs ys h1 h2), zip_getD _ rfl hl, val_bit xs h1, val_bit ys h2]
  exact Nat.testBit_or _ _ _
theorem and_bit (i : Nat) : (val (List.zipWith andW xs ys)).testBit i = ((val xs).testBit i && (val ys).testBit i) := by
  rw [val_bit _ (zip_lt _ (fun _ _ => andW_lt) xs ys h1 h2), zip_getD _ rfl hl, val_bit xs h1, val_bit ys h2]
  exact Nat.testBit_and _ _ _
theorem minusL_bit (i : Nat) : (val (List.zipWith minusW xs ys)).testBit i = ((val xs).testBit i && !(val ys).testBit i) := by
  rw [val_bit _ (zip_lt _ (fun _ _ => minusW_lt) xs ys h1 h2), zip_getD _ rfl hl, val_bit xs h1, val_bit ys h2]
  exact minus_bit _ _ _ (getD_lt h2 _) (Nat.mod_lt _ (by decide))
end
theorem bit_high {V N i : Nat} (h : V < 2 ^ N) (hi : N ≤ i) : V.testBit i = false := Nat.testBit_lt_two_pow (Nat.lt_of_lt_of_le h (Nat.pow_le_pow_right (by decide) hi))
section
variable {N : Nat} {xs ys : List Nat} (h1 : Rt N xs) (h2 : Rt N ys)
include h1 h2
theorem rt_len : xs.length = ys.length := h1.2.1.trans h2.2.1.symm
theorem or_right : Rt N (List.zipWith orW xs ys) := ⟨h1.1, (zip_len _ rfl (rt_len h1 h2).symm).trans h1.2.1, zip_lt _ (fun _ _ => orW_lt) _ _ h1.2.2.1 h2.2.2.1, lt_of_bits fun i hi => by
  rw [or_bit h1.2.2.1 h2.2.2.1 (rt_len h1 h2), bit_high h1.2.2.2 hi, bit_high h2.2.2.2 hi]; rfl⟩
theorem and_right : Rt N (List.zipWith andW xs ys) := ⟨h1.1, (zip_len _ rfl (rt_len h1 h2).symm).trans h1.2.1, zip_lt _ (fun _ _ => andW_lt) _ _ h1.2.2.1 h2.2.2.1, lt_of_bits fun i hi => by
  rw [and_bit h1.2.2.1 h2.2.2.1 (rt_len h1 h2), bit_high h1.2.2.2 hi]; rfl⟩
theorem minus_right : Rt N (List.zipWith minusW xs ys) := ⟨h1.1, (zip_len _ rfl (rt_len h1 h2).symm).trans h1.2.1, zip_lt _ (fun _ _ => minusW_lt) _ _ h1.2.2.1 h2.2.2.1, lt_of_bits fun i hi => by
  rw [minusL_bit h1.2.2.1 h2.2.2.1 (rt_len h1 h2), bit_high h1.2.2.2 hi]; rfl⟩
theorem orB (i : Nat) : (val (List.zipWith orW xs ys)).testBit i = ((val xs).testBit i || (val ys).testBit i) := or_bit h1.2.2.1 h2.2.2.1 (rt_len h1 h2) i
theorem andB (i : Nat) : (val (List.zipWith andW xs ys)).testBit i = ((val xs).testBit i && (val ys).testBit i) := and_bit h1.2.2.1 h2.2.2.1 (rt_len h1 h2) i
theorem minusB (i : Nat) : (val (List.zipWith minusW xs ys)).testBit i = ((val xs).testBit i && !(val ys).testBit i) := minusL_bit h1.2.2.1 h2.2.2.1 (rt_len h1 h2) i
/-- Right sets with the same members are the same. -/
theorem rt_ext (h : ∀ i, i < N → (val xs).testBit i = (val ys).testBit i) : xs = ys := by
  refine val_inj xs ys h1.2.2.1 h2.2.2.1 (rt_len h1 h2) (Nat.eq_of_testBit_eq fun i => ?_)
  rcases Nat.lt_or_ge i N with hi | hi
  · exact h i hi
  · rw [bit_high h1.2.2.2 hi, bit_high h2.2.2.2 hi]
theorem cnt_or_and (n : Nat) : cnt (val (List.zipWith orW xs ys)) n + cnt (val (List.zipWith andW xs ys)) n = cnt (val xs) n + cnt (val ys) n := by
  induction n with
  | zero => rfl
  | succ n ih =>
    rw [cnt_succ, cnt_succ, cnt_succ, cnt_succ, orB h1 h2, andB h1 h2]
    cases (val xs).testBit n <;> cases (val ys).testBit n <;> simp <;> omega
theorem cnt_minus (n : Nat) : cnt (val (List.zipWith minusW xs ys)) n + cnt (val (List.zipWith andW xs ys)) n = cnt (val xs) n := by
  induction n with
  | zero => rfl
  | succ n ih =>
    rw [cnt_succ, cnt_succ, cnt_succ, minusB h1 h2, andB h1 h2]
    cases (val xs).testBit n <;> cases (val ys).testBit n <;> simp <;> omega
end
theorem fullB (N i : Nat) : (val (full N)).testBit i = decide (i < N) := by rw [full_val, Nat.testBit_two_pow_sub_one]
/-- The complement. -/
def notL (N : Nat) (xs : List Nat) : List Nat := List.zipWith minusW (full N) xs
section
variable {N : Nat} {xs : List Nat} (h1 : Rt N xs)
include h1
theorem not_right : Rt N (notL N xs) := minus_right (full_right N h1.1) h1
theorem notB (i : Nat) : (val (notL N xs)).testBit i = (decide (i < N) && !(val xs).testBit i) := by
  unfold notL; rw [minusB (full_right N h1.1) h1, fullB]
theorem not_not : notL N (notL N xs) = xs := by
  refine rt_ext (not_right (not_right h1)) h1 fun i hi => ?_
  rw [notB (not_right h1), notB h1]
  simp [hi]
theorem cnt_not : cnt (val xs) N + cnt (val (notL N xs)) N = N := by
  have key : ∀ n, n ≤ N → cnt (val xs) n + cnt (val (notL N xs)) n = n := by
    intro n
    induction n with
    | zero => intro _; rfl
    | succ n ih =>
      intro hn
      have := ih (by omega)
      rw [cnt_succ, cnt_succ, notB h1]
      have hd : decide (n < N) = true := by simp; omega
      rw [hd]
      cases (val xs).testBit n <;> simp <;> omega
  exact key N (Nat.le_refl _)
end
section
variable {N : Nat} {xs ys : List Nat} (h1 : Rt N xs) (h2 : Rt N ys)
include h1 h2
theorem not_or : notL N (List.zipWith orW xs ys) = List.zipWith andW (notL N xs) (notL N ys) := by
  refine rt_ext (not_right (or_right h1 h2)) (and_right (not_right h1) (not_right h2)) fun i hi => ?_
  rw [notB (or_right h1 h2), orB h1 h2, andB (not_right h1) (not_right h2), notB h1, notB h2]
  simp [hi]
theorem and_not : List.zipWith andW xs (notL N ys) = List.zipWith minusW xs ys := by
  refine rt_ext (and_right h1 (not_right h2)) (minus_right h1 h2) fun i hi => ?_
  rw [andB h1 (not_right h2), notB h2, minusB h1 h2]
  simp [hi]
end
end Bm
end Go.Proofs.YtkochcolmkgkgaaDoor
