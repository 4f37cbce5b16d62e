/-
  What it is to read a number, in plain words.
-/
namespace Go.Proofs.Ytdemlifjhlpclaa.Vi

/-- To read a form from the bytes that are left: the index, and the number so far. -/
def rd : List Nat → Nat → Nat → Nat × Nat × Int
  | [], _, _ => (0, 0, 10)
  | y :: r, i, x => if i = 9 ∧ 1 < y then (0, 0, 11) else if i ≠ 0 ∧ y = 0 then (0, 0, 12)
    else if y < 128 then (x + y % 128 * 128 ^ i, i + 1, 0) else rd r (i + 1) (x + y % 128 * 128 ^ i)
def read (bs : List Nat) : Nat × Nat × Int := rd bs 0 0
theorem rd_end (i x : Nat) : rd [] i x = (0, 0, 10) := rfl
section
variable {bs : List Nat} {k x : Nat}
theorem rd_over (h : k < bs.length) (h9 : k = 9) (h1 : 1 < bs[k]) : rd (bs.drop k) k x = (0, 0, 11) := by
  rw [List.drop_eq_getElem_cons h, rd, if_pos ⟨h9, h1⟩]
theorem rd_zero (h : k < bs.length) (h0 : k ≠ 0) (h1 : bs[k] = 0) : rd (bs.drop k) k x = (0, 0, 12) := by
  rw [List.drop_eq_getElem_cons h, rd, if_neg (by omega), if_pos ⟨h0, h1⟩]
theorem rd_last (h : k < bs.length) (h9 : k = 9 → bs[k] ≤ 1) (h0 : k ≠ 0 → bs[k] ≠ 0) (h1 : bs[k] < 128) : rd (bs.drop k) k x = (x + bs[k] % 128 * 128 ^ k, k + 1, 0) := by
  rw [List.drop_eq_getElem_cons h, rd, if_neg (by omega), if_neg (by omega), if_pos h1]
theorem rd_more (h : k < bs.length) (h9 : k = 9 → bs[k] ≤ 1) (h0 : k ≠ 0 → bs[k] ≠ 0) (h1 : 128 ≤ bs[k]) : rd (bs.drop k) k x = rd (bs.drop (k + 1)) (k + 1) (x + bs[k] % 128 * 128 ^ k) := by
  rw [List.drop_eq_getElem_cons h, rd, if_neg (by omega), if_neg (by omega), if_neg (by omega)]
end
theorem grow {x y k : Nat} (hx : x < 128 ^ k) : x + y % 128 * 128 ^ k < 128 ^ (k + 1) := by
  have h : y % 128 ≤ 127 := by omega
  have h2 := Nat.mul_le_mul_right (128 ^ k) h
  rw [Nat.pow_succ]
  omega

end Go.Proofs.Ytdemlifjhlpclaa.Vi
