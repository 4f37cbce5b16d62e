/-
  Sets of numbers as numbers: words, bits, how many there are below a place, members, the one of a rank.
-/
import Derived.Lib.TrailingZeros
namespace Go.Proofs.YtkochcolmkgkgaaDoor
set_option linter.unusedVariables false
namespace Bm

/-- Words as one number. -/
def val : List Nat → Nat
  | [] => 0
  | x :: xs => 2 ^ 64 * val xs + x

theorem val_bit : ∀ (xs : List Nat) (h : ∀ x ∈ xs, x < 2 ^ 64) (i : Nat), (val xs).testBit i = (xs.getD (i / 64) 0).testBit (i % 64)
  | [], _, i => by simp [val]
  | x :: xs, h, i => by
    have hx := h x (by simp)
    rw [val, Nat.testBit_two_pow_mul_add _ hx]
    split
    · rename_i hi
      rw [Nat.div_eq_of_lt hi, Nat.mod_eq_of_lt hi]; rfl
    · rename_i hi
      rw [val_bit xs (fun y hy => h y (by simp [hy]))]
      obtain ⟨j, rfl⟩ : ∃ j, i = j + 64 := ⟨i - 64, by omega⟩
      rw [Nat.add_sub_cancel, Nat.add_div_right _ (by decide), Nat.add_mod_right]; rfl

theorem val_lt : ∀ (xs : List Nat) (h : ∀ x ∈ xs, x < 2 ^ 64), val xs < 2 ^ (64 * xs.length)
  | [], _ => by simp [val]
  | x :: xs, h => by
    have hx := h x (by simp)
    have ih := val_lt xs (fun y hy => h y (by simp [hy]))
    rw [val, List.length_cons, Nat.mul_add, Nat.pow_add, Nat.mul_comm (2 ^ (64 * xs.length))]
    exact Nat.lt_of_lt_of_le (Nat.add_lt_add_left hx _) (by rw [← Nat.mul_succ]; exact Nat.mul_le_mul_left _ ih)

theorem val_inj : ∀ (xs ys : List Nat) (h : ∀ x ∈ xs, x < 2 ^ 64) (h' : ∀ y ∈ ys, y < 2 ^ 64) (hl : xs.length = ys.length) (hv : val xs = val ys), xs = ys
  | [], ys, _, _, hl, _ => (List.eq_nil_of_length_eq_zero hl.symm).symm
  | x :: xs, [], _, _, hl, _ => by simp at hl
  | x :: xs, y :: ys, h, h', hl, hv => by
    have hx := h x (by simp)
    have hy := h' y (by simp)
    rw [val, val] at hv
    obtain rfl : x = y := by omega
    rw [val_inj xs ys (fun z hz => h z (by simp [hz])) (fun z hz => h' z (by simp [hz])) (by simpa using hl) (by omega)]

theorem val_append : ∀ (xs ys : List Nat), val (xs ++ ys) = 2 ^ (64 * xs.length) * val ys + val xs
  | [], ys => by simp [val]
  | x :: xs, ys => by
    rw [List.cons_append, val, val_append xs ys, val, List.length_cons, show 64 * (xs.length + 1) = 64 + 64 * xs.length by omega, Nat.pow_add, Nat.mul_add, Nat.mul_assoc, Nat.add_assoc]

/-- A word of a set. -/
theorem val_word (xs : List Nat) (h : ∀ x ∈ xs, x < 2 ^ 64) (k j : Nat) (hj : j < 64) : (val xs / 2 ^ (64 * k)).testBit j = (xs.getD k 0).testBit j := by
  rw [Nat.testBit_div_two_pow, val_bit xs h]
  congr 1
  · congr 1; omega
  · omega

/-- The bound of a right set's number. -/
theorem val_top (xs : List Nat) (h : ∀ x ∈ xs, x < 2 ^ 64) (q u : Nat) (hl : xs.length = q + 1) (z : Nat) (hz : xs[q]? = some z) : val xs < 2 ^ (64 * q + u) ↔ z < 2 ^ u := by
  have e : xs = xs.take q ++ [z] := by
    have : xs.drop q = [z] := by
      rw [List.drop_eq_getElem_cons (by omega), List.drop_eq_nil_of_le (by omega)]
      rw [List.getElem?_eq_getElem (by omega)] at hz
      rw [Option.some.inj hz]
    rw [← this, List.take_append_drop]
  have ht : (xs.take q).length = q := by rw [List.length_take]; omega
  have hb := val_lt (xs.take q) (fun y hy => h y (List.mem_of_mem_take hy))
  rw [ht] at hb
  rw [e, val_append, ht, val, val, Nat.mul_zero, Nat.zero_add, Nat.pow_add]
  have hp : 0 < 2 ^ (64 * q) := Nat.pow_pos (by decide)
  generalize 2 ^ (64 * q) = P at *
  generalize 2 ^ u = Q
  constructor
  · intro hh
    refine Nat.lt_of_mul_lt_mul_left (a := P) ?_
    omega
  · intro hh
    have := Nat.mul_le_mul_left P (show z + 1 ≤ Q by omega)
    rw [Nat.mul_add] at this
    omega

/-- How many bits below a place are 1. -/
def cnt (V : Nat) : Nat → Nat
  | 0 => 0
  | n + 1 => cnt V n + (V.testBit n).toNat
theorem cnt_succ (V n : Nat) : cnt V (n + 1) = cnt V n + (V.testBit n).toNat := rfl
theorem cnt_congr {V W : Nat} : ∀ (n : Nat) (h : ∀ i, i < n → V.testBit i = W.testBit i), cnt V n = cnt W n
  | 0, _ => rfl
  | n + 1, h => by rw [cnt, cnt, cnt_congr n (fun i hi => h i (by omega)), h n (by omega)]
theorem cnt_add (V a : Nat) : ∀ b, cnt V (a + b) = cnt V a + cnt (V / 2 ^ a) b
  | 0 => rfl
  | b + 1 => by rw [← Nat.add_assoc, cnt, cnt, cnt_add V a b, Nat.testBit_div_two_pow, Nat.add_comm b a, Nat.add_assoc]
theorem cnt_le (V : Nat) : ∀ n, cnt V n ≤ n
  | 0 => Nat.le_refl _
  | n + 1 => by have := cnt_le V n; have := Bool.toNat_le (V.testBit n); rw [cnt]; omega
theorem cnt_mono (V : Nat) {a b : Nat} (h : a ≤ b) : cnt V a ≤ cnt V b := by
  obtain ⟨c, rfl⟩ : ∃ c, b = a + c := ⟨b - a, by omega⟩
  rw [cnt_add]; omega
theorem cnt_zero : ∀ n, cnt 0 n = 0
  | 0 => rfl
  | n + 1 => by rw [cnt, cnt_zero n]; simp
theorem cnt_past {V n m : Nat} (h : V < 2 ^ n) (hm : n ≤ m) : cnt V m = cnt V n := by
  obtain ⟨c, rfl⟩ : ∃ c, m = n + c := ⟨m - n, by omega⟩
  rw [cnt_add, Nat.div_eq_of_lt h, cnt_zero]; omega
theorem cnt_strict {V a b : Nat} (h : a < b) (hb : V.testBit a = true) : cnt V a < cnt V b := by
  have h1 := cnt_mono V (show a + 1 ≤ b by omega)
  rw [cnt, hb] at h1
  simp at h1; omega

/-- The members below a place. -/
def ml (V : Nat) : Nat → List Nat
  | 0 => []
  | n + 1 => ml V n ++ if V.testBit n then [n] else []
theorem ml_succ (V n : Nat) : ml V (n + 1) = ml V n ++ if V.testBit n then [n] else [] := rfl
theorem ml_length (V : Nat) : ∀ n, (ml V n).length = cnt V n
  | 0 => rfl
  | n + 1 => by rw [ml, cnt, List.length_append, ml_length V n]; cases V.testBit n <;> rfl
theorem ml_congr {V W : Nat} : ∀ (n : Nat) (h : ∀ i, i < n → V.testBit i = W.testBit i), ml V n = ml W n
  | 0, _ => rfl
  | n + 1, h => by rw [ml, ml, ml_congr n (fun i hi => h i (by omega)), h n (by omega)]
theorem ml_mem {V m : Nat} : ∀ {n : Nat}, m ∈ ml V n ↔ m < n ∧ V.testBit m = true
  | 0 => by simp [ml]
  | n + 1 => by
    rw [ml, List.mem_append, ml_mem (n := n)]
    by_cases hn : V.testBit n = true
    · rw [if_pos hn, List.mem_singleton]
      constructor
      · rintro (⟨h1, h2⟩ | rfl)
        · exact ⟨by omega, h2⟩
        · exact ⟨by omega, hn⟩
      · rintro ⟨h1, h2⟩
        rcases Nat.lt_or_ge m n with h | h
        · exact .inl ⟨h, h2⟩
        · exact .inr (by omega)
    · rw [if_neg hn]
      constructor
      · rintro (⟨h1, h2⟩ | h)
        · exact ⟨by omega, h2⟩
        · cases h
      · rintro ⟨h1, h2⟩
        rcases Nat.lt_or_ge m n with h | h
        · exact .inl ⟨h, h2⟩
        · obtain rfl : m = n := by omega
          exact absurd h2 hn
theorem ml_at {V : Nat} : ∀ {n k m : Nat}, (ml V n)[k]? = some m ↔ m < n ∧ V.testBit m = true ∧ cnt V m = k
  | 0, k, m => by simp [ml]
  | n + 1, k, m => by
    have hl := ml_length V n
    by_cases hk : k < (ml V n).length
    · rw [ml, List.getElem?_append_left hk, ml_at (n := n)]
      constructor
      · rintro ⟨h1, h2⟩; exact ⟨by omega, h2⟩
      · rintro ⟨h1, h2, h3⟩
        refine ⟨?_, h2, h3⟩
        rcases Nat.lt_or_ge m n with h | h
        · exact h
        · obtain rfl : m = n := by omega
          omega
    · rw [ml, List.getElem?_append_right (by omega)]
      by_cases hn : V.testBit n = true
      · rw [if_pos hn]
        constructor
        · intro h
          obtain ⟨h1, h2⟩ := List.getElem?_eq_some_iff.1 h
          have h3 : k - (ml V n).length = 0 := by simpa using h1
          simp [h3] at h2
          subst h2
          exact ⟨by omega, hn, by omega⟩
        · rintro ⟨h1, h2, h3⟩
          obtain rfl : m = n := by
            rcases Nat.lt_or_ge m n with h | h
            · have := cnt_strict h h2; omega
            · omega
          rw [show k - (ml V m).length = 0 by omega]; rfl
      · rw [if_neg hn]
        constructor
        · intro h; simp at h
        · rintro ⟨h1, h2, h3⟩
          exfalso
          rcases Nat.lt_or_ge m n with h | h
          · have := cnt_strict h h2; omega
          · obtain rfl : m = n := by omega
            exact hn h2
theorem ml_add (V a : Nat) : ∀ b, ml V (a + b) = ml V a ++ (ml (V / 2 ^ a) b).map (a + ·)
  | 0 => by simp [ml]
  | b + 1 => by
    rw [← Nat.add_assoc, ml, ml, ml_add V a b, Nat.testBit_div_two_pow, Nat.add_comm b a, List.map_append, List.append_assoc]
    congr 2
    split <;> rfl
theorem ml_past {V n m : Nat} (h : V < 2 ^ n) (hm : n ≤ m) : ml V m = ml V n := by
  obtain ⟨c, rfl⟩ : ∃ c, m = n + c := ⟨m - n, by omega⟩
  rw [ml_add, Nat.div_eq_of_lt h]
  have : ∀ b, ml 0 b = [] := by
    intro b
    induction b with
    | zero => rfl
    | succ b ih => rw [ml, ih]; simp
  simp [this]
theorem ml_lt {V n m : Nat} (h : m ∈ ml V n) : m < n := (ml_mem.1 h).1
theorem ml_nil {V : Nat} (n : Nat) (h : ∀ i, i < n → V.testBit i = false) : ml V n = [] := by
  rw [ml_congr (W := 0) n (fun i hi => by rw [h i hi]; simp)]
  induction n with
  | zero => rfl
  | succ n ih => rw [ml, ih (fun i hi => h i (by omega))]; simp

/-- A word without its lowest bit. -/
def wl (w : Nat) : Nat := w &&& (w - 1)
theorem wl_lt {w n : Nat} (h : w < 2 ^ n) : wl w < 2 ^ n := Nat.and_lt_two_pow _ (by omega)
theorem low_parts (w : Nat) (h0 : w ≠ 0) (h : w < 2 ^ 64) : ∃ k m, Lib.ctz 64 w = k ∧ k < 64 ∧ w = 2 ^ (k + 1) * m + 2 ^ k := by
  obtain ⟨m, hm, hk⟩ := Lib.ctzFrom_spec 64 w (by omega) h
  refine ⟨Lib.ctzFrom 64 w, m, by simp [Lib.ctz, h0], hk, ?_⟩
  generalize Lib.ctzFrom 64 w = k at hm
  rw [hm, Nat.pow_succ, Nat.mul_add, Nat.mul_one, Nat.mul_assoc]
theorem wl_of (k m : Nat) : wl (2 ^ (k + 1) * m + 2 ^ k) = 2 ^ (k + 1) * m := by
  have hp : 0 < 2 ^ k := Nat.pow_pos (by decide)
  have hq : 2 ^ (k + 1) = 2 * 2 ^ k := by rw [Nat.pow_succ]; omega
  have e : 2 ^ (k + 1) * m + 2 ^ k - 1 = 2 ^ (k + 1) * m + (2 ^ k - 1) := by omega
  unfold wl
  rw [e]
  apply Nat.eq_of_testBit_eq
  intro i
  rw [Nat.testBit_and, Nat.testBit_two_pow_mul_add _ (by omega), Nat.testBit_two_pow_mul_add _ (by omega), Nat.testBit_two_pow_mul, Nat.testBit_two_pow, Nat.testBit_two_pow_sub_one]
  by_cases hi : i < k + 1
  · have h1 : ¬ k + 1 ≤ i := by omega
    simp [hi, h1]
    omega
  · simp [hi]
    omega
theorem ml_least (w : Nat) (h0 : w ≠ 0) (h : w < 2 ^ 64) : ml w 64 = Lib.ctz 64 w :: ml (wl w) 64 := by
  obtain ⟨k, m, h1, h2, h3⟩ := low_parts w h0 h
  rw [h1, h3, wl_of]
  have hp : 0 < 2 ^ k := Nat.pow_pos (by decide)
  have hq : 2 ^ (k + 1) = 2 * 2 ^ k := by rw [Nat.pow_succ]; omega
  obtain ⟨c, hc⟩ : ∃ c, 64 = (k + 1) + c := ⟨64 - (k + 1), by omega⟩
  rw [hc, ml_add, ml_add _ (k + 1) c]
  have d1 : (2 ^ (k + 1) * m + 2 ^ k) / 2 ^ (k + 1) = m := by
    rw [Nat.mul_add_div (by omega), Nat.div_eq_of_lt (by omega), Nat.add_zero]
  have d2 : (2 ^ (k + 1) * m) / 2 ^ (k + 1) = m := Nat.mul_div_cancel_left _ (by omega)
  have l1 : ml (2 ^ (k + 1) * m + 2 ^ k) (k + 1) = [k] := by
    rw [ml, ml_nil k (fun i hi => by rw [Nat.testBit_two_pow_mul_add _ (by omega), if_pos (by omega), Nat.testBit_two_pow]; simp; omega)]
    simp [Nat.testBit_two_pow_mul_add _ (show 2 ^ k < 2 ^ (k + 1) by omega)]
  have l2 : ml (2 ^ (k + 1) * m) (k + 1) = [] := ml_nil _ (fun i hi => by rw [Nat.testBit_two_pow_mul]; simp; omega)
  rw [d1, d2, l1, l2]; rfl
theorem ml_none (w : Nat) (h : w < 2 ^ 64) : ml w 64 = [] ↔ w = 0 := by
  constructor
  · intro h1
    apply Decidable.byContradiction
    intro h0
    rw [ml_least w h0 h] at h1; cases h1
  · rintro rfl
    exact ml_nil _ (fun i hi => by simp)

/-- The words up to one, and that one. -/
theorem ml_word (xs : List Nat) (h : ∀ x ∈ xs, x < 2 ^ 64) (k : Nat) (x : Nat) (hx : xs[k]? = some x) : ml (val xs) (64 * (k + 1)) = ml (val xs) (64 * k) ++ (ml x 64).map (64 * k + ·) := by
  rw [Nat.mul_add, Nat.mul_one, ml_add, ml_congr (W := x) 64 (fun j hj => by rw [val_word xs h k j hj, List.getD_eq_getElem?_getD, hx]; rfl)]
theorem cnt_word (xs : List Nat) (h : ∀ x ∈ xs, x < 2 ^ 64) (k j : Nat) (hj : j ≤ 64) (x : Nat) (hx : xs[k]? = some x) : cnt (val xs) (64 * k + j) = cnt (val xs) (64 * k) + cnt x j := by
  rw [cnt_add, cnt_congr (W := x) j (fun i hi => by rw [val_word xs h k i (by omega), List.getD_eq_getElem?_getD, hx]; rfl)]
/-- The lower bits of a word, moved up. -/
theorem cnt_up (x b : Nat) (hb : b ≤ 64) : cnt (x * 2 ^ (64 - b) % 2 ^ 64) 64 = cnt x b := by
  obtain ⟨c, rfl⟩ : ∃ c, b = 64 - c := ⟨64 - b, by omega⟩
  by_cases hc : c ≤ 64
  · obtain ⟨d, hd⟩ : ∃ d, 64 = c + d := ⟨64 - c, by omega⟩
    have e1 : 64 - (64 - c) = c := by omega
    have e2 : 64 - c = d := by omega
    rw [e1, e2]
    have : cnt (x * 2 ^ c % 2 ^ 64) 64 = cnt (x * 2 ^ c % 2 ^ 64) (c + d) := by rw [← hd]
    rw [this, cnt_add, cnt_congr (W := 0) c (fun i hi => by rw [Nat.testBit_mod_two_pow, Nat.testBit_mul_two_pow]; simp; omega), cnt_zero, Nat.zero_add]
    refine cnt_congr d (fun i hi => ?_)
    rw [Nat.testBit_div_two_pow, Nat.testBit_mod_two_pow, Nat.testBit_mul_two_pow]
    simp
    omega
  · have e1 : 64 - c = 0 := by omega
    rw [e1, Nat.sub_zero, Nat.mul_mod_left, cnt_zero]; rfl

end Bm
end Go.Proofs.YtkochcolmkgkgaaDoor
