/-
  Plain mathematics: polynomials over two elements, as numbers.
-/
namespace Go.Proofs.YtoecddkglenigaaDoor.Gf
set_option linter.unusedVariables false

theorem two_xor (a b : Nat) : 2 * (a ^^^ b) = 2 * a ^^^ 2 * b := by
  have h := Nat.shiftLeft_xor_distrib (a := a) (b := b) (i := 1)
  simp only [Nat.shiftLeft_eq, Nat.pow_one] at h
  rw [Nat.mul_comm, h, Nat.mul_comm a, Nat.mul_comm b]
theorem xor_div2 (a b : Nat) : (a ^^^ b) / 2 = a / 2 ^^^ b / 2 := Nat.xor_div_two
theorem xor_mod2 (a b : Nat) : (a ^^^ b) % 2 = (a % 2 + b % 2) % 2 := by
  have h1 := Nat.xor_mod_two_eq_one (a := a) (b := b)
  omega
theorem bits_xor (b : Nat) : b = (b % 2) ^^^ (2 * (b / 2)) := by
  apply Nat.eq_of_testBit_eq
  intro i
  cases i with
  | zero => simp [Nat.testBit_zero, xor_mod2]
  | succ i => simp [Nat.testBit_succ, xor_div2]
theorem xor_left_comm (a b c : Nat) : a ^^^ (b ^^^ c) = b ^^^ (a ^^^ c) := by rw [← Nat.xor_assoc, Nat.xor_comm a, Nat.xor_assoc]
theorem xor_cancel (a b : Nat) : a ^^^ (a ^^^ b) = b := by rw [← Nat.xor_assoc, Nat.xor_self, Nat.zero_xor]
theorem xor_eq_zero {a b : Nat} (h : a ^^^ b = 0) : a = b := by
  have := xor_cancel a b
  rw [h, Nat.xor_zero] at this
  exact this

/-- The product. -/
def pmul (a b : Nat) : Nat := if h : b = 0 then 0 else (if b % 2 = 1 then a else 0) ^^^ (2 * pmul a (b / 2))
termination_by b
decreasing_by omega
theorem pmul_zero (a : Nat) : pmul a 0 = 0 := by rw [pmul]; rfl
theorem pmul_step (a b : Nat) : pmul a b = (if b % 2 = 1 then a else 0) ^^^ (2 * pmul a (b / 2)) := by
  by_cases h : b = 0
  · subst h; simp [pmul_zero]
  · rw [pmul]; simp [h]
theorem pmul_one (a : Nat) : pmul a 1 = a := by rw [pmul_step]; simp [pmul_zero]
theorem pmul_two (a b : Nat) : pmul a (2 * b) = 2 * pmul a b := by
  rw [pmul_step a (2 * b), show 2 * b % 2 = 0 by omega, show 2 * b / 2 = b by omega]; simp
theorem pmul_xor (a b : Nat) : ∀ c, pmul a (b ^^^ c) = pmul a b ^^^ pmul a c := by
  induction b using Nat.strongRecOn with
  | ind b ih =>
    intro c
    by_cases hb : b = 0
    · subst hb; simp [pmul_zero]
    · rw [pmul_step a (b ^^^ c), pmul_step a b, pmul_step a c, xor_div2, ih (b / 2) (by omega), two_xor, xor_mod2]
      have h3 : b % 2 = 0 ∨ b % 2 = 1 := by omega
      have h4 : c % 2 = 0 ∨ c % 2 = 1 := by omega
      generalize 2 * pmul a (b / 2) = u
      generalize 2 * pmul a (c / 2) = v
      rcases h3 with h3 | h3 <;> rcases h4 with h4 | h4 <;> simp only [h3, h4] <;> simp [Nat.xor_assoc, xor_left_comm, xor_cancel]
theorem zero_pmul (b : Nat) : pmul 0 b = 0 := by
  induction b using Nat.strongRecOn with
  | ind b ih =>
    by_cases hb : b = 0
    · subst hb; exact pmul_zero 0
    · rw [pmul_step, ih (b / 2) (by omega)]; simp
theorem one_pmul (b : Nat) : pmul 1 b = b := by
  induction b using Nat.strongRecOn with
  | ind b ih =>
    by_cases hb : b = 0
    · subst hb; exact pmul_zero 1
    · rw [pmul_step, ih (b / 2) (by omega)]
      conv => rhs; rw [bits_xor b]
      have h3 : b % 2 = 0 ∨ b % 2 = 1 := by omega
      rcases h3 with h3 | h3 <;> simp [h3]
theorem xor_pmul (a b c : Nat) : pmul (a ^^^ b) c = pmul a c ^^^ pmul b c := by
  induction c using Nat.strongRecOn with
  | ind c ih =>
    by_cases hc : c = 0
    · subst hc; simp [pmul_zero]
    · rw [pmul_step (a ^^^ b) c, pmul_step a c, pmul_step b c, ih (c / 2) (by omega), two_xor]
      generalize 2 * pmul a (c / 2) = u
      generalize 2 * pmul b (c / 2) = v
      have h4 : c % 2 = 0 ∨ c % 2 = 1 := by omega
      rcases h4 with h4 | h4 <;> simp only [h4] <;> simp [Nat.xor_assoc, xor_left_comm]
theorem two_pmul (a b : Nat) : pmul (2 * a) b = 2 * pmul a b := by
  induction b using Nat.strongRecOn with
  | ind b ih =>
    by_cases hb : b = 0
    · subst hb; simp [pmul_zero]
    · rw [pmul_step (2 * a) b, pmul_step a b, ih (b / 2) (by omega), two_xor]
      have h3 : b % 2 = 0 ∨ b % 2 = 1 := by omega
      rcases h3 with h3 | h3 <;> simp [h3]
theorem pmul_comm (a b : Nat) : pmul a b = pmul b a := by
  induction b using Nat.strongRecOn with
  | ind b ih =>
    by_cases hb : b = 0
    · subst hb; rw [pmul_zero, zero_pmul]
    · rw [pmul_step a b, ih (b / 2) (by omega)]
      conv => rhs; rw [bits_xor b, xor_pmul, two_pmul]
      have h3 : b % 2 = 0 ∨ b % 2 = 1 := by omega
      rcases h3 with h3 | h3 <;> simp [h3, zero_pmul, one_pmul]
theorem pmul_assoc (a b c : Nat) : pmul (pmul a b) c = pmul a (pmul b c) := by
  induction c using Nat.strongRecOn with
  | ind c ih =>
    by_cases hc : c = 0
    · subst hc; simp [pmul_zero]
    · rw [pmul_step (pmul a b) c, pmul_step b c, ih (c / 2) (by omega), pmul_xor, pmul_two]
      have h3 : c % 2 = 0 ∨ c % 2 = 1 := by omega
      rcases h3 with h3 | h3 <;> simp [h3, pmul_zero]
theorem pmul_shift (a k : Nat) : pmul a (2 ^ k) = a * 2 ^ k := by
  induction k with
  | zero => simp [pmul_one]
  | succ k ih => rw [Nat.pow_succ, Nat.mul_comm (2 ^ k), pmul_two, ih, Nat.mul_left_comm]

/-- How many bits a number has: the degree, and one. -/
def len (p : Nat) : Nat := if p = 0 then 0 else p.log2 + 1
theorem len_le {p n : Nat} : len p ≤ n ↔ p < 2 ^ n := by
  unfold len
  by_cases h : p = 0
  · subst h; simp [Nat.pow_pos]
  · rw [if_neg h, ← Nat.log2_lt h]; omega
theorem lt_len {p n : Nat} : n < len p ↔ 2 ^ n ≤ p := by
  have := len_le (p := p) (n := n)
  omega
theorem len_zero : len 0 = 0 := rfl
theorem len_pos {p : Nat} (h : p ≠ 0) : 0 < len p := by unfold len; rw [if_neg h]; omega
theorem len_eq {p n : Nat} (h1 : 2 ^ n ≤ p) (h2 : p < 2 ^ (n + 1)) : len p = n + 1 := by
  have a := lt_len.2 h1
  have b := len_le.2 h2
  omega
theorem len_two {p : Nat} (h : p ≠ 0) : len (2 * p) = len p + 1 := by
  have hp := len_pos h
  obtain ⟨n, hn⟩ : ∃ n, len p = n + 1 := ⟨len p - 1, by omega⟩
  have h1 : 2 ^ n ≤ p := lt_len.1 (by omega)
  have h2 : p < 2 ^ (n + 1) := len_le.1 (by omega)
  rw [hn]
  exact len_eq (by rw [Nat.pow_succ]; omega) (by rw [Nat.pow_succ 2 (n + 1)]; omega)
theorem len_shift {p : Nat} (h : p ≠ 0) (k : Nat) : len (p * 2 ^ k) = len p + k := by
  induction k with
  | zero => simp
  | succ k ih =>
    have h2 : p * 2 ^ k ≠ 0 := Nat.mul_ne_zero h (Nat.ne_of_gt (Nat.pow_pos (by decide)))
    rw [Nat.pow_succ, ← Nat.mul_assoc, Nat.mul_comm _ 2, len_two h2, ih]; omega
theorem xor_lt {a b n : Nat} (ha : a < 2 ^ n) (hb : b < 2 ^ n) : a ^^^ b < 2 ^ n := Nat.xor_lt_two_pow ha hb
theorem len_xor {a b : Nat} : len (a ^^^ b) ≤ max (len a) (len b) :=
  len_le.2 (xor_lt (len_le.1 (Nat.le_max_left _ _)) (len_le.1 (Nat.le_max_right _ _)))
theorem top_bit {p n : Nat} (h1 : 2 ^ n ≤ p) (h2 : p < 2 ^ (n + 1)) : p.testBit n = true := Nat.testBit_of_two_pow_le_and_two_pow_add_one_gt h1 h2
theorem ge_of_bit {p n : Nat} (h : p.testBit n = true) : 2 ^ n ≤ p := Nat.ge_two_pow_of_testBit h
theorem no_bit {p n : Nat} (h : p < 2 ^ n) : p.testBit n = false := Nat.testBit_lt_two_pow h
/-- Two of one length: the sum is shorter. -/
theorem len_xor_same {a b n : Nat} (ha : len a = n + 1) (hb : len b = n + 1) : a ^^^ b < 2 ^ n := by
  have a1 := lt_len.1 (show n < len a by omega)
  have a2 := len_le.1 (Nat.le_of_eq ha)
  have b1 := lt_len.1 (show n < len b by omega)
  have b2 := len_le.1 (Nat.le_of_eq hb)
  rcases Nat.lt_or_ge (a ^^^ b) (2 ^ n) with h | h
  · exact h
  · have t := top_bit h (xor_lt a2 b2)
    rw [Nat.testBit_xor, top_bit a1 a2, top_bit b1 b2] at t
    cases t
theorem pmul_bits (a n m : Nat) (ha1 : 2 ^ n ≤ a) (ha2 : a < 2 ^ (n + 1)) : ∀ b, 2 ^ m ≤ b → b < 2 ^ (m + 1) → 2 ^ (n + m) ≤ pmul a b ∧ pmul a b < 2 ^ (n + m + 1) := by
  induction m with
  | zero =>
    intro b h1 h2
    have : b = 1 := by simp at h1 h2; omega
    subst this
    rw [pmul_one]; exact ⟨ha1, ha2⟩
  | succ m ih =>
    intro b h1 h2
    obtain ⟨i1, i2⟩ := ih (b / 2) (by rw [Nat.pow_succ] at h1; omega) (by rw [Nat.pow_succ] at h2; omega)
    have e : (2 : Nat) ^ (n + (m + 1) + 1) = 2 * 2 ^ (n + m + 1) := by rw [show n + (m + 1) + 1 = n + m + 1 + 1 by omega, Nat.pow_succ, Nat.mul_comm]
    have e2 : (2 : Nat) ^ (n + (m + 1)) = 2 * 2 ^ (n + m) := by rw [show n + (m + 1) = n + m + 1 by omega, Nat.pow_succ, Nat.mul_comm]
    have hle : (2 : Nat) ^ (n + 1) ≤ 2 ^ (n + (m + 1)) := Nat.pow_le_pow_right (by decide) (by omega)
    have hle2 : (2 : Nat) ^ (n + (m + 1)) ≤ 2 ^ (n + (m + 1) + 1) := Nat.pow_le_pow_right (by decide) (by omega)
    have hx : (if b % 2 = 1 then a else 0) < 2 ^ (n + (m + 1)) := by
      split
      · omega
      · exact Nat.pow_pos (by decide)
    rw [pmul_step]
    refine ⟨ge_of_bit ?_, xor_lt (by omega) (by omega)⟩
    rw [Nat.testBit_xor, no_bit hx, top_bit (by omega) (by omega)]
    rfl
theorem len_pmul {a b : Nat} (ha : a ≠ 0) (hb : b ≠ 0) : len (pmul a b) + 1 = len a + len b := by
  obtain ⟨n, hn⟩ : ∃ n, len a = n + 1 := ⟨len a - 1, by have := len_pos ha; omega⟩
  obtain ⟨m, hm⟩ : ∃ m, len b = m + 1 := ⟨len b - 1, by have := len_pos hb; omega⟩
  obtain ⟨h1, h2⟩ := pmul_bits a n m (lt_len.1 (by omega)) (len_le.1 (by omega)) b (lt_len.1 (by omega)) (len_le.1 (by omega))
  rw [len_eq h1 h2]; omega
theorem pmul_ne {a b : Nat} (ha : a ≠ 0) (hb : b ≠ 0) : pmul a b ≠ 0 := by
  intro h
  have := len_pmul ha hb
  have := len_pos ha
  have := len_pos hb
  rw [h, len_zero] at *
  omega
theorem pmul_eq_zero {a b : Nat} (h : pmul a b = 0) (hb : b ≠ 0) : a = 0 := by
  rcases Nat.eq_zero_or_pos a with h0 | h0
  · exact h0
  · exact absurd h (pmul_ne (by omega) hb)
theorem pmul_cancel {a b c : Nat} (hc : c ≠ 0) (h : pmul a c = pmul b c) : a = b := by
  apply xor_eq_zero
  refine pmul_eq_zero ?_ hc
  rw [xor_pmul, h, Nat.xor_self]

/-- To divide, with a bound on the steps. -/
def divF : Nat → Nat → Nat → Nat × Nat
  | 0, a, b => (0, a)
  | n + 1, a, b => if len a < len b then (0, a) else ((2 ^ (len a - len b)) ^^^ (divF n (a ^^^ (b * 2 ^ (len a - len b))) b).1, (divF n (a ^^^ (b * 2 ^ (len a - len b))) b).2)
def pdiv (a b : Nat) : Nat := (divF (len a + 1) a b).1
def pmod (a b : Nat) : Nat := (divF (len a + 1) a b).2
theorem step_len {a b : Nat} (hb : b ≠ 0) (h : len b ≤ len a) : len (a ^^^ (b * 2 ^ (len a - len b))) < len a := by
  have hp := len_pos hb
  obtain ⟨n, hn⟩ : ∃ n, len a = n + 1 := ⟨len a - 1, by omega⟩
  have h2 : len (b * 2 ^ (len a - len b)) = n + 1 := by rw [len_shift hb]; omega
  have := len_le.2 (len_xor_same hn h2)
  omega
theorem divF_spec {b : Nat} (hb : b ≠ 0) : ∀ n a, len a < n → pmul (divF n a b).1 b ^^^ (divF n a b).2 = a ∧ len (divF n a b).2 < len b := by
  intro n
  induction n with
  | zero => intro a h; omega
  | succ n ih =>
    intro a h
    rw [divF]
    by_cases hlt : len a < len b
    · simp only [if_pos hlt]
      exact ⟨by rw [zero_pmul, Nat.zero_xor], hlt⟩
    · simp only [if_neg hlt]
      obtain ⟨i1, i2⟩ := ih (a ^^^ (b * 2 ^ (len a - len b))) (by have := step_len hb (show len b ≤ len a by omega); omega)
      refine ⟨?_, i2⟩
      rw [xor_pmul, Nat.xor_assoc, i1, pmul_comm, pmul_shift, xor_left_comm, Nat.xor_self, Nat.xor_zero]
theorem divmod (a : Nat) {b : Nat} (hb : b ≠ 0) : pmul (pdiv a b) b ^^^ pmod a b = a := (divF_spec hb (len a + 1) a (by omega)).1
theorem mod_len (a : Nat) {b : Nat} (hb : b ≠ 0) : len (pmod a b) < len b := (divF_spec hb (len a + 1) a (by omega)).2
theorem div_unique {a b q r q' r' : Nat} (hb : b ≠ 0) (h1 : pmul q b ^^^ r = a) (h2 : len r < len b) (h3 : pmul q' b ^^^ r' = a) (h4 : len r' < len b) : q = q' ∧ r = r' := by
  have e : pmul (q ^^^ q') b = r ^^^ r' := by
    rw [xor_pmul]
    have : pmul q b = a ^^^ r := by rw [← h1, Nat.xor_assoc, Nat.xor_self, Nat.xor_zero]
    have t : pmul q' b = a ^^^ r' := by rw [← h3, Nat.xor_assoc, Nat.xor_self, Nat.xor_zero]
    rw [this, t, Nat.xor_assoc, xor_left_comm r a, xor_cancel]
  have hq : q ^^^ q' = 0 := by
    rcases Nat.eq_zero_or_pos (q ^^^ q') with h | h
    · exact h
    · have l1 := len_pmul (show q ^^^ q' ≠ 0 by omega) hb
      have l2 := len_pos (show q ^^^ q' ≠ 0 by omega)
      have l3 := len_xor (a := r) (b := r')
      rw [e] at l1
      omega
  rw [hq, zero_pmul] at e
  exact ⟨xor_eq_zero hq, xor_eq_zero e.symm⟩
theorem mod_of {a b q r : Nat} (hb : b ≠ 0) (h1 : pmul q b ^^^ r = a) (h2 : len r < len b) : pdiv a b = q ∧ pmod a b = r :=
  let h := div_unique hb (divmod a hb) (mod_len a hb) h1 h2
  ⟨h.1, h.2⟩
theorem mod_small {a b : Nat} (h : len a < len b) : pmod a b = a := by
  have hb : b ≠ 0 := by intro e; subst e; rw [len_zero] at h; omega
  exact (mod_of hb (q := 0) (by rw [zero_pmul, Nat.zero_xor]) h).2
theorem mod_mod (a : Nat) {b : Nat} (hb : b ≠ 0) : pmod (pmod a b) b = pmod a b := mod_small (mod_len a hb)
theorem zero_mod (b : Nat) : pmod 0 b = 0 := by
  by_cases hb : b = 0
  · subst hb; rfl
  · exact mod_small (by rw [len_zero]; exact len_pos hb)
theorem mod_xor (a c : Nat) {b : Nat} (hb : b ≠ 0) : pmod (a ^^^ c) b = pmod a b ^^^ pmod c b := by
  refine (mod_of hb (q := pdiv a b ^^^ pdiv c b) ?_ ?_).2
  · have h1 := divmod a hb
    have h2 := divmod c hb
    rw [xor_pmul]
    generalize pmul (pdiv a b) b = u at h1 ⊢
    generalize pmul (pdiv c b) b = v at h2 ⊢
    generalize pmod a b = r at h1 ⊢
    generalize pmod c b = s at h2 ⊢
    rw [← h1, ← h2]
    simp only [Nat.xor_assoc, xor_left_comm v]
  · have h1 := mod_len a hb
    have h2 := mod_len c hb
    have h3 := len_xor (a := pmod a b) (b := pmod c b)
    omega
theorem mul_mod_self (q : Nat) {b : Nat} (hb : b ≠ 0) : pmod (pmul q b) b = 0 := (mod_of hb (q := q) (by rw [Nat.xor_zero]) (by rw [len_zero]; exact len_pos hb)).2
theorem mod_mul (a c : Nat) {b : Nat} (hb : b ≠ 0) : pmod (pmul (pmod a b) c) b = pmod (pmul a c) b := by
  have h : pmod a b = a ^^^ pmul (pdiv a b) b := by
    conv => rhs; lhs; rw [← divmod a hb]
    rw [Nat.xor_comm, xor_cancel]
  rw [h, xor_pmul, mod_xor _ _ hb, pmul_assoc, pmul_comm b c, ← pmul_assoc, mul_mod_self _ hb, Nat.xor_zero]
theorem mul_mod (a c : Nat) {b : Nat} (hb : b ≠ 0) : pmod (pmul a (pmod c b)) b = pmod (pmul a c) b := by rw [pmul_comm, mod_mul _ _ hb, pmul_comm]

/-- b divides a. -/
def Dvd (b a : Nat) : Prop := ∃ q, pmul q b = a
theorem dvd_of_mod {a b : Nat} (hb : b ≠ 0) (h : pmod a b = 0) : Dvd b a := ⟨pdiv a b, by have := divmod a hb; rwa [h, Nat.xor_zero] at this⟩
theorem mod_of_dvd {a b : Nat} (hb : b ≠ 0) (h : Dvd b a) : pmod a b = 0 := by obtain ⟨q, rfl⟩ := h; exact mul_mod_self q hb
theorem Dvd.refl (a : Nat) : Dvd a a := ⟨1, one_pmul a⟩
theorem Dvd.zero (a : Nat) : Dvd a 0 := ⟨0, zero_pmul a⟩
theorem Dvd.xor {a b c : Nat} (h : Dvd c a) (k : Dvd c b) : Dvd c (a ^^^ b) := by
  obtain ⟨q, rfl⟩ := h; obtain ⟨p, rfl⟩ := k; exact ⟨q ^^^ p, xor_pmul _ _ _⟩
theorem Dvd.mul {a c : Nat} (h : Dvd c a) (b : Nat) : Dvd c (pmul b a) := by obtain ⟨q, rfl⟩ := h; exact ⟨pmul b q, pmul_assoc _ _ _⟩
theorem Dvd.trans {a b c : Nat} (h : Dvd a b) (k : Dvd b c) : Dvd a c := by obtain ⟨q, rfl⟩ := k; exact h.mul q
theorem Dvd.len {a b : Nat} (h : Dvd a b) (hb : b ≠ 0) : Gf.len a ≤ Gf.len b := by
  obtain ⟨q, rfl⟩ := h
  have hq : q ≠ 0 := by intro e; subst e; exact hb (zero_pmul a)
  have ha : a ≠ 0 := by intro e; subst e; exact hb (pmul_zero q)
  have := len_pmul hq ha
  have := len_pos hq
  omega
theorem len_one : len 1 = 1 := by decide
theorem len_eq_one {q : Nat} (h : len q = 1) : q = 1 := by
  have h1 := lt_len.1 (show 0 < len q by omega)
  have h2 := len_le.1 (show len q ≤ 1 by omega)
  simp at h1 h2; omega
theorem Dvd.antisymm {a b : Nat} (h : Dvd a b) (k : Dvd b a) : a = b := by
  by_cases hb : b = 0
  · subst hb
    obtain ⟨q, rfl⟩ := k
    exact pmul_zero q
  · have l1 := h.len hb
    obtain ⟨q, rfl⟩ := h
    have hq : q ≠ 0 := by intro e; subst e; exact hb (zero_pmul a)
    have ha : a ≠ 0 := by intro e; subst e; exact hb (pmul_zero q)
    have l2 := k.len ha
    have l3 := len_pmul hq ha
    have : q = 1 := len_eq_one (by omega)
    subst this
    exact (one_pmul a).symm

/-- The greatest common divisor, with a bound on the steps. -/
def gcdF : Nat → Nat → Nat → Nat
  | 0, a, b => a
  | n + 1, a, b => if b = 0 then a else gcdF n b (pmod a b)
def pgcd (a b : Nat) : Nat := gcdF (len b + 1) a b
theorem dvd_mod {a b c : Nat} (hb : b ≠ 0) (ha : Dvd c a) (hcb : Dvd c b) : Dvd c (pmod a b) := by
  have h : pmod a b = a ^^^ pmul (pdiv a b) b := by
    conv => rhs; lhs; rw [← divmod a hb]
    rw [Nat.xor_comm, xor_cancel]
  rw [h]
  exact ha.xor (hcb.mul _)
theorem gcdF_spec : ∀ n a b, len b < n → (Dvd (gcdF n a b) a ∧ Dvd (gcdF n a b) b) ∧ (∀ c, Dvd c a → Dvd c b → Dvd c (gcdF n a b)) ∧ ∃ u v, gcdF n a b = pmul u a ^^^ pmul v b := by
  intro n
  induction n with
  | zero => intro a b h; omega
  | succ n ih =>
    intro a b h
    rw [gcdF]
    by_cases hb : b = 0
    · subst hb
      simp only [if_pos]
      exact ⟨⟨Dvd.refl a, Dvd.zero a⟩, fun c h _ => h, 1, 0, by rw [one_pmul, zero_pmul, Nat.xor_zero]⟩
    · simp only [if_neg hb]
      obtain ⟨⟨i1, i2⟩, i3, u, v, i4⟩ := ih b (pmod a b) (by have := mod_len a hb; omega)
      refine ⟨⟨?_, i1⟩, fun c ha hcb => i3 c hcb (dvd_mod hb ha hcb), v, u ^^^ pmul v (pdiv a b), ?_⟩
      · have := (i1.mul (pdiv a b)).xor i2
        rwa [divmod a hb] at this
      · rw [i4]
        have h : pmod a b = a ^^^ pmul (pdiv a b) b := by
          conv => rhs; lhs; rw [← divmod a hb]
          rw [Nat.xor_comm, xor_cancel]
        conv => lhs; rw [h]
        rw [pmul_xor, xor_pmul, pmul_assoc]
        exact xor_left_comm _ _ _
theorem gcd_left (a b : Nat) : Dvd (pgcd a b) a := (gcdF_spec _ a b (Nat.lt_succ_self _)).1.1
theorem gcd_right (a b : Nat) : Dvd (pgcd a b) b := (gcdF_spec _ a b (Nat.lt_succ_self _)).1.2
theorem dvd_gcd {a b c : Nat} (h : Dvd c a) (k : Dvd c b) : Dvd c (pgcd a b) := (gcdF_spec _ a b (Nat.lt_succ_self _)).2.1 c h k
theorem bezout (a b : Nat) : ∃ u v, pgcd a b = pmul u a ^^^ pmul v b := (gcdF_spec _ a b (Nat.lt_succ_self _)).2.2
theorem gcd_comm (a b : Nat) : pgcd a b = pgcd b a := (dvd_gcd (gcd_right a b) (gcd_left a b)).antisymm (dvd_gcd (gcd_right b a) (gcd_left b a))
theorem gcd_zero {a b : Nat} : pgcd a b = 0 ↔ a = 0 ∧ b = 0 := by
  refine ⟨fun h => ?_, fun ⟨h1, h2⟩ => ?_⟩
  · have h1 := gcd_left a b
    have h2 := gcd_right a b
    rw [h] at h1 h2
    obtain ⟨q, rfl⟩ := h1
    obtain ⟨p, rfl⟩ := h2
    exact ⟨pmul_zero q, pmul_zero p⟩
  · subst h1; subst h2; rfl
theorem gcd_step (a : Nat) {b : Nat} (hb : b ≠ 0) : pgcd b (pmod a b) = pgcd a b := by
  refine (dvd_gcd ?_ (gcd_left _ _)).antisymm (dvd_gcd (gcd_right _ _) (dvd_mod hb (gcd_left _ _) (gcd_right _ _)))
  have := ((gcd_left b (pmod a b)).mul (pdiv a b)).xor (gcd_right b (pmod a b))
  rwa [divmod a hb] at this

end Go.Proofs.YtoecddkglenigaaDoor.Gf
