/-
  The checksum's register, as plain mathematics.
-/
import Derived.Test.YtoecddkglenigaaDoorRev
import Derived.Test.YtoecddkglenigaaDoorPower
namespace Go.Proofs.YtoecddkglenigaaDoor.Crc
set_option linter.unusedVariables false
set_option linter.unusedSimpArgs false

/-- One bit. -/
def st (c : Nat) : Nat := c / 2 ^^^ (if c % 2 = 1 then 3988292384 else 0)
theorem st_xor (a b : Nat) : st (a ^^^ b) = st a ^^^ st b := by
  unfold st
  rw [Gf.xor_div2, Gf.xor_mod2]
  have h3 : a % 2 = 0 ∨ a % 2 = 1 := by omega
  have h4 : b % 2 = 0 ∨ b % 2 = 1 := by omega
  generalize a / 2 = u
  generalize b / 2 = v
  rcases h3 with h3 | h3 <;> rcases h4 with h4 | h4 <;> simp only [h3, h4] <;> simp [Nat.xor_assoc, Gf.xor_left_comm, Gf.xor_cancel] <;> ac_rfl
theorem st_lt {c : Nat} (h : c < 2 ^ 32) : st c < 2 ^ 32 := by
  unfold st
  refine Gf.xor_lt (by omega) ?_
  split <;> decide
theorem st_zero : st 0 = 0 := rfl
theorem st_ne {c : Nat} (h : c < 2 ^ 32) (h0 : c ≠ 0) : st c ≠ 0 := by
  unfold st
  intro e
  split at e
  · have := Gf.xor_eq_zero e; omega
  · rw [Nat.xor_zero] at e; omega
theorem st_even (c : Nat) : st (2 * c) = c := by
  unfold st
  rw [show 2 * c % 2 = 0 by omega, show 2 * c / 2 = c by omega]; simp

/-- Some bits. -/
def sts : Nat → Nat → Nat
  | 0, c => c
  | n + 1, c => st (sts n c)
theorem sts_add (a b c : Nat) : sts (a + b) c = sts a (sts b c) := by
  induction a with
  | zero => rw [Nat.zero_add]; rfl
  | succ a ih => rw [Nat.succ_add]; show st _ = st _; rw [ih]
theorem sts_xor (n a b : Nat) : sts n (a ^^^ b) = sts n a ^^^ sts n b := by
  induction n with
  | zero => rfl
  | succ n ih => show st _ = _; rw [ih, st_xor]; rfl
theorem sts_lt (n : Nat) {c : Nat} (h : c < 2 ^ 32) : sts n c < 2 ^ 32 := by
  induction n with
  | zero => exact h
  | succ n ih => exact st_lt ih
theorem sts_zero (n : Nat) : sts n 0 = 0 := by
  induction n with
  | zero => rfl
  | succ n ih => show st _ = 0; rw [ih]; rfl
theorem sts_ne (n : Nat) {c : Nat} (h : c < 2 ^ 32) (h0 : c ≠ 0) : sts n c ≠ 0 := by
  induction n with
  | zero => exact h0
  | succ n ih => exact st_ne (sts_lt n h) ih
theorem sts_inj (n : Nat) {a b : Nat} (ha : a < 2 ^ 32) (hb : b < 2 ^ 32) (h : sts n a = sts n b) : a = b := by
  apply Gf.xor_eq_zero
  by_cases h0 : a ^^^ b = 0
  · exact h0
  · exact absurd (by rw [sts_xor, h, Nat.xor_self]) (sts_ne n (Gf.xor_lt ha hb) h0)
theorem sts_pow (k c : Nat) : sts k (2 ^ k * c) = c := by
  induction k generalizing c with
  | zero => show 2 ^ 0 * c = c; simp
  | succ k ih => rw [Nat.add_comm k 1, sts_add, show 2 ^ (1 + k) * c = 2 ^ k * (2 * c) by rw [Nat.pow_add, Nat.pow_one]; rw [Nat.mul_comm 2, Nat.mul_assoc], ih]; exact st_even c
theorem sts_pow1 (k : Nat) : sts k (2 ^ k) = 1 := by have := sts_pow k 1; rwa [Nat.mul_one] at this

theorem add_xor (a k b : Nat) (h : b < 2 ^ k) : 2 ^ k * a + b = (2 ^ k * a) ^^^ b := by
  apply Nat.eq_of_testBit_eq
  intro i
  rw [Nat.testBit_two_pow_mul_add a h i, Nat.testBit_xor, Nat.testBit_two_pow_mul]
  by_cases hi : i < k
  · simp [hi, Nat.not_le.2 hi]
  · have hb : b.testBit i = false := Nat.testBit_lt_two_pow (Nat.lt_of_lt_of_le h (Nat.pow_le_pow_right (by decide) (by omega)))
    simp [hi, hb]; omega
theorem lin (f g : Nat → Nat) (hf : ∀ a b, f (a ^^^ b) = f a ^^^ f b) (hg : ∀ a b, g (a ^^^ b) = g a ^^^ g b) (n : Nat) (h : ∀ i, i < n → f (2 ^ i) = g (2 ^ i)) : ∀ x, x < 2 ^ n → f x = g x := by
  have f0 : f 0 = 0 := by have := hf 0 0; rw [Nat.xor_self] at this; rw [this, Nat.xor_self]
  have g0 : g 0 = 0 := by have := hg 0 0; rw [Nat.xor_self] at this; rw [this, Nat.xor_self]
  induction n with
  | zero => intro x hx; obtain rfl : x = 0 := by simp at hx; exact hx
            rw [f0, g0]
  | succ n ih =>
    intro x hx
    have ih' := ih (fun i hi => h i (by omega))
    by_cases hlt : x < 2 ^ n
    · exact ih' x hlt
    · have hx2 : x - 2 ^ n < 2 ^ n := by rw [Nat.pow_succ] at hx; omega
      have e : x = 2 ^ n ^^^ (x - 2 ^ n) := by
        have := add_xor 1 n (x - 2 ^ n) hx2
        rw [Nat.mul_one] at this
        omega
      rw [e, hf, hg, h n (by omega), ih' _ hx2]

/-- The linear parts of the numbers of four bits. -/
def hv (r : Nat) : Nat := [0, 498536548, 997073096, 651767980, 1994146192, 1802195444, 1303535960, 1342533948, 3988292384, 4027552580, 3604390888, 3412177804, 2607071920, 2262029012, 2685067896, 3183342108].getD r 0
theorem hv_eq : ∀ r : Fin 16, sts 4 r.val = hv r.val := by decide +kernel
theorem nib (c : Nat) : sts 4 c = c / 16 ^^^ hv (c % 16) := by
  have h : c = (2 ^ 4 * (c / 16)) ^^^ (c % 16) := by
    rw [← add_xor _ _ _ (show c % 16 < 2 ^ 4 by omega)]; omega
  rw [← hv_eq ⟨c % 16, Nat.mod_lt _ (by decide)⟩]
  conv => lhs; rw [h, sts_xor, sts_pow]
theorem hv_lt (r : Nat) : hv r < 2 ^ 32 := by
  by_cases h : r < 16
  · have := hv_eq ⟨r, h⟩
    simp only at this
    rw [← this]
    exact sts_lt _ (by omega)
  · unfold hv
    rw [List.getD_eq_getElem?_getD, List.getElem?_eq_none (by simp; omega)]; decide

/-- The register after bytes. -/
def reg (c : Nat) (l : List Nat) : Nat := l.foldl (fun c x => sts 8 (c ^^^ x)) c
theorem reg_nil (c : Nat) : reg c [] = c := rfl
theorem reg_cons (c x : Nat) (l : List Nat) : reg c (x :: l) = reg (sts 8 (c ^^^ x)) l := rfl
theorem reg_append (c : Nat) (l m : List Nat) : reg c (l ++ m) = reg (reg c l) m := List.foldl_append
theorem reg_snoc (c : Nat) (l : List Nat) (x : Nat) : reg c (l ++ [x]) = sts 8 (reg c l ^^^ x) := reg_append c l [x]
theorem reg_lt {l : List Nat} (hl : ∀ x ∈ l, x < 256) : ∀ {c : Nat}, c < 2 ^ 32 → reg c l < 2 ^ 32 := by
  induction l with
  | nil => intro c h; exact h
  | cons x l ih =>
    intro c h
    rw [reg_cons]
    refine ih (fun y hy => hl y (List.mem_cons_of_mem _ hy)) (sts_lt _ (Gf.xor_lt h ?_))
    have := hl x List.mem_cons_self
    omega
theorem reg_shift (l : List Nat) : ∀ a b, reg (a ^^^ b) l = reg a l ^^^ sts (8 * l.length) b := by
  induction l with
  | nil => intro a b; rfl
  | cons x l ih =>
    intro a b
    rw [reg_cons, reg_cons, Nat.xor_assoc, Nat.xor_comm b x, ← Nat.xor_assoc, sts_xor, ih, ← sts_add]
    rw [List.length_cons, show 8 * l.length + 8 = 8 * (l.length + 1) by omega]
theorem reg_zeros (c k : Nat) : reg c (List.replicate k 0) = sts (8 * k) c := by
  induction k generalizing c with
  | zero => rfl
  | succ k ih => rw [List.replicate_succ, reg_cons, Nat.xor_zero, ih, ← sts_add, show 8 * k + 8 = 8 * (k + 1) by omega]
theorem reg_xor : ∀ (l m : List Nat) (c d : Nat), l.length = m.length → reg (c ^^^ d) (List.zipWith (· ^^^ ·) l m) = reg c l ^^^ reg d m := by
  intro l
  induction l with
  | nil => intro m c d h; cases m with
    | nil => rfl
    | cons y m => cases h
  | cons x l ih => intro m c d h; cases m with
    | nil => cases h
    | cons y m =>
      rw [List.zipWith_cons_cons, reg_cons, reg_cons, reg_cons]
      rw [show c ^^^ d ^^^ (x ^^^ y) = (c ^^^ x) ^^^ (d ^^^ y) by rw [Nat.xor_assoc, Nat.xor_assoc, Gf.xor_left_comm d], sts_xor]
      exact ih m _ _ (by simpa using h)
theorem reg_from (c : Nat) (l : List Nat) : reg c l = sts (8 * l.length) c ^^^ reg 0 l := by
  have := reg_shift l 0 c
  rw [Nat.zero_xor, Nat.xor_comm] at this
  exact this
theorem reg_set : ∀ (l : List Nat) (i c v x : Nat), l[i]? = some x → reg c (l.set i (x ^^^ v)) = reg c l ^^^ sts (8 * (l.length - i)) v := by
  intro l
  induction l with
  | nil => intro i c v x h; cases h
  | cons y l ih =>
    intro i c v x h
    cases i with
    | zero =>
      obtain rfl : y = x := by simpa using h
      rw [List.set_cons_zero, reg_cons, reg_cons, ← Nat.xor_assoc, sts_xor, reg_shift, ← sts_add, List.length_cons, Nat.sub_zero, show 8 * l.length + 8 = 8 * (l.length + 1) by omega]
    | succ i =>
      rw [List.set_cons_succ, reg_cons, reg_cons, ih i _ v x (by simpa using h), List.length_cons, show l.length + 1 - (i + 1) = l.length - i by omega]

/-- The linear part of n bytes of which the bit k alone is 1. -/
def part (n k : Nat) : Nat := sts (8 * n - k) 1
theorem part_lt (n k : Nat) : part n k < 2 ^ 32 := sts_lt _ (by decide)
theorem part_ne (n k : Nat) : part n k ≠ 0 := sts_ne _ (by decide) (by decide)
theorem reg_bit (l : List Nat) (k c x : Nat) (hk : k < 8 * l.length) (hx : l[k / 8]? = some x) : reg c (l.set (k / 8) (x ^^^ 2 ^ (k % 8))) = reg c l ^^^ part l.length k := by
  rw [reg_set l _ c _ x hx, show 8 * (l.length - k / 8) = (8 * l.length - k) + k % 8 by omega, sts_add, sts_pow1]; rfl

/-- The checksum. -/
def upd (c : Nat) (l : List Nat) : Nat := reg (c ^^^ 4294967295) l ^^^ 4294967295
theorem upd_lt {c : Nat} {l : List Nat} (hl : ∀ x ∈ l, x < 256) (h : c < 2 ^ 32) : upd c l < 2 ^ 32 := Gf.xor_lt (reg_lt hl (Gf.xor_lt h (by decide))) (by decide)
theorem upd_append (c : Nat) (l m : List Nat) : upd c (l ++ m) = upd (upd c l) m := by
  unfold upd
  rw [reg_append, Nat.xor_assoc, Nat.xor_self, Nat.xor_zero]
theorem upd_nil (c : Nat) : upd c [] = c := by unfold upd; rw [reg_nil, Nat.xor_assoc, Nat.xor_self, Nat.xor_zero]
theorem upd_join (l m : List Nat) (c : Nat) : upd c (l ++ m) = sts (8 * m.length) (upd c l) ^^^ upd 0 m := by
  rw [upd_append]
  generalize upd c l = a
  unfold upd
  rw [Nat.xor_comm a, reg_shift, Nat.zero_xor, Nat.xor_comm (reg _ m), Nat.xor_assoc]
def le4 (d : Nat) : List Nat := [d % 256, d / 256 % 256, d / 65536 % 256, d / 16777216]
theorem sts8_byte (c d : Nat) : sts 8 (c ^^^ d % 256) = sts 8 (c ^^^ d) ^^^ (d / 256) := by
  have h : d = (2 ^ 8 * (d / 256)) ^^^ (d % 256) := by
    rw [← add_xor _ _ _ (show d % 256 < 2 ^ 8 by omega)]; omega
  conv => rhs; lhs; rw [h, sts_xor, sts_xor, sts_pow]
  rw [sts_xor]
  rw [Nat.xor_assoc, Nat.xor_comm (d / 256), Nat.xor_assoc, Nat.xor_self, Nat.xor_zero]
theorem reg_le4 (c d : Nat) (hd : d < 2 ^ 32) : reg c (le4 d) = sts 32 (c ^^^ d) := by
  unfold le4
  rw [reg_cons, reg_cons, reg_cons, reg_cons, reg_nil]
  rw [sts8_byte c d]
  have e (a b : Nat) : sts 8 (a ^^^ b ^^^ b % 256) = sts 8 a ^^^ b / 256 := by
    rw [sts8_byte, Nat.xor_assoc, Nat.xor_self, Nat.xor_zero]
  rw [e, show d / 256 / 256 = d / 65536 by omega, e, show d / 65536 / 256 = d / 16777216 by omega]
  rw [Nat.xor_assoc (sts 8 _), Nat.xor_self, Nat.xor_zero, ← sts_add, ← sts_add, ← sts_add]
theorem sealed_sum (l : List Nat) (hl : ∀ x ∈ l, x < 256) : upd 0 (l ++ le4 (upd 0 l)) = 558161692 := by
  have h := upd_lt hl (c := 0) (by decide)
  unfold upd at h ⊢
  rw [reg_append, reg_le4 _ _ h, Nat.xor_comm (reg _ l) 4294967295, Gf.xor_left_comm, Nat.xor_self, Nat.xor_zero]
  decide +kernel
theorem upd_bit (l : List Nat) (k c x : Nat) (hk : k < 8 * l.length) (hx : l[k / 8]? = some x) : upd c (l.set (k / 8) (x ^^^ 2 ^ (k % 8))) = upd c l ^^^ part l.length k := by
  unfold upd
  rw [reg_bit l k _ x hk hx, Nat.xor_assoc, Nat.xor_assoc, Nat.xor_comm (part _ _)]

/-- The reversed remainder. -/
def G : Nat := 4374732215
theorem G_ne : G ≠ 0 := by decide
theorem len_G : Gf.len G = 33 := by decide
theorem rvN_xor (a b : Nat) : rvN (a ^^^ b) 32 = rvN a 32 ^^^ rvN b 32 := by
  unfold rvN
  rw [BitVec.ofNat_xor]
  unfold rv
  rw [rev_xor, BitVec.ushiftRight_xor_distrib, BitVec.toNat_xor]
theorem rv_two (p : Nat) (hp : p < 2 ^ 32) : rvN (Gf.pmod (2 * p) G) 32 = st (rvN p 32) := by
  refine lin (fun p => rvN (Gf.pmod (2 * p) G) 32) (fun p => st (rvN p 32)) (fun a b => ?_) (fun a b => ?_) 32 ?_ p hp
  · show rvN (Gf.pmod (2 * (a ^^^ b)) G) 32 = _
    rw [Gf.two_xor, Gf.mod_xor _ _ G_ne, rvN_xor]
  · show st (rvN (a ^^^ b) 32) = _
    rw [rvN_xor, st_xor]
  · intro i hi
    have h : ∀ i : Fin 32, rvN (Gf.pmod (2 * 2 ^ i.val) G) 32 = st (rvN (2 ^ i.val) 32) := by decide +kernel
    exact h ⟨i, hi⟩
theorem pmod_G (a : Nat) : Gf.pmod a G < 2 ^ 32 := Gf.len_le.1 (by have := Gf.mod_len a G_ne; rw [len_G] at this; omega)
theorem pw_G (m : Nat) : pw G m < 2 ^ 32 := by
  cases m with
  | zero => exact pmod_G 1
  | succ m => exact pmod_G _
theorem rv_pw (m : Nat) : rvN (pw G m) 32 = sts m 2147483648 := by
  induction m with
  | zero => decide +kernel
  | succ m ih =>
    show rvN (Gf.pmod (2 * pw G m) G) 32 = st _
    rw [rv_two _ (pw_G m), ih]
theorem rv_part (n k : Nat) (hk : k < 8 * n) : rvN (pw G (8 * n - 1 - k + 32)) 32 = part n k := by
  rw [rv_pw, show 8 * n - 1 - k + 32 = (8 * n - k) + 31 by omega, sts_add, sts_pow1 31]; rfl
theorem rv_shift (p k : Nat) : rvN (Gf.pmod (Gf.pmul p (pw G k)) G) 32 = sts k (rvN (Gf.pmod p G) 32) := by
  induction k with
  | zero =>
    show rvN (Gf.pmod (Gf.pmul p (Gf.pmod 1 G)) G) 32 = _
    rw [Gf.mul_mod _ _ G_ne, Gf.pmul_one]; rfl
  | succ k ih =>
    show rvN (Gf.pmod (Gf.pmul p (Gf.pmod (2 * pw G k) G)) G) 32 = st _
    rw [Gf.mul_mod _ _ G_ne, Gf.pmul_two, ← ih, ← rv_two _ (pmod_G _)]
    have h := Gf.mul_mod 2 (Gf.pmul p (pw G k)) G_ne
    rw [two_pmul2', two_pmul2'] at h
    rw [h]
where two_pmul2' (c : Nat) : Gf.pmul 2 c = 2 * c := by rw [Gf.pmul_comm, ← two_pmul1]
theorem rv_G (c : Nat) (hc : c < 2 ^ 32) : rvN (Gf.pmod (rvN c 32) G) 32 = c := by
  have h := rvN_lt c 32 (by decide)
  rw [Gf.mod_small (by rw [len_G]; have := Gf.len_le.2 h; omega), rvN_twice c 32 (by omega) (by decide), Nat.mod_eq_of_lt hc]
theorem shift_eq (c k : Nat) (hc : c < 2 ^ 32) : rvN (Gf.pmod (Gf.pmul (rvN c 32) (pw G k)) G) 32 = sts k c := by
  rw [rv_shift, rv_G c hc]
/-- Back by one power. -/
def back (p : Nat) : Nat := (if p % 2 = 1 then p ^^^ G else p) / 2
theorem back_pw (m : Nat) : back (pw G (m + 1)) = pw G m := by
  show back (Gf.pmod (2 * pw G m) G) = pw G m
  refine lin (fun p => back (Gf.pmod (2 * p) G)) (fun p => p) (fun a b => ?_) (fun a b => rfl) 32 ?_ _ (pw_G m)
  · show back (Gf.pmod (2 * (a ^^^ b)) G) = _
    rw [Gf.two_xor, Gf.mod_xor _ _ G_ne]
    generalize Gf.pmod (2 * a) G = u
    generalize Gf.pmod (2 * b) G = v
    unfold back
    rw [Gf.xor_mod2]
    have h3 : u % 2 = 0 ∨ u % 2 = 1 := by omega
    have h4 : v % 2 = 0 ∨ v % 2 = 1 := by omega
    rcases h3 with h3 | h3 <;> rcases h4 with h4 | h4 <;> simp only [h3, h4] <;> simp [Gf.xor_div2, Nat.xor_assoc, Gf.xor_left_comm, Gf.xor_cancel] <;> ac_rfl
  · intro i hi
    have h : ∀ i : Fin 32, back (Gf.pmod (2 * 2 ^ i.val) G) = 2 ^ i.val := by decide +kernel
    exact h ⟨i, hi⟩

/-- A change within 32 bits. -/
theorem part_burst (n begin i : Nat) (h : begin + i < 8 * n) : part n (begin + i) = sts (8 * n - begin) (2 ^ i) := by
  unfold part
  conv => rhs; rw [show 8 * n - begin = (8 * n - (begin + i)) + i by omega, sts_add, sts_pow1]

end Go.Proofs.YtoecddkglenigaaDoor.Crc
