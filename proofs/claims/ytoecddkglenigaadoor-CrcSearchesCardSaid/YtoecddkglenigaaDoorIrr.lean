/-
  A product is told from an irreducible polynomial: Fermat for the residues modulo an irreducible factor.
-/
import Derived.Test.YtoecddkglenigaaDoorMulMod
namespace Go.Proofs.YtoecddkglenigaaDoor
namespace Gf

def ppow (f a : Nat) : Nat → Nat
  | 0 => pmod 1 f
  | k + 1 => pmod (pmul a (ppow f a k)) f
theorem ppow_mod {f : Nat} (hf : f ≠ 0) (a k : Nat) : pmod (ppow f a k) f = ppow f a k := by cases k <;> exact mod_mod _ hf
theorem ppow_add {f : Nat} (hf : f ≠ 0) (a m n : Nat) : ppow f a (m + n) = pmod (pmul (ppow f a m) (ppow f a n)) f := by
  induction m with
  | zero =>
    rw [Nat.zero_add]
    show _ = pmod (pmul (pmod 1 f) _) f
    rw [mod_mul _ _ hf, one_pmul, ppow_mod hf]
  | succ m ih =>
    rw [show m + 1 + n = (m + n) + 1 by omega]
    show pmod (pmul a (ppow f a (m + n))) f = pmod (pmul (pmod (pmul a (ppow f a m)) f) _) f
    rw [ih, mul_mod _ _ hf, mod_mul _ _ hf, pmul_assoc]
def prodM (f : Nat) : List Nat → Nat
  | [] => pmod 1 f
  | b :: l => pmod (pmul b (prodM f l)) f
theorem prodM_mod {f : Nat} (hf : f ≠ 0) (l : List Nat) : pmod (prodM f l) f = prodM f l := by cases l <;> exact mod_mod _ hf
theorem prodM_mid {f : Nat} (hf : f ≠ 0) (b : Nat) (l1 l2 : List Nat) : prodM f (l1 ++ b :: l2) = pmod (pmul b (prodM f (l1 ++ l2))) f := by
  induction l1 with
  | nil => rfl
  | cons c l ih =>
    show pmod (pmul c (prodM f (l ++ b :: l2))) f = pmod (pmul b (pmod (pmul c (prodM f (l ++ l2))) f)) f
    rw [ih, mul_mod _ _ hf, mul_mod _ _ hf, ← pmul_assoc, ← pmul_assoc, pmul_comm c b]
theorem prodM_same {f : Nat} (hf : f ≠ 0) : ∀ (l L : List Nat), l.Nodup → L.length ≤ l.length → (∀ x ∈ l, x ∈ L) → prodM f l = prodM f L
  | [], L, _, h, _ => by have : L = [] := List.eq_nil_of_length_eq_zero (by simpa using h); rw [this]
  | b :: l, L, hn, hlen, hsub => by
    obtain ⟨l1, l2, rfl⟩ := List.append_of_mem (hsub b (by simp))
    rw [prodM_mid hf]
    have hb : b ∉ l ∧ l.Nodup := List.nodup_cons.1 hn
    show pmod (pmul b (prodM f l)) f = _
    rw [prodM_same hf l (l1 ++ l2) hb.2 (by simp at hlen ⊢; omega) (fun x hx => ?_)]
    have := hsub x (by simp [hx])
    simp at this ⊢
    rcases this with h | h | h
    · exact .inl h
    · subst h; exact absurd hx hb.1
    · exact .inr h
theorem prodM_map {f : Nat} (hf : f ≠ 0) (a : Nat) (l : List Nat) : prodM f (l.map fun b => pmod (pmul a b) f) = pmod (pmul (ppow f a l.length) (prodM f l)) f := by
  induction l with
  | nil =>
    show pmod 1 f = pmod (pmul (pmod 1 f) (pmod 1 f)) f
    rw [mod_mul _ _ hf, one_pmul, mod_mod _ hf]
  | cons b l ih =>
    show pmod (pmul (pmod (pmul a b) f) (prodM f (l.map _))) f = pmod (pmul (pmod (pmul a (ppow f a l.length)) f) (pmod (pmul b (prodM f l)) f)) f
    rw [ih, mod_mul _ _ hf, mul_mod _ _ hf, mod_mul _ _ hf, mul_mod _ _ hf, pmul_assoc, pmul_assoc a (ppow f a l.length), ← pmul_assoc b, pmul_comm b (ppow f a l.length), pmul_assoc (ppow f a l.length) b]

def Prm (f : Nat) : Prop := 2 ≤ len f ∧ ∀ g, Dvd g f → 2 ≤ len g → len f ≤ len g
theorem Prm.ne {f : Nat} (hf : Prm f) : f ≠ 0 := by intro e; subst e; have := hf.1; rw [len_zero] at this; omega
theorem exists_prm : ∀ n z, len z ≤ n → 2 ≤ len z → ∃ f, Prm f ∧ Dvd f z := by
  intro n
  induction n with
  | zero => intro z h1 h2; omega
  | succ n ih =>
    intro z h1 h2
    by_cases h : ∀ g, Dvd g z → 2 ≤ len g → len z ≤ len g
    · exact ⟨z, ⟨h2, h⟩, Dvd.refl z⟩
    · simp only [Classical.not_forall] at h
      obtain ⟨g, hg, hg2, hg3⟩ := h
      obtain ⟨f, hf, hfg⟩ := ih g (by omega) hg2
      exact ⟨f, hf, hfg.trans hg⟩
theorem Prm.dvd_mul {f a b : Nat} (hf : Prm f) (h : Dvd f (pmul a b)) : Dvd f a ∨ Dvd f b := by
  have hf0 := hf.ne
  have hg0 : pgcd a f ≠ 0 := fun e => hf0 (gcd_zero.1 e).2
  by_cases hg : 2 ≤ len (pgcd a f)
  · left
    have h1 := hf.2 _ (gcd_right a f) hg
    obtain ⟨q, hq⟩ := gcd_right a f
    have hq0 : q ≠ 0 := by intro e; rw [e, zero_pmul] at hq; exact hf0 hq.symm
    have h3 := len_pmul hq0 hg0
    rw [hq] at h3
    have h4 := len_pos hq0
    rw [len_eq_one (show len q = 1 by omega), one_pmul] at hq
    rw [← hq]; exact gcd_left a f
  · right
    have h1 := len_pos hg0
    have h2 := len_eq_one (show len (pgcd a f) = 1 by omega)
    obtain ⟨u, v, huv⟩ := bezout a f
    rw [h2] at huv
    have e : b = pmul u (pmul a b) ^^^ pmul (pmul v b) f := by
      conv => lhs; rw [← one_pmul b, huv, xor_pmul]
      rw [pmul_assoc, pmul_assoc v f b, pmul_comm f b, ← pmul_assoc v b f]
    rw [e]; exact (h.mul u).xor ⟨_, rfl⟩
theorem one_mod {f : Nat} (hf : 2 ≤ len f) : pmod 1 f = 1 := mod_small (by rw [len_one]; omega)
theorem Prm.mul_ne {f a b : Nat} (hf : Prm f) (ha : pmod a f ≠ 0) (hb : pmod b f ≠ 0) : pmod (pmul a b) f ≠ 0 := fun e => by
  rcases hf.dvd_mul (dvd_of_mod hf.ne e) with h | h
  · exact ha (mod_of_dvd hf.ne h)
  · exact hb (mod_of_dvd hf.ne h)
theorem Prm.prod_ne {f : Nat} (hf : Prm f) (l : List Nat) (h : ∀ b ∈ l, pmod b f ≠ 0) : prodM f l ≠ 0 := by
  induction l with
  | nil => show pmod 1 f ≠ 0; rw [one_mod hf.1]; decide
  | cons b l ih => exact hf.mul_ne (h b (by simp)) (by rw [prodM_mod hf.ne]; exact ih fun c hc => h c (by simp [hc]))
theorem Prm.fermat {f a : Nat} (hf : Prm f) (ha : pmod a f ≠ 0) : ppow f a (2 ^ (len f - 1) - 1) = 1 := by
  have hf0 := hf.ne
  obtain ⟨N, hN⟩ : ∃ N, 2 ^ (len f - 1) - 1 = N := ⟨_, rfl⟩
  have hpos : 0 < 2 ^ (len f - 1) := Nat.pow_pos (by decide)
  have small : ∀ {b}, b < N + 1 → len b < len f := fun {b} h => by
    have := len_le.2 (show b < 2 ^ (len f - 1) by omega); have := hf.1; omega
  have low : ∀ {b}, b < N + 1 → pmod b f = b := fun h => mod_small (small h)
  obtain ⟨L, hL⟩ : ∃ L, (List.range N).map (· + 1) = L := ⟨_, rfl⟩
  have hmem : ∀ x, x ∈ L ↔ x ≠ 0 ∧ x < N + 1 := fun x => by
    rw [← hL, List.mem_map]
    constructor
    · rintro ⟨y, hy, rfl⟩; have := List.mem_range.1 hy; omega
    · rintro ⟨h1, h2⟩; exact ⟨x - 1, List.mem_range.2 (by omega), by omega⟩
  have hnd : L.Nodup := by
    rw [← hL]
    unfold List.Nodup
    rw [List.pairwise_map]
    exact List.Pairwise.imp (fun h => by omega) (List.nodup_range (n := N))
  have hlen : L.length = N := by rw [← hL]; simp
  have hne : ∀ b ∈ L, pmod b f ≠ 0 := fun b hb => by
    have := (hmem b).1 hb
    rw [low this.2]; exact this.1
  have hsame : prodM f (L.map fun b => pmod (pmul a b) f) = prodM f L := by
    refine prodM_same hf0 _ L ?_ (by simp) ?_
    · unfold List.Nodup at hnd ⊢
      rw [List.pairwise_map]
      refine List.Pairwise.imp_of_mem (fun {b c} hb hc hbc e => hbc ?_) hnd
      have h0 : pmod (pmul a (b ^^^ c)) f = 0 := by rw [pmul_xor, mod_xor _ _ hf0, e, Nat.xor_self]
      have h1 : pmod (b ^^^ c) f = 0 := Classical.byContradiction fun h => hf.mul_ne ha h h0
      rw [mod_xor _ _ hf0, low ((hmem b).1 hb).2, low ((hmem c).1 hc).2] at h1
      exact xor_eq_zero h1
    · intro x hx
      obtain ⟨b, hb, rfl⟩ := List.mem_map.1 hx
      refine (hmem _).2 ⟨hf.mul_ne ha (hne b hb), ?_⟩
      have := mod_len (pmul a b) hf0
      have := len_le.1 (show len (pmod (pmul a b) f) ≤ len f - 1 by omega)
      omega
  rw [prodM_map hf0, hlen] at hsame
  rw [hN]
  have hP := hf.prod_ne L hne
  have h0 : pmod (pmul (ppow f a N ^^^ 1) (prodM f L)) f = 0 := by
    rw [xor_pmul, mod_xor _ _ hf0, hsame, one_pmul, prodM_mod hf0, Nat.xor_self]
  have h1 : pmod (ppow f a N ^^^ 1) f = 0 := Classical.byContradiction fun h => hf.mul_ne h (by rw [prodM_mod hf0]; exact hP) h0
  rw [mod_xor _ _ hf0, ppow_mod hf0, one_mod hf.1] at h1
  exact xor_eq_zero h1

/-- x, squared i times. -/
def sqs (p : Nat) : Nat → Nat → Nat
  | 0, y => y
  | i + 1, y => sqs p i (pmod (pmul y y) p)
theorem sqs_pow {f : Nat} (hf : f ≠ 0) (a : Nat) : ∀ i k, sqs f i (ppow f a k) = ppow f a (k * 2 ^ i) := by
  intro i
  induction i with
  | zero => intro k; rw [Nat.pow_zero, Nat.mul_one]; rfl
  | succ i ih =>
    intro k
    show sqs f i (pmod (pmul (ppow f a k) (ppow f a k)) f) = _
    rw [← ppow_add hf, ih, show k * 2 ^ (i + 1) = (k + k) * 2 ^ i by rw [Nat.pow_succ, Nat.add_mul, ← Nat.mul_assoc]; omega]
theorem mod_of_mod {f z : Nat} (hz : z ≠ 0) (hf : f ≠ 0) (h : Dvd f z) (y : Nat) : pmod (pmod y z) f = pmod y f := by
  conv => rhs; rw [← divmod y hz]
  rw [mod_xor _ _ hf, mod_of_dvd hf (h.mul _), Nat.zero_xor]
theorem sqs_mod {f z : Nat} (hz : z ≠ 0) (hf : f ≠ 0) (h : Dvd f z) : ∀ i y, pmod (sqs z i y) f = sqs f i (pmod y f) := by
  intro i
  induction i with
  | zero => intro y; rfl
  | succ i ih =>
    intro y
    show pmod (sqs z i (pmod (pmul y y) z)) f = sqs f i (pmod (pmul (pmod y f) (pmod y f)) f)
    rw [ih, mod_of_mod hz hf h, mul_mod _ _ hf, mod_mul _ _ hf]
theorem ppow_one {f : Nat} (hf : f ≠ 0) (a : Nat) : ppow f a 1 = pmod a f := by
  show pmod (pmul a (pmod 1 f)) f = _
  rw [mul_mod _ _ hf, pmul_one]
theorem Prm.frob {f : Nat} (hf : Prm f) (a : Nat) : ppow f a (2 ^ (len f - 1)) = pmod a f := by
  have hpos : 0 < 2 ^ (len f - 1) := Nat.pow_pos (by decide)
  rw [show 2 ^ (len f - 1) = (2 ^ (len f - 1) - 1) + 1 by omega]
  show pmod (pmul a (ppow f a _)) f = _
  by_cases ha : pmod a f = 0
  · rw [← mod_mul _ _ hf.ne, ha, zero_pmul, zero_mod]
  · rw [hf.fermat ha, pmul_one]
end Gf
open Gf

theorem irrF_false (p : Nat) : ∀ i n y, i + 1 ≤ n → Gf.pgcd (sqs p (i + 1) y ^^^ 2) p ≠ 1 → irrF p n y = false := by
  intro i
  induction i with
  | zero =>
    intro n y hn h
    obtain ⟨n, rfl⟩ : ∃ m, n = m + 1 := ⟨n - 1, by omega⟩
    show (if _ then _ else _) = _
    exact if_neg h
  | succ i ih =>
    intro n y hn h
    obtain ⟨n, rfl⟩ : ∃ m, n = m + 1 := ⟨n - 1, by omega⟩
    show (if _ then irrF p n _ else false) = false
    split
    · exact ih n _ (by omega) h
    · rfl
/-- A product of two of degrees from 1 on is not irreducible. -/
theorem irr_pmul {a b : Nat} (ha : 2 ≤ Gf.len a) (hb : 2 ≤ Gf.len b) : irr (Gf.pmul a b) = false := by
  have ha0 : a ≠ 0 := by intro e; subst e; rw [Gf.len_zero] at ha; omega
  have hb0 : b ≠ 0 := by intro e; subst e; rw [Gf.len_zero] at hb; omega
  have hz0 := Gf.pmul_ne ha0 hb0
  have hz := Gf.len_pmul ha0 hb0
  -- a factor of at most half the degree
  obtain ⟨c, hc2, hcz, hcl⟩ : ∃ c, 2 ≤ Gf.len c ∧ Gf.Dvd c (Gf.pmul a b) ∧ 2 * Gf.len c ≤ Gf.len (Gf.pmul a b) + 1 := by
    by_cases h : Gf.len a ≤ Gf.len b
    · exact ⟨a, ha, ⟨b, Gf.pmul_comm b a⟩, by omega⟩
    · exact ⟨b, hb, ⟨a, rfl⟩, by omega⟩
  obtain ⟨f, hf, hfc⟩ := Gf.exists_prm (Gf.len c) c (Nat.le_refl _) hc2
  have hc0 : c ≠ 0 := by intro e; subst e; rw [Gf.len_zero] at hc2; omega
  have hfl := hfc.len hc0
  have hfz := hfc.trans hcz
  obtain ⟨z, hze⟩ : ∃ z, Gf.pmul a b = z := ⟨_, rfl⟩
  rw [hze] at hz0 hz hcz hcl hfz ⊢
  have h2 := hf.1
  unfold irr
  rw [if_neg (by omega)]
  refine irrF_false z (Gf.len f - 2) _ _ (by omega) (fun e => ?_)
  have hf0 := hf.ne
  have hd : Gf.Dvd f (sqs z (Gf.len f - 2 + 1) (Gf.pmod 2 z) ^^^ 2) := by
    refine Gf.dvd_of_mod hf0 ?_
    rw [Gf.mod_xor _ _ hf0, Gf.sqs_mod hz0 hf0 hfz, Gf.mod_of_mod hz0 hf0 hfz, ← Gf.ppow_one hf0, Gf.sqs_pow hf0, Nat.one_mul, show Gf.len f - 2 + 1 = Gf.len f - 1 by omega, hf.frob, Gf.ppow_one hf0, Nat.xor_self]
  have := Gf.dvd_gcd hd hfz
  rw [e] at this
  have := this.len (by decide)
  rw [Gf.len_one] at this
  omega
/-- One that is irreducible has the greatest common divisor 1 with all others of a lesser degree that are not 0. -/
theorem irr_gcd {p r : Nat} (h : irr p = true) (hr : r ≠ 0) (hl : Gf.len r < Gf.len p) : Gf.pgcd p r = 1 := by
  have hp0 : p ≠ 0 := by intro e; subst e; rw [Gf.len_zero] at hl; omega
  have hg0 : Gf.pgcd p r ≠ 0 := fun e => hr (Gf.gcd_zero.1 e).2
  have h1 := (Gf.gcd_right p r).len hr
  have h2 := Gf.len_pos hg0
  by_cases hg : 2 ≤ Gf.len (Gf.pgcd p r)
  · obtain ⟨q, hq⟩ := Gf.gcd_left p r
    have hq0 : q ≠ 0 := by intro e; rw [e, Gf.zero_pmul] at hq; exact hp0 hq.symm
    have h3 := Gf.len_pmul hq0 hg0
    rw [hq] at h3
    have := irr_pmul (a := q) (b := Gf.pgcd p r) (by omega) hg
    rw [hq, h] at this
    cases this
  · exact Gf.len_eq_one (by omega)

end Go.Proofs.YtoecddkglenigaaDoor
