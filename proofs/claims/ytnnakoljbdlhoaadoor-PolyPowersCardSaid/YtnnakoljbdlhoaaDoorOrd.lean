/-
  The order of x modulo a polynomial: that there is one, what it divides.
-/
import Derived.Test.YtnnakoljbdlhoaaDoorPower
namespace Go.Proofs.YtnnakoljbdlhoaaDoor
open Gf

theorem prm_two : Gf.Prm 2 := ⟨by decide, fun g _ h => Nat.le_trans (by decide) h⟩
theorem two_pmul2 (c : Nat) : Gf.pmul 2 c = 2 * c := by rw [Gf.pmul_comm, ← two_pmul1]
/-- x has no common divisor with one whose last term is 1: it can be cancelled. -/
theorem cancel_two {s c : Nat} (hs0 : s ≠ 0) (hs : Gf.pmod s 2 ≠ 0) (h : Gf.pmod (2 * c) s = 0) : Gf.pmod c s = 0 := by
  obtain ⟨q, hq⟩ := Gf.dvd_of_mod hs0 h
  have hd : Gf.Dvd 2 (Gf.pmul q s) := by rw [hq]; exact ⟨c, (two_pmul1 c).symm⟩
  rcases prm_two.dvd_mul hd with h1 | h1
  · obtain ⟨t, ht⟩ := h1
    refine Gf.mod_of_dvd hs0 ⟨t, ?_⟩
    refine Gf.pmul_cancel (c := 2) (by decide) ?_
    rw [← two_pmul1 c, ← hq, ← ht, Gf.pmul_assoc, Gf.pmul_assoc, Gf.pmul_comm s 2]
  · exact absurd (Gf.mod_of_dvd (by decide) h1) hs
theorem pw_cancel {s : Nat} (hs0 : s ≠ 0) (hs : Gf.pmod s 2 ≠ 0) {i j : Nat} (h : pw s (i + 1) = pw s (j + 1)) : pw s i = pw s j := by
  have h1 : Gf.pmod (2 * (pw s i ^^^ pw s j)) s = 0 := by
    rw [Gf.two_xor, Gf.mod_xor _ _ hs0]
    show pw s (i + 1) ^^^ pw s (j + 1) = 0
    rw [h, Nat.xor_self]
  have h2 := cancel_two hs0 hs h1
  rw [Gf.mod_small (by have := Gf.len_xor (a := pw s i) (b := pw s j); have := pw_len s hs0 i; have := pw_len s hs0 j; omega)] at h2
  exact Gf.xor_eq_zero h2
theorem nodup_le : ∀ (l L : List Nat), l.Nodup → (∀ x ∈ l, x ∈ L) → l.length ≤ L.length
  | [], L, _, _ => Nat.zero_le _
  | b :: l, L, hn, hsub => by
    obtain ⟨l1, l2, rfl⟩ := List.append_of_mem (hsub b (by simp))
    have hb : b ∉ l ∧ l.Nodup := List.nodup_cons.1 hn
    have := nodup_le l (l1 ++ l2) hb.2 (fun x hx => by
      have := hsub x (by simp [hx])
      simp at this ⊢
      rcases this with h | h | h
      · exact .inl h
      · subst h; exact absurd hx hb.1
      · exact .inr h)
    simp at this ⊢; omega
theorem pigeon (g : Nat → Nat) (B : Nat) (h : ∀ i, g i < B) : ∃ i k, g i = g (i + k + 1) ∧ i + k + 1 ≤ B := by
  refine Classical.byContradiction fun hno => ?_
  have hnd : ((List.range (B + 1)).map g).Nodup := by
    unfold List.Nodup
    rw [List.pairwise_map]
    have hr : (List.range (B + 1)).Pairwise (· < ·) := List.pairwise_lt_range
    refine List.Pairwise.imp_of_mem (fun {a b} ha hb hab e => hno ⟨a, b - a - 1, ?_, ?_⟩) hr
    · rw [show a + (b - a - 1) + 1 = b by omega]; exact e
    · have := List.mem_range.1 hb; omega
  have := nodup_le _ (List.range B) hnd (fun x hx => by
    obtain ⟨i, _, rfl⟩ := List.mem_map.1 hx
    exact List.mem_range.2 (h i))
  simp at this
  omega
theorem least (P : Nat → Prop) : ∀ n, P n → ∃ m, m ≤ n ∧ P m ∧ ∀ k, k < m → ¬ P k := by
  intro n
  induction n using Nat.strongRecOn with
  | ind n ih =>
    intro hn
    by_cases h : ∃ k, k < n ∧ P k
    · obtain ⟨k, hk, hp⟩ := h
      obtain ⟨m, hm, h1, h2⟩ := ih k hk hp
      exact ⟨m, by omega, h1, h2⟩
    · exact ⟨n, Nat.le_refl _, hn, fun k hk hp => h ⟨k, hk, hp⟩⟩
theorem order_exists {s : Nat} (hl : 2 ≤ Gf.len s) (hs : Gf.pmod s 2 ≠ 0) : ∃ N, 1 ≤ N ∧ N ≤ 2 ^ (Gf.len s - 1) ∧ pw s N = 1 ∧ ∀ k, 1 ≤ k → k < N → pw s k ≠ 1 := by
  have hs0 : s ≠ 0 := by intro e; subst e; rw [Gf.len_zero] at hl; omega
  obtain ⟨i, k, he, hb⟩ := pigeon (pw s) (2 ^ (Gf.len s - 1)) (fun i => Gf.len_le.1 (by have := pw_len s hs0 i; omega))
  have h0 : ∀ i, pw s i = pw s (i + k + 1) → pw s 0 = pw s (k + 1) := by
    intro i
    induction i with
    | zero => intro h; rwa [Nat.zero_add] at h
    | succ i ih =>
      intro h
      rw [show i + 1 + k + 1 = (i + k + 1) + 1 by omega] at h
      exact ih (pw_cancel hs0 hs h)
  have h1 : pw s (k + 1) = 1 := by rw [← h0 i he]; exact Gf.one_mod hl
  obtain ⟨N, hN, hP, hmin⟩ := least (fun k => 1 ≤ k ∧ pw s k = 1) (k + 1) ⟨by omega, h1⟩
  exact ⟨N, hP.1, by omega, hP.2, fun k hk hkN he => hmin k hkN ⟨hk, he⟩⟩
theorem order_dvd {s N : Nat} (hl : 2 ≤ Gf.len s) (hN : 1 ≤ N) (hone : pw s N = 1) (hmin : ∀ k, 1 ≤ k → k < N → pw s k ≠ 1) {a : Nat} (ha : pw s a = 1) : a % N = 0 := by
  have hs0 : s ≠ 0 := by intro e; subst e; rw [Gf.len_zero] at hl; omega
  have hq : ∀ q, pw s (N * q) = 1 := by
    intro q
    induction q with
    | zero => exact Gf.one_mod hl
    | succ q ih => rw [Nat.mul_succ, pw_add hs0, ih, hone, Gf.pmul_one]; exact Gf.one_mod hl
  have h : pw s (a % N) = 1 := by
    have e := Nat.div_add_mod a N
    rw [← e, pw_add hs0, hq, Gf.one_pmul, Gf.mod_small (pw_len s hs0 _)] at ha
    exact ha
  have hlt := Nat.mod_lt a (show 0 < N by omega)
  rcases Nat.eq_zero_or_pos (a % N) with h0 | h0
  · exact h0
  · exact absurd h (hmin _ h0 hlt)
theorem irr_prm {s : Nat} (h : irr s = true) : Gf.Prm s := by
  have hl : 2 ≤ Gf.len s := by
    rcases Nat.lt_or_ge (Gf.len s) 2 with h1 | h1
    · unfold irr at h; rw [if_pos (by omega)] at h; cases h
    · exact h1
  refine ⟨hl, fun g hg hg2 => ?_⟩
  rcases Nat.lt_or_ge (Gf.len g) (Gf.len s) with h1 | h1
  · exfalso
    obtain ⟨q, hq⟩ := hg
    have hs0 : s ≠ 0 := by intro e; subst e; rw [Gf.len_zero] at hl; omega
    have hq0 : q ≠ 0 := by intro e; rw [e, Gf.zero_pmul] at hq; exact hs0 hq.symm
    have hg0 : g ≠ 0 := by intro e; rw [e, Gf.pmul_zero] at hq; exact hs0 hq.symm
    have h3 := Gf.len_pmul hq0 hg0
    rw [hq] at h3
    have := irr_pmul (a := q) (b := g) (by omega) hg2
    rw [hq, h] at this
    cases this
  · exact h1
theorem order_irr {s N : Nat} (hi : irr s = true) (hs : Gf.pmod s 2 ≠ 0) (hN : 1 ≤ N) (hone : pw s N = 1) (hmin : ∀ k, 1 ≤ k → k < N → pw s k ≠ 1) : (2 ^ (Gf.len s - 1) - 1) % N = 0 := by
  have hp := irr_prm hi
  refine order_dvd hp.1 hN hone hmin ?_
  rw [pw_ppow]
  refine hp.fermat (fun h => ?_)
  have h1 : Gf.pmod (2 * 1) s = 0 := h
  have h2 := cancel_two hp.ne hs h1
  rw [Gf.one_mod hp.1] at h2
  exact absurd h2 (by decide)

end Go.Proofs.YtnnakoljbdlhoaaDoor
