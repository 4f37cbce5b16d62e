/-
  What holds of the runs of a set.
-/
import Derived.Test.YtkochcolmkgkgaaDoorRunsM
namespace Go.Proofs.YtkochcolmkgkgaaDoor
set_option linter.unusedVariables false
namespace Bm
/-- l are the runs of V below n. -/
def RP (V n : Nat) (l : List (Nat × Nat)) : Prop :=
  (∀ (j : Nat) (p : Nat × Nat), l[j]? = some p → p.1 < p.2 ∧ p.2 ≤ n ∧ (∀ i, p.1 ≤ i → i < p.2 → V.testBit i = true) ∧ (p.2 < n → V.testBit p.2 = false)) ∧
  (∀ (j k : Nat) (p q : Nat × Nat), j < k → l[j]? = some p → l[k]? = some q → p.2 < q.1) ∧
  (∀ i, i < n → V.testBit i = true → ∃ (j : Nat) (p : Nat × Nat), l[j]? = some p ∧ p.1 ≤ i ∧ i < p.2)
theorem rp_zero (V : Nat) : RP V 0 [] := ⟨fun j p h => by simp at h, fun j k p q _ h => by simp at h, fun i h => absurd h (Nat.not_lt_zero _)⟩
theorem rp_skip {V n : Nat} {l : List (Nat × Nat)} (h : RP V n l) (hb : V.testBit n = false) : RP V (n + 1) l := by
  obtain ⟨h1, h2, h3⟩ := h
  refine ⟨fun j p hp => ?_, h2, fun i hi hbi => ?_⟩
  · obtain ⟨a, b, c, d⟩ := h1 j p hp
    refine ⟨a, by omega, c, fun hlt => ?_⟩
    rcases Nat.lt_or_ge p.2 n with h | h
    · exact d h
    · rw [show p.2 = n by omega]; exact hb
  · rcases Nat.lt_or_ge i n with h | h
    · exact h3 i h hbi
    · rw [show i = n by omega, hb] at hbi; cases hbi
theorem rp_ext {V n : Nat} {l : List (Nat × Nat)} (h : RP V n l) (hb : V.testBit n = true) : RP V (n + 1) (ext l n) := by
  obtain ⟨h1, h2, h3⟩ := h
  have hnew : (∀ (j : Nat) (p : Nat × Nat), l[j]? = some p → p.2 ≠ n) → RP V (n + 1) (l ++ [(n, n + 1)]) := by
    intro hne
    refine ⟨fun j p hp => ?_, fun j k p q hjk hp hq => ?_, fun i hi hbi => ?_⟩
    · rcases Nat.lt_or_ge j l.length with hj | hj
      · rw [List.getElem?_append_left hj] at hp
        obtain ⟨a, b, c, d⟩ := h1 j p hp
        exact ⟨a, by omega, c, fun _ => d (by have := hne j p hp; omega)⟩
      · rw [List.getElem?_append_right hj] at hp
        obtain ⟨e1, e2⟩ := List.getElem?_eq_some_iff.1 hp
        have e3 : j - l.length = 0 := by simpa using e1
        simp [e3] at e2
        subst e2
        refine ⟨by simp, by simp, fun i ha hb' => ?_, fun hlt => ?_⟩
        · simp at ha hb'
          rw [show i = n by omega]; exact hb
        · simp at hlt
    · rcases Nat.lt_or_ge k l.length with hk | hk
      · rw [List.getElem?_append_left hk] at hq
        rw [List.getElem?_append_left (by omega)] at hp
        exact h2 j k p q hjk hp hq
      · rw [List.getElem?_append_right hk] at hq
        obtain ⟨e1, e2⟩ := List.getElem?_eq_some_iff.1 hq
        have e3 : k - l.length = 0 := by simpa using e1
        simp [e3] at e2
        subst e2
        rw [List.getElem?_append_left (by omega)] at hp
        have := (h1 j p hp).2.1
        have := hne j p hp
        show p.2 < n
        omega
    · rcases Nat.lt_or_ge i n with h | h
      · obtain ⟨j, p, hp, ha, hb'⟩ := h3 i h hbi
        exact ⟨j, p, by rw [List.getElem?_append_left (List.getElem?_eq_some_iff.1 hp).1]; exact hp, ha, hb'⟩
      · exact ⟨l.length, (n, n + 1), by rw [List.getElem?_append_right (Nat.le_refl _)]; simp, by show n ≤ i; omega, by show i < n + 1; omega⟩
  cases hl : l[l.length - 1]? with
  | none =>
    have hnil : l = [] := by
      cases l with
      | nil => rfl
      | cons a l => rw [List.getElem?_eq_none_iff] at hl; simp at hl; omega
    have e : ext l n = l ++ [(n, n + 1)] := by unfold ext; rw [hl]
    rw [e]
    exact hnew (fun j p hp => by rw [hnil] at hp; simp at hp)
  | some p =>
    have hk : l.length - 1 < l.length := (List.getElem?_eq_some_iff.1 hl).1
    by_cases hp : p.2 = n
    · rw [ext_more hl hp]
      obtain ⟨a, b, c, d⟩ := h1 _ p hl
      refine ⟨fun j q hq => ?_, fun j k q r hjk hq hr => ?_, fun i hi hbi => ?_⟩
      · by_cases hj : j = l.length - 1
        · rw [hj, List.getElem?_set_self hk] at hq
          obtain rfl : (p.1, n + 1) = q := Option.some.inj hq
          refine ⟨by show p.1 < n + 1; omega, Nat.le_refl _, fun i ha hb' => ?_, fun hlt => absurd hlt (Nat.lt_irrefl _)⟩
          rcases Nat.lt_or_ge i n with h | h
          · exact c i ha (by omega)
          · have : i < n + 1 := hb'
            rw [show i = n by omega]; exact hb
        · rw [List.getElem?_set_ne (fun e => hj e.symm)] at hq
          obtain ⟨a', b', c', d'⟩ := h1 j q hq
          have hlt := h2 j (l.length - 1) q p (by have := (List.getElem?_eq_some_iff.1 hq).1; omega) hq hl
          exact ⟨a', by omega, c', fun _ => d' (by omega)⟩
      · have hkl : k < l.length := by have := (List.getElem?_eq_some_iff.1 hr).1; rw [List.length_set] at this; exact this
        rw [List.getElem?_set_ne (by omega)] at hq
        by_cases hj : k = l.length - 1
        · rw [hj, List.getElem?_set_self hk] at hr
          obtain rfl : (p.1, n + 1) = r := Option.some.inj hr
          exact h2 j (l.length - 1) q p (by omega) hq hl
        · rw [List.getElem?_set_ne (fun e => hj e.symm)] at hr
          exact h2 j k q r hjk hq hr
      · rcases Nat.lt_or_ge i n with h | h
        · obtain ⟨j, q, hq, ha, hb'⟩ := h3 i h hbi
          by_cases hj : j = l.length - 1
          · rw [hj, hl] at hq
            obtain rfl : p = q := Option.some.inj hq
            exact ⟨l.length - 1, (p.1, n + 1), List.getElem?_set_self hk, ha, by show i < n + 1; omega⟩
          · exact ⟨j, q, by rw [List.getElem?_set_ne (fun e => hj e.symm)]; exact hq, ha, hb'⟩
        · exact ⟨l.length - 1, (p.1, n + 1), List.getElem?_set_self hk, by show p.1 ≤ i; omega, by show i < n + 1; omega⟩
    · rw [ext_new hl hp]
      refine hnew (fun j q hq he => ?_)
      by_cases hj : j = l.length - 1
      · rw [hj, hl] at hq
        obtain rfl : p = q := Option.some.inj hq
        exact hp he
      · have h4 := h2 j (l.length - 1) q p (by have := (List.getElem?_eq_some_iff.1 hq).1; omega) hq hl
        have h5 := h1 _ p hl
        omega
theorem rp_runs (V : Nat) : ∀ n, RP V n (runsL (ml V n))
  | 0 => rp_zero V
  | n + 1 => by
    rw [ml_succ]
    by_cases hb : V.testBit n = true
    · rw [if_pos hb, runsL_snoc]; exact rp_ext (rp_runs V n) hb
    · rw [if_neg hb, List.append_nil]; exact rp_skip (rp_runs V n) (by simpa using hb)

/-- The runs before the index i end at t, those from i on begin there or later. -/
def Lp (V N : Nat) (l : List (Nat × Nat)) (t i : Nat) : Prop := RP V N l ∧ (∀ (j : Nat) (p : Nat × Nat), j < i → l[j]? = some p → p.2 ≤ t) ∧ (∀ (j : Nat) (p : Nat × Nat), i ≤ j → l[j]? = some p → t ≤ p.1)
theorem lp_start {V N : Nat} {l : List (Nat × Nat)} (h : RP V N l) : Lp V N l 0 0 := ⟨h, fun j p hj => absurd hj (Nat.not_lt_zero _), fun j p _ _ => Nat.zero_le _⟩
theorem lp_step {V N t i : Nat} {l : List (Nat × Nat)} (h : Lp V N l t i) (ht : t < N) (hb : V.testBit t = true) : ∃ e, l[i]? = some (t, e) ∧ t < e ∧ e ≤ N ∧ (∀ k, t ≤ k → k < e → V.testBit k = true) ∧ (e < N → V.testBit e = false) ∧ Lp V N l e (i + 1) ∧ (∀ p : Nat × Nat, l[i + 1]? = some p → p.1 ≠ e) := by
  obtain ⟨hR, h1, h2⟩ := h
  obtain ⟨j, p, hp, ha, hb'⟩ := hR.2.2 t ht hb
  have hji : i ≤ j := by
    rcases Nat.lt_or_ge j i with h | h
    · have := h1 j p h hp; omega
    · exact h
  have hpt : p.1 = t := by have := h2 j p hji hp; omega
  have hij : j = i := by
    apply Decidable.byContradiction
    intro hne
    obtain ⟨q, hq⟩ : ∃ q, l[i]? = some q := ⟨_, List.getElem?_eq_getElem (by have := (List.getElem?_eq_some_iff.1 hp).1; omega)⟩
    have h3 := hR.2.1 i j q p (by omega) hq hp
    have h4 := h2 i q (Nat.le_refl _) hq
    have h5 := (hR.1 i q hq).1
    omega
  subst hij
  obtain ⟨a, b, c, d⟩ := hR.1 j p hp
  refine ⟨p.2, by rw [hp, ← hpt], by omega, b, fun k h3 h4 => c k (by omega) h4, d, ⟨hR, fun k q hk hq => ?_, fun k q hk hq => ?_⟩, fun q hq he => ?_⟩
  · by_cases e : k = j
    · subst e
      rw [hp] at hq
      obtain rfl : p = q := Option.some.inj hq
      exact Nat.le_refl _
    · have h3 := hR.2.1 k j q p (by omega) hq hp
      omega
  · have := hR.2.1 j k p q (by omega) hp hq; omega
  · have := hR.2.1 j (j + 1) p q (by omega) hp hq; omega
/-- The other set's runs, where this one's run goes on. -/
theorem lp_other {V N t e i : Nat} {l : List (Nat × Nat)} (h : Lp V N l t i) (hte : t ≤ e) (hb : ∀ k, t ≤ k → k < e → V.testBit k = false) : Lp V N l e i := by
  obtain ⟨hR, h1, h2⟩ := h
  refine ⟨hR, fun j p hj hp => by have := h1 j p hj hp; omega, fun j p hj hp => ?_⟩
  have h3 := h2 j p hj hp
  rcases Nat.lt_or_ge p.1 e with h | h
  · have h4 := (hR.1 j p hp).2.2.1 p.1 (Nat.le_refl _) (hR.1 j p hp).1
    rw [hb p.1 h3 h] at h4; cases h4
  · exact h
theorem lp_end {V N i : Nat} {l : List (Nat × Nat)} (h : Lp V N l N i) : l.length ≤ i := by
  apply Decidable.byContradiction
  intro hlt
  obtain ⟨p, hp⟩ : ∃ p, l[i]? = some p := ⟨_, List.getElem?_eq_getElem (by omega)⟩
  have h1 := h.2.2 i p (Nat.le_refl _) hp
  obtain ⟨a, b, _, _⟩ := h.1.1 i p hp
  omega
theorem lp_no {V N t i : Nat} {l : List (Nat × Nat)} (h : Lp V N l t i) (hb : V.testBit t = false) : ∀ p : Nat × Nat, l[i]? = some p → p.1 ≠ t := fun p hp he => by
  have h4 := (h.1.1 i p hp).2.2.1 p.1 (Nat.le_refl _) (h.1.1 i p hp).1
  rw [he, hb] at h4; cases h4
end Bm
end Go.Proofs.YtkochcolmkgkgaaDoor
