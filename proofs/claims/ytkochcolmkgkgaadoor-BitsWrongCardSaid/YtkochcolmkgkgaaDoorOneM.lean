/-
  The mathematics of BitsAlgebra and BitsOne.
-/
import Derived.Test.YtkochcolmkgkgaaDoorAlgM
import Derived.Test.YtkochcolmkgkgaaDoorMembers
namespace Go.Proofs.YtkochcolmkgkgaaDoor
open Go.RowKit
set_option linter.unusedVariables false
namespace Bm
theorem alg_math {N : Nat} {ys zs : List Nat} (h1 : Rt N ys) (h2 : Rt N zs) : ∃ lo la lm lp lq lx : List Nat,
    List.zipWith orW ys zs = lo ∧ List.zipWith andW ys zs = la ∧ List.zipWith minusW ys zs = lm ∧ notL N ys = lp ∧ notL N zs = lq ∧ notL N lo = lx ∧
    List.zipWith andW lp lq = lx ∧ List.zipWith andW ys lq = lm ∧ notL N lp = ys ∧
    Rt N lo ∧ Rt N la ∧ Rt N lm ∧ Rt N lp ∧ Rt N lq ∧ Rt N lx ∧
    (∀ i, (val lo).testBit i = ((val ys).testBit i || (val zs).testBit i)) ∧ (∀ i, (val la).testBit i = ((val ys).testBit i && (val zs).testBit i)) ∧
    (∀ i, (val lm).testBit i = ((val ys).testBit i && !(val zs).testBit i)) ∧ (∀ i, (val lp).testBit i = (decide (i < N) && !(val ys).testBit i)) ∧
    cnt (val lo) N + cnt (val la) N = cnt (val ys) N + cnt (val zs) N ∧ cnt (val lm) N + cnt (val la) N = cnt (val ys) N :=
  ⟨_, _, _, _, _, _, rfl, rfl, rfl, rfl, rfl, rfl, (not_or h1 h2).symm, and_not h1 h2, not_not h1, or_right h1 h2, and_right h1 h2, minus_right h1 h2, not_right h1, not_right h2, not_right (or_right h1 h2),
    orB h1 h2, andB h1 h2, minusB h1 h2, notB h1, cnt_or_and h1 h2 N, cnt_minus h1 h2 N⟩

theorem one_right {N q k : Nat} {ys : List Nat} (h1 : Rt N ys) (hq : ys.length = q) (hk : k < N) : Rt N (ofL q [k]) :=
  ofL_right [k] h1.1 (h1.2.1.symm.trans hq) (fun i hi => by simp at hi; omega)
theorem one_bit {N q k : Nat} {ys : List Nat} (h1 : Rt N ys) (hq : ys.length = q) (hk : k < N) (j : Nat) : (val (ofL q [k])).testBit j = decide (j = k) := by
  rw [ofL_bit q [k] (fun i hi => by simp at hi; have := h1.2.1; omega) j]
  simp
theorem cnt_one {A B : Nat} {k : Nat} (hA : A.testBit k = true) (hB : B.testBit k = false) (h : ∀ j, j ≠ k → A.testBit j = B.testBit j) : ∀ n, cnt A n = cnt B n + (if k < n then 1 else 0)
  | 0 => by simp [cnt]
  | n + 1 => by
    rw [cnt_succ, cnt_succ, cnt_one hA hB h n]
    by_cases hn : n = k
    · subst hn; rw [hA, hB]; simp
    · rw [h n hn]
      cases B.testBit n <;> simp <;> (split <;> split <;> omega)
theorem one_math {N q k : Nat} {ys : List Nat} (h1 : Rt N ys) (hq : ys.length = q) (hk : k < N) : ∃ lw ll r,
    List.zipWith orW ys (ofL q [k]) = lw ∧ List.zipWith minusW ys (ofL q [k]) = ll ∧ List.zipWith minusW lw (ofL q [k]) = ll ∧ List.zipWith orW ll (ofL q [k]) = lw ∧
    Rt N lw ∧ Rt N ll ∧ (val lw).testBit k = true ∧ (val ll).testBit k = false ∧ cnt (val lw) N = r + 1 ∧ cnt (val ll) N = r ∧
    ((val ys).testBit k = true → lw = ys) ∧ ((val ys).testBit k = false → ll = ys) := by
  have h2 := one_right h1 hq hk
  have b2 := one_bit h1 hq hk
  have hw := or_right h1 h2
  have hl := minus_right h1 h2
  have bw : ∀ j, (val (List.zipWith orW ys (ofL q [k]))).testBit j = ((val ys).testBit j || decide (j = k)) := fun j => by rw [orB h1 h2, b2]
  have bl : ∀ j, (val (List.zipWith minusW ys (ofL q [k]))).testBit j = ((val ys).testBit j && !decide (j = k)) := fun j => by rw [minusB h1 h2, b2]
  have hc := cnt_one (A := val (List.zipWith orW ys (ofL q [k]))) (B := val (List.zipWith minusW ys (ofL q [k]))) (k := k) (by rw [bw]; simp) (by rw [bl]; simp) (fun j hj => by rw [bw, bl]; simp [hj]) N
  rw [if_pos hk] at hc
  refine ⟨_, _, _, rfl, rfl, ?_, ?_, hw, hl, ?_, ?_, hc, rfl, ?_, ?_⟩
  · refine rt_ext (minus_right hw h2) hl fun i hi => ?_
    rw [minusB hw h2, bw, bl, b2]
    cases (val ys).testBit i <;> cases decide (i = k) <;> rfl
  · refine rt_ext (or_right hl h2) hw fun i hi => ?_
    rw [orB hl h2, bw, bl, b2]
    cases (val ys).testBit i <;> cases decide (i = k) <;> rfl
  · rw [bw]; simp
  · rw [bl]; simp
  · intro hy
    refine rt_ext hw h1 fun i hi => ?_
    rw [bw]
    by_cases hik : i = k
    · subst hik; rw [hy]; rfl
    · simp [hik]
  · intro hy
    refine rt_ext hl h1 fun i hi => ?_
    rw [bl]
    by_cases hik : i = k
    · subst hik; rw [hy]; rfl
    · simp [hik]
theorem mem_ml {V N x : Nat} : x ∈ ml V N ↔ x < N ∧ V.testBit x = true := by
  induction N with
  | zero => simp [ml]
  | succ n ih =>
    rw [ml_succ]
    by_cases hb : V.testBit n = true
    · rw [if_pos hb, List.mem_append, ih]
      simp only [List.mem_singleton]
      constructor
      · rintro (⟨h1, h2⟩ | rfl)
        · exact ⟨by omega, h2⟩
        · exact ⟨by omega, hb⟩
      · rintro ⟨h1, h2⟩
        rcases Nat.lt_or_ge x n with h | h
        · exact .inl ⟨h, h2⟩
        · exact .inr (by omega)
    · rw [if_neg hb, List.append_nil, ih]
      constructor
      · rintro ⟨h1, h2⟩; exact ⟨by omega, h2⟩
      · rintro ⟨h1, h2⟩
        refine ⟨?_, h2⟩
        rcases Nat.lt_or_ge x n with h | h
        · exact h
        · have : x = n := by omega
          subst this; exact absurd h2 hb
/-- Members make the same set, in any order, as often as one likes. -/
theorem of_mem {N q : Nat} {ys l : List Nat} (h1 : Rt N ys) (hq : ys.length = q) (h : ∀ x, x ∈ l ↔ x ∈ ml (val ys) N) : ofL q l = ys := by
  have hlt : ∀ i ∈ l, i < N := fun i hi => (mem_ml.1 ((h i).1 hi)).1
  have hR : Rt N (ofL q l) := ofL_right l h1.1 (h1.2.1.symm.trans hq) hlt
  refine rt_ext hR h1 fun j hj => ?_
  rw [ofL_bit q l (fun i hi => by have := hlt i hi; have := h1.2.1; omega) j]
  cases hb : (val ys).testBit j with
  | true => rw [decide_eq_true_eq]; exact (h j).2 (mem_ml.2 ⟨hj, hb⟩)
  | false =>
    rw [decide_eq_false_iff_not]
    intro hm
    have := (mem_ml.1 ((h j).1 hm)).2
    rw [hb] at this; cases this
theorem mem_swap {l : List Nat} {i j a b : Nat} (hi : l[i]? = some a) (hj : l[j]? = some b) (x : Nat) : x ∈ (l.set i b).set j a ↔ x ∈ l := by
  have hil := (List.getElem?_eq_some_iff.1 hi).1
  have hjl := (List.getElem?_eq_some_iff.1 hj).1
  rw [List.mem_iff_getElem?, List.mem_iff_getElem?]
  constructor
  · rintro ⟨t, ht⟩
    rw [List.getElem?_set] at ht
    by_cases h1 : j = t
    · subst h1
      rw [if_pos rfl, if_pos (by simpa using hjl)] at ht
      exact ⟨i, by rw [hi]; exact ht⟩
    · rw [if_neg h1, List.getElem?_set] at ht
      by_cases h2 : i = t
      · subst h2
        rw [if_pos rfl, if_pos hil] at ht
        exact ⟨j, by rw [hj]; exact ht⟩
      · rw [if_neg h2] at ht
        exact ⟨t, ht⟩
  · rintro ⟨t, ht⟩
    by_cases h1 : t = i
    · subst h1
      refine ⟨j, ?_⟩
      rw [List.getElem?_set, if_pos rfl, if_pos (by simpa using hjl)]
      rw [hi] at ht; exact ht
    · by_cases h2 : t = j
      · subst h2
        refine ⟨i, ?_⟩
        rw [List.getElem?_set, if_neg h1, List.getElem?_set, if_pos rfl, if_pos hil]
        rw [hj] at ht; exact ht
      · refine ⟨t, ?_⟩
        rw [List.getElem?_set, if_neg (fun h => h2 h.symm), List.getElem?_set, if_neg (fun h => h1 h.symm)]
        exact ht
end Bm
end Go.Proofs.YtkochcolmkgkgaaDoor
