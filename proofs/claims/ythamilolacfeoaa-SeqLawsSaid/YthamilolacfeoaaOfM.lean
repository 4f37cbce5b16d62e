/-
  The set of some numbers: the mathematics.
-/
import Derived.Test.YthamilolacfeoaaSq
import Derived.Lib.SlicesCompact
namespace Go.Proofs.Ythamilolacfeoaa
set_option linter.unusedVariables false
namespace Sq
theorem RtF.more : ∀ {l : Rs} {s c d : Int}, RtF s (l ++ [(c, d)]) → c + d + 1 ≤ 281474976710657 → RtF s (l ++ [(c, d + 1)])
  | [], s, c, d, h, h1 => ⟨h.1, by have := h.2.1; show 1 ≤ d + 1; have : 1 ≤ d := h.2.1; omega, by show c + (d + 1) ≤ _; omega, trivial⟩
  | r :: t, s, c, d, h, h1 => ⟨h.1, h.2.1, h.2.2.1, RtF.more h.2.2.2 h1⟩
theorem RtF.last : ∀ {l : Rs} {s : Int} {r : Int × Int}, RtF s (l ++ [r]) → (∀ q ∈ l ++ [r], q.1 + q.2 ≤ r.1 + r.2) ∧ s ≤ r.1 ∧ 1 ≤ r.2 ∧ r.1 + r.2 ≤ 281474976710657
  | [], s, r, h => ⟨fun q hq => by simp at hq; subst hq; exact Int.le_refl _, h.1, h.2.1, h.2.2.1⟩
  | p :: t, s, r, h => by
    obtain ⟨h1, h2, h3, h4⟩ := RtF.last (l := t) h.2.2.2
    have := h.1; have := h.2.1
    refine ⟨fun q hq => ?_, by omega, h3, h4⟩
    rcases List.mem_cons.1 hq with rfl | hq
    · omega
    · exact h1 q hq
theorem RtF.push {l : Rs} {s : Int} {r : Int × Int} (h : RtF s (l ++ [r])) {c d : Int} (h1 : r.1 + r.2 < c) (h2 : 1 ≤ d) (h3 : c + d ≤ 281474976710657) : RtF s (l ++ [r] ++ [(c, d)]) := by
  obtain ⟨g1, g2, g3, g4⟩ := h.last
  exact h.snoc (fun q hq => by have := g1 q hq; omega) (by omega) h2 h3
/-- What the loop of Of makes of the first k sorted numbers. -/
def ofS (ss : List Int) : Nat → Rs × List Int
  | 0 => ([], [])
  | k + 1 =>
    if 0 < k ∧ ss.getD k 0 = ss.getD (k - 1) 0 then ((ofS ss k).1, (ofS ss k).2 ++ [ss.getD k 0])
    else match (ofS ss k).1.getLast? with
      | none => ([(ss.getD k 0, 1)], (ofS ss k).2)
      | some r => if ss.getD k 0 = r.1 + r.2 then ((ofS ss k).1.set ((ofS ss k).1.length - 1) (r.1, r.2 + 1), (ofS ss k).2) else ((ofS ss k).1 ++ [(ss.getD k 0, 1)], (ofS ss k).2)
structure OfI (ss : List Int) (k : Nat) (L : Rs) (T : List Int) : Prop where
  rt : RtF 1 L
  has : ∀ n, hs L n = decide (n ∈ ss.take k)
  last : (k = 0 ∧ L = []) ∨ ∃ L0 r y, L = L0 ++ [r] ∧ 0 < k ∧ ss[k - 1]? = some y ∧ r.1 + r.2 = y + 1
  cnt : ∀ n, T.count n = (ss.take k).count n - 1
  srt : T.Pairwise (· ≤ ·)
  lenL : L.length ≤ k
  lenT : T.length ≤ k
theorem ofI_0 (ss : List Int) : OfI ss 0 [] [] := ⟨trivial, fun n => by simp [hs_nil], .inl ⟨rfl, rfl⟩, fun n => by simp, List.Pairwise.nil, Nat.le_refl _, Nat.le_refl _⟩
theorem set_last (L0 : Rs) (r q : Int × Int) : (L0 ++ [r]).set ((L0 ++ [r]).length - 1) q = L0 ++ [q] := by
  rw [List.set_append_right _ _ (by simp)]
  simp
section
variable {ss : List Int} (hss : ss.Pairwise (· ≤ ·)) (hb : ∀ z ∈ ss, 1 ≤ z ∧ z ≤ 281474976710656)
include hss
theorem take_le {k : Nat} {z : Int} (hz : ss[k]? = some z) : ∀ u ∈ ss.take k, u ≤ z := by
  intro u hu
  obtain ⟨i, hi, rfl⟩ := List.mem_iff_getElem.1 hu
  obtain ⟨hk, rfl⟩ := List.getElem?_eq_some_iff.1 hz
  have hi2 : i < k := by simp at hi; omega
  rw [List.getElem_take]
  exact List.pairwise_iff_getElem.1 hss i k (by omega) hk hi2
include hb
theorem ofI_s {k : Nat} {L : Rs} {T : List Int} (h : OfI ss k L T) {z : Int} (hz : ss[k]? = some z) : ∃ L' T',
    OfI ss (k + 1) L' T' ∧ ((∃ y, 0 < k ∧ ss[k - 1]? = some y ∧ z = y ∧ L = L' ∧ T' = T ++ [z]) ∨
      (∃ L0 r y, L = L0 ++ [r] ∧ 0 < k ∧ ss[k - 1]? = some y ∧ z ≠ y ∧ z = r.1 + r.2 ∧ L' = L0 ++ [(r.1, r.2 + 1)] ∧ T = T') ∨
      (k = 0 ∧ L = [] ∧ L' = [(z, 1)] ∧ T = T') ∨
      (∃ L0 r y, L = L0 ++ [r] ∧ 0 < k ∧ ss[k - 1]? = some y ∧ z ≠ y ∧ z ≠ r.1 + r.2 ∧ L' = L ++ [(z, 1)] ∧ T = T')) := by
  have hzb := hb z (List.mem_of_getElem? hz)
  have htk : ss.take (k + 1) = ss.take k ++ [z] := by rw [List.take_add_one, hz]; rfl
  have hle := take_le hss hz
  obtain ⟨rt, has, last, cnt, srt, lenL, lenT⟩ := h
  have hTle : ∀ u ∈ T, u ≤ z := fun u hu => by
    have h1 : 0 < T.count u := List.count_pos_iff.2 hu
    rw [cnt u] at h1
    exact hle u (List.count_pos_iff.1 (by omega))
  rcases last with ⟨rfl, rfl⟩ | ⟨L0, r, y, rfl, hk, hy, hr⟩
  · refine ⟨[(z, 1)], T, ⟨⟨hzb.1, Int.le_refl 1, by show z + 1 ≤ _; omega, trivial⟩, fun n => ?_, .inr ⟨[], (z, 1), z, rfl, by omega, hz, rfl⟩, fun n => ?_, srt, by simp, by omega⟩, .inr (.inr (.inl ⟨rfl, rfl, rfl, rfl⟩))⟩
    · rw [htk, hs_cons, hs_nil, Bool.or_false, Bool.eq_iff_iff, inR_iff]; simp; omega
    · rw [cnt, htk]; simp [List.count_singleton]; split <;> omega
  · have hyz : y ≤ z := hle y (List.mem_of_getElem? (i := k - 1) (by rw [List.getElem?_take_of_lt (by omega)]; exact hy))
    have hym : y ∈ ss.take k := List.mem_of_getElem? (i := k - 1) (by rw [List.getElem?_take_of_lt (by omega)]; exact hy)
    by_cases hzy : z = y
    · subst hzy
      refine ⟨L0 ++ [r], T ++ [z], ⟨rt, fun n => ?_, .inr ⟨L0, r, z, rfl, by omega, hz, hr⟩, fun n => ?_, ?_, by omega, by simp; omega⟩, .inl ⟨z, hk, hy, rfl, rfl, rfl⟩⟩
      · rw [has, htk, Bool.eq_iff_iff]; simp
        intro e; subst e; exact hym
      · rw [htk, List.count_append, List.count_append, cnt]
        by_cases e : z = n
        · subst e
          have : 0 < (ss.take k).count z := List.count_pos_iff.2 hym
          simp; omega
        · simp [e]
      · rw [List.pairwise_append]
        exact ⟨srt, List.pairwise_singleton _ _, fun u hu v hv => by simp at hv; subst hv; exact hTle u hu⟩
    · have hznot : z ∉ ss.take k := fun hm => by
        obtain ⟨i, hi, he⟩ := List.mem_iff_getElem.1 hm
        have hi2 : i < k := by simp at hi; omega
        rw [List.getElem_take] at he
        obtain ⟨hk1, hy1⟩ := List.getElem?_eq_some_iff.1 hy
        rcases Nat.lt_or_ge i (k - 1) with h1 | h1
        · have := List.pairwise_iff_getElem.1 hss i (k - 1) (by omega) hk1 h1
          omega
        · have hik : i = k - 1 := by omega
          subst hik; omega
      have hcn : ∀ n, T.count n = (ss.take (k + 1)).count n - 1 := fun n => by
        rw [htk, List.count_append, cnt]
        by_cases e : z = n
        · subst e
          have : (ss.take k).count z = 0 := List.count_eq_zero.2 hznot
          simp; omega
        · simp [e]
      by_cases hze : z = r.1 + r.2
      · refine ⟨L0 ++ [(r.1, r.2 + 1)], T, ⟨RtF.more (l := L0) (c := r.1) (d := r.2) rt (by omega), fun n => ?_, .inr ⟨L0, (r.1, r.2 + 1), z, rfl, by omega, hz, by dsimp only; omega⟩, hcn, srt, by simp at lenL ⊢; omega, by omega⟩, .inr (.inl ⟨L0, r, y, rfl, hk, hy, hzy, hze, rfl, rfl⟩)⟩
        have h1 := has n
        rw [hs_append, hs_cons, hs_nil, Bool.or_false] at h1 ⊢
        have h2 : decide (n ∈ ss.take (k + 1)) = (decide (n ∈ ss.take k) || decide (n = z)) := by rw [htk, Bool.eq_iff_iff]; simp
        have h3 : inR (r.1, r.2 + 1) n = (inR r n || decide (n = z)) := by
          have := rt.last.2.2.1
          rw [Bool.eq_iff_iff, Bool.or_eq_true, inR_iff, inR_iff, decide_eq_true_iff]; dsimp only; omega
        rw [h2, ← h1, h3, Bool.or_assoc]
      · have hgt : r.1 + r.2 < z := by omega
        refine ⟨L0 ++ [r] ++ [(z, 1)], T, ⟨rt.push hgt (by decide) (by omega), fun n => ?_, .inr ⟨L0 ++ [r], (z, 1), z, rfl, by omega, hz, rfl⟩, hcn, srt, by simp at lenL ⊢; omega, by omega⟩, .inr (.inr (.inr ⟨L0, r, y, rfl, hk, hy, hzy, hze, rfl, rfl⟩))⟩
        have h1 := has n
        rw [hs_append, h1, hs_cons, hs_nil, Bool.or_false, htk, Bool.eq_iff_iff, Bool.or_eq_true, inR_iff, decide_eq_true_iff, decide_eq_true_iff, List.mem_append, List.mem_singleton]
        dsimp only
        constructor
        · rintro (h | h)
          · exact .inl h
          · right; omega
        · rintro (h | h)
          · exact .inl h
          · right; omega
end
/-- Sorted lists without repetition that have the same members are one. -/
theorem sorted_uniq : ∀ {l k : List Int}, l.Pairwise (· < ·) → k.Pairwise (· < ·) → (∀ n, n ∈ l ↔ n ∈ k) → l = k
  | [], [], _, _, _ => rfl
  | [], b :: k, _, _, h => by have := (h b).2 (by simp); simp at this
  | a :: l, [], _, _, h => by have := (h a).1 (by simp); simp at this
  | a :: l, b :: k, h1, h2, h => by
    rw [List.pairwise_cons] at h1 h2
    have hab : a = b := by
      have ha := (h a).1 (by simp)
      have hb := (h b).2 (by simp)
      rcases List.mem_cons.1 ha with e | e
      · exact e
      · rcases List.mem_cons.1 hb with e' | e'
        · exact e'.symm
        · have := h1.1 b e'; have := h2.1 a e; omega
    subst hab
    rw [sorted_uniq h1.2 h2.2 fun n => ?_]
    have := h n
    constructor
    · intro hn
      rcases List.mem_cons.1 (this.1 (List.mem_cons_of_mem _ hn)) with e | e
      · subst e; have := h1.1 n hn; omega
      · exact e
    · intro hn
      rcases List.mem_cons.1 (this.2 (List.mem_cons_of_mem _ hn)) with e | e
      · subst e; have := h2.1 n hn; omega
      · exact e
open Go.Lib in
/-- Compact of a sorted list: each of its numbers once. -/
theorem compact_sorted {T : List Int} (h : T.Pairwise (· ≤ ·)) : (compact T).Pairwise (· < ·) ∧ (∀ n, n ∈ compact T ↔ n ∈ T) ∧ (compact T).length ≤ T.length := by
  have key : ∀ m, m ≤ T.length → (compactUpTo T.toArray m).Pairwise (· < ·) ∧ (∀ n, n ∈ compactUpTo T.toArray m ↔ n ∈ T.take m) ∧ (compactUpTo T.toArray m).length ≤ m := by
    intro m
    induction m with
    | zero => intro _; refine ⟨by simp [compactUpTo], by simp [compactUpTo], by simp [compactUpTo]⟩
    | succ m ih =>
      intro hm
      obtain ⟨h1, h2, h3⟩ := ih (by omega)
      have hgm : T.toArray[m]! = T[m]'(by omega) := by simp [show m < T.length by omega]
      have htk : T.take (m + 1) = T.take m ++ [T[m]'(by omega)] := List.take_succ_eq_append_getElem (by omega)
      rw [compactUpTo_succ]
      by_cases hk : keeps T.toArray m = true
      · rw [if_pos hk, hgm]
        refine ⟨?_, fun n => by rw [List.mem_append, h2, htk, List.mem_append], by simp; omega⟩
        rw [List.pairwise_append]
        refine ⟨h1, List.pairwise_singleton _ _, fun u hu v hv => ?_⟩
        simp only [List.mem_singleton] at hv
        subst hv
        have hu' := (h2 u).1 hu
        obtain ⟨i, hi, rfl⟩ := List.mem_iff_getElem.1 hu'
        have hi2 : i < m := by simp at hi; omega
        rw [List.getElem_take]
        have hm0 : 0 < m := by omega
        unfold keeps at hk
        have hne : T[m]'(by omega) ≠ T[m - 1]'(by omega) := by
          have := of_decide_eq_true hk
          rcases this with h0 | h0
          · omega
          · simpa [show m < T.length by omega, show m - 1 < T.length by omega] using h0
        have l1 := List.pairwise_iff_getElem.1 h (m - 1) m (by omega) (by omega) (by omega)
        have l2 : T[i]'(by omega) ≤ T[m - 1]'(by omega) := by
          rcases Nat.lt_or_ge i (m - 1) with h0 | h0
          · exact List.pairwise_iff_getElem.1 h i (m - 1) (by omega) (by omega) h0
          · have : i = m - 1 := by omega
            subst this; exact Int.le_refl _
        omega
      · rw [if_neg hk, List.append_nil]
        refine ⟨h1, fun n => ?_, by omega⟩
        rw [h2, htk, List.mem_append]
        constructor
        · exact .inl
        · rintro (h0 | h0)
          · exact h0
          · simp only [List.mem_singleton] at h0
            subst h0
            unfold keeps at hk
            have hk' : ¬ (m = 0 ∨ T.toArray[m]! ≠ T.toArray[m - 1]!) := fun hh => hk (decide_eq_true hh)
            have hm0 : m ≠ 0 := fun e => hk' (.inl e)
            have he : T[m]'(by omega) = T[m - 1]'(by omega) := by
              have : T.toArray[m]! = T.toArray[m - 1]! := Decidable.byContradiction fun hh => hk' (.inr hh)
              simpa [show m < T.length by omega, show m - 1 < T.length by omega] using this
            rw [he]
            exact List.mem_of_getElem? (i := m - 1) (by rw [List.getElem?_take_of_lt (by omega), List.getElem?_eq_getElem (by omega)])
  have := key T.length (Nat.le_refl _)
  rw [List.take_length] at this
  exact this
/-- What Of tells of some numbers. -/
structure OfOut (zs : List Int) (L : Rs) (T : List Int) : Prop where
  rt : RtF 1 L
  has : ∀ n, hs L n = decide (n ∈ zs)
  srt : T.Pairwise (· < ·)
  two : ∀ n, n ∈ T ↔ 2 ≤ zs.count n
  lenL : L.length ≤ zs.length
  lenT : T.length ≤ zs.length
theorem OfOut.uniq {zs zs' : List Int} {L L' : Rs} {T T' : List Int} (h : OfOut zs L T) (h' : OfOut zs' L' T') (hp : zs.Perm zs') : L = L' ∧ T = T' :=
  ⟨Sq.uniq h.rt h'.rt fun n => by rw [h.has, h'.has, Bool.eq_iff_iff]; simp [hp.mem_iff], sorted_uniq h.srt h'.srt fun n => by rw [h.two, h'.two, hp.count_eq]⟩
theorem ofOut_of {zs ss : List Int} (hp : ss.Perm zs) {k : Nat} (hk : ss.length = k) {L : Rs} {T : List Int} (h : OfI ss k L T) : OfOut zs L (Go.Lib.compact T) := by
  obtain ⟨h1, h2, h3⟩ := compact_sorted h.srt
  have htk : ss.take k = ss := by rw [← hk, List.take_length]
  refine ⟨h.rt, fun n => by rw [h.has, htk, Bool.eq_iff_iff]; simp [hp.mem_iff], h1, fun n => ?_, by rw [← hp.length_eq, hk]; exact h.lenL, by rw [← hp.length_eq, hk]; exact Nat.le_trans h3 h.lenT⟩
  rw [h2, ← hp.count_eq, ← List.count_pos_iff, h.cnt, htk]
  omega
end Sq
end Go.Proofs.Ythamilolacfeoaa
