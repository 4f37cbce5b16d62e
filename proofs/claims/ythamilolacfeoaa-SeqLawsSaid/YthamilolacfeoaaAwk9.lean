/-
  The chapter's examples.
-/
import Derived.Test.YthamilolacfeoaaEqQ
import Derived.Test.YthamilolacfeoaaMissQ
import Derived.Test.YthamilolacfeoaaOfQ
namespace Go.Proofs.Ythamilolacfeoaa
open Go.RowKit Sq
set_option linter.unusedVariables false

theorem seenZ_new (w : World) (cs : Array Value) (t : TypeId) (zs : List Int) (h : cs.toList = zv zs) : SeenZ (w.alloc (.cells cs t)) (w.heap.size + 1) (some ⟨w.heap.size, 0, none⟩) zs := by
  have := SeenZ.of_block (off := 0) (l := zs) (heap_alloc_new w (.cells cs t)) (by
    intro i z hz
    rw [Nat.zero_add, ← Array.getElem?_toList, h, List.getElem?_map, hz]; rfl)
  rw [World.size_alloc] at this
  exact this
theorem seenR_new (w : World) (cs : Array Value) (t : TypeId) (l : Rs) (h : cs.toList = flat l) : SeenR (w.alloc (.cells cs t)) (w.heap.size + 1) (some ⟨w.heap.size, 0, none⟩) l := by
  have := SeenR.of_block (off := 0) (l := l) (heap_alloc_new w (.cells cs t)) (by
    intro i p hp
    refine ⟨?_, ?_⟩
    · rw [Nat.zero_add, ← Array.getElem?_toList, h]; exact flat_fst l i p hp
    · rw [Nat.zero_add, ← Array.getElem?_toList, h]; exact flat_snd l i p hp)
  rw [World.size_alloc] at this
  exact this
/-- Block g holds slices of runs, one after the other. -/
def TabR (w : World) (B : Nat) (g : Nat) (rows : List Rs) : Prop :=
  g < B ∧ ∀ (i : Nat) (l : Rs), rows[i]? = some l → ∃ a c, w.cell? ⟨g, i, none⟩ = some (.slice a l.length c) ∧ SeenR w B a l
theorem TabR.below {w w' : World} {B g : Nat} {rows : List Rs} (h : TabR w B g rows) (hb : Below B w w') : TabR w' B g rows :=
  ⟨h.1, fun i l hi => by obtain ⟨a, c, hc, hs⟩ := h.2 i l hi; exact ⟨a, c, (hb.cell (p := ⟨g, i, none⟩) h.1).trans hc, hs.below hb⟩⟩
theorem TabR.of_block {w : World} {B g : Nat} {cs : Array Value} {t : TypeId} {rows : List Rs} (hg : w.heap[g]? = some (.cells cs t)) (hB : g < B) (h : ∀ (i : Nat) (l : Rs), rows[i]? = some l → ∃ a c, cs[i]? = some (.slice a l.length c) ∧ SeenR w B a l) : TabR w B g rows :=
  ⟨hB, fun i l hi => by
    obtain ⟨a, c, h1, h2⟩ := h i l hi
    exact ⟨a, c, by simpa [World.cell?, hg] using h1, h2⟩⟩
namespace Sq
theorem ex_of {L : Rs} {T : List Int} (h : OfOut [5, 2, 1, 5, 9] L T) : L = [(1, 2), (5, 1), (9, 1)] ∧ T = [5] :=
  h.uniq (L' := [(1, 2), (5, 1), (9, 1)]) (T' := [5]) ⟨⟨by decide, by decide, by decide, by decide, by decide, by decide, by decide, by decide, by decide, trivial⟩, fun n => by
    rw [Bool.eq_iff_iff, decide_eq_true_iff]
    simp [hs, inR]; omega, by simp, fun n => by
    by_cases e : n = 5
    · subst e; decide
    · constructor
      · intro h; simp at h; exact absurd h e
      · intro h
        exfalso
        have e' : ¬ 5 = n := fun h => e h.symm
        simp only [List.count_cons, List.count_nil] at h
        by_cases h2 : n = 2
        · subst h2; revert h; decide
        · by_cases h1 : n = 1
          · subst h1; revert h; decide
          · by_cases h9 : n = 9
            · subst h9; revert h; decide
            · simp [e', Ne.symm h2, Ne.symm h1, Ne.symm h9] at h, by decide, by decide⟩ (List.Perm.refl _)
theorem rt_ex : Rt [(1, 2), (5, 1), (9, 1)] := ⟨by decide, by decide, by decide, by decide, by decide, by decide, by decide, by decide, by decide, by decide, trivial⟩
theorem ex_m {L : Rs} (h : Miss [(1, 2), (5, 1), (9, 1)] 1 11 L) : L = [(3, 2), (6, 3), (10, 1)] :=
  h.uniq ⟨⟨by decide, by decide, by decide, by decide, by decide, by decide, by decide, by decide, by decide, trivial⟩, fun n => by
    rw [Bool.eq_iff_iff]
    simp [hs, inR]; omega, by decide⟩
theorem ex_m2 {L : Rs} (h : Miss [(1, 2), (5, 1), (9, 1)] 5 11 L) : L = [(6, 3), (10, 1)] :=
  h.uniq ⟨⟨by decide, by decide, by decide, by decide, by decide, by decide, trivial⟩, fun n => by
    rw [Bool.eq_iff_iff]
    simp [hs, inR]; omega, by decide⟩
theorem ex_m3 {L : Rs} (h : Miss [(1, 2), (5, 1), (9, 1)] 5 6 L) : L = [] :=
  h.uniq ⟨trivial, fun n => by
    rw [Bool.eq_iff_iff]
    simp [hs, inR]; omega, by decide⟩
theorem ex_u {L : Rs} (h : Made fOr [(1, 2)] [(3, 1)] L) : L = [(1, 3)] :=
  Sq.uniq h.rt (show RtF 1 [(1, 3)] from ⟨by decide, by decide, by decide, trivial⟩) fun n => by
    rw [h.has, Bool.eq_iff_iff]
    simp [hs, inR, fOr]; omega
theorem ex_w {L : Rs} (h : Made fNot [(1, 9)] [(4, 2)] L) : L = [(1, 3), (6, 4)] :=
  Sq.uniq h.rt (show RtF 1 [(1, 3), (6, 4)] from ⟨by decide, by decide, by decide, by decide, by decide, by decide, trivial⟩) fun n => by
    rw [h.has, Bool.eq_iff_iff]
    simp [hs, inR, fNot]; omega
theorem bad_1 : ¬ Rt [(1, 0)] := fun h => absurd h.2.2.1 (by decide)
theorem bad_2 : ¬ Rt [(1, 2), (3, 1)] := fun h => absurd h.2.2.2.2.1 (by decide)
theorem bad_3 : ¬ Rt [(5, 1), (2, 1)] := fun h => absurd h.2.2.2.2.1 (by decide)
theorem bad_4 : ¬ Rt [(281474976710656, 2)] := fun h => absurd h.2.2.2.1 (by decide)
end Sq
end Go.Proofs.Ythamilolacfeoaa
