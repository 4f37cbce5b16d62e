/-
  A string's words.
-/
import Derived.Test.YtainjicbmjfnkaaDoorNum
namespace Go.Proofs.YtainjicbmjfnkaaDoor
open Go.RowKit
set_option linter.unusedVariables false

/-- The variable that strings.Index reads, as it lies in a world. -/
def Ml (w : World) : Prop := ∃ m, w.cell? ⟨3, 0, none⟩ = some (.int .i64 m)
theorem Ml.below {w w' : World} (h : Ml w) (hb : Below w.heap.size w w') : Ml w' := by
  obtain ⟨m, h1⟩ := h
  exact ⟨m, (hb.cell (Ev.cell_lt h1)).trans h1⟩
namespace Ev
/-- The words of a string, nine at the most. -/
def wordsOf (s : List UInt8) : List (List UInt8) := Lib.splitN s [32] 9
theorem splitK_le (sep : List UInt8) : ∀ (k : Nat) (s : List UInt8), (Lib.splitK sep 0 k s).length ≤ k + 1 ∧ 1 ≤ (Lib.splitK sep 0 k s).length ∧ ∀ x ∈ Lib.splitK sep 0 k s, x.length ≤ s.length
  | 0, s => by simp [Lib.splitK]
  | k + 1, s => by
    unfold Lib.splitK
    split
    · simp
    · have h := splitK_le sep k (s.drop ((Lib.index s sep).toNat + sep.length))
      refine ⟨by simp only [List.length_cons]; omega, by simp, ?_⟩
      intro x hx
      rcases List.mem_cons.1 hx with rfl | hx
      · rw [List.length_take]; omega
      · have := h.2.2 x hx; rw [List.length_drop] at this; omega
end Ev
theorem split_all (s : List UInt8) (hs : s.length ≤ 1000000) (L : Nat) (hL : (Ev.wordsOf s).length = L) (w : World) (hM : Ml w) : Calls Tryd.prog 61 #[.string (Ev.str s), .string ⟨#[32]⟩, .int .i64 9] w fun e w' => ∃ c, e = .returned (.slice (some ⟨w.heap.size, 0, none⟩) L c) ∧ L ≤ c ∧ (4 ≤ s.length → 5 ≤ c) ∧ SeenS w' w'.heap.size (some ⟨w.heap.size, 0, none⟩) (Ev.wordsOf s) ∧ Below w.heap.size w w' := by
  obtain ⟨m, hm⟩ := hM
  have hsz : (Ev.str s).size = s.length := by show s.toArray.size = _; simp
  have hmap : (Lib.splitB ⟨#[32]⟩ 0 (min 9 ((Ev.str s).size + 1) - 1) (Ev.str s)).map (fun x : ByteArray => x.data.toList) = Ev.wordsOf s := by
    rw [Lib.splitB_data, hsz]; rfl
  have hlen : (Lib.splitB ⟨#[32]⟩ 0 (min 9 ((Ev.str s).size + 1) - 1) (Ev.str s)).length = L := by rw [← hL, ← hmap, List.length_map]
  refine (Tryd.strings_SplitN (Ev.str s) ⟨#[32]⟩ 9 m w (by rw [hsz]; omega) hm (by decide) (by omega) (by omega)).mono ?_
  rintro e w' ⟨rfl, rfl⟩
  refine ⟨_, by rw [hlen], ?_, fun h4 => by rw [hsz]; omega, ?_, (Below.refl _ w).alloc (Nat.le_refl _) _⟩
  · have h1 := (Ev.splitK_le [32] (min 9 (s.length + 1) - 1) s).1
    have h2 : (Ev.wordsOf s).length ≤ min 9 (s.length + 1) - 1 + 1 := h1
    rw [hsz, ← hL]; omega
  · intro i x hx
    rw [← hmap, List.getElem?_map] at hx
    cases hb : (Lib.splitB ⟨#[32]⟩ 0 (min 9 ((Ev.str s).size + 1) - 1) (Ev.str s))[i]? with
    | none => rw [hb] at hx; cases hx
    | some b =>
      rw [hb] at hx
      cases hx
      refine ⟨_, _, rfl, by simp, ?_⟩
      have hi := (List.getElem?_eq_some_iff.1 hb).1
      have hbl : (w.alloc (.cells (Lib.cellsOf (Lib.splitB ⟨#[32]⟩ 0 (min 9 ((Ev.str s).size + 1) - 1) (Ev.str s)) (min 9 ((Ev.str s).size + 1))) 9)).heap[w.heap.size]? = some (.cells (Lib.cellsOf (Lib.splitB ⟨#[32]⟩ 0 (min 9 ((Ev.str s).size + 1) - 1) (Ev.str s)) (min 9 ((Ev.str s).size + 1))) 9) := heap_alloc_new w _
      rw [cell_of_row _ _ _ _ _ (0, 0) hbl]
      simp only [Nat.zero_add, Lib.cellsOf, List.getElem?_toArray]
      rw [List.getElem?_append_left (by rw [List.length_map]; exact hi), List.getElem?_map, hb]
      rfl
theorem split_any (s : List UInt8) (hs : s.length ≤ 1000000) (L : Nat) (hL : (Ev.wordsOf s).length = L) (w : World) (hM : Ml w) : Calls Tryd.prog 61 #[.string (Ev.str s), .string ⟨#[32]⟩, .int .i64 9] w fun e w' => ∃ c, e = .returned (.slice (some ⟨w.heap.size, 0, none⟩) L c) ∧ L ≤ c ∧ SeenS w' w'.heap.size (some ⟨w.heap.size, 0, none⟩) (Ev.wordsOf s) ∧ Below w.heap.size w w' := by
  refine (split_all s hs L hL w hM).mono ?_
  rintro e w' ⟨c, h1, h2, _, h3, h4⟩
  exact ⟨c, h1, h2, h3, h4⟩
theorem split_five (s : List UInt8) (hs : s.length ≤ 1000000) (L : Nat) (hL : (Ev.wordsOf s).length = L) (h4 : 4 ≤ s.length) (w : World) (hM : Ml w) : Calls Tryd.prog 61 #[.string (Ev.str s), .string ⟨#[32]⟩, .int .i64 9] w fun e w' => ∃ c, e = .returned (.slice (some ⟨w.heap.size, 0, none⟩) L c) ∧ L ≤ c ∧ 5 ≤ c ∧ SeenS w' w'.heap.size (some ⟨w.heap.size, 0, none⟩) (Ev.wordsOf s) ∧ Below w.heap.size w w' := by
  refine (split_all s hs L hL w hM).mono ?_
  rintro e w' ⟨c, h1, h2, h5, h3, h6⟩
  exact ⟨c, h1, h2, h5 h4, h3, h6⟩
end Go.Proofs.YtainjicbmjfnkaaDoor
