/-
  A circle of places: the slots that stand in it, one after the other.
-/
import Derived.Lib.Hide
namespace Go.Proofs.Ytljodpdplmhdnaa
set_option linter.unusedVariables false
namespace Rg
/-- Two places of a circle, less than its length apart, are the same just if their indices are. -/
theorem place_inj {L f i n : Nat} (hi : i < n) (hn : n < L) : (f + i) % L ≠ (f + n) % L := fun h => by
  have h1 := Nat.sub_mod_eq_zero_of_mod_eq h.symm
  rw [show f + n - (f + i) = n - i by omega, Nat.mod_eq_of_lt (by omega)] at h1
  omega
/-- The first n slots from a place on. -/
def sl {α : Type} (ps : Nat → α) (L f n : Nat) : List α := (List.range n).map fun i => ps ((f + i) % L)
def upd {α : Type} (ps : Nat → α) (j : Nat) (x : α) : Nat → α := fun i => if i = j then x else ps i
theorem upd_same {α : Type} (ps : Nat → α) (j : Nat) (x : α) : upd ps j x j = x := by simp [upd]
theorem upd_other {α : Type} (ps : Nat → α) {i j : Nat} (x : α) (h : i ≠ j) : upd ps j x i = ps i := by simp [upd, h]
theorem sl_len {α : Type} (ps : Nat → α) (L f n : Nat) : (sl ps L f n).length = n := by simp [sl]
theorem sl_zero {α : Type} (ps : Nat → α) (L f : Nat) : sl ps L f 0 = [] := rfl
theorem sl_get {α : Type} (ps : Nat → α) (L f n i : Nat) (h : i < n) : (sl ps L f n)[i]? = some (ps ((f + i) % L)) := by
  unfold sl
  rw [List.getElem?_map, List.getElem?_range h]
  rfl
theorem sl_snoc {α : Type} (ps : Nat → α) (L f n : Nat) : sl ps L f (n + 1) = sl ps L f n ++ [ps ((f + n) % L)] := by
  unfold sl
  rw [List.range_succ, List.map_append]
  rfl
theorem sl_congr {α : Type} {ps qs : Nat → α} {L f n : Nat} (h : ∀ i, i < n → ps ((f + i) % L) = qs ((f + i) % L)) : sl ps L f n = sl qs L f n := by
  unfold sl
  refine List.map_congr_left fun i hi => h i ?_
  simpa using hi
theorem sl_put {α : Type} (ps : Nat → α) {L f n : Nat} (x : α) (h : n < L) : sl (upd ps ((f + n) % L) x) L f (n + 1) = sl ps L f n ++ [x] := by
  rw [sl_snoc, upd_same]
  congr 1
  exact sl_congr fun i hi => upd_other ps x (place_inj hi h)
theorem sl_take {α : Type} (ps : Nat → α) {L f n k : Nat} (h : k ≤ n) : sl ps L f k = (sl ps L f n).take k := by
  apply List.ext_getElem?
  intro i
  by_cases hi : i < k
  · rw [List.getElem?_take_of_lt hi, sl_get _ _ _ _ _ hi, sl_get _ _ _ _ _ (by omega)]
  · rw [List.getElem?_eq_none (by rw [sl_len]; omega), List.getElem?_eq_none (by rw [List.length_take, sl_len]; omega)]
theorem sl_drop {α : Type} (ps : Nat → α) {L f n k : Nat} (h : k ≤ n) : sl ps L ((f + k) % L) (n - k) = (sl ps L f n).drop k := by
  apply List.ext_getElem?
  intro i
  rw [List.getElem?_drop]
  by_cases hi : i < n - k
  · rw [sl_get _ _ _ _ _ hi, sl_get _ _ _ _ _ (by omega), Nat.mod_add_mod, Nat.add_assoc]
  · rw [List.getElem?_eq_none (by rw [sl_len]; omega), List.getElem?_eq_none (by rw [sl_len]; omega)]
theorem sl_line {α : Type} (ps : Nat → α) {L n : Nat} (h : n ≤ L) : sl ps L 0 n = (List.range n).map ps := by
  unfold sl
  refine List.map_congr_left fun i hi => ?_
  have : i < n := by simpa using hi
  rw [Nat.zero_add, Nat.mod_eq_of_lt (by omega)]
end Rg
end Go.Proofs.Ytljodpdplmhdnaa
