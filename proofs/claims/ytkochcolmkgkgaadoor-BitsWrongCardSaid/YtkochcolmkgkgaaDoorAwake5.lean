/-
  The examples of the chapter.
-/
import Derived.Test.YtkochcolmkgkgaaDoorSame
import Derived.Test.YtkochcolmkgkgaaDoorWith
import Derived.Test.YtkochcolmkgkgaaDoorBad
namespace Go.Proofs.YtkochcolmkgkgaaDoor
open Go.RowKit
set_option linter.unusedVariables false

theorem ex_right : Bm.Rt 70 [10, 3] := ⟨by decide, by decide, by decide, by decide +kernel⟩
theorem ex_right71 : Bm.Rt 71 [0, 0] := ⟨by decide, by decide, by decide, by decide +kernel⟩
theorem ex_bad : NotRt 70 [0, 64] := fun M hM h => by
  obtain rfl : M = 70 := by omega
  have := h.2.2.2
  exact absurd this (by decide +kernel)
theorem ex_of : Bm.ofL 2 ([1, 64, 65, 3].map Int.toNat) = [10, 3] := by decide +kernel

section
variable (g : Nat) (w : World) (B : Nat) (hS : Seen w B .u64 (some ⟨g, 0, none⟩) [10, 3]) (hB : B ≤ w.heap.size) (hT : HT w) (hB0 : 0 < B)
include hS hB
theorem ex_count : Calls Tryd.prog 21 #[.agg #[.int .i64 70, .slice (some ⟨g, 0, none⟩) 2 2]] w fun e w' => e = .returned (.int .i64 4) ∧ Below w.heap.size w w' :=
  count_any 70 _ 2 2 [10, 3] rfl (by decide) (by unfold maxLen; decide) ex_right w B hS hB 4 (by decide +kernel)
theorem ex_rank1 : Calls Tryd.prog 25 #[.agg #[.int .i64 70, .slice (some ⟨g, 0, none⟩) 2 2], .int .i64 64] w fun e w' => e = .returned (.int .i64 2) ∧ Below w.heap.size w w' :=
  rank_any 70 _ 2 2 [10, 3] rfl (by decide) (by unfold maxLen; decide) ex_right w B hS hB 64 2 (by decide +kernel)
theorem ex_rank2 : Calls Tryd.prog 25 #[.agg #[.int .i64 70, .slice (some ⟨g, 0, none⟩) 2 2], .int .i64 1000] w fun e w' => e = .returned (.int .i64 4) ∧ Below w.heap.size w w' :=
  rank_any 70 _ 2 2 [10, 3] rfl (by decide) (by unfold maxLen; decide) ex_right w B hS hB 1000 4 (by decide +kernel)
theorem ex_without : Calls Tryd.prog 37 #[.agg #[.int .i64 70, .slice (some ⟨g, 0, none⟩) 2 2], .int .i64 64] w (SetOut w 70 2 [10, 2]) :=
  (withoutI_any 70 _ 2 2 [10, 3] rfl ex_right w B hS hB 64 (by decide) (by decide)).mono fun e w' h => by
    have e1 : List.zipWith Bm.minusW [10, 3] (Bm.ofL 2 [(64 : Int).toNat]) = [10, 2] := by decide +kernel
    rw [e1] at h; exact h
theorem ex_or (h : Nat) (hS2 : Seen w B .u64 (some ⟨h, 0, none⟩) [0, 0]) : Calls Tryd.prog 30 #[.agg #[.int .i64 70, .slice (some ⟨g, 0, none⟩) 2 2], .agg #[.int .i64 71, .slice (some ⟨h, 0, none⟩) 2 2]] w (ErrOut w 51) :=
  or_err 70 71 _ _ 2 2 2 2 51 w fun W hb => join_size 70 71 _ _ 2 2 2 2 [10, 3] [0, 0] rfl rfl _ W B (hS.below (hb.mono hB)) (hS2.below (hb.mono hB)) (Nat.le_trans hB hb.size) 70 71 rfl rfl (by decide) ex_right ex_right71
include hT hB0
theorem ex_select : Calls Tryd.prog 20 #[.agg #[.int .i64 70, .slice (some ⟨g, 0, none⟩) 2 2], .int .i64 3] w fun e w' => e = .returned (.tuple #[.int .i64 65, .bool true]) ∧ Below w.heap.size w w' :=
  select_any 70 _ 2 2 [10, 3] rfl (by decide) (by unfold maxLen; decide) ex_right w B hS hB hT hB0 3 (by decide) 65 true (.inl ⟨rfl, by decide, by decide +kernel⟩)
theorem ex_next : Calls Tryd.prog 26 #[.agg #[.int .i64 70, .slice (some ⟨g, 0, none⟩) 2 2], .int .i64 4] w fun e w' => e = .returned (.tuple #[.int .i64 64, .bool true]) ∧ Below w.heap.size w w' :=
  next_any 70 _ 2 2 [10, 3] rfl (by decide) (by unfold maxLen; decide) ex_right w B hS hB hT hB0 4 64 true (.inl ⟨rfl, by decide +kernel, by decide +kernel⟩)
theorem ex_before : Calls Tryd.prog 27 #[.agg #[.int .i64 70, .slice (some ⟨g, 0, none⟩) 2 2], .int .i64 64] w fun e w' => e = .returned (.tuple #[.int .i64 3, .bool true]) ∧ Below w.heap.size w w' :=
  before_any 70 _ 2 2 [10, 3] rfl (by decide) (by unfold maxLen; decide) ex_right w B hS hB hT hB0 64 3 true (.inl ⟨rfl, by decide +kernel, by decide +kernel⟩)
theorem ex_runs : Calls Tryd.prog 22 #[.agg #[.int .i64 70, .slice (some ⟨g, 0, none⟩) 2 2]] w fun e w' => ∃ a c, e = .returned (.slice a 3 c) ∧ SeenP w' w'.heap.size a [(1, 2), (3, 4), (64, 66)] ∧ Below w.heap.size w w' :=
  (runs_any 70 _ 2 2 [10, 3] rfl ex_right w B hS hT hB0 hB).mono fun e w' h => by
    obtain ⟨⟨v, rfl, hr⟩, hb⟩ := h
    have e1 : Bm.runsL (Bm.ml (Bm.val [10, 3]) 70) = [(1, 2), (3, 4), (64, 66)] := by decide +kernel
    rw [e1] at hr
    obtain ⟨a, c, rfl, h1, _, _, _⟩ := own_slice2 hr
    exact ⟨a, c, rfl, h1, hb⟩
end
theorem ex_new (w : World) : Calls Tryd.prog 18 #[.int .i64 71] w (NewOut w 71 2 [0, 0]) := new_any 71 (by decide) 2 (by decide) w
theorem ex_pairs (w : World) (t : TypeId) : SeenP (w.alloc (.cells #[.int .i64 1, .int .i64 2, .int .i64 3, .int .i64 4, .int .i64 64, .int .i64 66] t)) (w.heap.size + 1) (some ⟨w.heap.size, 0, none⟩) [(1, 2), (3, 4), (64, 66)] := fun i p hp => by
  have hh := heap_alloc_new w (.cells #[.int .i64 1, .int .i64 2, .int .i64 3, .int .i64 4, .int .i64 64, .int .i64 66] t)
  match i, hp with
  | 0, hp => obtain rfl : (1, 2) = p := by simpa using hp
             exact ⟨_, _, rfl, by omega, by unfold World.cell?; rw [hh]; rfl, by unfold World.cell?; rw [hh]; rfl⟩
  | 1, hp => obtain rfl : (3, 4) = p := by simpa using hp
             exact ⟨_, _, rfl, by omega, by unfold World.cell?; rw [hh]; rfl, by unfold World.cell?; rw [hh]; rfl⟩
  | 2, hp => obtain rfl : (64, 66) = p := by simpa using hp
             exact ⟨_, _, rfl, by omega, by unfold World.cell?; rw [hh]; rfl, by unfold World.cell?; rw [hh]; rfl⟩
  | j + 3, hp => simp at hp
theorem seen_two (w : World) (t : TypeId) (x y : Nat) : Seen (w.alloc (.cells #[.int .u64 x, .int .u64 y] t)) (w.heap.size + 1) .u64 (some ⟨w.heap.size, 0, none⟩) [x, y] := fun i z hz => by
  have hh := heap_alloc_new w (.cells #[.int .u64 x, .int .u64 y] t)
  match i, hz with
  | 0, hz => obtain rfl : x = z := by simpa using hz
             exact ⟨_, _, rfl, by omega, by unfold World.cell?; rw [hh]; rfl⟩
  | 1, hz => obtain rfl : y = z := by simpa using hz
             exact ⟨_, _, rfl, by omega, by unfold World.cell?; rw [hh]; rfl⟩
  | j + 2, hz => simp at hz
theorem seenI_four (w : World) (t : TypeId) (i j k l : Int) : SeenI (w.alloc (.cells #[.int .i64 i, .int .i64 j, .int .i64 k, .int .i64 l] t)) (w.heap.size + 1) (some ⟨w.heap.size, 0, none⟩) [i, j, k, l] := fun p z hz => by
  have hh := heap_alloc_new w (.cells #[.int .i64 i, .int .i64 j, .int .i64 k, .int .i64 l] t)
  match p, hz with
  | 0, hz => obtain rfl : i = z := by simpa using hz
             exact ⟨_, _, rfl, by omega, by unfold World.cell?; rw [hh]; rfl⟩
  | 1, hz => obtain rfl : j = z := by simpa using hz
             exact ⟨_, _, rfl, by omega, by unfold World.cell?; rw [hh]; rfl⟩
  | 2, hz => obtain rfl : k = z := by simpa using hz
             exact ⟨_, _, rfl, by omega, by unfold World.cell?; rw [hh]; rfl⟩
  | 3, hz => obtain rfl : l = z := by simpa using hz
             exact ⟨_, _, rfl, by omega, by unfold World.cell?; rw [hh]; rfl⟩
  | p + 4, hz => simp at hz
theorem ex_of4 (w : World) (t : TypeId) : Calls Tryd.prog 35 #[.int .i64 70, .slice (some ⟨w.heap.size, 0, none⟩) 4 4] (w.alloc (.cells #[.int .i64 1, .int .i64 64, .int .i64 65, .int .i64 3] t)) (SetOut (w.alloc (.cells #[.int .i64 1, .int .i64 64, .int .i64 65, .int .i64 3] t)) 70 2 [10, 3]) :=
  (of_yes 70 (by decide) 2 (by decide) _ 4 4 [1, 64, 65, 3] rfl (by unfold maxLen; decide) _ (w.heap.size + 1) (seenI_four w t 1 64 65 3) (by simp) (by intro z hz; simp at hz; omega)).mono fun e w' h => by
    rw [ex_of] at h; exact h
theorem same_lit1 (g g2 : Nat) (w : World) (h1 : Seen w w.heap.size .u64 (some ⟨g, 0, none⟩) [10, 3]) (t : TypeId) (hg : w.heap.size = g2) :
    Calls Tryd.prog 33 #[.slice (some ⟨g, 0, none⟩) 2 2, .slice (some ⟨g2, 0, none⟩) 2 2] (w.alloc (.cells #[.int .u64 10, .int .u64 3] t)) fun e w' => e = .returned (.bool true) ∧ Below w.heap.size w w' := by
  subst hg
  refine (sameNums_at (some ⟨g, 0, none⟩) (some ⟨w.heap.size, 0, none⟩) 2 2 [10, 3] [10, 3] 2 2 true rfl rfl (by simp) w.heap.size (w.heap.size + 1) (w.alloc (.cells #[.int .u64 10, .int .u64 3] t)) (h1.alloc (Nat.le_refl _) _) (seen_two w t 10 3) (by unfold maxLen; decide) (by unfold maxLen; decide)).mono ?_
  rintro e w' ⟨h2, h3⟩
  exact ⟨h2, below_alloc h3⟩
theorem same_lit2 (g g2 : Nat) (w : World) (h1 : Seen w w.heap.size .u64 (some ⟨g, 0, none⟩) [10, 2]) (t : TypeId) (hg : w.heap.size = g2) :
    Calls Tryd.prog 33 #[.slice (some ⟨g, 0, none⟩) 2 2, .slice (some ⟨g2, 0, none⟩) 2 2] (w.alloc (.cells #[.int .u64 10, .int .u64 2] t)) fun e w' => e = .returned (.bool true) ∧ Below w.heap.size w w' := by
  subst hg
  refine (sameNums_at (some ⟨g, 0, none⟩) (some ⟨w.heap.size, 0, none⟩) 2 2 [10, 2] [10, 2] 2 2 true rfl rfl (by simp) w.heap.size (w.heap.size + 1) (w.alloc (.cells #[.int .u64 10, .int .u64 2] t)) (h1.alloc (Nat.le_refl _) _) (seen_two w t 10 2) (by unfold maxLen; decide) (by unfold maxLen; decide)).mono ?_
  rintro e w' ⟨h2, h3⟩
  exact ⟨h2, below_alloc h3⟩
theorem runs_lit (a : Option Addr) (c : Nat) (w : World) (h1 : SeenP w w.heap.size a [(1, 2), (3, 4), (64, 66)]) (t : TypeId) :
    Calls Tryd.prog 47 #[.slice a 3 c, .slice (some ⟨w.heap.size, 0, none⟩) 3 3] (w.alloc (.cells #[.int .i64 1, .int .i64 2, .int .i64 3, .int .i64 4, .int .i64 64, .int .i64 66] t)) fun e w' => e = .returned (.bool true) ∧ Below w.heap.size w w' := by
  refine (sameRuns_any a (some ⟨w.heap.size, 0, none⟩) 3 c 3 [(1, 2), (3, 4), (64, 66)] rfl (by unfold maxLen; decide) _ (w.heap.size + 1) ((h1.below ((Below.refl _ w).alloc (Nat.le_refl _) _)).more (by omega)) (ex_pairs w t) (by simp)).mono ?_
  rintro e w' ⟨h2, h3⟩
  exact ⟨h2, below_alloc h3⟩
theorem right_lit (w : World) (t : TypeId) : Calls Tryd.prog 34 #[.agg #[.int .i64 70, .slice (some ⟨w.heap.size, 0, none⟩) 2 2]] (w.alloc (.cells #[.int .u64 0, .int .u64 64] t)) fun e w' => e = .returned (.bool false) ∧ Below w.heap.size w w' := by
  refine (right_no 70 (some ⟨w.heap.size, 0, none⟩) 2 2 [0, 64] rfl (by decide) ex_bad _ (w.heap.size + 1) (seen_two w t 0 64) (by simp)).mono ?_
  rintro e w' ⟨h2, h3⟩
  exact ⟨h2, below_alloc h3⟩
end Go.Proofs.YtkochcolmkgkgaaDoor
