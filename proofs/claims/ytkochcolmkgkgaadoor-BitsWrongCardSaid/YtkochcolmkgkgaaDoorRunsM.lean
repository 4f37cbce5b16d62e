/-
  Runs, as lists of pairs.
-/
import Derived.Test.YtkochcolmkgkgaaDoorBm
import Derived.Test.YtkochcolmkgkgaaDoorKitB
namespace Go.Proofs.YtkochcolmkgkgaaDoor
set_option linter.unusedVariables false
namespace Bm
/-- One member more. -/
def ext (l : List (Nat × Nat)) (i : Nat) : List (Nat × Nat) :=
  match l[l.length - 1]? with
  | some p => if p.2 = i then l.set (l.length - 1) (p.1, i + 1) else l ++ [(i, i + 1)]
  | none => l ++ [(i, i + 1)]
theorem ext_nil (i : Nat) : ext [] i = [(i, i + 1)] := rfl
theorem ext_more {l : List (Nat × Nat)} {i : Nat} {p : Nat × Nat} (h : l[l.length - 1]? = some p) (hp : p.2 = i) : ext l i = l.set (l.length - 1) (p.1, i + 1) := by
  simp [ext, h, hp]
theorem ext_new {l : List (Nat × Nat)} {i : Nat} {p : Nat × Nat} (h : l[l.length - 1]? = some p) (hp : p.2 ≠ i) : ext l i = l ++ [(i, i + 1)] := by
  simp [ext, h, hp]
/-- The runs of some members, in their order. -/
def runsL (l : List Nat) : List (Nat × Nat) := l.foldl ext []
theorem runsL_snoc (l : List Nat) (i : Nat) : runsL (l ++ [i]) = ext (runsL l) i := by simp [runsL]
theorem ext_len (l : List (Nat × Nat)) (i : Nat) : (ext l i).length ≤ l.length + 1 := by
  unfold ext
  split
  · split
    · rw [List.length_set]; omega
    · simp
  · simp
theorem runsL_len (l : List Nat) : (runsL l).length ≤ l.length := by
  have key : ∀ (l : List Nat) (r : List (Nat × Nat)), (l.foldl ext r).length ≤ r.length + l.length := by
    intro l
    induction l with
    | nil => intro r; simp
    | cons i l ih => intro r; have := ih (ext r i); have := ext_len r i; simp only [List.foldl_cons, List.length_cons]; omega
  have := key l []
  simpa [runsL] using this
end Bm
/-- Pairs as cells, one after the other. -/
def flat (l : List (Nat × Nat)) : List Value := l.flatMap fun p => [.int .i64 p.1, .int .i64 p.2]
theorem flat_cons (p : Nat × Nat) (l : List (Nat × Nat)) : flat (p :: l) = .int .i64 p.1 :: .int .i64 p.2 :: flat l := rfl
theorem flat_append (l k : List (Nat × Nat)) : flat (l ++ k) = flat l ++ flat k := by simp [flat]
theorem flat_len : ∀ l : List (Nat × Nat), (flat l).length = l.length * 2
  | [] => rfl
  | p :: l => by rw [flat_cons]; simp [flat_len l]; omega
theorem flat_fst : ∀ (l : List (Nat × Nat)) (j : Nat) (p : Nat × Nat), l[j]? = some p → (flat l)[j * 2]? = some (.int .i64 p.1)
  | q :: l, 0, p, h => by
    obtain rfl : q = p := by simpa using h
    rfl
  | q :: l, j + 1, p, h => by
    have := flat_fst l j p (by simpa using h)
    rw [flat_cons, show (j + 1) * 2 = j * 2 + 1 + 1 by omega]
    simpa using this
theorem flat_snd : ∀ (l : List (Nat × Nat)) (j : Nat) (p : Nat × Nat), l[j]? = some p → (flat l)[j * 2 + 1]? = some (.int .i64 p.2)
  | q :: l, 0, p, h => by
    obtain rfl : q = p := by simpa using h
    rfl
  | q :: l, j + 1, p, h => by
    have := flat_snd l j p (by simpa using h)
    rw [flat_cons, show (j + 1) * 2 + 1 = j * 2 + 1 + 1 + 1 by omega]
    simpa using this
theorem flat_set : ∀ (l : List (Nat × Nat)) (j b : Nat) (p : Nat × Nat), l[j]? = some p → flat (l.set j (p.1, b)) = (flat l).set (j * 2 + 1) (.int .i64 b)
  | q :: l, 0, b, p, h => by
    obtain rfl : q = p := by simpa using h
    rfl
  | q :: l, j + 1, b, p, h => by
    have := flat_set l j b p (by simpa using h)
    rw [List.set_cons_succ, flat_cons, flat_cons, this, show (j + 1) * 2 + 1 = j * 2 + 1 + 1 + 1 by omega]
    rfl
end Go.Proofs.YtkochcolmkgkgaaDoor
