/-
  Plain mathematics: what a reader takes.
-/
import Derived.Test.YtdemlifjhlpclaaReadSpec
namespace Go.Proofs.Ytdemlifjhlpclaa.Cu

/-- A number of fixed bytes, the lowest first. -/
def le : List Nat → Nat
  | [] => 0
  | b :: r => b + 256 * le r

/-- What the calls of a reader return (the result, the error, the place after it). -/
def rdByte (p : Nat) (xs : List Nat) : Nat × Int × Nat := if p < xs.length then (xs.getD p 0, 0, p + 1) else (0, 20, p)
def rdBytes (n : Int) (p : Nat) (xs : List Nat) : List Nat × Int × Nat :=
  if n < 0 then ([], 2, p) else if xs.length < p + n.toNat then ([], 20, p) else ((xs.drop p).take n.toNat, 0, p + n.toNat)
def rdFixed (n : Int) (p : Nat) (xs : List Nat) : Nat × Int × Nat :=
  if n < 1 ∨ 8 < n then (0, 2, p) else if xs.length < p + n.toNat then (0, 20, p) else (le ((xs.drop p).take n.toNat), 0, p + n.toNat)
def rdNumber (most : Nat) (p : Nat) (xs : List Nat) : Nat × Int × Nat :=
  if (Vi.read (xs.drop p)).2.2 ≠ 0 then (0, (Vi.read (xs.drop p)).2.2, p) else if most < (Vi.read (xs.drop p)).1 then (0, 21, p) else ((Vi.read (xs.drop p)).1, 0, p + (Vi.read (xs.drop p)).2.1)
def rdCount (most size : Int) (p : Nat) (xs : List Nat) : Nat × Int × Nat :=
  if most < 0 ∨ size < 1 then (0, 2, p) else if (Vi.read (xs.drop p)).2.2 ≠ 0 then (0, (Vi.read (xs.drop p)).2.2, p) else if most.toNat < (Vi.read (xs.drop p)).1 then (0, 21, p)
  else if (xs.length - (p + (Vi.read (xs.drop p)).2.1)) / size.toNat < (Vi.read (xs.drop p)).1 then (0, 20, p) else ((Vi.read (xs.drop p)).1, 0, p + (Vi.read (xs.drop p)).2.1)
def rdEnd (p : Nat) (xs : List Nat) : Int := if p = xs.length then 0 else 22

theorem le_lt : ∀ (bs : List Nat), (∀ b ∈ bs, b < 256) → le bs < 256 ^ bs.length := by
  intro bs
  induction bs with
  | nil => intro _; simp [le]
  | cons b r ih =>
    intro h
    have h1 := h b (by simp)
    have h2 := ih (fun c hc => h c (by simp [hc]))
    simp only [le, List.length_cons, Nat.pow_succ]
    omega
theorem le_snoc (bs : List Nat) (c : Nat) : le (bs ++ [c]) = le bs + 256 ^ bs.length * c := by
  induction bs with
  | nil => simp [le]
  | cons b r ih =>
    simp only [List.cons_append, le, ih, List.length_cons, Nat.pow_succ]
    rw [Nat.mul_add, ← Nat.mul_assoc, Nat.mul_comm 256 (256 ^ r.length)]
    omega

end Go.Proofs.Ytdemlifjhlpclaa.Cu
