/-
  No three powers of x are nothing together, for long.
-/
import Derived.Test.YtoecddkglenigaaDoorDist
namespace Go.Proofs.YtoecddkglenigaaDoor.Crc
set_option linter.unusedVariables false

/-- The numbers that st makes of c, halved; of these those that are b (mod 16). -/
def genB (b : Nat) : Nat → Nat → List Nat
  | 0, _ => []
  | n + 1, c => force c fun c => bif Nat.beq (c / 2 % 16) b then force (c / 2) fun d => d :: genB b n (stK c) else genB b n (stK c)
def gen : Nat → Nat → List Nat
  | 0, _ => []
  | n + 1, c => c / 2 :: gen n (st c)
theorem genB_eq (b : Nat) : ∀ n c, genB b n c = (gen n c).filter fun x => Nat.beq (x % 16) b := by
  intro n
  induction n with
  | zero => intro c; rfl
  | succ n ih =>
    intro c
    rw [genB, force_eq, force_eq, stK_eq, gen, List.filter_cons, ih]
    cases Nat.beq (c / 2 % 16) b <;> rfl
theorem gen_at : ∀ n c d, d < n → (gen n c)[d]? = some (sts d c / 2) := by
  intro n
  induction n with
  | zero => intro c d h; omega
  | succ n ih =>
    intro c d h
    rw [gen]
    cases d with
    | zero => rfl
    | succ d => rw [List.getElem?_cons_succ, ih (st c) d (by omega), sts_add d 1]; rfl
def bitOf (d x : Nat) : Bool := Nat.beq (Nat.land (Nat.shiftRight x d) 1) 1
def fil (d : Nat) (b : Bool) : List Nat → List Nat
  | [] => []
  | x :: l => bif (bitOf d x == b) then x :: fil d b l else fil d b l
theorem fil_eq (d : Nat) (b : Bool) (l : List Nat) : fil d b l = l.filter fun x => bitOf d x == b := by
  induction l with
  | nil => rfl
  | cons x l ih =>
    rw [fil, List.filter_cons, ih]
    cases (bitOf d x == b) <;> rfl
def nod : Nat → List Nat → Bool
  | _, [] => true
  | 0, _ :: l => match l with
    | [] => true
    | _ :: _ => false
  | d + 1, x :: l => match l with
    | [] => true
    | y :: m => (nod d (fil (d + 1) true (x :: y :: m))) && nod d (fil (d + 1) false (x :: y :: m))
theorem nodup_of {α : Type} (f : Nat → α) (S : α → Prop) : ∀ (l : List Nat) (p : α → Nat → Bool), (∀ x, p (f x) x = true) → (∀ x ∈ l, S (f x)) → (∀ a, S a → (l.filter (p a)).Nodup) → l.Nodup := by
  intro l p hp
  induction l with
  | nil => intro _ _; exact List.nodup_nil
  | cons x l ih =>
    intro hs h
    refine List.nodup_cons.2 ⟨fun hx => ?_, ih (fun y hy => hs y (List.mem_cons_of_mem _ hy)) fun a ha => ?_⟩
    · have h1 := h (f x) (hs x List.mem_cons_self)
      rw [List.filter_cons, if_pos (hp x)] at h1
      exact (List.nodup_cons.1 h1).1 (List.mem_filter.2 ⟨hx, hp x⟩)
    · have h1 := h a ha
      rw [List.filter_cons] at h1
      split at h1
      · exact (List.nodup_cons.1 h1).2
      · exact h1
theorem nod_spec : ∀ (d : Nat) (l : List Nat), nod d l = true → l.Nodup := by
  intro d
  induction d with
  | zero =>
    intro l h
    cases l with
    | nil => exact List.nodup_nil
    | cons x l => cases l with
      | nil => exact List.nodup_cons.2 ⟨List.not_mem_nil, List.nodup_nil⟩
      | cons y m => rw [nod] at h; cases h
  | succ d ih =>
    intro l h
    cases l with
    | nil => exact List.nodup_nil
    | cons x l => cases l with
      | nil => exact List.nodup_cons.2 ⟨List.not_mem_nil, List.nodup_nil⟩
      | cons y m =>
        rw [nod, Bool.and_eq_true] at h
        refine nodup_of (bitOf (d + 1)) (fun _ => True) _ (fun b x => bitOf (d + 1) x == b) (fun x => by simp) (fun _ _ => trivial) fun b _ => ?_
        cases b with
        | true => rw [← fil_eq]; exact ih _ h.1
        | false => rw [← fil_eq]; exact ih _ h.2
set_option maxRecDepth 1000000
theorem tri0 : nod 30 (genB 0 32768 1) = true := by decide +kernel
theorem tri1 : nod 30 (genB 1 32768 1) = true := by decide +kernel
theorem tri2 : nod 30 (genB 2 32768 1) = true := by decide +kernel
theorem tri3 : nod 30 (genB 3 32768 1) = true := by decide +kernel
theorem tri4 : nod 30 (genB 4 32768 1) = true := by decide +kernel
theorem tri5 : nod 30 (genB 5 32768 1) = true := by decide +kernel
theorem tri6 : nod 30 (genB 6 32768 1) = true := by decide +kernel
theorem tri7 : nod 30 (genB 7 32768 1) = true := by decide +kernel
theorem tri8 : nod 30 (genB 8 32768 1) = true := by decide +kernel
theorem tri9 : nod 30 (genB 9 32768 1) = true := by decide +kernel
theorem tri10 : nod 30 (genB 10 32768 1) = true := by decide +kernel
theorem tri11 : nod 30 (genB 11 32768 1) = true := by decide +kernel
theorem tri12 : nod 30 (genB 12 32768 1) = true := by decide +kernel
theorem tri13 : nod 30 (genB 13 32768 1) = true := by decide +kernel
theorem tri14 : nod 30 (genB 14 32768 1) = true := by decide +kernel
theorem tri15 : nod 30 (genB 15 32768 1) = true := by decide +kernel
theorem gen_nodup : (gen 32768 1).Nodup := by
  refine nodup_of (fun x => x % 16) (fun b => b < 16) _ (fun b x => Nat.beq (x % 16) b) (fun x => by simp) (fun x _ => Nat.mod_lt _ (by decide)) fun b hb => ?_
  rw [← genB_eq]
  apply nod_spec 30
  have h : b = 0 ∨ b = 1 ∨ b = 2 ∨ b = 3 ∨ b = 4 ∨ b = 5 ∨ b = 6 ∨ b = 7 ∨ b = 8 ∨ b = 9 ∨ b = 10 ∨ b = 11 ∨ b = 12 ∨ b = 13 ∨ b = 14 ∨ b = 15 := by omega
  rcases h with rfl | rfl | rfl | rfl | rfl | rfl | rfl | rfl | rfl | rfl | rfl | rfl | rfl | rfl | rfl | rfl
  · exact tri0
  · exact tri1
  · exact tri2
  · exact tri3
  · exact tri4
  · exact tri5
  · exact tri6
  · exact tri7
  · exact tri8
  · exact tri9
  · exact tri10
  · exact tri11
  · exact tri12
  · exact tri13
  · exact tri14
  · exact tri15

end Go.Proofs.YtoecddkglenigaaDoor.Crc
