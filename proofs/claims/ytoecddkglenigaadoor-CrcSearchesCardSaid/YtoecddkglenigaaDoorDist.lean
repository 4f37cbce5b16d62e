/-
  The powers of x are different for long.
-/
import Derived.Test.YtoecddkglenigaaDoorSt
namespace Go.Proofs.YtoecddkglenigaaDoor.Crc
set_option linter.unusedVariables false

def force {α : Type} (c : Nat) (f : Nat → α) : α := Nat.rec (f 0) (fun p _ => f (p + 1)) c
theorem force_eq {α : Type} (c : Nat) (f : Nat → α) : force c f = f c := by cases c <;> rfl
def stK (c : Nat) : Nat := Nat.xor (c / 2) (c % 2 * 3988292384)
theorem stK_eq (c : Nat) : stK c = st c := by
  unfold stK st
  show (c / 2) ^^^ (c % 2 * 3988292384) = _
  have h : c % 2 = 0 ∨ c % 2 = 1 := by omega
  rcases h with h | h <;> simp [h]
def ord : Nat → Nat → Bool
  | 0, _ => true
  | n + 1, c => force (stK c) fun c => (!(Nat.beq c 1)) && ord n c
theorem ord_spec : ∀ (n c : Nat), ord n c = true → ∀ d, 1 ≤ d → d ≤ n → sts d c ≠ 1 := by
  intro n
  induction n with
  | zero => intro c _ d h1 h2; omega
  | succ n ih =>
    intro c h d h1 h2
    rw [ord, force_eq, stK_eq, Bool.and_eq_true] at h
    obtain ⟨h3, h4⟩ := h
    obtain ⟨e, rfl⟩ : ∃ e, d = e + 1 := ⟨d - 1, by omega⟩
    rw [sts_add e 1]
    by_cases he : e = 0
    · subst he
      intro h5
      rw [show sts 0 (sts 1 c) = st c from rfl] at h5
      rw [h5] at h3
      exact absurd h3 (by decide)
    · exact ih (st c) h4 e (by omega) (by omega)
set_option maxRecDepth 1000000 in
theorem ord_is : ord 32768 1 = true := by decide +kernel
theorem order (d : Nat) (h1 : 1 ≤ d) (h2 : d ≤ 32768) : sts d 1 ≠ 1 := ord_spec _ _ ord_is d h1 h2
theorem part_inj {n j k : Nat} (hn : n ≤ 4096) (hj : j < 8 * n) (hk : k < 8 * n) (h : part n j = part n k) : j = k := by
  have key : ∀ a b : Nat, a < b → b < 8 * n → part n a ≠ part n b := by
    intro a b hab hb e
    unfold part at e
    rw [show 8 * n - a = (8 * n - b) + (b - a) by omega, sts_add] at e
    have e2 := sts_inj (8 * n - b) (sts_lt _ (by decide)) (by decide) e
    exact order (b - a) (by omega) (by omega) e2
  rcases Nat.lt_trichotomy j k with h1 | h1 | h1
  · exact absurd h (key j k h1 hk)
  · exact h1
  · exact absurd h.symm (key k j h1 hj)

end Go.Proofs.YtoecddkglenigaaDoor.Crc
