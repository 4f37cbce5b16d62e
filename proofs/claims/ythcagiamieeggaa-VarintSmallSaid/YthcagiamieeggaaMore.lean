/-
  Contracts in the forms in which laws use them.
-/
import Derived.Test.YthcagiamieeggaaArgs
import Derived.Test.YthcagiamieeggaaRef
import Derived.Test.YthcagiamieeggaaPrefix
namespace Go.Proofs.Ythcagiamieeggaa
open Go.RowKit
set_option linter.unusedVariables false

theorem write_n (x la : Nat) (hx : x < 2 ^ 64) (hla : (Vi.form x).length = la) (w : World) : Calls Try.prog 16 #[.int .u64 x] w fun e w' =>
    ∃ g c, e = .returned (.slice (some ⟨g, 0, none⟩) la c) ∧ w'.ownsRow w.heap.size 5 1 (.slice (some ⟨g, 0, none⟩) la c) la ((Vi.form x).map fun x : Nat => Value.int .u8 x) ∧ Seen w' w'.heap.size .u8 (some ⟨g, 0, none⟩) (Vi.form x) ∧ la ≤ c ∧ c ≤ 9223372036854775807 ∧ Below w.heap.size w w' := by
  subst hla
  refine (write_any x hx w).mono ?_
  rintro e w' ⟨v, rfl, hown, hB⟩
  obtain ⟨g, c, rfl⟩ := own_form hown (Vi.form_pos x)
  have hc := own_cap hown
  exact ⟨g, c, rfl, hown, Seen.of_own (k := .u8) hown, hc.1, hc.2, hB⟩
theorem size_n (x la : Nat) (hx : x < 2 ^ 64) (hla : (Vi.form x).length = la) (w : World) : Calls Try.prog 17 #[.int .u64 x] w fun e w' => e = .returned (.int .i64 la) ∧ Below w.heap.size w w' := by
  subst hla
  rw [Vi.form_len]
  exact size_any x hx w
theorem seen_cells {w : World} {B : Nat} {k : IntKind} {ad : Addr} {xs : List Nat} (h : Seen w B k (some ad) xs) : ∀ j u, (xs.map fun x : Nat => Value.int k x)[j]? = some u → w.cell? (ad.add j) = some u := by
  intro j u hu
  rw [List.getElem?_map] at hu
  cases hx : xs[j]? with
  | none => rw [hx] at hu; simp at hu
  | some x =>
    rw [hx] at hu
    simp at hu
    obtain ⟨b, off, e, _, hc⟩ := h j x hx
    cases e
    rw [← hu]
    by_cases h0 : j = 0
    · subst h0; simpa [Addr.add] using hc
    · simpa [Addr.add, h0] using hc
theorem seen_cells' {w : World} {B : Nat} {k : IntKind} {ad : Addr} {xs : List Nat} (h : Seen w B k (some ad) xs) : ∀ b, some ad = some b → ∀ j u, (xs.map fun x : Nat => Value.int k x)[j]? = some u → w.cell? (b.add j) = some u := by
  intro b hb
  cases hb
  exact seen_cells h

end Go.Proofs.Ythcagiamieeggaa
