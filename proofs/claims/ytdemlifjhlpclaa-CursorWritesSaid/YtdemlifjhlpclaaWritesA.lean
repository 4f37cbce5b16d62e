/-
  What stays apart from a writer.
-/
import Derived.Test.YtdemlifjhlpclaaPutF
import Derived.Test.YtdemlifjhlpclaaOver
import Derived.Test.YtdemlifjhlpclaaActs
namespace Go.Proofs.Ytdemlifjhlpclaa
open Go.RowKit
set_option linter.unusedVariables false

/-- The bytes at a lie in no block of which the row v is. -/
def Apart (a : Option Addr) (xs : List Nat) (v : Value) : Prop := xs ≠ [] → ∀ g off, a = some ⟨g, off, none⟩ → v.ownBlock ≠ some g
theorem Seen.lt {w : World} {N : Nat} {k : IntKind} {a : Option Addr} {xs : List Nat} (h : Seen w N k a xs) (hx : xs ≠ []) : ∃ b off, a = some ⟨b, off, none⟩ ∧ b < N ∧ b < w.heap.size ∧ w.cell? ⟨b, off, none⟩ = some (.int k (xs.head hx)) := by
  obtain ⟨b, off, e, hb, hc⟩ := h 0 (xs.head hx) (by cases xs with | nil => exact absurd rfl hx | cons x xs => rfl)
  exact ⟨b, off, e, hb, World.block_lt_of_cell? w _ hc, hc⟩
theorem seen_keep {w w' : World} {base B lim N : Nat} {v : Value} {xs ys : List Nat} {a : Option Addr} (hW : Wtr w base B lim v xs) (hS : Seen w N .u8 a ys) (hap : Apart a ys v) (hk : Chg (WS B v) w w') : Seen w' N .u8 a ys := by
  refine hS.apart hk fun g off e hne h => ?_
  rcases h with h | h
  · obtain ⟨b, off', e', _, _, hc⟩ := hS.lt hne
    rw [e] at e'
    cases e'
    subst h
    obtain ⟨a', c, rfl, _⟩ := own_slice hW.2.1
    exact ob_apart hW.1 (by decide) (by intro x h; cases h) hc
  · exact hap hne g off e h
theorem Wtr.row_lt {w : World} {base B lim g : Nat} {v : Value} {xs : List Nat} (h : Wtr w base B lim v xs) (hg : v.ownBlock = some g) : base ≤ g ∧ g < w.heap.size := h.2.1.lt g hg
/-- A block that holds another object is no row of bytes. -/
theorem ww_ne_row {w : World} {base Sb n g lim c : Nat} {a : Option Addr} {m : Nat} {v : Value} {xs : List Value} (h : w.heap[Sb]? = some (wwObj lim a m c)) (ho : w.ownsRow base 5 1 v n xs) (hg : v.ownBlock = some g) : g ≠ Sb := by
  intro e
  subst e
  rcases ho.2 with ⟨rfl, _⟩ | ⟨g', cap, cur, rfl, _, hh, _⟩
  · cases hg
  · have e : g' = g := by simpa [Value.ownBlock] using hg
    subst e
    rw [h] at hh
    unfold wwObj at hh
    simp at hh
theorem own_chg {w w' : World} {base n size : Nat} {e : TypeId} {v : Value} {xs : List Value} {S : Nat → Prop} (h : w.ownsRow base e size v n xs) (hk : Chg S w w') (hS : ∀ g, v.ownBlock = some g → ¬ S g) : w'.ownsRow base e size v n xs := by
  refine ⟨h.1, ?_⟩
  rcases h.2 with h2 | ⟨g', cap, cur, rfl, hb, hh, r⟩
  · exact .inl h2
  · exact .inr ⟨g', cap, cur, rfl, hb, hk.at_block hh (hS g' (by simp [Value.ownBlock])), r⟩
/-- Who lies apart after a call of the writer and of the reference. -/
theorem apart_step {w2 w3 w4 : World} {base B lim : Nat} {v v' : Value} {xs zs zs' : List Nat} {a a' : Option Addr} {N : Nat} (hap : Apart a xs v) (hS : Seen w2 N .u8 a xs) (hM : Moved w2 v v') (hW : Wtr w3 base B lim v' zs') (hs : w3.heap.size ≤ w4.heap.size) (ha : (a' = a ∧ zs = xs) ∨ ∀ g off, a' = some ⟨g, off, none⟩ → w4.heap.size ≤ g) : Apart a' zs v' := by
  intro hne g off e hg
  have hl := (hW.row_lt hg).2
  rcases ha with ⟨rfl, rfl⟩ | ha
  · obtain ⟨b, off', e', _, hb, _⟩ := hS.lt hne
    rw [e] at e'
    cases e'
    rcases hM with h | h
    · exact hap hne g off e (h ▸ hg)
    · have := h g hg; omega
  · have := ha g off e; omega

end Go.Proofs.Ytdemlifjhlpclaa
