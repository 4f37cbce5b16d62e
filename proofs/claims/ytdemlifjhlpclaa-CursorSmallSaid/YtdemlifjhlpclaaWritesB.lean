/-
  What stays apart from a writer.
-/
import Derived.Test.YtdemlifjhlpclaaPutF
import Derived.Test.YtdemlifjhlpclaaOver
import Derived.Test.YtdemlifjhlpclaaActs
import Derived.Deep.DeepCutAuto
import Derived.Deep.CutBlock
namespace Go.Proofs.Ytdemlifjhlpclaa
open Go.RowKit
set_option linter.unusedVariables false

/-- The bytes at a lie in no block of which the row v is. -/
def Apart (a : Option Addr) (xs : List Nat) (v : Value) : Prop := xs ≠ [] → ∀ g off, a = some ⟨g, off, none⟩ → v.ownBlock ≠ some g
theorem Seen.lt {w : World} {N : Nat} {k : IntKind} {a : Option Addr} {xs : List Nat} (h : Seen w N k a xs) (hx : xs ≠ []) : ∃ b off, a = some ⟨b, off, none⟩ ∧ b < N ∧ b < w.heap.size ∧ w.cell? ⟨b, off, none⟩ = some (.int k (xs.head hx)) := by
  obtain ⟨b, off, e, hb, hc⟩ := h 0 (xs.head hx) (by cases xs with | nil => exact absurd rfl hx | cons x xs => rfl)
  exact ⟨b, off, e, hb, World.block_lt_of_cell? w _ hc, hc⟩
theorem seen_keep {w w' : World} {base B lim N : Nat} {v : Value} {xs ys : List Nat} {a : Option Addr} (hW : Wtr w base B lim v xs) (hS : Seen w N .u8 a ys) (hap : Apart a ys v) (hk : Chg (WS B v) w w') : Seen w' N .u8 a ys := by
  refine hS.apart hk fun g off e hne h => ?_
  rcases h with h | h
  · obtain ⟨b, off', e', _, _, hc⟩ := hS.lt hne
    rw [e] at e'
    cases e'
    subst h
    obtain ⟨a', c, rfl, _⟩ := own_slice hW.2.1
    exact ob_apart hW.1 (by decide) (by intro x h; cases h) hc
  · exact hap hne g off e h
theorem Wtr.row_lt {w : World} {base B lim g : Nat} {v : Value} {xs : List Nat} (h : Wtr w base B lim v xs) (hg : v.ownBlock = some g) : base ≤ g ∧ g < w.heap.size := h.2.1.lt g hg
/-- A block that holds another object is no row of bytes. -/
theorem ww_ne_row {w : World} {base Sb n g lim c : Nat} {a : Option Addr} {m : Nat} {v : Value} {xs : List Value} (h : w.heap[Sb]? = some (wwObj lim a m c)) (ho : w.ownsRow base 5 1 v n xs) (hg : v.ownBlock = some g) : g ≠ Sb := by
  intro e
  subst e
  rcases ho.2 with ⟨rfl, _⟩ | ⟨g', cap, cur, rfl, _, hh, _⟩
  · cases hg
  · have e : g' = g := by simpa [Value.ownBlock] using hg
    subst e
    rw [h] at hh
    unfold wwObj at hh
    simp at hh
theorem own_chg {w w' : World} {base n size : Nat} {e : TypeId} {v : Value} {xs : List Value} {S : Nat → Prop} (h : w.ownsRow base e size v n xs) (hk : Chg S w w') (hS : ∀ g, v.ownBlock = some g → ¬ S g) : w'.ownsRow base e size v n xs := by
  refine ⟨h.1, ?_⟩
  rcases h.2 with h2 | ⟨g', cap, cur, rfl, hb, hh, r⟩
  · exact .inl h2
  · exact .inr ⟨g', cap, cur, rfl, hb, hk.at_block hh (hS g' (by simp [Value.ownBlock])), r⟩
/-- Who lies apart after a call of the writer and of the reference. -/
theorem apart_step {w2 w3 w4 : World} {base B lim : Nat} {v v' : Value} {xs zs zs' : List Nat} {a a' : Option Addr} {N : Nat} (hap : Apart a xs v) (hS : Seen w2 N .u8 a xs) (hM : Moved w2 v v') (hW : Wtr w3 base B lim v' zs') (hs : w3.heap.size ≤ w4.heap.size) (ha : (a' = a ∧ zs = xs) ∨ ∀ g off, a' = some ⟨g, off, none⟩ → w4.heap.size ≤ g) : Apart a' zs v' := by
  intro hne g off e hg
  have hl := (hW.row_lt hg).2
  rcases ha with ⟨rfl, rfl⟩ | ha
  · obtain ⟨b, off', e', _, hb, _⟩ := hS.lt hne
    rw [e] at e'
    cases e'
    rcases hM with h | h
    · exact hap hne g off e (h ▸ hg)
    · have := h g hg; omega
  · have := ha g off e; omega

end Go.Proofs.Ytdemlifjhlpclaa

/-
  The writer and the reference's writer, side by side.
-/
namespace Go.Proofs.Ytdemlifjhlpclaa
open Go.RowKit
set_option linter.unusedVariables false

/-- The bytes of a call. -/
def ActB (w : World) (Q : Nat) (t : Act0) : Prop := t.sn ≤ t.sc ∧ t.sc ≤ maxLen ∧ ∃ ys : List Nat, ys.length = t.sn ∧ Seen w Q .u8 t.sa ys
/-- The writer, the reference's writer, and who lies apart. -/
def Both (w : World) (base B Sb lim : Nat) (v : Value) (a : Option Addr) (n c : Nat) (xs : List Nat) : Prop :=
  Wtr w base B lim v xs ∧ w.heap[Sb]? = some (wwObj lim a n c) ∧ Seen w w.heap.size .u8 a xs ∧ Apart a xs v ∧ xs.length = n ∧ n ≤ c ∧ c ≤ maxLen ∧ B < Sb
theorem Both.below {w w' : World} {base B Sb lim : Nat} {v : Value} {a : Option Addr} {n c : Nat} {xs : List Nat} (h : Both w base B Sb lim v a n c xs) (hB : Below w.heap.size w w') : Both w' base B Sb lim v a n c xs := by
  obtain ⟨h1, h2, h3, h4, h5⟩ := h
  exact ⟨h1.below hB, (hB.block Sb (Array.getElem?_eq_some_iff.1 h2).1).trans h2, (h3.below hB).more hB.size, h4, h5⟩
/-- The call's block after a writer's call. -/
theorem Both.past {w w' : World} {base B Sb lim b : Nat} {v : Value} {a : Option Addr} {n c : Nat} {xs : List Nat} (h : Both w base B Sb lim v a n c xs) (hk : Chg (WS B v) w w') {o : Obj} (ho : w.heap[b]? = some o) (hb : b ≠ B) (hr : ∀ g, v.ownBlock = some g → g ≠ b) : w'.heap[b]? = some o :=
  hk.at_block ho (fun e => by
    rcases e with e | e
    · exact hb e
    · exact hr b e rfl)
theorem Both.ref {w w' : World} {base B Sb lim : Nat} {v : Value} {a : Option Addr} {n c : Nat} {xs : List Nat} (h : Both w base B Sb lim v a n c xs) (hk : Chg (WS B v) w w') : w'.heap[Sb]? = some (wwObj lim a n c) ∧ Seen w' w.heap.size .u8 a xs :=
  ⟨h.past hk h.2.1 (by have := h.2.2.2.2.2.2.2; omega) (fun g hg => ww_ne_row h.2.1 h.1.2.1 hg), seen_keep h.1 h.2.2.1 h.2.2.2.1 hk⟩
/-- A writer's call, then what makes memory alone, then the reference's, whose result is stored. -/
theorem Both.step {w2 w3 w4 w5 : World} {base B Sb lim : Nat} {v v' : Value} {a a' : Option Addr} {n c k c' : Nat} {xs zs : List Nat} (h : Both w2 base B Sb lim v a n c xs) (hW : Wtr w3 base B lim v' zs) (hk : Chg (WS B v) w2 w3) (hM : Moved w2 v v') (h34 : Below w3.heap.size w3 w4) (h45 : Below w4.heap.size w4 w5)
    (hS : Seen w5 w5.heap.size .u8 a' zs) (ha : (a' = a ∧ zs = xs) ∨ ∀ g off, a' = some ⟨g, off, none⟩ → w4.heap.size ≤ g) (hzl : zs.length = k) (hkc : k ≤ c') (hcm : c' ≤ maxLen) :
    Both ((w5.setCell ⟨Sb, 0, none⟩ (.int .i64 lim)).setCell ⟨Sb, 1, none⟩ (.slice a' k c')) base B Sb lim v' a' k c' zs := by
  obtain ⟨h1, h2, h3, h4, h5, h6, h7, h8⟩ := h
  have hn : ¬ WS B v Sb := fun h => by
    rcases h with h | h
    · omega
    · exact ww_ne_row h2 h1.2.1 h rfl
  have hs3 := hk.at_block h2 hn
  have hb35 : Below w3.heap.size w3 w5 := h34.trans (h45.mono h34.size)
  have hs5 := (hb35.block Sb (Array.getElem?_eq_some_iff.1 hs3).1).trans hs3
  have hC := Chg.set2 w5 Sb (.int .i64 lim) (.slice a' k c')
  have hW5 := hW.below hb35
  refine ⟨hW5.kept hC (fun e => by omega) (fun g hg e => ww_ne_row hs5 hW5.2.1 hg e), two_set hs5 _ _, ?_, apart_step h4 h3 hM hW h34.size ha, hzl, hkc, hcm, h8⟩
  unfold wwObj at hs5
  exact (Seen.past2 hs5 (by intro z h; cases h) (by intro z h; cases h) hS hC).more hC.size

theorem Both.stepB {w w2 w3 w4 w5 : World} {B Sb lim : Nat} {v : Value} {a a' : Option Addr} {n c k c' : Nat} {xs : List Nat} (h : Both w2 w.heap.size B Sb lim v a n c xs) (hB : w.heap.size ≤ B) (hB2 : Below w.heap.size w w2) (hk : Chg (WS B v) w2 w3) (h34 : Below w3.heap.size w3 w4) (h45 : Below w4.heap.size w4 w5) : Below w.heap.size w ((w5.setCell ⟨Sb, 0, none⟩ (.int .i64 lim)).setCell ⟨Sb, 1, none⟩ (.slice a' k c')) := by
  have hBS := h.2.2.2.2.2.2.2
  have hb3 : Below w.heap.size w w3 := hB2.trans (hk.below (fun q e => by
    rcases e with e | e
    · omega
    · exact (h.1.row_lt e).1) hB2.size)
  have hb4 := hb3.trans (h34.mono hb3.size)
  have hb5 := hb4.trans (h45.mono hb4.size)
  exact (hb5.setCell (p := ⟨Sb, 0, none⟩) (by show _ ≤ Sb; omega) _).setCell (p := ⟨Sb, 1, none⟩) (by show _ ≤ Sb; omega) _
theorem sameB_any (a b : Option Addr) (c d n : Nat) (xs : List Nat) (N : Nat) (w : World) (hn : xs.length = n) (hx : Seen w N .u8 a xs) (hy : Seen w N .u8 b xs) (hm : n ≤ maxLen) :
    Calls Try.prog 33 #[.slice a n c, .slice b n d] w fun e w' => e = .returned (.bool true) ∧ Below w.heap.size w w' := by
  subst hn
  refine (sameBytes_any a b c d xs xs N w hx hy hm hm).mono ?_
  rintro e w' ⟨rfl, hB⟩
  exact ⟨by simp, hB⟩
theorem one_seen (w : World) (u : Nat) : Seen (w.alloc (.cells #[.int .u8 (u : Int)] 5)) (w.alloc (.cells #[.int .u8 (u : Int)] 5)).heap.size .u8 (some ⟨w.heap.size, 0, none⟩) [u] := fun i x hi => by
  match i, hi with
  | 0, hi =>
    cases hi
    exact ⟨_, _, rfl, by simp, cell_one_new w _ _ 0 _ rfl⟩
  | i + 1, hi => simp at hi

/-- A block of the call's own that changes. -/
theorem Both.kept {w w' : World} {base B Sb lim g : Nat} {v : Value} {a : Option Addr} {n c : Nat} {xs : List Nat} (h : Both w base B Sb lim v a n c xs) (hk : Chg (· = g) w w') (h1 : B ≠ g) (h2 : Sb ≠ g) (h3 : ∀ q, v.ownBlock = some q → q ≠ g) (h4 : xs ≠ [] → ∀ q off, a = some ⟨q, off, none⟩ → q ≠ g) : Both w' base B Sb lim v a n c xs := by
  obtain ⟨g1, g2, g3, g4, g5⟩ := h
  exact ⟨g1.kept hk h1 h3, hk.at_block g2 h2, (g3.apart hk fun q off e hne h => h4 hne q off e h).more hk.size, g4, g5⟩
/-- Where the row and the reference's bytes are, seen from a block that was made ahead of the call. -/
theorem apart_made {WA w1 w3 : World} {base B Sb lim g : Nat} {v v' : Value} {a a' : Option Addr} {n c : Nat} {xs zs : List Nat} (h : Both WA base B Sb lim v a n c xs) (hM : Moved w1 v v') (hg1 : WA.heap.size ≤ g) (hg2 : g < w1.heap.size) (h13 : w1.heap.size ≤ w3.heap.size) (ha : (a' = a ∧ zs = xs) ∨ ∀ q off, a' = some ⟨q, off, none⟩ → w3.heap.size ≤ q) : (∀ q, v'.ownBlock = some q → q ≠ g) ∧ (zs ≠ [] → ∀ q off, a' = some ⟨q, off, none⟩ → q ≠ g) := by
  refine ⟨fun q hq => ?_, fun hne q off e => ?_⟩
  · rcases hM with hM | hM
    · have := (h.1.row_lt (hM ▸ hq)).2; omega
    · have := hM q hq; omega
  · rcases ha with ⟨rfl, rfl⟩ | ha
    · obtain ⟨b, off', e', hb, _⟩ := h.2.2.1.lt hne
      rw [e] at e'; cases e'; omega
    · have := ha q off e; omega
theorem below_ws {w w1 w3 : World} {B lim : Nat} {v : Value} {xs : List Nat} (hW : Wtr w1 w.heap.size B lim v xs) (hB : w.heap.size ≤ B) (h1 : Below w.heap.size w w1) (hk : Chg (WS B v) w1 w3) : Below w.heap.size w w3 :=
  h1.trans (hk.below (fun q e => by
    rcases e with e | e
    · omega
    · exact (hW.row_lt e).1) h1.size)
theorem own_ws {w1 w3 : World} {B n size g m cap : Nat} {e : TypeId} {v : Value} {us : List Value} {base2 : Nat} (hk : Chg (WS B v) w1 w3) (hO : w1.ownsRow base2 e size (.slice (some ⟨g, 0, none⟩) m cap) n us) (hB : B < g) (hr : ∀ q, v.ownBlock = some q → q < g) : w3.ownsRow base2 e size (.slice (some ⟨g, 0, none⟩) m cap) n us :=
  own_chg hO hk fun q hq h => by
    have e : q = g := by simpa [Value.ownBlock] using hq.symm
    subst e
    rcases h with h | h
    · omega
    · have := hr q h; omega
theorem own_set2 {w : World} {base2 n size g m cap b : Nat} {e : TypeId} {us : List Value} (hO : w.ownsRow base2 e size (.slice (some ⟨g, 0, none⟩) m cap) n us) (hb : b ≠ g) (x y : Value) : ((w.setCell ⟨b, 0, none⟩ x).setCell ⟨b, 1, none⟩ y).ownsRow base2 e size (.slice (some ⟨g, 0, none⟩) m cap) n us :=
  own_chg hO (Chg.set2 w b x y) fun q hq h => by
    have e : q = g := by simpa [Value.ownBlock] using hq.symm
    subst e
    exact hb h.symm

end Go.Proofs.Ytdemlifjhlpclaa
