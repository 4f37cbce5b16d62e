/-
  Two sets that are put into two boxes, in any order.
-/
import Derived.Test.YtkochcolmkgkgaaDoorSetAt
namespace Go.Proofs.YtkochcolmkgkgaaDoor
open Go.RowKit
set_option linter.unusedVariables false

/-- A row of words in a world. -/
def RowF (W : World) (a : Option Addr) (c q N : Nat) (xs : List Nat) : Prop := Seen W W.heap.size .u64 a xs ∧ xs.length = q ∧ q ≤ c ∧ c ≤ maxLen ∧ Bm.Rt N xs
theorem own_row {W : World} {base q c N : Nat} {a : Option Addr} {xs : List Nat} (h : W.ownsRow base 30 1 (.slice a q c) q (xs.map fun x : Nat => Value.int .u64 x)) (hR : Bm.Rt N xs) :
    RowF W a c q N xs ∧ ∀ g off, a = some ⟨g, off, none⟩ → base ≤ g ∧ g < W.heap.size := by
  refine ⟨?_, ?_⟩
  · obtain ⟨a', c', hv, h1, h2, h3, h4⟩ := own_slice h
    injection hv with hv1 _ hv2
    subst hv1
    subst hv2
    exact ⟨h1, h2, h3, h4, hR⟩
  · intro g off ha
    rcases h.2 with ⟨h0, _⟩ | ⟨g', cap, cur, hv, hg, hh, _⟩
    · injection h0 with h1
      rw [ha] at h1; cases h1
    · injection hv with h1
      rw [ha] at h1
      injection h1 with h1
      injection h1 with h1 _
      subst h1
      exact ⟨hg, (Array.getElem?_eq_some_iff.1 hh).1⟩
theorem RowF.keep {W W' : World} {a : Option Addr} {c q N : Nat} {xs : List Nat} (h : RowF W a c q N xs) (hb : Below W.heap.size W W') : RowF W' a c q N xs := ⟨(h.1.below hb).more hb.size, h.2⟩
theorem RowF.apart {W W' : World} {a : Option Addr} {c q N : Nat} {xs : List Nat} (h : RowF W a c q N xs) (hs : W.heap.size ≤ W'.heap.size) (hk : ∀ g off, a = some ⟨g, off, none⟩ → g < W.heap.size → W'.heap[g]? = W.heap[g]?) : RowF W' a c q N xs := by
  refine ⟨fun i x hi => ?_, h.2⟩
  obtain ⟨b, off, rfl, hb, hc⟩ := h.1 i x hi
  refine ⟨b, off, rfl, Nat.lt_of_lt_of_le hb hs, ?_⟩
  have e := hk b off rfl hb
  unfold World.cell? at hc ⊢
  dsimp only at hc ⊢
  rw [e]
  exact hc
theorem ends_aa {w w3 : World} {N q c1 c2 : Nat} {s1 s2 : Option Addr} {l1 l2 : List Nat} (H : Below w.heap.size w w3) (S1 : RowF w3 s1 c1 q N l1) (S2 : RowF w3 s2 c2 q N l2) :
    SetAt ((w3.alloc (.cells #[.int .i64 N, .slice s1 q c1] 24)).alloc (.cells #[.int .i64 N, .slice s2 q c2] 24)) w3.heap.size N q s1 c1 l1 ∧
    SetAt ((w3.alloc (.cells #[.int .i64 N, .slice s1 q c1] 24)).alloc (.cells #[.int .i64 N, .slice s2 q c2] 24)) (w3.heap.size + 1) N q s2 c2 l2 ∧
    Below w.heap.size w ((w3.alloc (.cells #[.int .i64 N, .slice s1 q c1] 24)).alloc (.cells #[.int .i64 N, .slice s2 q c2] 24)) := by
  have hb := below2 w3 (.cells #[.int .i64 N, .slice s1 q c1] 24) (.cells #[.int .i64 N, .slice s2 q c2] 24)
  have hx := box2 w3 (.int .i64 N) (.slice s1 q c1) (.int .i64 N) (.slice s2 q c2)
  exact ⟨⟨hx.1, S1.keep hb⟩, ⟨hx.2, S2.keep hb⟩, H.trans (hb.mono H.size)⟩
theorem set_rowF {w3 : World} {b : Nat} {u v : Value} {a : Option Addr} {c q N : Nat} {xs : List Nat} (S : RowF w3 a c q N xs) (h : ∀ g off, a = some ⟨g, off, none⟩ → g ≠ b) : RowF ((w3.setCell ⟨b, 0, none⟩ u).setCell ⟨b, 1, none⟩ v) a c q N xs := by
  refine S.apart (by simp) (fun g off ha hg => ?_)
  have hne := h g off ha
  exact (Below.heap_setCell _ ⟨b, 1, none⟩ v g hne).trans (Below.heap_setCell w3 ⟨b, 0, none⟩ u g hne)
theorem ends_sa {w w3 : World} {b N q c1 c2 : Nat} {s1 s2 : Option Addr} {l1 l2 : List Nat} {u v : Value} (H : Below w.heap.size w w3) (hb : w.heap.size ≤ b) (B1 : Box w3 b u v) (S1 : RowF w3 s1 c1 q N l1) (S2 : RowF w3 s2 c2 q N l2) (n1 : ∀ g off, s1 = some ⟨g, off, none⟩ → g ≠ b) (n2 : ∀ g off, s2 = some ⟨g, off, none⟩ → g ≠ b) :
    SetAt (((w3.setCell ⟨b, 0, none⟩ (.int .i64 N)).setCell ⟨b, 1, none⟩ (.slice s1 q c1)).alloc (.cells #[.int .i64 N, .slice s2 q c2] 24)) b N q s1 c1 l1 ∧
    SetAt (((w3.setCell ⟨b, 0, none⟩ (.int .i64 N)).setCell ⟨b, 1, none⟩ (.slice s1 q c1)).alloc (.cells #[.int .i64 N, .slice s2 q c2] 24)) w3.heap.size N q s2 c2 l2 ∧
    Below w.heap.size w (((w3.setCell ⟨b, 0, none⟩ (.int .i64 N)).setCell ⟨b, 1, none⟩ (.slice s1 q c1)).alloc (.cells #[.int .i64 N, .slice s2 q c2] 24)) := by
  have r1 := set_rowF (u := .int .i64 N) (v := .slice s1 q c1) S1 n1
  have r2 := set_rowF (u := .int .i64 N) (v := .slice s1 q c1) S2 n2
  have bx := B1.set (.int .i64 N) (.slice s1 q c1)
  have hw : Below w.heap.size w ((w3.setCell ⟨b, 0, none⟩ (.int .i64 N)).setCell ⟨b, 1, none⟩ (.slice s1 q c1)) := (H.setCell (p := ⟨b, 0, none⟩) hb _).setCell (p := ⟨b, 1, none⟩) hb _
  have hz : ((w3.setCell ⟨b, 0, none⟩ (.int .i64 N)).setCell ⟨b, 1, none⟩ (.slice s1 q c1)).heap.size = w3.heap.size := by simp
  generalize (w3.setCell ⟨b, 0, none⟩ (.int .i64 N)).setCell ⟨b, 1, none⟩ (.slice s1 q c1) = W at r1 r2 bx hw hz ⊢
  have ha : Below W.heap.size W (W.alloc (.cells #[.int .i64 N, .slice s2 q c2] 24)) := (Below.refl _ W).alloc (Nat.le_refl _) _
  rw [← hz]
  exact ⟨⟨bx.alloc _, r1.keep ha⟩, ⟨Box.new _ _ _, r2.keep ha⟩, hw.trans (ha.mono hw.size)⟩
theorem ends_ss {w w3 : World} {b b' N q c1 c2 : Nat} {s1 s2 : Option Addr} {l1 l2 : List Nat} {u v u' v' : Value} (H : Below w.heap.size w w3) (hb : w.heap.size ≤ b) (hb' : w.heap.size ≤ b') (hne : b ≠ b') (B1 : Box w3 b u v) (B2 : Box w3 b' u' v') (S1 : RowF w3 s1 c1 q N l1) (S2 : RowF w3 s2 c2 q N l2) (n1 : ∀ g off, s1 = some ⟨g, off, none⟩ → g ≠ b ∧ g ≠ b') (n2 : ∀ g off, s2 = some ⟨g, off, none⟩ → g ≠ b ∧ g ≠ b') :
    SetAt ((((w3.setCell ⟨b, 0, none⟩ (.int .i64 N)).setCell ⟨b, 1, none⟩ (.slice s1 q c1)).setCell ⟨b', 0, none⟩ (.int .i64 N)).setCell ⟨b', 1, none⟩ (.slice s2 q c2)) b N q s1 c1 l1 ∧
    SetAt ((((w3.setCell ⟨b, 0, none⟩ (.int .i64 N)).setCell ⟨b, 1, none⟩ (.slice s1 q c1)).setCell ⟨b', 0, none⟩ (.int .i64 N)).setCell ⟨b', 1, none⟩ (.slice s2 q c2)) b' N q s2 c2 l2 ∧
    Below w.heap.size w ((((w3.setCell ⟨b, 0, none⟩ (.int .i64 N)).setCell ⟨b, 1, none⟩ (.slice s1 q c1)).setCell ⟨b', 0, none⟩ (.int .i64 N)).setCell ⟨b', 1, none⟩ (.slice s2 q c2)) := by
  have r1 := set_rowF (u := .int .i64 N) (v := .slice s2 q c2) (set_rowF (u := .int .i64 N) (v := .slice s1 q c1) S1 (fun g o h => (n1 g o h).1)) (fun g o h => (n1 g o h).2)
  have r2 := set_rowF (u := .int .i64 N) (v := .slice s2 q c2) (set_rowF (u := .int .i64 N) (v := .slice s1 q c1) S2 (fun g o h => (n2 g o h).1)) (fun g o h => (n2 g o h).2)
  have bx1 := ((B1.set (.int .i64 N) (.slice s1 q c1)).other (p := ⟨b', 0, none⟩) hne (.int .i64 N)).other (p := ⟨b', 1, none⟩) hne (.slice s2 q c2)
  have bx2 := ((B2.other (p := ⟨b, 0, none⟩) (fun e => hne e.symm) (.int .i64 N)).other (p := ⟨b, 1, none⟩) (fun e => hne e.symm) (.slice s1 q c1)).set (.int .i64 N) (.slice s2 q c2)
  exact ⟨⟨bx1, r1⟩, ⟨bx2, r2⟩, (((H.setCell (p := ⟨b, 0, none⟩) hb _).setCell (p := ⟨b, 1, none⟩) hb _).setCell (p := ⟨b', 0, none⟩) hb' _).setCell (p := ⟨b', 1, none⟩) hb' _⟩

end Go.Proofs.YtkochcolmkgkgaaDoor
