/-
  Words for slices of numbers in memory.
-/
import Derived.Below
import Derived.Laws.OwnMore
import Derived.Deep.Draws
import Derived.RangeFuncNested
import Derived.RangeFuncBound
import Derived.RangeFuncCalls
import Derived.RangeFuncLeaves
namespace Go.Proofs.Ythamilolacfeoaa
open Go.RowKit

/-- In the world w, below block B, the slice that begins at a holds the numbers xs of the kind k. -/
def Seen (w : World) (B : Nat) (k : IntKind) (a : Option Addr) (xs : List Nat) : Prop :=
  ∀ (i x : Nat), xs[i]? = some x → ∃ b off, a = some ⟨b, off, none⟩ ∧ b < B ∧ w.cell? ⟨b, off + i, none⟩ = some (.int k x)

/-- Blocks of cells are as they were. -/
def KeepsCells (W W' : World) : Prop := ∀ (k : Nat) (o : Obj), W.heap[k]? = some o → o.isCells = true → W'.heap[k]? = some o
theorem KeepsCells.refl (W : World) : KeepsCells W W := fun _ _ h _ => h
theorem KeepsCells.trans {A B C : World} (h : KeepsCells A B) (k : KeepsCells B C) : KeepsCells A C := fun i o hi ho => k i o (h i o hi ho) ho
theorem KeepsCells.putObj {W : World} {l : Nat} {o o' : Obj} (hl : W.heap[l]? = some o) (ho : o.isCells = false) : KeepsCells W (W.putObj l o') := fun k u hk hu =>
  (World.putObj_heap_other (fun e => by subst e; rw [hl] at hk; cases hk; rw [ho] at hu; cases hu)).trans hk
theorem KeepsCells.boxed {W W' : World} {B : Nat} {t : TypeId} {v : Value} (h : KeepsCells W W') (hb : Boxed W B t v) : Boxed W' B t v := h B _ hb rfl
theorem KeepsCells.row {W W' : World} {base : Nat} {e : TypeId} {size : Nat} {v : Value} {k : Nat} {xs : List Value} (hk : KeepsCells W W') (h : W.ownsRow base e size v k xs) : W'.ownsRow base e size v k xs := by
  refine ⟨h.1, ?_⟩
  rcases h.2 with h2 | ⟨g, cap, cur, hv, hg, hh, h3⟩
  · exact .inl h2
  · exact .inr ⟨g, cap, cur, hv, hg, hk g _ hh rfl, h3⟩
theorem KeepsCells.cell {W W' : World} {a : Addr} {v : Value} (hk : KeepsCells W W') {cs : Array Value} {t : TypeId} {f : Nat × Nat} (h : W.heap[a.block]? = some (.cells cs t f)) (hc : W.cell? a = some v) : W'.cell? a = some v :=
  (World.cell?_of_block (w := W) ((hk a.block _ h rfl).trans h.symm)).trans hc

theorem rebase {W : World} {base base' : Nat} {e : TypeId} {size : Nat} {v : Value} {k : Nat} {xs : List Value} (h : W.ownsRow base e size v k xs) (hb : base' ≤ base) : W.ownsRow base' e size v k xs := by
  refine ⟨h.1, ?_⟩
  rcases h.2 with h2 | ⟨g, cap, cur, hv, hg, h3⟩
  · exact .inl h2
  · exact .inr ⟨g, cap, cur, hv, by omega, h3⟩

section
variable {w w' : World} {B B' : Nat} {k : IntKind} {a : Option Addr} {xs : List Nat}
theorem Seen.nil (w : World) (B : Nat) (k : IntKind) (a : Option Addr) : Seen w B k a [] := fun i x h => by simp at h
theorem Seen.at {i : Nat} (h : Seen w B k a xs) (hi : i < xs.length) : ∃ b off, a = some ⟨b, off, none⟩ ∧ b < B ∧ w.cell? ⟨b, off + i, none⟩ = some (.int k xs[i]) :=
  h i _ (List.getElem?_eq_getElem hi)
theorem Seen.keep (h : Seen w B k a xs) (hk : ∀ p : Addr, p.block < B → w'.cell? p = w.cell? p) : Seen w' B k a xs := fun i x hx => by
  obtain ⟨b, off, e, hb, hc⟩ := h i x hx
  exact ⟨b, off, e, hb, (hk _ hb).trans hc⟩
theorem Seen.more (h : Seen w B k a xs) (hB : B ≤ B') : Seen w B' k a xs := fun i x hx => by
  obtain ⟨b, off, e, hb, hc⟩ := h i x hx
  exact ⟨b, off, e, by omega, hc⟩
theorem Seen.below (h : Seen w B k a xs) (hb : Below B w w') : Seen w' B k a xs := h.keep fun _ hp => hb.cell hp
theorem Seen.alloc (h : Seen w B k a xs) (hB : B ≤ w.heap.size) (o : Obj) : Seen (w.alloc o) B k a xs := h.keep fun p hp => World.cell?_alloc_lt w o p (by omega)
theorem Seen.of_own {base : Nat} {e : TypeId} {n c : Nat} (h : w.ownsRow base e 1 (.slice a n c) n (xs.map fun x : Nat => Value.int k x)) : Seen w w.heap.size k a xs := fun i x hx => by
  have hl : i < xs.length := (List.getElem?_eq_some_iff.1 hx).1
  have hn : xs.length = n := by simpa using h.1
  rcases h.2 with ⟨_, h0⟩ | ⟨g, cap, cur, hv, _, hh, _, _, _, ht⟩
  · omega
  · have ha : a = some ⟨g, 0, none⟩ := by injection hv
    subst ha
    refine ⟨g, 0, rfl, (Array.getElem?_eq_some_iff.1 hh).1, ?_⟩
    have hc : cur.toList[i]? = some (.int k x) := by
      have h2 : (cur.toList.take (n * 1))[i]? = some (.int k x) := by rw [ht]; simp [hx]
      rwa [List.getElem?_take_of_lt (by omega)] at h2
    simpa [World.cell?, hh] using hc
end

theorem Seen.of_block {w : World} {k : IntKind} {b off : Nat} {cs : Array Value} {t : TypeId} {f : Nat × Nat} {xs : List Nat} (h : w.heap[b]? = some (.cells cs t f)) (hx : ∀ (i x : Nat), xs[i]? = some x → cs[off + i]? = some (.int k x)) : Seen w w.heap.size k (some ⟨b, off, none⟩) xs :=
  fun i x hi => ⟨b, off, rfl, (Array.getElem?_eq_some_iff.1 h).1, by simpa [World.cell?, h] using hx i x hi⟩

/-- Block g holds slices, one after the other, that hold the given numbers. -/
def Tab (w : World) (B : Nat) (k : IntKind) (g : Nat) (rows : List (List Nat)) : Prop :=
  g < B ∧ ∀ (i : Nat) (xs : List Nat), rows[i]? = some xs → ∃ a c, w.cell? ⟨g, i, none⟩ = some (.slice a xs.length c) ∧ Seen w B k a xs
theorem Tab.below {w w' : World} {B : Nat} {k : IntKind} {g : Nat} {rows : List (List Nat)} (h : Tab w B k g rows) (hb : Below B w w') : Tab w' B k g rows :=
  ⟨h.1, fun i xs hi => by obtain ⟨a, c, hc, hs⟩ := h.2 i xs hi; exact ⟨a, c, (hb.cell (p := ⟨g, i, none⟩) h.1).trans hc, hs.below hb⟩⟩

/-- The marks of ranges over functions that are done: blocks for deferred calls, all different, with none in them. -/
def Coll (W : World) (ds : List Nat) : Prop := ds.Nodup ∧ ∀ D ∈ ds, W.heap[D]? = some (.deferred (some []))
def collOf (ds : List Nat) : List Deferred := ds.map fun D => { target := .collected D, args := #[] }
theorem Coll.nil (W : World) : Coll W [] := ⟨List.nodup_nil, fun D h => by simp at h⟩
theorem Coll.lt {W : World} {ds : List Nat} (h : Coll W ds) : ∀ D ∈ ds, D < W.heap.size := fun D hD => (Array.getElem?_eq_some_iff.1 (h.2 D hD)).1
theorem Coll.cons {W : World} {ds : List Nat} {D : Nat} (h : Coll W ds) (hn : D ∉ ds) (hD : W.heap[D]? = some (.deferred (some []))) : Coll W (D :: ds) :=
  ⟨List.nodup_cons.2 ⟨hn, h.1⟩, fun E hE => (List.mem_cons.1 hE).elim (fun e => by rw [e]; exact hD) (fun hE => h.2 E hE)⟩
theorem Coll.keep {W W' : World} {ds : List Nat} (h : Coll W ds) (hk : ∀ D ∈ ds, W'.heap[D]? = W.heap[D]?) : Coll W' ds := ⟨h.1, fun D hD => (hk D hD).trans (h.2 D hD)⟩
theorem Coll.others {W W' : World} {ds : List Nat} (h : Coll W ds) (hk : KeepsOthers W W') : Coll W' ds := ⟨h.1, fun D hD => hk.same D _ (h.2 D hD) rfl⟩
theorem Coll.below {W W' : World} {ds : List Nat} (h : Coll W ds) (hk : Below W.heap.size W W') : Coll W' ds := h.keep fun D hD => hk.block D (h.lt D hD)
theorem coll_own {β : Type} {W0 : World} (ds : List Nat) (h0 : ∀ D ∈ ds, D < W0.heap.size) : OwnFrom W0.heap.size (fun (_ : β) W => Coll W ds) := fun s W W' row h hg hr =>
  h.keep fun D hD => hg.block D (h.lt D hD) (fun e => by have := (hr D e.symm).1; have := h0 D hD; omega)

/-- The end of a function that has gone through ranges over functions. -/
theorem leaves_coll {F : Fence} {n : Nat} {P : Program} {fn : Func} {tmps : Array Value} {R : Ending → World → Prop} {B : Nat} {v : Value} (w0 : World) :
    ∀ (ds : List Nat) (W : World), Coll W ds → (∀ D ∈ ds, B ≤ D) → Below B w0 W →
      (∀ W', Below B w0 W' → KeepsCells W W' → (results fn tmps).run P W' = .ok v W' ∧ R (.returned v) W') →
      LeavesInM F n P fn tmps R (collOf ds) .returning W := by
  intro ds
  induction ds with
  | nil =>
    intro W hC hlt hB hend
    obtain ⟨hr, hR⟩ := hend W hB (KeepsCells.refl W)
    exact ⟨v, hr, hR⟩
  | cons D ds ih =>
    intro W hC hlt hB hend
    have hD := hC.2 D (by simp)
    refine ⟨by simp, .inl ⟨D, _, rfl, run_takeDeferred hD, ?_⟩⟩
    have hnd := List.nodup_cons.1 hC.1
    refine ih _ ⟨hnd.2, fun E hE => (World.putObj_heap_other (fun e => hnd.1 (by rw [← e]; exact hE))).trans (hC.2 E (by simp [hE]))⟩ (fun E hE => hlt E (by simp [hE])) ?_ ?_
    · exact hB.grown (row := some D) (grownBy_putObj' W D _) (by have := hlt D (by simp); have := hC.lt D (by simp); omega) (fun k e => by cases e; exact hlt D (by simp))
    · intro W' hB' hK
      exact hend W' hB' ((KeepsCells.putObj hD rfl).trans hK)

end Go.Proofs.Ythamilolacfeoaa
