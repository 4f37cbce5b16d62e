/-
  Boxes that hold a set.
-/
import Derived.Test.YtkochcolmkgkgaaDoorNext
namespace Go.Proofs.YtkochcolmkgkgaaDoor
open Go.RowKit
set_option linter.unusedVariables false

/-- Block b is a box with a set. -/
def Box (w : World) (b : Nat) (u v : Value) : Prop := w.heap[b]? = some (.cells #[u, v] 24)
theorem Box.lt {w : World} {b : Nat} {u v : Value} (h : Box w b u v) : b < w.heap.size := (Array.getElem?_eq_some_iff.1 h).1
theorem Box.new (w : World) (u v : Value) : Box (w.alloc (.cells #[u, v] 24)) w.heap.size u v := heap_alloc_new w _
theorem Box.alloc {w : World} {b : Nat} {u v : Value} (h : Box w b u v) (o : Obj) : Box (w.alloc o) b u v := (Below.heap_alloc w o b h.lt).trans h
theorem Box.below {w w' : World} {n b : Nat} {u v : Value} (h : Box w b u v) (hb : Below n w w') (hn : b < n) : Box w' b u v := (hb.block b hn).trans h
theorem Box.keep {w w' : World} {b : Nat} {u v : Value} (h : Box w b u v) (hb : Below w.heap.size w w') : Box w' b u v := h.below hb h.lt
theorem Box.other {w : World} {b : Nat} {u v : Value} (h : Box w b u v) {p : Addr} (hp : b ≠ p.block) (x : Value) : Box (w.setCell p x) b u v := (Below.heap_setCell w p x b hp).trans h
theorem Box.cells {w : World} {b : Nat} {u v : Value} (h : Box w b u v) : w.cell? ⟨b, 0, none⟩ = some u ∧ w.cell? ⟨b, 1, none⟩ = some v ∧ w.frozen? ⟨b, 0, none⟩ = false ∧ w.frozen? ⟨b, 1, none⟩ = false := by
  unfold Box at h
  refine ⟨?_, ?_, ?_, ?_⟩
  · unfold World.cell?; rw [h]; rfl
  · unfold World.cell?; rw [h]; rfl
  · unfold World.frozen?; rw [h]; rfl
  · unfold World.frozen?; rw [h]; rfl
theorem Box.drew {w : World} {b : Nat} {u v : Value} (h : Box w b u v) : Box w.drew b u v := h
theorem box3 (w : World) (u1 v1 u2 v2 u3 v3 : Value) : Box (((w.alloc (.cells #[u1, v1] 24)).alloc (.cells #[u2, v2] 24)).alloc (.cells #[u3, v3] 24)) w.heap.size u1 v1 ∧ Box (((w.alloc (.cells #[u1, v1] 24)).alloc (.cells #[u2, v2] 24)).alloc (.cells #[u3, v3] 24)) (w.heap.size + 1) u2 v2 ∧ Box (((w.alloc (.cells #[u1, v1] 24)).alloc (.cells #[u2, v2] 24)).alloc (.cells #[u3, v3] 24)) (w.heap.size + 1 + 1) u3 v3 := by
  refine ⟨((Box.new w u1 v1).alloc _).alloc _, ?_, ?_⟩
  · have := (Box.new (w.alloc (.cells #[u1, v1] 24)) u2 v2).alloc (.cells #[u3, v3] 24)
    simpa using this
  · have := Box.new ((w.alloc (.cells #[u1, v1] 24)).alloc (.cells #[u2, v2] 24)) u3 v3
    simpa using this
theorem box2 (w : World) (u1 v1 u2 v2 : Value) : Box ((w.alloc (.cells #[u1, v1] 24)).alloc (.cells #[u2, v2] 24)) w.heap.size u1 v1 ∧ Box ((w.alloc (.cells #[u1, v1] 24)).alloc (.cells #[u2, v2] 24)) (w.heap.size + 1) u2 v2 := by
  refine ⟨(Box.new w u1 v1).alloc _, ?_⟩
  have := Box.new (w.alloc (.cells #[u1, v1] 24)) u2 v2
  simpa using this
theorem below2 (w : World) (o1 o2 : Obj) : Below w.heap.size w ((w.alloc o1).alloc o2) := ((Below.refl _ w).alloc (Nat.le_refl _) _).alloc (by simp) _
theorem below3 (w : World) (o1 o2 o3 : Obj) : Below w.heap.size w (((w.alloc o1).alloc o2).alloc o3) := (((Below.refl _ w).alloc (Nat.le_refl _) _).alloc (by simp) _).alloc (by simp; omega) _
theorem Box.set0 {w : World} {b : Nat} {u v : Value} (h : Box w b u v) (u' : Value) : Box (w.setCell ⟨b, 0, none⟩ u') b u' v := by
  unfold Box at *
  unfold World.setCell
  show (Array.modify _ _ _)[b]? = _
  rw [Array.getElem?_modify, if_pos rfl, h]
  rfl
theorem Box.set1 {w : World} {b : Nat} {u v : Value} (h : Box w b u v) (v' : Value) : Box (w.setCell ⟨b, 1, none⟩ v') b u v' := by
  unfold Box at *
  unfold World.setCell
  show (Array.modify _ _ _)[b]? = _
  rw [Array.getElem?_modify, if_pos rfl, h]
  rfl
/-- The set that a box got. -/
theorem Box.set {w : World} {b : Nat} {u v : Value} (h : Box w b u v) (u' v' : Value) : Box ((w.setCell ⟨b, 0, none⟩ u').setCell ⟨b, 1, none⟩ v') b u' v' := (h.set0 u').set1 v'

end Go.Proofs.YtkochcolmkgkgaaDoor
