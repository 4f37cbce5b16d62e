/-
  Several new blocks, one after the other.
-/
import Derived.Below
namespace Go.Proofs.YtainjicbmjfnkaaDoor
open Go.RowKit

def allocs (w : World) (os : List Obj) : World := os.foldl World.alloc w
theorem allocs_heap (w : World) (os : List Obj) : (allocs w os).heap.toList = w.heap.toList ++ os := by
  induction os generalizing w with
  | nil => simp [allocs]
  | cons o os ih =>
    have := ih (w.alloc o)
    have hp : (w.alloc o).heap = w.heap.push o := rfl
    rw [hp] at this
    simpa [allocs] using this
theorem allocs_size (w : World) (os : List Obj) : (allocs w os).heap.size = w.heap.size + os.length := by
  have := congrArg List.length (allocs_heap w os)
  simpa using this
theorem allocs_at (w : World) (os : List Obj) (j : Nat) : (allocs w os).heap[w.heap.size + j]? = os[j]? := by
  rw [← Array.getElem?_toList, allocs_heap, List.getElem?_append_right (by simp)]
  simp
theorem allocs_below (w : World) (os : List Obj) : Below w.heap.size w (allocs w os) := by
  have key : ∀ (os : List Obj) (w0 w : World), Below w0.heap.size w0 w → Below w0.heap.size w0 (allocs w os) := by
    intro os
    induction os with
    | nil => exact fun w0 w h => h
    | cons o os ih => exact fun w0 w h => ih w0 (w.alloc o) (h.alloc h.size o)
  exact key os w w (Below.refl _ _)

theorem own_form {w : World} {base size n : Nat} {e : TypeId} {v : Value} {xs : List Value} (h : w.ownsRow base e size v n xs) (hn : 0 < n) : ∃ g cap, v = .slice (some ⟨g, 0, none⟩) n cap := by
  rcases h.2 with ⟨_, h0⟩ | ⟨g, cap, cur, hv, _⟩
  · omega
  · exact ⟨g, cap, hv⟩
theorem name_world {n : Nat} {w W : World} (_ : Below n w W) : ∃ W0, W = W0 := ⟨_, rfl⟩

end Go.Proofs.YtainjicbmjfnkaaDoor
