/-
  Right sets in boxes; the calls on them.
-/
import Derived.Test.YtkochcolmkgkgaaDoorAlgM
import Derived.Test.YtkochcolmkgkgaaDoorMade
import Derived.Test.YtkochcolmkgkgaaDoorAwakeW
import Derived.Test.YtkochcolmkgkgaaDoorNot
import Derived.Test.YtkochcolmkgkgaaDoorWith
import Derived.Test.YtkochcolmkgkgaaDoorTabZ
namespace Go.Proofs.YtkochcolmkgkgaaDoor
open Go.RowKit
set_option linter.unusedVariables false

/-- In the world W the box b holds the right set with the words zs. -/
def SetAt (W : World) (b N q : Nat) (a : Option Addr) (c : Nat) (zs : List Nat) : Prop := Box W b (.int .i64 N) (.slice a q c) ∧ Seen W W.heap.size .u64 a zs ∧ zs.length = q ∧ q ≤ c ∧ c ≤ maxLen ∧ Bm.Rt N zs
section
variable {W W' : World} {b N q c : Nat} {a : Option Addr} {zs : List Nat}
theorem SetAt.keep (h : SetAt W b N q a c zs) (hb : Below W.heap.size W W') : SetAt W' b N q a c zs := ⟨h.1.keep hb, (h.2.1.below hb).more hb.size, h.2.2⟩
theorem SetAt.alloc (h : SetAt W b N q a c zs) (o : Obj) : SetAt (W.alloc o) b N q a c zs := ⟨h.1.alloc o, (h.2.1.alloc (Nat.le_refl _) o).more (by simp), h.2.2⟩
theorem SetAt.new {base g : Nat} (h : OwnW W base g q zs) (hR : Bm.Rt N zs) : SetAt (W.alloc (.cells #[.int .i64 N, .slice (some ⟨g, 0, none⟩) q q] 24)) W.heap.size N q (some ⟨g, 0, none⟩) q zs :=
  ⟨Box.new _ _ _, (h.seen.alloc (Nat.le_refl _) _).more (by simp), h.len, Nat.le_refl _, by
    rcases h.2 with ⟨h0, _⟩ | ⟨g', cap, cur, hv, _, _, _, hm, _⟩
    · cases h0
    · injection hv with _ _ hc
      omega, hR⟩
theorem SetAt.newS {base : Nat} (h : W.ownsRow base 30 1 (.slice a q c) q (zs.map fun x : Nat => Value.int .u64 x)) (hR : Bm.Rt N zs) : SetAt (W.alloc (.cells #[.int .i64 N, .slice a q c] 24)) W.heap.size N q a c zs := by
  obtain ⟨a', c', hv, h1, h2, h3, h4⟩ := own_slice h
  injection hv with hv1 _ hv2
  subst hv1
  subst hv2
  exact ⟨Box.new _ _ _, (h1.alloc (Nat.le_refl _) _).more (by simp), h2, h3, h4, hR⟩
theorem SetAt.copy (h : SetAt W b N q a c zs) : SetAt (W.alloc (.cells #[.int .i64 N, .slice a q c] 24)) W.heap.size N q a c zs :=
  ⟨Box.new _ _ _, (h.2.1.alloc (Nat.le_refl _) _).more (by simp), h.2.2⟩
theorem ten_cells (w : World) (a b c d e f g h i j : Value) : (w.alloc (.cells #[a, b, c, d, e, f, g, h, i, j] 24)).cell? ⟨w.heap.size, 0, none⟩ = some a ∧ (w.alloc (.cells #[a, b, c, d, e, f, g, h, i, j] 24)).cell? ⟨w.heap.size, 1, none⟩ = some b ∧ (w.alloc (.cells #[a, b, c, d, e, f, g, h, i, j] 24)).cell? ⟨w.heap.size, 2, none⟩ = some c ∧ (w.alloc (.cells #[a, b, c, d, e, f, g, h, i, j] 24)).cell? ⟨w.heap.size, 3, none⟩ = some d ∧ (w.alloc (.cells #[a, b, c, d, e, f, g, h, i, j] 24)).cell? ⟨w.heap.size, 4, none⟩ = some e ∧ (w.alloc (.cells #[a, b, c, d, e, f, g, h, i, j] 24)).cell? ⟨w.heap.size, 5, none⟩ = some f ∧ (w.alloc (.cells #[a, b, c, d, e, f, g, h, i, j] 24)).cell? ⟨w.heap.size, 6, none⟩ = some g ∧ (w.alloc (.cells #[a, b, c, d, e, f, g, h, i, j] 24)).cell? ⟨w.heap.size, 7, none⟩ = some h ∧ (w.alloc (.cells #[a, b, c, d, e, f, g, h, i, j] 24)).cell? ⟨w.heap.size, 8, none⟩ = some i ∧ (w.alloc (.cells #[a, b, c, d, e, f, g, h, i, j] 24)).cell? ⟨w.heap.size, 9, none⟩ = some j := by
  have hb : (w.alloc (.cells #[a, b, c, d, e, f, g, h, i, j] 24)).heap[w.heap.size]? = some (.cells #[a, b, c, d, e, f, g, h, i, j] 24) := heap_alloc_new w _
  generalize w.alloc (.cells #[a, b, c, d, e, f, g, h, i, j] 24) = W at hb
  unfold World.cell?
  dsimp only
  rw [hb]
  refine ⟨rfl, rfl, rfl, rfl, rfl, rfl, rfl, rfl, rfl, rfl⟩
variable (h : SetAt W b N q a c zs)
include h
theorem right_at : Calls Tryd.prog 34 #[.agg #[.int .i64 N, .slice a q c]] W fun e w' => e = .returned (.bool true) ∧ Below W.heap.size W w' :=
  right_yes N a q c zs h.2.2.1 h.2.2.2.2.2 W W.heap.size h.2.1 (Nat.le_refl _)
theorem has_at (i : Int) (r : Bool) (hr : (decide (0 ≤ i) && (Bm.val zs).testBit i.toNat) = r) : Calls Tryd.prog 28 #[.agg #[.int .i64 N, .slice a q c], .int .i64 i] W fun e w' => e = .returned (.bool r) ∧ Below W.heap.size W w' :=
  has_any N a q c zs h.2.2.1 h.2.2.2.2.2 W W.heap.size h.2.1 (Nat.le_refl _) i r hr
theorem count_at (r : Nat) (hr : Bm.cnt (Bm.val zs) N = r) : Calls Tryd.prog 21 #[.agg #[.int .i64 N, .slice a q c]] W fun e w' => e = .returned (.int .i64 r) ∧ Below W.heap.size W w' :=
  count_any N a q c zs h.2.2.1 h.2.2.2.1 h.2.2.2.2.1 h.2.2.2.2.2 W W.heap.size h.2.1 (Nat.le_refl _) r hr
theorem not_at (ys : List Nat) (hz : Bm.notL N zs = ys) : Calls Tryd.prog 19 #[.agg #[.int .i64 N, .slice a q c]] W (SetOut W N q ys) :=
  not_any N a q c zs ys h.2.2.1 h.2.2.2.2.2 W W.heap.size h.2.1 (Nat.le_refl _) hz
theorem with_at (i : Int) (hi : 0 ≤ i) (hi2 : i < N) : Calls Tryd.prog 36 #[.agg #[.int .i64 N, .slice a q c], .int .i64 i] W (SetOut W N q (List.zipWith Bm.orW zs (Bm.ofL q [i.toNat]))) :=
  withI_any N a q c zs h.2.2.1 h.2.2.2.2.2 W W.heap.size h.2.1 (Nat.le_refl _) i hi hi2
theorem without_at (i : Int) (hi : 0 ≤ i) (hi2 : i < N) : Calls Tryd.prog 37 #[.agg #[.int .i64 N, .slice a q c], .int .i64 i] W (SetOut W N q (List.zipWith Bm.minusW zs (Bm.ofL q [i.toNat]))) :=
  withoutI_any N a q c zs h.2.2.1 h.2.2.2.2.2 W W.heap.size h.2.1 (Nat.le_refl _) i hi hi2
variable {b2 d : Nat} {a2 : Option Addr} {ys : List Nat} (h2 : SetAt W b2 N q a2 d ys) {ks : List Nat}
include h2
theorem or_at (hz : List.zipWith Bm.orW zs ys = ks) : Calls Tryd.prog 30 #[.agg #[.int .i64 N, .slice a q c], .agg #[.int .i64 N, .slice a2 q d]] W (SetOut W N q ks) :=
  or_any N a a2 q c d zs ys ks h.2.2.1 h2.2.2.1 h.2.2.2.2.2 h2.2.2.2.2.2 hz W W.heap.size h.2.1 h2.2.1 (Nat.le_refl _)
theorem and_at (hz : List.zipWith Bm.andW zs ys = ks) : Calls Tryd.prog 31 #[.agg #[.int .i64 N, .slice a q c], .agg #[.int .i64 N, .slice a2 q d]] W (SetOut W N q ks) :=
  and_any N a a2 q c d zs ys ks h.2.2.1 h2.2.2.1 h.2.2.2.2.2 h2.2.2.2.2.2 hz W W.heap.size h.2.1 h2.2.1 (Nat.le_refl _)
theorem minus_at (hz : List.zipWith Bm.minusW zs ys = ks) : Calls Tryd.prog 32 #[.agg #[.int .i64 N, .slice a q c], .agg #[.int .i64 N, .slice a2 q d]] W (SetOut W N q ks) :=
  minus_any N a a2 q c d zs ys ks h.2.2.1 h2.2.2.1 h.2.2.2.2.2 h2.2.2.2.2.2 hz W W.heap.size h.2.1 h2.2.1 (Nat.le_refl _)
end
theorem same_at {W : World} {b1 b2 N q c d : Nat} {a1 a2 : Option Addr} {zs : List Nat} (h1 : SetAt W b1 N q a1 c zs) (h2 : SetAt W b2 N q a2 d zs) :
    Calls Tryd.prog 33 #[.slice a1 q c, .slice a2 q d] W fun e w' => e = .returned (.bool true) ∧ Below W.heap.size W w' :=
  sameNums_at a1 a2 c d zs zs q q true h1.2.2.1 h2.2.2.1 (by simp) W.heap.size W.heap.size W h1.2.1 h2.2.1 (Nat.le_trans h1.2.2.2.1 h1.2.2.2.2.1) (Nat.le_trans h2.2.2.2.1 h2.2.2.2.2.1)
end Go.Proofs.YtkochcolmkgkgaaDoor
