/-
  Sets that are not right, in boxes; the calls on them; append of words.
-/
import Derived.Test.YtkochcolmkgkgaaDoorOneI
import Derived.Test.YtkochcolmkgkgaaDoorBad
namespace Go.Proofs.YtkochcolmkgkgaaDoor
open Go.RowKit
set_option linter.unusedVariables false

theorem run_append_zero {P : Program} (w : World) (t ty e : TypeId) (i : TypeInfo) (ht : P.underlying t = some (.slice e)) (hi : P.info? e = some i) (A : Option Addr) (c : Nat) :
    (Builtin.append_ #[t, t] ty #[.slice none 0 0, .slice A 0 c]).run P w = .ok (.slice none 0 0) w := by
  cases A <;> simp [Builtin.append_, run_underlying ht, sizeOf, typeInfo, hi, Builtin.lenOf, Builtin.firstCells, loadCells, loadCellsFrom]
theorem wpList_append_zero {P : Program} (w : World) {ops : Array Oper} {rest : List Oper} {o : Oper} {a : Act} {Q : Exit → Act → World → Prop}
    (hg : o.guard = none) (s x : Operand) (t : TypeId) (hop : o.op = Op.call { callee := Callee.builtin Builtin.append, args := #[s, x], argTypes := #[t, t] })
    (e : TypeId) (i : TypeInfo) (h1 : P.underlying t = some (.slice e)) (h2 : P.info? e = some i) (base size n : Nat) (v : Value) (xs : List Value) (hs : a.eval s = v) (hown : w.ownsRow base e size v n xs)
    (A : Option Addr) (m c : Nat) (hm : m = 0) (hx : a.eval x = .slice A m c) (hK : wpList P ops Q rest (a.put o.dst v) w) : wpList P ops Q (o :: rest) a w := by
  subst hm
  rcases hown.2 with ⟨rfl, rfl⟩ | ⟨g, cap, cur, rfl, _, _, hn, _⟩
  · refine wpList_plain hg fun K hK' => ?_
    have hrun := run_append_zero (P := P) w t o.type e i h1 h2 A c
    unfold Oper.wp
    simp [execOp, hop, resolve, invoke, builtin, hs, hx, hrun, Result.andThen]
    exact hK' _ _ hK
  · exact wpList_append_nothing w hg s x t hop e i h1 h2 _ n cap hs hn A 0 c rfl hx hK
/-- append of words to an owned row. -/
theorem app_words (w : World) {ops : Array Oper} {rest : List Oper} {o : Oper} {a : Act} {Q : Exit → Act → World → Prop}
    (hg : o.guard = none) (s x : Operand) (hop : o.op = Op.call { callee := Callee.builtin Builtin.append, args := #[s, x], argTypes := #[22, 22] })
    (base n : Nat) (v : Value) (ys : List Nat) (hs : a.eval s = v) (hown : w.ownsRow base 30 1 v n (ys.map fun x : Nat => Value.int .u64 x))
    (A : Option Addr) (m c : Nat) (xs : List Nat) (hxl : xs.length = m) (hx : a.eval x = .slice A m c) (B : Nat) (hS : Seen w B .u64 A xs) (hlen : n + m ≤ 1000000) (hb : base ≤ w.heap.size)
    (hK : ∀ v' w', w'.ownsRow base 30 1 v' (n + m) ((ys ++ xs).map fun x : Nat => Value.int .u64 x) → Below base w w' → wpList Tryd.prog ops Q rest (a.put o.dst v') w') : wpList Tryd.prog ops Q (o :: rest) a w := by
  obtain ⟨i0, hi, hz0, hz1, hz2⟩ := info_parts infoW
  by_cases hm0 : m = 0
  · have e : xs = [] := List.eq_nil_of_length_eq_zero (hxl.trans hm0)
    refine wpList_append_zero w hg s x 22 hop 30 i0 Tryd.underlying22 hi base 1 n v _ hs hown A m c hm0 hx (hK v w ?_ (Below.refl _ _))
    rw [e, hm0, List.append_nil]; exact hown
  · obtain ⟨b, off, rfl, _, _⟩ := hS.at (i := 0) (by omega)
    refine wpList_append_own w hg s x 22 hop base 30 i0 (.int .u64 0) 1 8 Tryd.underlying22 hi hz0 hz1 hz2 rfl (by decide) _ _ _ hs hown _ _ _ (xs.map fun x : Nat => Value.int .u64 x) hx (by rw [List.length_map, hxl, Nat.mul_one]) (seen_cells hS) (by intro u hu; obtain ⟨z, _, rfl⟩ := List.mem_map.1 hu; rfl) (by unfold maxLen; omega) (by omega) hb ?_
    intro v2 w2 hown2 hgrow2 _
    refine hK v2 w2 (by rw [List.map_append]; exact hown2) ?_
    exact (Below.refl base w).grown hgrow2 hb (fun k e => (hown.lt k e).1)
theorem own_emptyW (w : World) : (w.alloc (.cells #[] 30)).ownsRow w.heap.size 30 1 (.slice (some ⟨w.heap.size, 0, none⟩) 0 0) 0 (([] : List Nat).map fun x : Nat => Value.int .u64 x) :=
  ⟨rfl, .inr ⟨w.heap.size, 0, #[], rfl, Nat.le_refl _, heap_alloc_new w _, Nat.le_refl _, Nat.zero_le _, rfl, rfl⟩⟩
theorem seen_one (w : World) (x : Nat) (t : TypeId) : Seen (w.alloc (.cells #[.int .u64 x] t)) (w.heap.size + 1) .u64 (some ⟨w.heap.size, 0, none⟩) [x] := fun i y hy => by
  have hb : (w.alloc (.cells #[.int .u64 x] t)).heap[w.heap.size]? = some (.cells #[.int .u64 x] t) := heap_alloc_new w _
  match i, hy with
  | 0, hy =>
    simp at hy
    subst hy
    refine ⟨_, _, rfl, by omega, ?_⟩
    unfold World.cell?
    simp only [Nat.add_zero]
    rw [hb]
    rfl
  | i + 1, hy => simp at hy

/-- In the world W the box b holds a set that is not right. -/
def BadAt (W : World) (b : Nat) (N : Int) (q : Nat) (a : Option Addr) (c : Nat) (zs : List Nat) : Prop := Box W b (.int .i64 N) (.slice a q c) ∧ Seen W W.heap.size .u64 a zs ∧ zs.length = q ∧ (∀ x ∈ zs, x < 2 ^ 64) ∧ NotRt N zs
section
variable {W W' : World} {b N q c : Nat} {a : Option Addr} {zs : List Nat} (h : SetAt W b N q a c zs) (i : Int) (hi : ¬ (0 ≤ i ∧ i < N))
include h hi
theorem with_argat : Calls Tryd.prog 36 #[.agg #[.int .i64 N, .slice a q c], .int .i64 i] W (ErrOut W 2) :=
  withI_arg N a q c zs h.2.2.1 h.2.2.2.2.2 i hi W W.heap.size h.2.1 (Nat.le_refl _)
theorem without_argat : Calls Tryd.prog 37 #[.agg #[.int .i64 N, .slice a q c], .int .i64 i] W (ErrOut W 2) :=
  withoutI_arg N a q c zs h.2.2.1 h.2.2.2.2.2 i hi W W.heap.size h.2.1 (Nat.le_refl _)
theorem of_argat (t : TypeId) : Calls Tryd.prog 35 #[.int .i64 N, .slice (some ⟨W.heap.size, 0, none⟩) 1 1] (W.alloc (.cells #[.int .i64 i] t)) (ErrOut (W.alloc (.cells #[.int .i64 i] t)) 2) :=
  of_no N (by have := h.2.2.2.2.2.1; omega) q (by rw [← h.2.2.1]; exact h.2.2.2.2.2.2.1.symm) (some ⟨W.heap.size, 0, none⟩) 1 1 [i] rfl (by unfold maxLen; omega) (W.alloc (.cells #[.int .i64 i] t)) (W.heap.size + 1) (seenI_one W i t) (by simp) (fun hh => hi (hh i (by simp)))
theorem of_argat' (t : TypeId) (p : Nat) (hp : W.heap.size = p) : Calls Tryd.prog 35 #[.int .i64 N, .slice (some ⟨p, 0, none⟩) 1 1] (W.alloc (.cells #[.int .i64 i] t)) (ErrOut (W.alloc (.cells #[.int .i64 i] t)) 2) := by
  subst hp
  exact of_argat h i hi t
theorem has_argat : Calls Tryd.prog 28 #[.agg #[.int .i64 N, .slice a q c], .int .i64 i] W fun e w' => e = .returned (.bool false) ∧ Below W.heap.size W w' :=
  has_at h i false (by
    by_cases h0 : 0 ≤ i
    · rw [Bm.bit_high h.2.2.2.2.2.2.2.2 (show N ≤ i.toNat by omega), Bool.and_false]
    · rw [decide_eq_false h0, Bool.false_and])
end
section
variable {W W' : World} {b q c : Nat} {N : Int} {a : Option Addr} {zs : List Nat}
theorem BadAt.keep (h : BadAt W b N q a c zs) (hb : Below W.heap.size W W') : BadAt W' b N q a c zs := ⟨h.1.keep hb, (h.2.1.below hb).more hb.size, h.2.2⟩
theorem BadAt.alloc (h : BadAt W b N q a c zs) (o : Obj) : BadAt (W.alloc o) b N q a c zs := ⟨h.1.alloc o, (h.2.1.alloc (Nat.le_refl _) o).more (by simp), h.2.2⟩
variable (h : BadAt W b N q a c zs)
include h
theorem with_badat (i : Int) : Calls Tryd.prog 36 #[.agg #[.int .i64 N, .slice a q c], .int .i64 i] W (ErrOut W 50) :=
  withI_bad N a q c zs h.2.2.1 h.2.2.2.1 h.2.2.2.2 i W W.heap.size h.2.1 (Nat.le_refl _)
theorem without_badat (i : Int) : Calls Tryd.prog 37 #[.agg #[.int .i64 N, .slice a q c], .int .i64 i] W (ErrOut W 50) :=
  withoutI_bad N a q c zs h.2.2.1 h.2.2.2.1 h.2.2.2.2 i W W.heap.size h.2.1 (Nat.le_refl _)
theorem not_badat : Calls Tryd.prog 19 #[.agg #[.int .i64 N, .slice a q c]] W (ErrOut W 50) :=
  not_bad N a q c zs h.2.2.1 h.2.2.2.1 h.2.2.2.2 W W.heap.size h.2.1 (Nat.le_refl _)
theorem or_badat (M : Int) (a2 : Option Addr) (m d : Nat) : Calls Tryd.prog 30 #[.agg #[.int .i64 N, .slice a q c], .agg #[.int .i64 M, .slice a2 m d]] W (ErrOut W 50) :=
  or_err N M a a2 q m c d 50 W fun W' hb => join_bad1 N M a a2 q m c d zs h.2.2.1 h.2.2.2.1 _ W' W.heap.size (h.2.1.below hb) hb.size h.2.2.2.2
theorem minus_badat (M : Int) (a2 : Option Addr) (m d : Nat) : Calls Tryd.prog 32 #[.agg #[.int .i64 N, .slice a q c], .agg #[.int .i64 M, .slice a2 m d]] W (ErrOut W 50) :=
  minus_err N M a a2 q m c d 50 W fun W' hb => join_bad1 N M a a2 q m c d zs h.2.2.1 h.2.2.2.1 _ W' W.heap.size (h.2.1.below hb) hb.size h.2.2.2.2
theorem and_badat {b2 M m d : Nat} {a2 : Option Addr} {ys : List Nat} (h2 : SetAt W b2 M m a2 d ys) : Calls Tryd.prog 31 #[.agg #[.int .i64 M, .slice a2 m d], .agg #[.int .i64 N, .slice a q c]] W (ErrOut W 50) :=
  and_err M N a2 a m q d c 50 W fun W' hb => join_bad2 M N a2 a m q d c ys zs h2.2.2.1 h.2.2.1 h2.2.2.2.2.2.2.2.1 h.2.2.2.1 _ W' W.heap.size (h2.2.1.below hb) (h.2.1.below hb) hb.size M rfl h2.2.2.2.2.2 h.2.2.2.2
theorem select_badat (i : Int) : Calls Tryd.prog 20 #[.agg #[.int .i64 N, .slice a q c], .int .i64 i] W fun e w' => e = .returned (.tuple #[.int .i64 0, .bool false]) ∧ Below W.heap.size W w' :=
  select_bad N a q c zs h.2.2.1 h.2.2.2.1 h.2.2.2.2 W W.heap.size h.2.1 (Nat.le_refl _) i
theorem next_badat (i : Int) : Calls Tryd.prog 26 #[.agg #[.int .i64 N, .slice a q c], .int .i64 i] W fun e w' => e = .returned (.tuple #[.int .i64 0, .bool false]) ∧ Below W.heap.size W w' :=
  next_bad N a q c zs h.2.2.1 h.2.2.2.1 h.2.2.2.2 W W.heap.size h.2.1 (Nat.le_refl _) i
theorem before_badat (i : Int) : Calls Tryd.prog 27 #[.agg #[.int .i64 N, .slice a q c], .int .i64 i] W fun e w' => e = .returned (.tuple #[.int .i64 0, .bool false]) ∧ Below W.heap.size W w' :=
  before_bad N a q c zs h.2.2.1 h.2.2.2.1 h.2.2.2.2 W W.heap.size h.2.1 (Nat.le_refl _) i
theorem right_badat : Calls Tryd.prog 34 #[.agg #[.int .i64 N, .slice a q c]] W fun e w' => e = .returned (.bool false) ∧ Below W.heap.size W w' :=
  right_no N a q c zs h.2.2.1 h.2.2.2.1 h.2.2.2.2 W W.heap.size h.2.1 (Nat.le_refl _)
theorem has_badat (i : Int) : Calls Tryd.prog 28 #[.agg #[.int .i64 N, .slice a q c], .int .i64 i] W fun e w' => e = .returned (.bool false) ∧ Below W.heap.size W w' :=
  has_bad N a q c zs h.2.2.1 h.2.2.2.1 h.2.2.2.2 W W.heap.size h.2.1 (Nat.le_refl _) i
theorem count_badat : Calls Tryd.prog 21 #[.agg #[.int .i64 N, .slice a q c]] W fun e w' => e = .returned (.int .i64 0) ∧ Below W.heap.size W w' :=
  count_bad N a q c zs h.2.2.1 h.2.2.2.1 h.2.2.2.2 W W.heap.size h.2.1 (Nat.le_refl _)
theorem rank_badat (i : Int) : Calls Tryd.prog 25 #[.agg #[.int .i64 N, .slice a q c], .int .i64 i] W fun e w' => e = .returned (.int .i64 0) ∧ Below W.heap.size W w' :=
  rank_bad N a q c zs h.2.2.1 h.2.2.2.1 h.2.2.2.2 W W.heap.size h.2.1 (Nat.le_refl _) i
theorem members_badat : Calls Tryd.prog 24 #[.agg #[.int .i64 N, .slice a q c]] W fun e w' => (∃ A d, e = .returned (.slice A 0 d)) ∧ Below W.heap.size W w' :=
  (members_bad N a q c zs h.2.2.1 h.2.2.2.1 h.2.2.2.2 W W.heap.size h.2.1 (Nat.le_refl _)).mono fun e w' hh => by
    obtain ⟨⟨v, rfl, hv⟩, hb⟩ := hh
    obtain ⟨A, d, rfl, _⟩ := own_slice (xs := []) (k := .i64) hv
    exact ⟨⟨A, d, rfl⟩, hb⟩
theorem runs_badat : Calls Tryd.prog 22 #[.agg #[.int .i64 N, .slice a q c]] W fun e w' => (∃ A d, e = .returned (.slice A 0 d)) ∧ Below W.heap.size W w' :=
  (runs_bad N a q c zs h.2.2.1 h.2.2.2.1 h.2.2.2.2 W W.heap.size h.2.1 (Nat.le_refl _)).mono fun e w' hh => by
    obtain ⟨⟨v, rfl, hv⟩, hb⟩ := hh
    obtain ⟨A, d, rfl, _⟩ := own_slice2 (l := []) hv
    exact ⟨⟨A, d, rfl⟩, hb⟩
end
/-- A cell of another block is written: the set stays. -/
theorem SetAt.other {W : World} {b N q c : Nat} {a : Option Addr} {zs : List Nat} (h : SetAt W b N q a c zs) {p : Addr} (hb : b ≠ p.block) (ha : ∀ g off, a = some ⟨g, off, none⟩ → g ≠ p.block) (x : Value) : SetAt (W.setCell p x) b N q a c zs :=
  ⟨h.1.other hb x, (RowF.apart (W := W) (W' := W.setCell p x) ⟨h.2.1, h.2.2⟩ (by simp) (fun g off e hg => Below.heap_setCell _ p x g (ha g off e))).1, h.2.2⟩
theorem rowW {w : World} {base n c : Nat} {a : Option Addr} {xs : List Value} (h : w.ownsRow base 30 1 (.slice a n c) n xs) (hn : 0 < n) : ∃ g, a = some ⟨g, 0, none⟩ ∧ base ≤ g ∧ g < w.heap.size := by
  rcases h.2 with ⟨h0, hx⟩ | ⟨g, cap, cur, hv, hg, hh, _⟩
  · injection h0 with _ h1
    omega
  · injection hv with h1
    exact ⟨g, h1, hg, (Array.getElem?_eq_some_iff.1 hh).1⟩
theorem two_cells (w : World) (a b : Value) (t : TypeId) : (w.alloc (.cells #[a, b] t)).cell? ⟨w.heap.size, 0, none⟩ = some a ∧ (w.alloc (.cells #[a, b] t)).cell? ⟨w.heap.size, 1, none⟩ = some b := by
  have hb : (w.alloc (.cells #[a, b] t)).heap[w.heap.size]? = some (.cells #[a, b] t) := heap_alloc_new w _
  generalize w.alloc (.cells #[a, b] t) = W at hb
  unfold World.cell?
  dsimp only
  rw [hb]
  exact ⟨rfl, rfl⟩
theorem six_cells (w : World) (a : Value) (t : TypeId) (k : Nat) (hk : k < 6) : (w.alloc (.cells #[a, a, a, a, a, a] t)).cell? ⟨w.heap.size, k, none⟩ = some a := by
  have hb : (w.alloc (.cells #[a, a, a, a, a, a] t)).heap[w.heap.size]? = some (.cells #[a, a, a, a, a, a] t) := heap_alloc_new w _
  generalize w.alloc (.cells #[a, a, a, a, a, a] t) = W at hb
  unfold World.cell?
  dsimp only
  rw [hb]
  rcases (show k = 0 ∨ k = 1 ∨ k = 2 ∨ k = 3 ∨ k = 4 ∨ k = 5 by omega) with rfl | rfl | rfl | rfl | rfl | rfl <;> rfl
/-- The four defects. -/
theorem bad_more {N : Nat} {ys : List Nat} (h : Bm.Rt N ys) : NotRt N (ys ++ [0]) := fun M hM hR => by
  obtain rfl : N = M := by omega
  have h1 := hR.2.1
  have h2 := h.2.1
  simp at h1
  omega
theorem bad_less {N : Int} {ys : List Nat} (h : N < 0) : NotRt N ys := fun M hM _ => by omega
theorem bad_great {N : Int} {ys : List Nat} (h : 65536 < N) : NotRt N ys := fun M hM hR => by have := hR.1; omega
theorem bad_bit {N j : Nat} {ys : List Nat} (h : Bm.Rt N ys) (hu : N % 64 ≠ 0) (hj : N % 64 + j < 64) : NotRt N (Bm.setBit ys (N + j)) := fun M hM hR => by
  obtain rfl : N = M := by omega
  have h1 := h.2.1
  have h2 := Bm.setBit_bit h.2.2.1 (i := N + j) (by omega) (N + j)
  rw [Bm.bit_high hR.2.2.2 (by omega)] at h2
  simp at h2
end Go.Proofs.YtkochcolmkgkgaaDoor
