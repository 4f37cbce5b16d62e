/-
  Rows of words of the call's own.
-/
import Derived.Test.YtainjicbmjfnkaaDoorAppend
import Derived.Test.YtainjicbmjfnkaaDoorArgs
import Derived.Test.YtainjicbmjfnkaaDoorHeap
import Derived.Test.YtainjicbmjfnkaaDoorCheck
import Derived.ArgAppend
import Derived.OwnWalk
import Derived.IntWalk
import Derived.Laws.OwnMore
namespace Go.Proofs.YtainjicbmjfnkaaDoor
open Go.RowKit
set_option linter.unusedVariables false

theorem infoW : (Tryd.prog.info? 22).map (fun i => (i.zero, i.size, i.bytes)) = some (some (.int .u64 0), 1, 8) := by kernel_rfl
theorem info_parts {o : Option TypeInfo} {z : Option Value} {s b : Nat} (h : o.map (fun i => (i.zero, i.size, i.bytes)) = some (z, s, b)) : ∃ i0, o = some i0 ∧ i0.zero = z ∧ i0.size = s ∧ i0.bytes = b := by
  obtain ⟨i, hi, he⟩ := Option.map_eq_some_iff.1 h
  injection he with h1 h2
  injection h2 with h2 h3
  exact ⟨i, hi, h1, h2, h3⟩
theorem seen_cells {w : World} {B : Nat} {k : IntKind} {ad : Addr} {xs : List Nat} (h : Seen w B k (some ad) xs) : ∀ j u, (xs.map fun x : Nat => Value.int k x)[j]? = some u → w.cell? (ad.add j) = some u := by
  intro j u hu
  rw [List.getElem?_map] at hu
  cases hx : xs[j]? with
  | none => rw [hx] at hu; simp at hu
  | some x =>
    rw [hx] at hu
    simp at hu
    obtain ⟨b, off, e, _, hc⟩ := h j x hx
    cases e
    rw [← hu]
    by_cases h0 : j = 0
    · subst h0; simpa [Addr.add] using hc
    · simpa [Addr.add, h0] using hc
theorem own_slice {w : World} {base n : Nat} {k : IntKind} {e : TypeId} {v : Value} {xs : List Nat} (h : w.ownsRow base e 1 v n (xs.map fun x : Nat => Value.int k x)) :
    ∃ a c, v = .slice a n c ∧ Seen w w.heap.size k a xs ∧ xs.length = n ∧ n ≤ c ∧ c ≤ maxLen := by
  have hl : xs.length = n := by simpa using h.1
  rcases h.2 with ⟨rfl, rfl⟩ | ⟨g, cap, cur, rfl, hg, hh, h1, h2, _⟩
  · exact ⟨none, 0, rfl, by rw [List.eq_nil_of_length_eq_zero hl]; exact Seen.nil _ _ _ _, hl, Nat.le_refl _, by unfold maxLen; omega⟩
  · exact ⟨_, cap, rfl, Seen.of_own h, hl, h1, h2⟩

set_option maxRecDepth 100000 in
theorem own_sliceW {w : World} {base n : Nat} {v : Value} {xs : List Nat} (h : w.ownsRow base 22 1 v n (xs.map fun x : Nat => Value.int .u64 x)) :
    ∃ a c, v = .slice a n c ∧ w.ownsRow base 22 1 (.slice a n c) n (xs.map fun x : Nat => Value.int .u64 x) := by
  obtain ⟨a, c, rfl, _⟩ := own_slice h
  exact ⟨a, c, rfl, h⟩

theorem run_append_zero {P : Program} (w : World) (t ty e : TypeId) (i : TypeInfo) (ht : P.underlying t = some (.slice e)) (hi : P.info? e = some i) (A : Option Addr) (c : Nat) :
    (Builtin.append_ #[t, t] ty #[.slice none 0 0, .slice A 0 c]).run P w = .ok (.slice none 0 0) w := by
  cases A <;> simp [Builtin.append_, run_underlying ht, sizeOf, typeInfo, hi, Builtin.lenOf, Builtin.firstCells, loadCells, loadCellsFrom]
theorem wpList_append_zero {P : Program} (w : World) {ops : Array Oper} {rest : List Oper} {o : Oper} {a : Act} {Q : Exit → Act → World → Prop}
    (hg : o.guard = none) (s x : Operand) (t : TypeId) (hop : o.op = Op.call { callee := Callee.builtin Builtin.append, args := #[s, x], argTypes := #[t, t] })
    (e : TypeId) (i : TypeInfo) (h1 : P.underlying t = some (.slice e)) (h2 : P.info? e = some i) (base size n : Nat) (v : Value) (xs : List Value) (hs : a.eval s = v) (hown : w.ownsRow base e size v n xs)
    (A : Option Addr) (m c : Nat) (hm : m = 0) (hx : a.eval x = .slice A m c) (hK : wpList P ops Q rest (a.put o.dst v) w) : wpList P ops Q (o :: rest) a w := by
  subst hm
  rcases hown.2 with ⟨rfl, rfl⟩ | ⟨g, cap, cur, rfl, _, _, hn, _⟩
  · refine wpList_plain hg fun K hK' => ?_
    have hrun := run_append_zero (P := P) w t o.type e i h1 h2 A c
    unfold Oper.wp
    simp [execOp, hop, resolve, invoke, builtin, hs, hx, hrun, Result.andThen]
    exact hK' _ _ hK
  · exact wpList_append_nothing w hg s x t hop e i h1 h2 _ n cap hs hn A 0 c rfl hx hK
/-- append of words to an owned row. -/
theorem app_words (w : World) {ops : Array Oper} {rest : List Oper} {o : Oper} {a : Act} {Q : Exit → Act → World → Prop}
    (hg : o.guard = none) (s x : Operand) (hop : o.op = Op.call { callee := Callee.builtin Builtin.append, args := #[s, x], argTypes := #[25, 25] })
    (base n : Nat) (v : Value) (ys : List Nat) (hs : a.eval s = v) (hown : w.ownsRow base 22 1 v n (ys.map fun x : Nat => Value.int .u64 x))
    (A : Option Addr) (m c : Nat) (xs : List Nat) (hxl : xs.length = m) (hx : a.eval x = .slice A m c) (B : Nat) (hS : Seen w B .u64 A xs) (hlen : n + m ≤ 1000000) (hb : base ≤ w.heap.size)
    (hK : ∀ v' w', w'.ownsRow base 22 1 v' (n + m) ((ys ++ xs).map fun x : Nat => Value.int .u64 x) → Below base w w' → wpList Tryd.prog ops Q rest (a.put o.dst v') w') : wpList Tryd.prog ops Q (o :: rest) a w := by
  obtain ⟨i0, hi, hz0, hz1, hz2⟩ := info_parts infoW
  by_cases hm0 : m = 0
  · have e : xs = [] := List.eq_nil_of_length_eq_zero (hxl.trans hm0)
    refine wpList_append_zero w hg s x 25 hop 22 i0 Tryd.underlying25 hi base 1 n v _ hs hown A m c hm0 hx (hK v w ?_ (Below.refl _ _))
    rw [e, hm0, List.append_nil]; exact hown
  · obtain ⟨b, off, rfl, _, _⟩ := hS.at (i := 0) (by omega)
    refine wpList_append_own w hg s x 25 hop base 22 i0 (.int .u64 0) 1 8 Tryd.underlying25 hi hz0 hz1 hz2 rfl (by decide) _ _ _ hs hown _ _ _ (xs.map fun x : Nat => Value.int .u64 x) hx (by rw [List.length_map, hxl, Nat.mul_one]) (seen_cells hS) (by intro u hu; obtain ⟨z, _, rfl⟩ := List.mem_map.1 hu; rfl) (by unfold maxLen; omega) (by omega) hb ?_
    intro v2 w2 hown2 hgrow2 _
    refine hK v2 w2 (by rw [List.map_append]; exact hown2) ?_
    exact (Below.refl base w).grown hgrow2 hb (fun k e => (hown.lt k e).1)
theorem seen_one (w : World) (x : Nat) (t : TypeId) : Seen (w.alloc (.cells #[.int .u64 x] t)) (w.heap.size + 1) .u64 (some ⟨w.heap.size, 0, none⟩) [x] := fun i y hy => by
  have hb : (w.alloc (.cells #[.int .u64 x] t)).heap[w.heap.size]? = some (.cells #[.int .u64 x] t) := heap_alloc_new w _
  match i, hy with
  | 0, hy =>
    simp at hy
    subst hy
    refine ⟨_, _, rfl, by omega, ?_⟩
    unfold World.cell?
    simp only [Nat.add_zero]
    rw [hb]
    rfl
  | i + 1, hy => simp at hy

theorem own_belowI {W W' : World} {base : Nat} {e : TypeId} {size : Nat} {v : Value} {k : Nat} {xs : List Value} (h : W.ownsRow base e size v k xs) (hB : Below W.heap.size W W') : W'.ownsRow base e size v k xs := by
  refine ⟨h.1, ?_⟩
  rcases h.2 with h2 | ⟨g, cap, cur, hv, hg, hh, h3⟩
  · exact .inl h2
  · exact .inr ⟨g, cap, cur, hv, hg, (hB.block g (Array.getElem?_eq_some_iff.1 hh).1).trans hh, h3⟩
end Go.Proofs.YtainjicbmjfnkaaDoor
