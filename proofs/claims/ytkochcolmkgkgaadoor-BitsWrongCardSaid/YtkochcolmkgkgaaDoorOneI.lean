/-
  Rows of ints of the call's own; append of a row to itself; Of at such a row; With and Without at a number.
-/
import Derived.Test.YtkochcolmkgkgaaDoorEnds
import Derived.Test.YtkochcolmkgkgaaDoorOneM
import Derived.Test.YtkochcolmkgkgaaDoorAppend
import Derived.Deep.RegionLaw
import Derived.Laws.OwnMore
namespace Go.Proofs.YtkochcolmkgkgaaDoor
open Go.RowKit
set_option linter.unusedVariables false

theorem own_belowI {W W' : World} {base : Nat} {e : TypeId} {size : Nat} {v : Value} {k : Nat} {xs : List Value} (h : W.ownsRow base e size v k xs) (hB : Below W.heap.size W W') : W'.ownsRow base e size v k xs := by
  refine ⟨h.1, ?_⟩
  rcases h.2 with h2 | ⟨g, cap, cur, hv, hg, hh, h3⟩
  · exact .inl h2
  · exact .inr ⟨g, cap, cur, hv, hg, (hB.block g (Array.getElem?_eq_some_iff.1 hh).1).trans hh, h3⟩
/-- A row of its own that holds ints. -/
def OwnI (w : World) (base : Nat) (v : Value) (n : Nat) (xs : List Nat) : Prop := w.ownsRow base 3 1 v n (xs.map fun x : Nat => Value.int .i64 x)
theorem OwnI.len {w : World} {base n : Nat} {v : Value} {xs : List Nat} (h : OwnI w base v n xs) : xs.length = n := by simpa using h.1
theorem OwnI.keep {W W' : World} {base n : Nat} {v : Value} {xs : List Nat} (h : OwnI W base v n xs) (hB : Below W.heap.size W W') : OwnI W' base v n xs := own_belowI h hB
theorem OwnI.row {w : World} {base n c : Nat} {a : Option Addr} {xs : List Nat} (h : OwnI w base (.slice a n c) n xs) (hn : 0 < n) : ∃ g, a = some ⟨g, 0, none⟩ ∧ base ≤ g ∧ g < w.heap.size := by
  rcases h.2 with ⟨h0, hx⟩ | ⟨g, cap, cur, hv, hg, hh, _⟩
  · injection h0 with _ h1
    omega
  · injection hv with h1
    exact ⟨g, h1, hg, (Array.getElem?_eq_some_iff.1 hh).1⟩
theorem OwnI.block {w : World} {base n : Nat} {v : Value} {xs : List Nat} (h : OwnI w base v n xs) : ∀ g, v.ownBlock = some g → base ≤ g := by
  intro g hg
  rcases h.2 with ⟨h0, _⟩ | ⟨g', cap, cur, hv, hb, hh, _⟩
  · rw [h0] at hg; cases hg
  · rw [hv] at hg
    simp [Value.ownBlock] at hg
    omega
theorem OwnI.blockLt {w : World} {base n : Nat} {v : Value} {xs : List Nat} (h : OwnI w base v n xs) : ∀ g, v.ownBlock = some g → g < w.heap.size := by
  intro g hg
  rcases h.2 with ⟨h0, _⟩ | ⟨g', cap, cur, hv, hb, hh, _⟩
  · rw [h0] at hg; cases hg
  · rw [hv] at hg
    simp [Value.ownBlock] at hg
    subst hg
    exact (Array.getElem?_eq_some_iff.1 hh).1
/-- A box of the call's own that is no row's block stays while the row grows. -/
theorem Box.grown {w w' : World} {base n p : Nat} {v : Value} {xs : List Nat} {W : World} (hx : Box w p (.int .i64 0) (.slice none 0 0)) (h : OwnI W base v n xs) (hp : W.heap.size ≤ p) (hg : w.grownBy w' v.ownBlock) : Box w' p (.int .i64 0) (.slice none 0 0) :=
  (hg.block p hx.lt (fun e => by have := h.blockLt p e.symm; omega)).trans hx
theorem OwnI.at {w : World} {base g n c k x : Nat} {xs : List Nat} (h : OwnI w base (.slice (some ⟨g, 0, none⟩) n c) n xs) (hx : xs[k]? = some x) : w.cell? ⟨g, k, none⟩ = some (.int .i64 x) ∧ w.frozen? ⟨g, k, none⟩ = false := by
  have hk : k < n := by have := (List.getElem?_eq_some_iff.1 hx).1; have := h.len; omega
  refine ⟨?_, by have := World.ownsRow.frozenAt h k; simpa using this⟩
  unfold OwnI at h
  rw [h.cellAt k (by omega), List.getElem?_map, hx]; rfl
theorem OwnI.store {w : World} {base g n c : Nat} {xs : List Nat} (h : OwnI w base (.slice (some ⟨g, 0, none⟩) n c) n xs) (k r : Nat) : OwnI (w.setCell ⟨g, k, none⟩ (.int .i64 r)) base (.slice (some ⟨g, 0, none⟩) n c) n (xs.set k r) := by
  unfold OwnI at *
  rw [List.map_set]
  exact (World.ownsRow.stored h k _).1
theorem run_append_self (w : World) (base : Nat) (ty : TypeId) (hb : base ≤ w.heap.size) (v : Value) (n : Nat) (xs : List Nat) (hown : OwnI w base v n xs) (hn : n ≤ 100000) :
    ∃ v' w', (Builtin.append_ #[27, 27] ty #[v, v]).run Tryd.prog w = .ok v' w' ∧ OwnI w' base v' (n + n) (xs ++ xs) ∧ Below base w w' ∧ w.grownBy w' v.ownBlock := by
  obtain ⟨i0, hi, hz0, hz1, hz2⟩ := info_parts infoI
  have hU := Tryd.underlying27
  obtain ⟨a, c, rfl, hS, hlen, hnc, hcm⟩ := own_slice hown
  by_cases hn0 : n = 0
  · subst hn0
    have hx : xs = [] := List.eq_nil_of_length_eq_zero hlen
    subst hx
    cases a with
    | none => 
      have hc : c = 0 := by
        rcases hown.2 with ⟨h0, _⟩ | ⟨g, cap, cur, hv, _⟩
        · injection h0
        · cases hv
      subst hc
      exact ⟨.slice none 0 0, w, by simp [Builtin.append_, run_underlying hU, sizeOf, typeInfo, hi, Builtin.lenOf, Builtin.firstCells], hown, Below.refl _ _, World.grownBy.refl _ _⟩
    | some ad => exact ⟨_, w, run_append_nothing (P := Tryd.prog) w _ ty _ i0 hU hi ad 0 c (Nat.zero_le _) (some ad) c, hown, Below.refl _ _, World.grownBy.refl _ _⟩
  · obtain ⟨g, rfl, hg1, hg2⟩ := OwnI.row hown (by omega)
    have hc := seen_cells hS
    have h1 : ∀ u ∈ xs.map (fun x : Nat => Value.int .i64 x), u.oneCell' = true := by intro u hu; obtain ⟨z, _, rfl⟩ := List.mem_map.1 hu; rfl
    have hl : (xs.map fun x : Nat => Value.int .i64 x).length = n * 1 := by rw [List.length_map, hlen, Nat.mul_one]
    obtain ⟨v', w', hrun, r1, r2, _⟩ := run_append_own (P := Tryd.prog) w base _ ty 3 i0 (.int .i64 0) 1 8 hU hi hz0 hz1 hz2 rfl (by decide) _ n _ hown ⟨g, 0, none⟩ n c _ hl hc h1 (by unfold maxLen; omega) (by omega) hb
    refine ⟨v', w', hrun, ?_, below_own r2 hown.block hb, r2⟩
    unfold OwnI
    rw [List.map_append]
    exact r1
/-- append of a row to itself, as one step of a region that draws. -/
theorem step_append_self {ops : Array Oper} {o : Oper} {a : Act} {w : World} {K : Act → World → Prop} {Q : Exit → Act → World → Prop} {E : Prop}
    (hg : o.guard = none) (s x : Operand) (hop : o.op = Op.call { callee := Callee.builtin Builtin.append, args := #[s, x], argTypes := #[27, 27] })
    (base : Nat) (v : Value) (n : Nat) (xs : List Nat) (hs : a.eval s = v) (hx : a.eval x = v) (hb : base ≤ w.heap.size) (hown : OwnI w base v n xs) (hn : n ≤ 100000)
    (hK : ∀ v' w', OwnI w' base v' (n + n) (xs ++ xs) → Below base w w' → w.grownBy w' v.ownBlock → K (a.put o.dst v') w') :
    if Region.wanted o (yielded ops a.tmps) = true then Oper.wp Tryd.prog o a w K Q else E := by
  have hw : Region.wanted o (yielded ops a.tmps) = true := by simp [Region.wanted, hg]
  rw [if_pos hw]
  obtain ⟨v', w', hrun, r1, r2, r3⟩ := run_append_self w base o.type hb v n xs hown hn
  unfold Oper.wp
  simp [execOp, hop, resolve, invoke, builtin, hs, hx, hrun, Result.andThen]
  exact hK v' w' r1 r2 r3
theorem ofN_at {N q : Nat} {ys : List Nat} (hR : Bm.Rt N ys) (hq : ys.length = q) (W' : World) (va : Option Addr) (n c' : Nat) (l : List Nat) (hl : l.length = n) (hn5 : n ≤ 1000000) (B : Nat) (hS : Seen W' B .i64 va l) (hB : B ≤ W'.heap.size) (hm : ∀ x, x ∈ l ↔ x ∈ Bm.ml (Bm.val ys) N) :
    Calls Tryd.prog 35 #[.int .i64 N, .slice va n c'] W' (SetOut W' N q ys) := by
  have h := of_yes N (by have := hR.1; omega) q (by rw [← hq]; exact hR.2.1.symm) va n c' (l.map fun x : Nat => (x : Int)) (by simpa using hl) (by unfold maxLen; omega) W' B (SeenI.of_seen hS) hB (fun z hz => by
    obtain ⟨x, hx, rfl⟩ := List.mem_map.1 hz
    have := (Bm.mem_ml.1 ((hm x).1 hx)).1
    omega)
  rw [List.map_map] at h
  have e : (Int.toNat ∘ fun x : Nat => (x : Int)) = id := by funext x; simp
  rw [e, List.map_id, Bm.of_mem hR hq hm] at h
  exact h
section
variable {W : World} {b N q c : Nat} {a : Option Addr} {zs ks : List Nat} (h : SetAt W b N q a c zs) (k : Nat) (hk : k < N)
include h hk
theorem with_atN (hz : List.zipWith Bm.orW zs (Bm.ofL q [k]) = ks) : Calls Tryd.prog 36 #[.agg #[.int .i64 N, .slice a q c], .int .i64 k] W (SetOut W N q ks) := by
  have h' := with_at h (k : Int) (by omega) (by omega)
  rw [Int.toNat_natCast, hz] at h'
  exact h'
theorem without_atN (hz : List.zipWith Bm.minusW zs (Bm.ofL q [k]) = ks) : Calls Tryd.prog 37 #[.agg #[.int .i64 N, .slice a q c], .int .i64 k] W (SetOut W N q ks) := by
  have h' := without_at h (k : Int) (by omega) (by omega)
  rw [Int.toNat_natCast, hz] at h'
  exact h'
end
/-- A box that was made before gets the set; another set stays. -/
theorem end_set {w w5 : World} {B b p N q c g base : Nat} {a : Option Addr} {ys : List Nat} {u v : Value} (H : Below B w w5) (hB : B ≤ p) (hx : Box w5 p u v) (hs : SetAt w5 b N q a c ys) (hbp : b ≠ p) (ha : ∀ g off, a = some ⟨g, off, none⟩ → g ≠ p) (ho : OwnW w5 base g q ys) (hg : g ≠ p) :
    SetAt ((w5.setCell ⟨p, 0, none⟩ (.int .i64 N)).setCell ⟨p, 1, none⟩ (.slice (some ⟨g, 0, none⟩) q q)) p N q (some ⟨g, 0, none⟩) q ys ∧
    SetAt ((w5.setCell ⟨p, 0, none⟩ (.int .i64 N)).setCell ⟨p, 1, none⟩ (.slice (some ⟨g, 0, none⟩) q q)) b N q a c ys ∧
    Below B w ((w5.setCell ⟨p, 0, none⟩ (.int .i64 N)).setCell ⟨p, 1, none⟩ (.slice (some ⟨g, 0, none⟩) q q)) := by
  have r1 := set_rowF (b := p) (u := .int .i64 N) (v := .slice (some ⟨g, 0, none⟩) q q) (own_row ho hs.2.2.2.2.2).1 (fun g' off e => by injection e with e; injection e with e; omega)
  have r2 := set_rowF (b := p) (u := .int .i64 N) (v := .slice (some ⟨g, 0, none⟩) q q) (show RowF w5 a c q N ys from ⟨hs.2.1, hs.2.2⟩) ha
  exact ⟨⟨hx.set _ _, r1⟩, ⟨(hs.1.other (p := ⟨p, 0, none⟩) hbp (.int .i64 N)).other (p := ⟨p, 1, none⟩) hbp _, r2⟩, (H.setCell (p := ⟨p, 0, none⟩) hB _).setCell (p := ⟨p, 1, none⟩) hB _⟩
end Go.Proofs.YtkochcolmkgkgaaDoor
