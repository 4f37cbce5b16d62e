/-
  The reference writer: Put.
-/
import Derived.Test.YtdemlifjhlpclaaRefWrite
import Derived.Test.YtdemlifjhlpclaaWBytes
import Derived.Deep.RegionLaw
import Derived.Test.YtdemlifjhlpclaaReadsC
namespace Go.Proofs.Ytdemlifjhlpclaa
open Go.RowKit
set_option linter.unusedVariables false

/-- append of bytes to a row of the call's own, whatever there is to append. -/
theorem run_append_u8 (w : World) (base : Nat) (ty : TypeId) (v : Value) (n : Nat) (xs : List Nat) (hown : w.ownsRow base 5 1 v n (xs.map fun x : Nat => Value.int .u8 x)) (hb : base ≤ w.heap.size)
    (A : Option Addr) (m c : Nat) (ys : List Nat) (hy : ys.length = m) (N : Nat) (hS : Seen w N .u8 A ys) (hnm : n + m ≤ 1000000000) :
    ∃ v' w', (Builtin.append_ #[22, 22] ty #[v, .slice A m c]).run Try.prog w = .ok v' w' ∧ w'.ownsRow base 5 1 v' (n + m) ((xs ++ ys).map fun x : Nat => Value.int .u8 x) ∧ w.grownBy w' v.ownBlock ∧ Moved w v v' := by
  obtain ⟨i0, hi, hz0, hz1, hz2⟩ := info_u8
  have hU := Try.underlying22
  by_cases hm0 : m = 0
  · subst hm0
    have hys : ys = [] := List.eq_nil_of_length_eq_zero hy
    subst hys
    rw [List.append_nil, Nat.add_zero]
    refine ⟨v, w, ?_, hown, World.grownBy.refl _ _, .inl rfl⟩
    rcases hown.2 with ⟨rfl, _⟩ | ⟨g, cap, cur, rfl, _, _, hn, _⟩
    · exact run_append_zero w _ _ _ i0 hU hi A c
    · exact run_append_nothing w _ _ _ i0 hU hi _ n cap hn A c
  · obtain ⟨b, off, rfl, _, _⟩ := hS.at (i := 0) (by omega)
    have hc := seen_cells hS
    have h1 : ∀ u ∈ ys.map (fun x : Nat => Value.int .u8 x), u.oneCell' = true := by intro u hu; obtain ⟨z, _, rfl⟩ := List.mem_map.1 hu; rfl
    have hl : (ys.map fun x : Nat => Value.int .u8 x).length = m * 1 := by rw [List.length_map, hy, Nat.mul_one]
    rw [List.map_append]
    rcases hown.2 with ⟨h, h0⟩ | ⟨g, cap, cur, h, hg', hh, hnc, _⟩
    · obtain ⟨v', w', hrun, r1, r2, _⟩ := run_append_own (P := Try.prog) w w.heap.size _ ty 5 i0 (.int .u8 0) 1 1 hU hi hz0 hz1 hz2 rfl (by decide) v n _ ⟨hown.1, .inl ⟨h, h0⟩⟩ ⟨b, off, none⟩ m c _ hl hc h1 (by unfold maxLen; omega) (by omega) (Nat.le_refl _)
      exact ⟨v', w', hrun, rebase r1 hb, r2, .inr fun g hg => (r1.lt g hg).1⟩
    · subst h
      by_cases hfull : cap < n + m
      · obtain ⟨v', w', hrun, r1, r2⟩ := run_append_arg_grows (P := Try.prog) w _ ty 5 i0 (.int .u8 0) 1 1 hU hi hz0 hz1 hz2 rfl (by decide) ⟨g, 0, none⟩ n cap _ hown.1 (hown.cells (by rfl)) ⟨b, off, none⟩ m c _ hl hc hfull (by unfold maxLen; omega) (by omega)
        exact ⟨v', w', hrun, rebase r1 hb, ⟨r2.os, r2.tape, r2.output, r2.size, fun k hk _ => r2.block k hk (by simp)⟩, .inr fun g hg => (r1.lt g hg).1⟩
      · obtain ⟨w', hrun, r1, r2⟩ := run_append_fits (P := Try.prog) w base _ ty 5 i0 1 hU hi hz1 g n cap _ hown ⟨b, off, none⟩ m c _ hl hc h1 (by omega)
        exact ⟨_, w', hrun, r1, r2, .inl rfl⟩

theorem step_append_u8 {ops : Array Oper} {o : Oper} {a : Act} {w : World} {K : Act → World → Prop} {Q : Exit → Act → World → Prop} {E : Prop}
    (hg : o.guard = none) (s x : Operand) (hop : o.op = Op.call { callee := Callee.builtin Builtin.append, args := #[s, x], argTypes := #[22, 22] })
    (base : Nat) (v : Value) (n : Nat) (xs : List Nat) (hs : a.eval s = v) (hown : w.ownsRow base 5 1 v n (xs.map fun x : Nat => Value.int .u8 x)) (hb : base ≤ w.heap.size)
    (A : Option Addr) (m c : Nat) (ys : List Nat) (hx : a.eval x = .slice A m c) (hy : ys.length = m) (N : Nat) (hS : Seen w N .u8 A ys) (hnm : n + m ≤ 1000000000)
    (hK : ∀ v' w', w'.ownsRow base 5 1 v' (n + m) ((xs ++ ys).map fun x : Nat => Value.int .u8 x) → w.grownBy w' v.ownBlock → Moved w v v' → K (a.put o.dst v') w') :
    if Region.wanted o (yielded ops a.tmps) = true then Oper.wp Try.prog o a w K Q else E := by
  have hw : Region.wanted o (yielded ops a.tmps) = true := by simp [Region.wanted, hg]
  rw [if_pos hw]
  obtain ⟨v', w', hrun, r1, r2, r3⟩ := run_append_u8 w base o.type v n xs hown hb A m c ys hy N hS hnm
  unfold Oper.wp
  simp [execOp, hop, resolve, invoke, builtin, hs, hx, hrun, Result.andThen]
  exact hK v' w' r1 r2 r3

/-- The reference writer. -/
@[reducible] def wv (lim : Nat) (a : Option Addr) (n c : Nat) : Value := .agg #[.int .i64 lim, .slice a n c]
def wwObj (lim : Nat) (a : Option Addr) (n c : Nat) : Obj := .cells #[.int .i64 lim, .slice a n c] 76 (0, 0)
def ptWorld (w : World) (lim : Nat) (a : Option Addr) (n c : Nat) : World := (w.alloc (wwObj lim a n c)).alloc (.cells #[.int .i64 0, .slice none 0 0] 76)
theorem ptWorld_all (w : World) (lim : Nat) (a : Option Addr) (n c : Nat) : (ptWorld w lim a n c).heap.size = w.heap.size + 2 ∧ Below w.heap.size w (ptWorld w lim a n c) ∧
    (ptWorld w lim a n c).heap[w.heap.size]? = some (wwObj lim a n c) ∧ (ptWorld w lim a n c).heap[w.heap.size + 1]? = some (.cells #[.int .i64 0, .slice none 0 0] 76 (0, 0)) := by
  refine ⟨by simp [ptWorld], ((Below.refl _ w).alloc (Nat.le_refl _) _).alloc (by simp) _, ?_, ?_⟩
  · exact (Below.heap_alloc _ _ _ (by simp)).trans (World.alloc_heap_new w _)
  · have := World.alloc_heap_new (w.alloc (wwObj lim a n c)) (.cells #[.int .i64 0, .slice none 0 0] 76)
    rw [World.size_alloc] at this
    exact this

set_option maxRecDepth 100000 in
set_option maxHeartbeats 1000000 in
theorem refPut_full (w : World) (lim : Nat) (a : Option Addr) (n c : Nat) (b : Option Addr) (m d : Nat) (hn : n ≤ 100000000) (hm : m ≤ 100000000) (h : lim < n + m) :
    Calls Try.prog 40 #[wv lim a n c, .slice b m d] w fun e w' => e = .returned (.tuple #[wv lim a n c, .int .i64 4]) ∧ Below w.heap.size w w' := by
  have h1 : (lim : Int) < (n : Int) + (m : Int) := by omega
  unfold wv
  go_enter Try.func40, Try.ntmps40
  go_wp2
  exact bodyPost_ret (v := .tuple #[.agg #[.int .i64 lim, .slice a n c], .int .i64 4]) (by simp [results, Try.results40, go_sem]) rfl ⟨rfl, ((Below.refl _ w).alloc (Nat.le_refl _) _).alloc (by simp) _⟩

set_option maxRecDepth 100000 in
set_option maxHeartbeats 4000000 in
theorem refPut_ok (w : World) (lim : Nat) (a : Option Addr) (n c : Nat) (xs : List Nat) (hxn : xs.length = n) (N : Nat) (hS : Seen w N .u8 a xs) (hN : N ≤ w.heap.size) (b : Option Addr) (m d : Nat) (ys : List Nat) (hym : ys.length = m) (hT : Seen w N .u8 b ys) (hn : n ≤ 100000000) (hm : m ≤ 100000000) (h : n + m ≤ lim) :
    Calls Try.prog 40 #[wv lim a n c, .slice b m d] w fun e w' => ∃ a' c', e = .returned (.tuple #[wv lim a' (n + m) c', .int .i64 0]) ∧ w'.ownsRow w.heap.size 5 1 (.slice a' (n + m) c') (n + m) ((xs ++ ys).map fun x : Nat => Value.int .u8 x) ∧ Below w.heap.size w w' := by
  have h1 : (n : Int) + (m : Int) ≤ (lim : Int) := by omega
  obtain ⟨hsz, hB0, hb1, hb2⟩ := ptWorld_all w lim a n c
  have HSZ := Lib.hid hsz
  have hS0 := hS.below (hB0.mono hN)
  have hT0 := hT.below (hB0.mono hN)
  have HX := Lib.hid hxn
  have HY := Lib.hid hym
  clear hxn hym
  obtain ⟨W, hW⟩ : ∃ W, ptWorld w lim a n c = W := ⟨_, rfl⟩
  rw [hW] at hb1 hb2 hS0 hT0 hB0 hsz
  have HSW := Lib.hid hsz
  obtain ⟨d0, d1, f0, f1⟩ := two_cells hb1
  obtain ⟨e0, e1, g0, g1⟩ := two_cells hb2
  unfold ptWorld wwObj at hW
  unfold wv
  go_enter Try.func40, Try.ntmps40
  go_wp2
  have HW := Lib.hid hW
  clear hW hsz
  have hown0 : (W.alloc (.cells #[] 5)).ownsRow w.heap.size 5 1 (.slice (some ⟨W.heap.size, 0, none⟩) 0 0) 0 (([] : List Nat).map fun x : Nat => Value.int .u8 x) := World.ownsRow_made W #[] 0 hB0.size (by unfold maxLen; omega) (by simp)
  have hz0' : w.heap.size < W.heap.size := by rw [HSW.out]; omega
  have hz1' : w.heap.size + 1 < W.heap.size := by rw [HSW.out]; omega
  have hne0 : w.heap.size ≠ W.heap.size := by omega
  have hne1 : w.heap.size + 1 ≠ W.heap.size := by omega
  have hgo : ∀ w1, Below W.heap.size W w1 → w1.cell? ⟨w.heap.size, 0, none⟩ = some (.int .i64 lim) ∧ w1.cell? ⟨w.heap.size, 1, none⟩ = some (.slice a n c) ∧ w1.cell? ⟨w.heap.size + 1, 0, none⟩ = some (.int .i64 0) ∧ w1.cell? ⟨w.heap.size + 1, 1, none⟩ = some (.slice none 0 0) ∧ w1.frozen? ⟨w.heap.size + 1, 0, none⟩ = false ∧ w1.frozen? ⟨w.heap.size + 1, 1, none⟩ = false ∧ Seen w1 N .u8 b ys ∧ Below w.heap.size w w1 := by
    intro w1 hg
    obtain ⟨x0, x1, _, _⟩ := two_cells ((hg.block w.heap.size hz0').trans hb1)
    obtain ⟨y0, y1, y2, y3⟩ := two_cells ((hg.block (w.heap.size + 1) hz1').trans hb2)
    exact ⟨x0, x1, y0, y1, y2, y3, hT0.below (hg.mono (Nat.le_trans hN hB0.size)), hB0.trans (hg.mono hB0.size)⟩
  have HGO := Lib.hid hgo
  have hBA : Below W.heap.size W (W.alloc (.cells #[] 5)) := (Below.refl _ W).alloc (Nat.le_refl _) _
  have hownA : (W.alloc (.cells #[] 5)).ownsRow W.heap.size 5 1 (.slice (some ⟨W.heap.size, 0, none⟩) 0 0) 0 (([] : List Nat).map fun x : Nat => Value.int .u8 x) := World.ownsRow_made W #[] 0 (Nat.le_refl _) (by unfold maxLen; omega) (by simp)
  clear hgo hb1 hb2 hown0
  go_region_law (first
    | (refine step_append_u8 rfl _ _ rfl W.heap.size _ _ _ rfl hownA (by simp) a n c xs rfl HX.out N (hS0.alloc (Nat.le_trans hN hB0.size) _) (by omega) ?_; intro v1 w1 hown1 hgrow1 hmv1; rw [Nat.zero_add, List.nil_append] at hown1; have hB1 : Below W.heap.size W w1 := hBA.trans ((Below.refl W.heap.size (W.alloc (.cells #[] 5))).drew.grown hgrow1 (by simp) (fun k e => (hownA.lt k e).1)); obtain ⟨x0, x1, y0, y1, y2, y3, hT1, hBw1⟩ := HGO.out w1 hB1; clear hgrow1 hmv1)
    | (refine step_append_u8 rfl _ _ rfl W.heap.size _ _ _ rfl hown1 hB1.size b m d ys rfl HY.out N hT1 (by omega) ?_; intro v2 w2 hown2 hgrow2 hmv2; have hB2 : Below W.heap.size W w2 := hB1.grown hgrow2 hB1.size (fun k e => (hown1.lt k e).1); obtain ⟨a2, c2, rfl, q1, q2, q3, q4⟩ := own_slice hown2; clear q1 q2 q3 q4; obtain ⟨x0', x1', y0', y1', y2', y3', hT2, hBw2⟩ := HGO.out w2 hB2; clear hgrow2 hmv2))
  all_goals
    try (rename_i hcont; refine hcont _ _ ?_)
    go_wp2
    have hnr : (Value.slice a2 (n + m) c2).ownBlock ≠ some (w.heap.size + 1) := fun e => by have := (hown2.lt _ e).1; omega
    refine bodyPost_ret (v := .tuple #[.agg #[.int .i64 lim, .slice a2 (n + m) c2], .int .i64 0]) (by simp [results, Try.results40, go_sem, y0', y1']) rfl ⟨a2, c2, rfl, ?_, ?_⟩
    · refine (rebase hown2 hB0.size).kept (row := some (w.heap.size + 1)) ((((Chg.refl (· = w.heap.size + 1) w2).setCell (p := ⟨w.heap.size + 1, 0, none⟩) rfl _).setCell (p := ⟨w.heap.size + 1, 1, none⟩) rfl _)).grownBy (.inr hnr)
    · exact (hBw2.setCell (p := ⟨w.heap.size + 1, 0, none⟩) (by simp) _).setCell (p := ⟨w.heap.size + 1, 1, none⟩) (by simp) _

end Go.Proofs.Ytdemlifjhlpclaa
