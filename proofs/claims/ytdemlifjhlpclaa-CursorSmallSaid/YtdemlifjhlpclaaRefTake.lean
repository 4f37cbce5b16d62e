/-
  The reference reader: Take.
-/
import Derived.Test.YtdemlifjhlpclaaCounts
namespace Go.Proofs.Ytdemlifjhlpclaa
open Go.RowKit
set_option linter.unusedVariables false

/-- The reference reader at the place p of a slice. -/
@[reducible] def rv (a : Option Addr) (n c : Nat) (p : Nat) : Value := .agg #[.slice a n c, .int .i64 p]
def rvNone : Obj := .cells #[.slice none 0 0, .int .i64 0] 71 (0, 0)

/-- The world with a boxed reader and a result. -/
def tkWorld (w : World) (a : Option Addr) (n c p : Nat) : World := (w.alloc (.cells #[.slice a n c, .int .i64 p] 71)).alloc (.cells #[.slice none 0 0, .int .i64 0] 71)
theorem tkWorld_all (w : World) (a : Option Addr) (n c p : Nat) : (tkWorld w a n c p).heap.size = w.heap.size + 2 ∧ Below w.heap.size w (tkWorld w a n c p) ∧
    (tkWorld w a n c p).heap[w.heap.size]? = some (.cells #[.slice a n c, .int .i64 p] 71 (0, 0)) ∧ (tkWorld w a n c p).heap[w.heap.size + 1]? = some (.cells #[.slice none 0 0, .int .i64 0] 71 (0, 0)) := by
  refine ⟨by simp [tkWorld], ((Below.refl _ w).alloc (Nat.le_refl _) _).alloc (by simp) _, ?_, ?_⟩
  · unfold tkWorld
    exact (Below.heap_alloc _ _ _ (by simp)).trans (World.alloc_heap_new w _)
  · have := World.alloc_heap_new (w.alloc (.cells #[.slice a n c, .int .i64 p] 71)) (.cells #[.slice none 0 0, .int .i64 0] 71)
    rw [World.size_alloc] at this
    exact this
theorem two_cells {w : World} {b : Nat} {x y : Value} {t : TypeId} (h : w.heap[b]? = some (.cells #[x, y] t (0, 0))) : w.cell? ⟨b, 0, none⟩ = some x ∧ w.cell? ⟨b, 1, none⟩ = some y ∧ w.frozen? ⟨b, 0, none⟩ = false ∧ w.frozen? ⟨b, 1, none⟩ = false := by
  refine ⟨?_, ?_, ?_, ?_⟩ <;> simp [World.cell?, World.frozen?, h]

theorem two_set {w : World} {b : Nat} {x y : Value} {t : TypeId} (h : w.heap[b]? = some (.cells #[x, y] t (0, 0))) (u v : Value) : ((w.setCell ⟨b, 0, none⟩ u).setCell ⟨b, 1, none⟩ v).heap[b]? = some (.cells #[u, v] t (0, 0)) := by
  simp [World.setCell, Array.getElem?_modify, h]

set_option maxRecDepth 100000 in
set_option maxHeartbeats 2000000 in
theorem refTake_neg (w : World) (a : Option Addr) (n c p : Nat) (k : Int) (hk : k < 0) :
    Calls Try.prog 58 #[rv a n c p, .int .i64 k] w fun e w' => e = .returned (.tuple #[rv a n c p, .slice none 0 0, .int .i64 2]) ∧ Below w.heap.size w w' := by
  unfold rv
  go_enter Try.func58, Try.ntmps58
  go_wp2
  exact bodyPost_ret (v := .tuple #[.agg #[.slice a n c, .int .i64 p], .slice none 0 0, .int .i64 2]) (by simp [results, Try.results58, go_sem]) rfl ⟨rfl, ((Below.refl _ w).alloc (Nat.le_refl _) _).alloc (by simp) _⟩
set_option maxRecDepth 100000 in
set_option maxHeartbeats 2000000 in
theorem refTake_end (w : World) (a : Option Addr) (n c p : Nat) (k : Nat) (hp : p ≤ n) (hn : n ≤ 1000000000) (hk : n < p + k) :
    Calls Try.prog 58 #[rv a n c p, .int .i64 k] w fun e w' => e = .returned (.tuple #[rv a n c p, .slice none 0 0, .int .i64 20]) ∧ Below w.heap.size w w' := by
  unfold rv
  have h1 : (n : Int) - (p : Int) < (k : Int) := by omega
  go_enter Try.func58, Try.ntmps58
  go_wp2
  exact bodyPost_ret (v := .tuple #[.agg #[.slice a n c, .int .i64 p], .slice none 0 0, .int .i64 20]) (by simp [results, Try.results58, go_sem]) rfl ⟨rfl, ((Below.refl _ w).alloc (Nat.le_refl _) _).alloc (by simp) _⟩

set_option maxRecDepth 100000 in
set_option maxHeartbeats 2000000 in
theorem refTake_ok (w : World) (a : Option Addr) (n c p k : Nat) (xs : List Nat) (hn : xs.length = n) (hnm : n ≤ 1000000000) (hpk : p + k ≤ n) (N : Nat) (hS : Seen w N .u8 a xs) (hN : N ≤ w.heap.size) :
    Calls Try.prog 58 #[rv a n c p, .int .i64 k] w fun e w' => ∃ v, e = .returned (.tuple #[rv a n c (p + k), v, .int .i64 0]) ∧ w'.ownsRow w.heap.size 5 1 v k (((xs.drop p).take k).map fun x : Nat => Value.int .u8 x) ∧ Below w.heap.size w w' := by
  obtain ⟨i0, hi, hz0, hz1, hz2⟩ := info_u8
  unfold rv
  have h1 : (k : Int) ≤ (n : Int) - (p : Int) := by omega
  have HN := Lib.hid hn
  obtain ⟨hsz, hB0, hb1, hb2⟩ := tkWorld_all w a n c p
  have HSZ := Lib.hid hsz
  have hS0 := hS.below (hB0.mono hN)
  have hl : (xs.drop p).length = n - p := by rw [List.length_drop, hn]
  have HL := Lib.hid hl
  clear hn hsz hl
  go_enter Try.func58, Try.ntmps58
  go_wp2
  go_loopw [7, 8] (fun v i wr => ∃ j : Nat, j ≤ k ∧ i = .int .i64 j ∧ wr.ownsRow (tkWorld w a n c p).heap.size 5 1 v j (((xs.drop p).take j).map fun x : Nat => Value.int .u8 x) ∧ Below (tkWorld w a n c p).heap.size (tkWorld w a n c p) wr) (fun _ i _ => k - (intOf i).toNat)
  case atStart => exact ⟨0, Nat.zero_le _, rfl, by rw [List.take_zero]; exact World.ownsRow_nil _ _ _ _, Below.refl _ _⟩
  case round =>
    obtain ⟨j, hj, rfl, hrow, hB⟩ := hrel
    obtain ⟨va, vc, rfl, _, _, _, _⟩ := own_slice hrow
    have hb1' := (hB.block w.heap.size (by rw [HSZ.out]; omega)).trans hb1
    have hb2' := (hB.block (w.heap.size + 1) (by rw [HSZ.out]; omega)).trans hb2
    obtain ⟨d0, d1, f0, f1⟩ := two_cells hb1'
    obtain ⟨e0, e1, g0, g1⟩ := two_cells hb2'
    by_cases hlt : j < k
    · obtain ⟨b, off, rfl, hbl, hc⟩ := (hS0.below (hB.mono (by rw [HSZ.out]; omega))).at (i := p + j) (by rw [HN.out]; omega)
      obtain ⟨y, hy⟩ : ∃ y, xs[p + j]'(by rw [HN.out]; omega) = y := ⟨_, rfl⟩
      rw [hy] at hc
      have HT : Hid ((xs.drop p).take (j + 1) = (xs.drop p).take j ++ [y]) := by
        rw [Vi.take_snoc (xs.drop p) j (by rw [HL.out]; omega), List.getElem_drop, hy]; rfl
      have i1 : (p : Int) + (j : Int) < (n : Int) := by omega
      have i2 : (j : Int) < (k : Int) := by omega
      have hbs := hB.size
      clear hy hb1' hb2'
      go_wp2_with (at_builtin; refine wpList_append_own _ rfl _ _ 22 rfl (tkWorld w (some ⟨b, off, none⟩) n c p).heap.size 5 i0 (.int .u8 0) 1 1 Try.underlying22 hi hz0 hz1 hz2 rfl (by decide) _ _ _ rfl (hrow.alloc _) ⟨wr.heap.size, 0, none⟩ 1 1 [.int .u8 y] rfl rfl (cell_one_new _ _ _) (by simp [Value.oneCell']) (by unfold maxLen; omega) (by omega) (by simp; omega) ?_; intro v5 w5 hown5 hgrow5 _)
      have hB5 := (hB.alloc hbs (.cells #[.int .u8 (y : Int)] 5)).grown hgrow5 (by simp; omega) (fun q eq => (hrow.lt q eq).1)
      exact ⟨⟨j + 1, by omega, by go_num, by rw [HT.out, List.map_append]; exact hown5, hB5⟩, by simp [intOf]; omega⟩
    · obtain rfl : j = k := by omega
      have hBf : Below w.heap.size w wr := hB0.trans (hB.mono (by rw [HSZ.out]; omega))
      have hne : (Value.slice va j vc).ownBlock ≠ some (w.heap.size + 1) := fun e => by have := (hrow.lt _ e).1; have := HSZ.out; omega
      have hHNE := Lib.hid hne
      clear hb1' hne
      go_wp2
      have hw2 := two_set hb2' (.slice a n c) (.int .i64 ((p + j : Nat) : Int))
      refine bodyPost_ret (v := .tuple #[.agg #[.slice a n c, .int .i64 ((p + j : Nat) : Int)], .slice va j vc, .int .i64 0]) (by simp [results, Try.results58, go_sem, e0, e1]) rfl ⟨_, rfl, ?_, ?_⟩
      · refine (rebase hrow (by rw [HSZ.out]; omega)).kept (row := some (w.heap.size + 1)) ((Chg.refl (· = w.heap.size + 1) wr).setCell (p := ⟨w.heap.size + 1, 0, none⟩) rfl _ |>.setCell (p := ⟨w.heap.size + 1, 1, none⟩) rfl _).grownBy ?_
        exact .inr hHNE.out
      · exact (hBf.setCell (p := ⟨w.heap.size + 1, 0, none⟩) (by simp) _).setCell (p := ⟨w.heap.size + 1, 1, none⟩) (by simp) _

end Go.Proofs.Ytdemlifjhlpclaa
