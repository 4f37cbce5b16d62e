/-
  A ring in memory.
-/
import Derived.Test.YtljodpdplmhdnaaKitR
import Derived.Test.YtljodpdplmhdnaaProg
import Derived.BigQuiet
import Derived.Deep.QuietTactic
import Derived.Deep.RegionHeld3
import Derived.Deep.DeepCutAuto
import Derived.OwnWalk
import Derived.IntWalk
import Derived.LoopTactic
import Derived.Lib.Hide
import Derived.WalkKit
namespace Go.Proofs.Ytljodpdplmhdnaa
namespace RI
open Go.RowKit
set_option linter.unusedVariables false
/-- A slot: its item, and how many were refused before it. -/
abbrev RV := Int × Nat
def flatR (l : List RV) : List Value := l.flatMap fun p => [.int .i64 p.1, .int .i64 p.2]
theorem flatR_cons (p : RV) (l : List RV) : flatR (p :: l) = .int .i64 p.1 :: .int .i64 p.2 :: flatR l := rfl
theorem flatR_append (l k : List RV) : flatR (l ++ k) = flatR l ++ flatR k := by simp [flatR]
theorem flatR_len : ∀ l : List RV, (flatR l).length = l.length * 2
  | [] => rfl
  | p :: l => by rw [flatR_cons]; simp [flatR_len l]; omega
theorem flatR_fst : ∀ (l : List RV) (j : Nat) (p : RV), l[j]? = some p → (flatR l)[j * 2]? = some (.int .i64 p.1)
  | q :: l, 0, p, h => by
    obtain rfl : q = p := by simpa using h
    rfl
  | q :: l, j + 1, p, h => by
    have := flatR_fst l j p (by simpa using h)
    rw [flatR_cons, show (j + 1) * 2 = j * 2 + 1 + 1 by omega]
    simpa using this
theorem flatR_snd : ∀ (l : List RV) (j : Nat) (p : RV), l[j]? = some p → (flatR l)[j * 2 + 1]? = some (.int .i64 p.2)
  | q :: l, 0, p, h => by
    obtain rfl : q = p := by simpa using h
    rfl
  | q :: l, j + 1, p, h => by
    have := flatR_snd l j p (by simpa using h)
    rw [flatR_cons, show (j + 1) * 2 + 1 = j * 2 + 1 + 1 + 1 by omega]
    simpa using this
/-- The places of a ring. -/
def PAt (w : World) (t : TypeId) (P L : Nat) (ps : Nat → RV) : Prop := ∃ cur, w.heap[P]? = some (.cells cur t (0, 0)) ∧ ∀ i, i < L → cur[i * 2]? = some (.int .i64 ((ps i).1)) ∧ cur[i * 2 + 1]? = some (.int .i64 (ps i).2)
theorem PAt.lt {w : World} {t : TypeId} {P L : Nat} {ps : Nat → RV} (h : PAt w t P L ps) : P < w.heap.size := by
  obtain ⟨cur, h1, _⟩ := h
  exact (Array.getElem?_eq_some_iff.1 h1).1
theorem PAt.same {w w' : World} {t : TypeId} {P L : Nat} {ps : Nat → RV} (h : PAt w t P L ps) (hb : w'.heap[P]? = w.heap[P]?) : PAt w' t P L ps := by
  obtain ⟨cur, h1, h2⟩ := h
  exact ⟨cur, hb.trans h1, h2⟩
theorem PAt.at {w : World} {t : TypeId} {P L : Nat} {ps : Nat → RV} (h : PAt w t P L ps) {i : Nat} (hi : i < L) : w.cell? ⟨P, i * 2, none⟩ = some (.int .i64 ((ps i).1)) ∧ w.cell? ⟨P, i * 2 + 1, none⟩ = some (.int .i64 (ps i).2) ∧ w.frozen? ⟨P, i * 2, none⟩ = false ∧ w.frozen? ⟨P, i * 2 + 1, none⟩ = false := by
  obtain ⟨cur, h1, h2⟩ := h
  refine ⟨?_, ?_, ?_, ?_⟩
  · unfold World.cell?; simp only [h1]; exact (h2 i hi).1
  · unfold World.cell?; simp only [h1]; exact (h2 i hi).2
  · unfold World.frozen?; simp [h1]
  · unfold World.frozen?; simp [h1]
theorem PAt.put {w : World} {t : TypeId} {P L : Nat} {ps : Nat → RV} (h : PAt w t P L ps) {j : Nat} (hj : j < L) (x : RV) : PAt ((w.setCell ⟨P, j * 2, none⟩ (.int .i64 x.1)).setCell ⟨P, j * 2 + 1, none⟩ (.int .i64 x.2)) t P L (Rg.upd ps j x) := by
  obtain ⟨cur, h1, h2⟩ := h
  have hs1 := (Array.getElem?_eq_some_iff.1 (h2 j hj).1).1
  have hs2 := (Array.getElem?_eq_some_iff.1 (h2 j hj).2).1
  refine ⟨(cur.setIfInBounds (j * 2) (.int .i64 x.1)).setIfInBounds (j * 2 + 1) (.int .i64 x.2), ?_, ?_⟩
  · simp only [World.setCell, Array.getElem?_modify, if_true, h1, Option.map_some]
    simp
  · intro i hi
    by_cases e : i = j
    · subst e
      rw [Rg.upd_same]
      refine ⟨?_, ?_⟩
      · rw [Array.getElem?_setIfInBounds_ne (by omega), Array.getElem?_setIfInBounds_self_of_lt hs1]
      · rw [Array.getElem?_setIfInBounds_self_of_lt (by simpa using hs2)]
    · rw [Rg.upd_other _ _ e]
      refine ⟨?_, ?_⟩
      · rw [Array.getElem?_setIfInBounds_ne (by omega), Array.getElem?_setIfInBounds_ne (by omega)]; exact (h2 i hi).1
      · rw [Array.getElem?_setIfInBounds_ne (by omega), Array.getElem?_setIfInBounds_ne (by omega)]; exact (h2 i hi).2
/-- A row of one's own as places. -/
theorem PAt.of_own {w : World} {base g L cap : Nat} {e : TypeId} {l : List RV} (h : w.ownsRow base e 2 (.slice (some ⟨g, 0, none⟩) L cap) L (flatR l)) (hl : l.length = L) (d : RV) : PAt w e g L (fun i => l.getD i d) := by
  have hn : l.length * 2 = L * 2 := by rw [← flatR_len]; exact h.1
  rcases h.2 with ⟨h0, _⟩ | ⟨g', cap', cur, hv, _, hh, h3, h4, h5, h6⟩
  · cases h0
  · injection hv with hv1 _ hv2
    injection hv1 with hv1
    injection hv1 with hv1
    subst hv1
    refine ⟨cur, hh, fun i hi => ?_⟩
    have key : ∀ k, k < L * 2 → cur[k]? = (flatR l)[k]? := fun k hk => by
      rw [← h6, List.getElem?_take_of_lt hk]
      simp
    have hp : l[i]? = some (l.getD i d) := by
      rw [List.getD_eq_getElem?_getD, List.getElem?_eq_getElem (by omega)]
      rfl
    refine ⟨?_, ?_⟩
    · rw [key _ (by omega)]; exact flatR_fst l i _ hp
    · rw [key _ (by omega)]; exact flatR_snd l i _ hp
/-- Block B holds the seven fields of a ring. -/
def Box (w : World) (B : Nat) (cap : Nat) (v : Value) (f n op ac rf : Nat) : Prop :=
  w.heap[B]? = some (.cells #[.int .i64 cap, v, .int .i64 f, .int .i64 n, .int .i64 op, .int .i64 ac, .int .i64 rf] 81 (0, 0))
section
variable {w w' : World} {B cap f n op ac rf : Nat} {v : Value}
theorem Box.lt (h : Box w B cap v f n op ac rf) : B < w.heap.size := (Array.getElem?_eq_some_iff.1 h).1
theorem Box.same (h : Box w B cap v f n op ac rf) (hb : w'.heap[B]? = w.heap[B]?) : Box w' B cap v f n op ac rf := hb.trans h
theorem Box.cells (h : Box w B cap v f n op ac rf) : w.cell? ⟨B, 0, none⟩ = some (.int .i64 cap) ∧ w.cell? ⟨B, 1, none⟩ = some v ∧ w.cell? ⟨B, 2, none⟩ = some (.int .i64 f) ∧ w.cell? ⟨B, 3, none⟩ = some (.int .i64 n) ∧ w.cell? ⟨B, 4, none⟩ = some (.int .i64 op) ∧ w.cell? ⟨B, 5, none⟩ = some (.int .i64 ac) ∧ w.cell? ⟨B, 6, none⟩ = some (.int .i64 rf) := by
  unfold Box at h
  refine ⟨?_, ?_, ?_, ?_, ?_, ?_, ?_⟩ <;> (unfold World.cell?; simp only [h]; rfl)
theorem Box.free (h : Box w B cap v f n op ac rf) (i : Nat) : w.frozen? ⟨B, i, none⟩ = false := by
  unfold Box at h
  unfold World.frozen?; simp [h]
theorem Box.set1 (h : Box w B cap v f n op ac rf) (u : Value) : Box (w.setCell ⟨B, 1, none⟩ u) B cap u f n op ac rf := by
  unfold Box at *; simp only [World.setCell, Array.getElem?_modify, if_true, h, Option.map_some]; rfl
theorem Box.set2 (h : Box w B cap v f n op ac rf) (x : Nat) : Box (w.setCell ⟨B, 2, none⟩ (.int .i64 x)) B cap v x n op ac rf := by
  unfold Box at *; simp only [World.setCell, Array.getElem?_modify, if_true, h, Option.map_some]; rfl
theorem Box.set3 (h : Box w B cap v f n op ac rf) (x : Nat) : Box (w.setCell ⟨B, 3, none⟩ (.int .i64 x)) B cap v f x op ac rf := by
  unfold Box at *; simp only [World.setCell, Array.getElem?_modify, if_true, h, Option.map_some]; rfl
theorem Box.set4 (h : Box w B cap v f n op ac rf) (x : Nat) : Box (w.setCell ⟨B, 4, none⟩ (.int .i64 x)) B cap v f n x ac rf := by
  unfold Box at *; simp only [World.setCell, Array.getElem?_modify, if_true, h, Option.map_some]; rfl
theorem Box.set5 (h : Box w B cap v f n op ac rf) (x : Nat) : Box (w.setCell ⟨B, 5, none⟩ (.int .i64 x)) B cap v f n op x rf := by
  unfold Box at *; simp only [World.setCell, Array.getElem?_modify, if_true, h, Option.map_some]; rfl
theorem Box.set6 (h : Box w B cap v f n op ac rf) (x : Nat) : Box (w.setCell ⟨B, 6, none⟩ (.int .i64 x)) B cap v f n op ac x := by
  unfold Box at *; simp only [World.setCell, Array.getElem?_modify, if_true, h, Option.map_some]; rfl
theorem Box.other (h : Box w B cap v f n op ac rf) {p : Addr} (hp : B ≠ p.block) (u : Value) : Box (w.setCell p u) B cap v f n op ac rf := (Below.heap_setCell w p u B hp).trans h
end
/-- A ring whose places are the slice a. -/
structure At (w : World) (B : Nat) (a : Option Addr) (L : Nat) (ps : Nat → RV) (cap f n op ac rf : Nat) : Prop where
  box : Box w B cap (.slice a L L) f n op ac rf
  pl : (L = 0 ∧ a = none) ∨ (0 < L ∧ ∃ P, a = some ⟨P, 0, none⟩ ∧ P ≠ B ∧ PAt w 34 P L ps)
  cap0 : 0 < cap
  capM : cap ≤ 65536
  hL : L ≤ cap
  hf : f ≤ L
  hn : n ≤ L
  ho : op ≤ rf
/-- The blocks of a ring. -/
def RS (B : Nat) (a : Option Addr) (k : Nat) : Prop := k = B ∨ ∃ P, a = some ⟨P, 0, none⟩ ∧ k = P
/-- A ring with the slots l. -/
def Rng (w : World) (B : Nat) (S : Nat → Prop) (cap : Nat) (l : List RV) (op ac rf : Nat) : Prop :=
  ∃ a L ps f, At w B a L ps cap f l.length op ac rf ∧ Rg.sl ps L f l.length = l ∧ S = RS B a
theorem At.same {w w' : World} {B : Nat} {a : Option Addr} {L : Nat} {ps : Nat → RV} {cap f n op ac rf : Nat} (h : At w B a L ps cap f n op ac rf) (hk : ∀ k, RS B a k → w'.heap[k]? = w.heap[k]?) : At w' B a L ps cap f n op ac rf :=
  ⟨h.box.same (hk B (.inl rfl)), h.pl.imp id (fun ⟨h0, P, h1, h2, h3⟩ => ⟨h0, P, h1, h2, h3.same (hk P (.inr ⟨P, h1, rfl⟩))⟩), h.cap0, h.capM, h.hL, h.hf, h.hn, h.ho⟩
theorem At.turn {w w' : World} {B : Nat} {a : Option Addr} {L : Nat} {ps : Nat → RV} {cap f n op ac rf f' n' op' ac' rf' : Nat} (h : At w B a L ps cap f n op ac rf) (hb : Box w' B cap (.slice a L L) f' n' op' ac' rf') (hp : ∀ P, P ≠ B → w'.heap[P]? = w.heap[P]?) (hf' : f' ≤ L) (hn' : n' ≤ L) (ho' : op' ≤ rf') : At w' B a L ps cap f' n' op' ac' rf' :=
  ⟨hb, h.pl.imp id (fun ⟨h0, P, h1, h2, h3⟩ => ⟨h0, P, h1, h2, h3.same (hp P h2)⟩), h.cap0, h.capM, h.hL, hf', hn', ho'⟩
theorem set_other {w : World} {p : Addr} {v : Value} {P : Nat} (h : P ≠ p.block) : (w.setCell p v).heap[P]? = w.heap[P]? := Below.heap_setCell w p v P h
theorem At.size {w : World} {B : Nat} {a : Option Addr} {L : Nat} {ps : Nat → RV} {cap f n op ac rf : Nat} (h : At w B a L ps cap f n op ac rf) : ∀ k, RS B a k → k < w.heap.size := by
  rintro k (rfl | ⟨P, h1, rfl⟩)
  · exact h.box.lt
  · rcases h.pl with ⟨_, h2⟩ | ⟨_, P', h2, _, h3⟩
    · rw [h1] at h2; cases h2
    · rw [h1] at h2; cases h2; exact h3.lt
theorem At.below {w w' : World} {B : Nat} {a : Option Addr} {L : Nat} {ps : Nat → RV} {cap f n op ac rf : Nat} (h : At w B a L ps cap f n op ac rf) (hb : Below w.heap.size w w') : At w' B a L ps cap f n op ac rf := h.same fun k hk => hb.block k (h.size k hk)
theorem Rng.below {w w' : World} {B : Nat} {S : Nat → Prop} {cap : Nat} {l : List RV} {op ac rf : Nat} (h : Rng w B S cap l op ac rf) (hb : Below w.heap.size w w') : Rng w' B S cap l op ac rf := by
  obtain ⟨a, L, ps, f, h1, h2⟩ := h
  exact ⟨a, L, ps, f, h1.below hb, h2⟩
theorem Rng.size {w : World} {B : Nat} {S : Nat → Prop} {cap : Nat} {l : List RV} {op ac rf : Nat} (h : Rng w B S cap l op ac rf) : ∀ k, S k → k < w.heap.size := by
  obtain ⟨a, L, ps, f, h1, _, rfl⟩ := h
  exact h1.size
theorem Rng.bounds {w : World} {B : Nat} {S : Nat → Prop} {cap : Nat} {l : List RV} {op ac rf : Nat} (h : Rng w B S cap l op ac rf) : l.length ≤ cap ∧ 0 < cap ∧ cap ≤ 65536 ∧ op ≤ rf := by
  obtain ⟨a, L, ps, f, h1, _⟩ := h
  exact ⟨Nat.le_trans h1.hn h1.hL, h1.cap0, h1.capM, h1.ho⟩

set_option maxRecDepth 100000 in
theorem none_any (w : World) (B cap : Nat) (h0 : 0 < cap) (c0 : w.cell? ⟨B, 0, none⟩ = some (.int .i64 cap)) : Calls Try.prog 41 #[.pointer (some ⟨B, 0, none⟩)] w fun e w' => e = .returned (.bool false) ∧ w' = w := by
  have g : ((cap : Int) == 0) = false := by simp; omega
  go_enter Try.func41, Try.ntmps41
  go_wp2
  go_ret
  exact ⟨rfl, rfl⟩
set_option maxRecDepth 100000 in
theorem place_any (w : World) (B : Nat) (a : Option Addr) (L f : Nat) (hL0 : 0 < L) (hL : (L : Int) ≤ 65536) (hf : (f : Int) ≤ 65536) (c1 : w.cell? ⟨B, 1, none⟩ = some (.slice a L L)) (c2 : w.cell? ⟨B, 2, none⟩ = some (.int .i64 f)) (i : Nat) (hi : (i : Int) ≤ 65536) (j : Nat) (hj : (f + i) % L = j) : Calls Try.prog 43 #[.pointer (some ⟨B, 0, none⟩), .int .i64 i] w fun e w' => e = .returned (.int .i64 j) ∧ Below w.heap.size w w' := by
  have hne : ¬ (L : Int) = 0 := by omega
  have hw1 : IntKind.i64.wrap ((f : Int) + (i : Int)) = ((f + i : Nat) : Int) := by rw [IntKind.wrap_i64]; push_cast; omega
  have hj2 : ((f : Int) + (i : Int)).tmod (L : Int) = (j : Int) := by
    rw [← hj]; push_cast
    exact Int.tmod_eq_emod_of_nonneg (by omega)
  have hjl : (j : Int) ≤ 65536 := by have := Nat.mod_lt (f + i) hL0; omega
  clear hj
  go_enter Try.func43, Try.ntmps43
  go_wp2
  go_quiet (fail)
  go_wp2
  go_ret
  exact ⟨rfl, below_drewN (Below.refl _ _) _⟩
end RI
end Go.Proofs.Ytljodpdplmhdnaa
