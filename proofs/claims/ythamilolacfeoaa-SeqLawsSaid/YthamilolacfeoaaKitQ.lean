/-
  Runs in memory.
-/
import Derived.Test.YthamilolacfeoaaSq
import Derived.Test.YthamilolacfeoaaWords
import Derived.Test.YthamilolacfeoaaProg
import Derived.Below
import Derived.Laws.OwnMore
import Derived.BigQuiet
import Derived.Deep.QuietTactic
import Derived.Deep.RegionHeld3
import Derived.Deep.DeepCutAuto
import Derived.OwnWalk
import Derived.IntWalk
import Derived.LoopTactic
import Derived.Lib.Hide
import Derived.WalkKit
import Derived.Shelf.Abstract
import Derived.Shelf.RegionOpen
import Derived.RangeFuncNested
import Derived.RangeFuncBound
import Derived.RangeFuncCalls
import Derived.RangeFuncLeaves
import Derived.WalkSpells
import Derived.WalkMore
import Derived.Outline
import Derived.WalkLawsBesides
import Derived.Deep.Light
import Derived.TacticsInMore
import Derived.LoopIn
import Derived.LoopNIn
import Derived.OwnWalkIn
import Derived.RangeFuncBox
import Derived.BigRegionIn
import Derived.Maps.AppendAt
namespace Go.Proofs.Ythamilolacfeoaa
open Go.RowKit Sq
set_option linter.unusedVariables false

def flat (l : Rs) : List Value := l.flatMap fun p => [.int .i64 p.1, .int .i64 p.2]
theorem flat_cons (p : Int × Int) (l : Rs) : flat (p :: l) = .int .i64 p.1 :: .int .i64 p.2 :: flat l := rfl
theorem flat_append (l k : Rs) : flat (l ++ k) = flat l ++ flat k := by simp [flat]
theorem flat_len : ∀ l : Rs, (flat l).length = l.length * 2
  | [] => rfl
  | p :: l => by rw [flat_cons]; simp [flat_len l]; omega
theorem flat_fst : ∀ (l : Rs) (j : Nat) (p : Int × Int), l[j]? = some p → (flat l)[j * 2]? = some (.int .i64 p.1)
  | q :: l, 0, p, h => by
    obtain rfl : q = p := by simpa using h
    rfl
  | q :: l, j + 1, p, h => by
    have := flat_fst l j p (by simpa using h)
    rw [flat_cons, show (j + 1) * 2 = j * 2 + 1 + 1 by omega]
    simpa using this
theorem flat_snd : ∀ (l : Rs) (j : Nat) (p : Int × Int), l[j]? = some p → (flat l)[j * 2 + 1]? = some (.int .i64 p.2)
  | q :: l, 0, p, h => by
    obtain rfl : q = p := by simpa using h
    rfl
  | q :: l, j + 1, p, h => by
    have := flat_snd l j p (by simpa using h)
    rw [flat_cons, show (j + 1) * 2 + 1 = j * 2 + 1 + 1 + 1 by omega]
    simpa using this
theorem flat_set2 : ∀ (l : Rs) (j : Nat) (x : Int) (q : Int × Int), l[j]? = some q → flat (l.set j (q.1, x)) = (flat l).set (j * 2 + 1) (.int .i64 x)
  | p :: l, 0, x, q, h => by
    obtain rfl : p = q := by simpa using h
    rfl
  | p :: l, j + 1, x, q, h => by
    have := flat_set2 l j x q (by simpa using h)
    rw [List.set_cons_succ, flat_cons, flat_cons, this, show (j + 1) * 2 + 1 = j * 2 + 1 + 1 + 1 by omega]
    rfl
theorem flat_set1 : ∀ (l : Rs) (j : Nat) (x : Int) (q : Int × Int), l[j]? = some q → flat (l.set j (x, q.2)) = (flat l).set (j * 2) (.int .i64 x)
  | p :: l, 0, x, q, h => by
    obtain rfl : p = q := by simpa using h
    rfl
  | p :: l, j + 1, x, q, h => by
    have := flat_set1 l j x q (by simpa using h)
    rw [List.set_cons_succ, flat_cons, flat_cons, this, show (j + 1) * 2 = j * 2 + 1 + 1 by omega]
    rfl

/-- In the world w, below block B, the slice that begins at a holds the runs l. -/
def SeenR (w : World) (B : Nat) (a : Option Addr) (l : Rs) : Prop :=
  ∀ (i : Nat) (p : Int × Int), l[i]? = some p → ∃ b off, a = some ⟨b, off, none⟩ ∧ b < B ∧ w.cell? ⟨b, off + i * 2, none⟩ = some (.int .i64 p.1) ∧ w.cell? ⟨b, off + i * 2 + 1, none⟩ = some (.int .i64 p.2)
theorem SeenR.nil (w : World) (B : Nat) (a : Option Addr) : SeenR w B a [] := fun i p h => by simp at h
theorem SeenR.keep {w w' : World} {B : Nat} {a : Option Addr} {l : Rs} (h : SeenR w B a l) (hk : ∀ p : Addr, p.block < B → w'.cell? p = w.cell? p) : SeenR w' B a l := fun i p hp => by
  obtain ⟨b, off, h1, h2, h3, h4⟩ := h i p hp
  exact ⟨b, off, h1, h2, (hk ⟨b, off + i * 2, none⟩ h2).trans h3, (hk ⟨b, off + i * 2 + 1, none⟩ h2).trans h4⟩
theorem SeenR.below {w w' : World} {B : Nat} {a : Option Addr} {l : Rs} (h : SeenR w B a l) (hb : Below B w w') : SeenR w' B a l := h.keep fun p hp => hb.cell hp
theorem SeenR.alloc {w : World} {B : Nat} {a : Option Addr} {l : Rs} (h : SeenR w B a l) (hB : B ≤ w.heap.size) (o : Obj) : SeenR (w.alloc o) B a l := h.keep fun p hp => World.cell?_alloc_lt w o p (by omega)
theorem SeenR.more {w : World} {B B' : Nat} {a : Option Addr} {l : Rs} (h : SeenR w B a l) (hB : B ≤ B') : SeenR w B' a l := fun i p hp => by
  obtain ⟨b, off, h1, h2, h3⟩ := h i p hp
  exact ⟨b, off, h1, by omega, h3⟩
theorem SeenR.tail {w : World} {B b off : Nat} {p : Int × Int} {l : Rs} (h : SeenR w B (some ⟨b, off, none⟩) (p :: l)) : SeenR w B (some ⟨b, off + 2, none⟩) l := fun i q hq => by
  obtain ⟨b1, o1, h1, h2, h3, h4⟩ := h (i + 1) q (by simpa using hq)
  cases h1
  exact ⟨b, off + 2, rfl, h2, by rw [show off + 2 + i * 2 = off + (i + 1) * 2 by omega]; exact h3, by rw [show off + 2 + i * 2 + 1 = off + (i + 1) * 2 + 1 by omega]; exact h4⟩
theorem SeenR.of_own {w : World} {base n c : Nat} {a : Option Addr} {e : TypeId} {l : Rs} (h : w.ownsRow base e 2 (.slice a n c) n (flat l)) : SeenR w w.heap.size a l := fun i p hp => by
  have hl : i < l.length := (List.getElem?_eq_some_iff.1 hp).1
  have hn : l.length * 2 = n * 2 := by rw [← flat_len]; exact h.1
  rcases h.2 with ⟨h0, h1⟩ | ⟨g, cap, cur, hv, _, hh, _⟩
  · omega
  · injection hv with hv1 _ hv2
    subst hv1
    subst hv2
    refine ⟨g, 0, rfl, (Array.getElem?_eq_some_iff.1 hh).1, ?_, ?_⟩
    · rw [Nat.zero_add, h.cellAt (i * 2) (by omega)]; exact flat_fst l i p hp
    · rw [Nat.zero_add, h.cellAt (i * 2 + 1) (by omega)]; exact flat_snd l i p hp
theorem own_runs {w : World} {base n : Nat} {e : TypeId} {v : Value} {l : Rs} (h : w.ownsRow base e 2 v n (flat l)) : ∃ a c, v = .slice a n c ∧ SeenR w w.heap.size a l ∧ l.length = n ∧ n ≤ c ∧ c ≤ maxLen := by
  have hl : l.length = n := by have := h.1; rw [flat_len] at this; omega
  rcases h.2 with ⟨rfl, rfl⟩ | ⟨g, cap, cur, rfl, hg, hh, h1, h2, _⟩
  · exact ⟨none, 0, rfl, by rw [List.eq_nil_of_length_eq_zero hl]; exact SeenR.nil _ _ _, hl, Nat.le_refl _, by unfold maxLen; omega⟩
  · exact ⟨_, cap, rfl, SeenR.of_own h, hl, h1, h2⟩
theorem SeenR.of_block {w : World} {b off : Nat} {cs : Array Value} {t : TypeId} {f : Nat × Nat} {l : Rs} (h : w.heap[b]? = some (.cells cs t f)) (hx : ∀ (i : Nat) (p : Int × Int), l[i]? = some p → cs[off + i * 2]? = some (.int .i64 p.1) ∧ cs[off + i * 2 + 1]? = some (.int .i64 p.2)) : SeenR w w.heap.size (some ⟨b, off, none⟩) l :=
  fun i p hi => ⟨b, off, rfl, (Array.getElem?_eq_some_iff.1 h).1, by simpa [World.cell?, h] using (hx i p hi).1, by simpa [World.cell?, h] using (hx i p hi).2⟩

theorem grown_of_below {w w' : World} (h : Below w.heap.size w w') : w.grownBy w' none := ⟨h.os, h.tape, h.output, h.size, fun k hk _ => h.block k hk⟩
theorem below_alloc {w w' : World} {o : Obj} (h : Below (w.alloc o).heap.size (w.alloc o) w') : Below w.heap.size w w' := ((Below.refl _ w).alloc (Nat.le_refl _) _).trans (h.mono (by simp))
theorem below_drewN {B : Nat} {a w : World} (h : Below B a w) (n : Nat) : Below B a (w.drewN n) := ⟨h.os, h.tape, h.output, h.size, h.block⟩
theorem below_own {w w' : World} {base : Nat} {o : Option Nat} (h : w.grownBy w' o) (hg : ∀ g, o = some g → base ≤ g) (hb : base ≤ w.heap.size) : Below base w w' := (Below.refl base w).grown h hb hg
theorem info_parts {o : Option TypeInfo} {z : Option Value} {s b : Nat} (h : o.map (fun i => (i.zero, i.size, i.bytes)) = some (z, s, b)) : ∃ i0, o = some i0 ∧ i0.zero = z ∧ i0.size = s ∧ i0.bytes = b := by
  obtain ⟨i, hi, he⟩ := Option.map_eq_some_iff.1 h
  injection he with h1 h2
  injection h2 with h2 h3
  exact ⟨i, hi, h1, h2, h3⟩
theorem infoR : (Try.prog.info? 34).map (fun i => (i.zero, i.size, i.bytes)) = some (some (.agg #[.int .i64 0, .int .i64 0]), 2, 16) := by kernel_rfl
theorem infoI : (Try.prog.info? 3).map (fun i => (i.zero, i.size, i.bytes)) = some (some (.int .i64 0), 1, 8) := by kernel_rfl
theorem cells_two_new (W : World) (t : TypeId) (u v : Value) : ∀ j x, [u, v][j]? = some x → (W.alloc (.cells #[u, v] t)).cell? ((⟨W.heap.size, 0, none⟩ : Addr).add j) = some x := by
  intro j x hx
  have hh := heap_alloc_new W (.cells #[u, v] t)
  match j, hx with
  | 0, hx =>
    obtain rfl : u = x := by simpa using hx
    rw [show (⟨W.heap.size, 0, none⟩ : Addr).add 0 = ⟨W.heap.size, 0, none⟩ by simp [Addr.add]]
    unfold World.cell?
    rw [hh]; rfl
  | 1, hx =>
    obtain rfl : v = x := by simpa using hx
    rw [show (⟨W.heap.size, 0, none⟩ : Addr).add 1 = ⟨W.heap.size, 1, none⟩ by simp [Addr.add]]
    unfold World.cell?
    rw [hh]; rfl
  | j + 2, hx => simp at hx
/-- Blocks below B are as they were. -/
def KB (B : Nat) (W W' : World) : Prop := ∀ k, k < B → W'.heap[k]? = W.heap[k]?
theorem KB.refl (B : Nat) (W : World) : KB B W W := fun _ _ => rfl
theorem KB.trans {B : Nat} {A C D : World} (h : KB B A C) (k : KB B C D) : KB B A D := fun i hi => (k i hi).trans (h i hi)
theorem KB.below {B n : Nat} {W W' : World} (h : Below n W W') (hB : B ≤ n) : KB B W W' := fun k hk => h.block k (by omega)
theorem KB.cell {B : Nat} {W W' : World} (h : KB B W W') {p : Addr} (hp : p.block < B) : W'.cell? p = W.cell? p := World.cell?_of_block (w := W) (h p.block hp)
theorem KB.seen {B : Nat} {W W' : World} (h : KB B W W') {a : Option Addr} {l : Rs} (hS : SeenR W B a l) : SeenR W' B a l := hS.keep fun p hp => h.cell hp
theorem KB.put {B l : Nat} {W : World} {o' : Obj} (h : B ≤ l) : KB B W (W.putObj l o') := fun k hk => World.putObj_heap_other (by omega)
theorem cell_new_at (w : World) (v : Value) (t : TypeId) : (w.alloc (.cells #[v] t)).cell? ⟨w.heap.size, 0, none⟩ = some v := by
  have hh := heap_alloc_new w (.cells #[v] t)
  unfold World.cell?
  rw [hh]; rfl
theorem wrap_i {x : Int} (h : -9223372036854775808 ≤ x) (h2 : x ≤ 9223372036854775807) : IntKind.i64.wrap x = x := by rw [IntKind.wrap_i64]; omega

set_option maxRecDepth 100000 in
/-- Where a run ends. -/
theorem end_eq (f c : Int) (x : Int) (hx : IntKind.i64.wrap (f + c) = x) (w : World) : Calls Try.prog 53 #[.agg #[.int .i64 f, .int .i64 c]] w fun e w' => e = .returned (.int .i64 x) ∧ w' = w.alloc (.cells #[.int .i64 f, .int .i64 c] 34) := by
  go_enter Try.func53, Try.ntmps53
  go_wp2
  go_ret
  exact ⟨rfl, rfl⟩
theorem end_any (f c : Int) (x : Int) (hx : IntKind.i64.wrap (f + c) = x) (w : World) : Calls Try.prog 53 #[.agg #[.int .i64 f, .int .i64 c]] w fun e w' => e = .returned (.int .i64 x) ∧ Below w.heap.size w w' :=
  (end_eq f c x hx w).mono fun e w' ⟨h1, h2⟩ => ⟨h1, by subst h2; exact (Below.refl _ w).alloc (Nat.le_refl _) _⟩
end Go.Proofs.Ythamilolacfeoaa
