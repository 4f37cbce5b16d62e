/-
  borderAt, borders.
-/
import Derived.Test.YthamilolacfeoaaHasQ
import Derived.Stop.RegionWithIn
namespace Go.Proofs.Ythamilolacfeoaa
open Go.RowKit Sq
attribute [local go_sem] Oper.semAt_some
set_option linter.unusedVariables false

section
variable (a : Option Addr) (n c : Nat) (l : Rs) (hl : l.length = n) (w : World) (B : Nat) (hS : SeenR w B a l) (hR : Rt l) (i : Nat) (hi : i ≤ 2 * n)
include hl hS hR hi
set_option maxRecDepth 100000 in
set_option maxHeartbeats 2000000 in
theorem borderAt_any : Calls Try.prog 72 #[.slice a n c, .int .i64 i] w fun e w' => e = .returned (.int .i64 (bd l i)) ∧ Below w.heap.size w w' := by
  have hn6 : (n : Int) ≤ 65536 := by have := hR.1; omega
  have hw1 : IntKind.i64.wrap (2 * (n : Int)) = 2 * (n : Int) := wrap_i (by omega) (by omega)
  by_cases hp : 2 * n ≤ i
  · have e : bd l i = 281474976710658 := bd_past (by omega)
    rw [e]
    have g1 : decide (2 * (n : Int) ≤ (i : Int)) = true := by simp; omega
    have g2 : 2 * (n : Int) ≤ (i : Int) := by omega
    clear hl hS hR hi hp e
    go_enter Try.func72, Try.ntmps72
    go_wp2
    go_ret
    exact ⟨rfl, Below.refl _ _⟩
  · have g1 : decide (2 * (n : Int) ≤ (i : Int)) = false := by simp; omega
    have g2 : ¬ 2 * (n : Int) ≤ (i : Int) := by omega
    obtain ⟨k, hk⟩ : ∃ k, i / 2 = k := ⟨_, rfl⟩
    have hkn : k < n := by omega
    obtain ⟨r, hrk⟩ : ∃ r, l[k]? = some r := ⟨_, List.getElem?_eq_getElem (by omega)⟩
    obtain ⟨q1, q2, q3⟩ := ends_high hR.2 r (List.mem_of_getElem? hrk)
    obtain ⟨b, off, rfl, hb, hc1, hc2⟩ := hS k r hrk
    obtain ⟨f, hf⟩ : ∃ f, r.1 = f := ⟨_, rfl⟩
    obtain ⟨d, hd⟩ : ∃ d, r.2 = d := ⟨_, rfl⟩
    rw [hf] at hc1 q1 q3
    rw [hd] at hc2 q2 q3
    have HE : Hid (IntKind.i64.wrap (f + d) = f + d) := wrap_i (by omega) (by omega)
    have hki : (i : Int) / 2 = (k : Int) := by omega
    have hkni : (k : Int) < (n : Int) := by omega
    by_cases hm : i % 2 = 0
    · have e : bd l i = f := by unfold bd; rw [hk, hrk, ← hf]; simp [hm]
      have g3 : (i : Int) % 2 = 0 := by omega
      rw [e]
      clear hl hS hR hi hp e hk hrk hf hd hm q1 q2 q3
      go_enter Try.func72, Try.ntmps72
      go_wp2
      go_ret
      exact ⟨rfl, Below.refl _ _⟩
    · have e : bd l i = f + d := by unfold bd; rw [hk, hrk, ← hf, ← hd]; simp [hm]
      have g3 : ((i : Int) % 2 == 0) = false := by simp; omega
      rw [e]
      clear hl hS hR hi hp e hk hrk hf hd hm q1 q2 q3
      go_enter Try.func72, Try.ntmps72
      go_wp2_with (go_at_call 53; ((with_reducible refine (end_any f d _ HE.out _).mono ?_); rintro e w2 ⟨rfl, hb2⟩))
      go_ret
      exact ⟨rfl, hb2⟩
end
set_option maxRecDepth 100000 in
theorem borders_any (a1 a2 : Option Addr) (n c1 m c2 : Nat) (w : World) :
    Calls Try.prog 64 #[.slice a1 n c1, .slice a2 m c2] w fun e w' => e = .returned (.func (.func 71) #[] #[.pointer (some ⟨w.heap.size, 0, none⟩), .pointer (some ⟨w.heap.size + 1, 0, none⟩)]) ∧ w' = (w.alloc (.cells #[.slice a1 n c1] 22)).alloc (.cells #[.slice a2 m c2] 22) := by
  go_enter Try.func64, Try.ntmps64
  go_wp2
  go_ret
  exact ⟨rfl, rfl⟩

/-- Some blocks are as they were. -/
def KS (S : Nat → Prop) (W W' : World) : Prop := ∀ k, S k → W'.heap[k]? = W.heap[k]?
theorem KS.refl (S : Nat → Prop) (W : World) : KS S W W := fun _ _ => rfl
theorem KS.trans {S : Nat → Prop} {A B C : World} (h : KS S A B) (k : KS S B C) : KS S A C := fun i hi => (k i hi).trans (h i hi)
theorem KS.below {S : Nat → Prop} {n : Nat} {W W' : World} (h : Below n W W') (hB : ∀ k, S k → k < n) : KS S W W' := fun k hk => h.block k (hB k hk)
theorem KS.put {S : Nat → Prop} {l : Nat} {W : World} {o' : Obj} (h : ∀ k, S k → k < l) : KS S W (W.putObj l o') := fun k hk => World.putObj_heap_other (by have := h k hk; omega)
/-- What the borders are read of: the blocks below B, and two boxes. -/
def SS (B p q : Nat) (k : Nat) : Prop := k < B ∨ k = p ∨ k = q
def encB (a b : Rs) (t : Nat) : Array Value := #[.agg #[.int .i64 (item a b t).1, .bool (item a b t).2.1, .bool (item a b t).2.2]]
theorem KS.seen {B p q : Nat} {W W' : World} (h : KS (SS B p q) W W') {a : Option Addr} {l : Rs} (hS : SeenR W B a l) : SeenR W' B a l := hS.keep fun x hx => World.cell?_of_block (w := W) (h x.block (.inl hx))
theorem KS.size {B p q : Nat} {W W' : World} (h : KS (SS B p q) W W') (hB : B ≤ W.heap.size) : B ≤ W'.heap.size := by
  rcases Nat.lt_or_ge W'.heap.size B with h1 | h1
  · have h2 := h W'.heap.size (.inl h1)
    rw [Array.getElem?_eq_none (Nat.le_refl _), Array.getElem?_eq_getElem (by omega)] at h2
    cases h2
  · exact h1
theorem below_of_drew {W w' : World} (h : Below W.drew.heap.size W.drew w') : Below W.heap.size W w' := ⟨h.os, h.tape, h.output, h.size, h.block⟩
theorem ks_boxed {S : Nat → Prop} {W W' : World} {b : Nat} {t : TypeId} {v : Value} (h : Boxed W b t v) (hk : KS S W W') (hs : S b) : Boxed W' b t v := (hk b hs).trans h
end Go.Proofs.Ythamilolacfeoaa
