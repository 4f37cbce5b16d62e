/-
  take, number and attempt of a reader; slices.Clone.
-/
import Derived.Test.YtdemlifjhlpclaaRest
import Derived.Deep.RegionHeld3
import Derived.Lib.SliceRun
namespace Go.Proofs.Ytdemlifjhlpclaa
open Go.RowKit
set_option linter.unusedVariables false

/-- In the world w, block B is a reader at the place p of the bytes xs. -/
def Rdr (w : World) (B p : Nat) (xs : List Nat) : Prop :=
  ∃ a c, w.heap[B]? = some (ob 83 p xs.length (.slice a xs.length c)) ∧ ((a = none ∧ c = 0) ∨ ∃ g, a = some ⟨g, 0, none⟩) ∧ Seen w B .u8 a xs ∧ (∀ x ∈ xs, x < 256) ∧ p ≤ xs.length ∧ xs.length ≤ c ∧ c ≤ maxLen
theorem Rdr.keep {w w' : World} {B p : Nat} {xs : List Nat} (h : Rdr w B p xs) (hb : Below (B + 1) w w') : Rdr w' B p xs := by
  obtain ⟨a, c, h1, h2, h3, h4⟩ := h
  exact ⟨a, c, (hb.block B (by omega)).trans h1, h2, h3.below (hb.mono (by omega)), h4⟩
theorem Rdr.lt {w : World} {B p : Nat} {xs : List Nat} (h : Rdr w B p xs) : B < w.heap.size := by
  obtain ⟨a, c, h1, _⟩ := h
  exact (Array.getElem?_eq_some_iff.1 h1).1
theorem Rdr.below {w w' : World} {B p : Nat} {xs : List Nat} (h : Rdr w B p xs) (hb : Below w.heap.size w w') : Rdr w' B p xs := h.keep (hb.mono h.lt)
theorem Rdr.past {w w' : World} {B p N : Nat} {xs ys : List Nat} {a : Option Addr} (h : Rdr w B p xs) (hk : Chg (· = B) w w') (hS : Seen w N .u8 a ys) : Seen w' N .u8 a ys := by
  obtain ⟨_, _, h1, _⟩ := h
  exact hS.past h1 hk
theorem Rdr.past_cell {w w' : World} {B p g off x : Nat} {xs : List Nat} (h : Rdr w B p xs) (hk : Chg (· = B) w w') (hc : w.cell? ⟨g, off, none⟩ = some (.int .u8 x)) : w'.cell? ⟨g, off, none⟩ = some (.int .u8 x) := by
  obtain ⟨a, c, hb, _⟩ := h
  have hne : g ≠ B := fun e => by subst e; exact ob_apart hb (by decide) (by intro x h; cases h) hc
  exact (World.cell?_of_block (w := w) (hk.block g (World.block_lt_of_cell? w _ hc) hne)).trans hc
theorem seen_drop {w : World} {N : Nat} {k : IntKind} {g off : Nat} {xs : List Nat} (h : Seen w N k (some ⟨g, off, none⟩) xs) (p : Nat) : Seen w N k (some ⟨g, off + p, none⟩) (xs.drop p) := fun i x hx => by
  rw [List.getElem?_drop] at hx
  obtain ⟨b, o, e, hb, hc⟩ := h _ _ hx
  cases e
  exact ⟨_, _, rfl, hb, by rw [Nat.add_assoc]; exact hc⟩
theorem seen_drop_all {w : World} {N : Nat} {k : IntKind} {a' : Option Addr} {xs : List Nat} {p : Nat} (hp : xs.length ≤ p) : Seen w N k a' (xs.drop p) := by
  rw [List.drop_eq_nil_of_le hp]; exact Seen.nil _ _ _ _

theorem chg_set (w : World) (B q o : Nat) (v : Value) : Chg (· = B) w ((w.drewN q).setCell ⟨B, o, none⟩ v) := Chg.setCell (p := ⟨B, o, none⟩) ((Chg.refl (· = B) w).drewN q) rfl v

set_option maxRecDepth 100000 in
set_option maxHeartbeats 1000000 in
theorem take_ok (w : World) (B p k : Nat) (xs : List Nat) (hR : Rdr w B p xs) (hk : p + k ≤ xs.length) :
    Calls Try.prog 54 #[.pointer (some ⟨B, 0, none⟩), .int .i64 k] w fun e w' => ∃ a c, e = .returned (.tuple #[.slice a k c, .int .i64 0]) ∧ Seen w' B .u8 a ((xs.drop p).take k) ∧ k ≤ c ∧ c ≤ maxLen ∧ (a = none → c = 0) ∧ Rdr w' B (p + k) xs ∧ Chg (· = B) w w' := by
  obtain ⟨a, c, hb, hsh, hS, hx, hp, hc, hcm⟩ := hR
  have hcm' := hcm
  unfold maxLen at hcm'
  obtain ⟨c0, c1, c2, c3, f1, f3⟩ := ob_cells hb
  obtain ⟨n, hn⟩ : ∃ n, xs.length = n := ⟨_, rfl⟩
  have HB : ∀ q v, v = ((p + k : Nat) : Int) → Rdr (((w.drewN q).setCell ⟨B, 1, none⟩ (.int .i64 v))) B (p + k) xs := fun q v hv => by
    subst hv
    exact ⟨a, c, ob_set1 (w := w.drewN q) hb _, hsh, hS.past hb (chg_set w B q 1 _), hx, hk, hc, hcm⟩
  have HBB := Lib.hid HB
  clear HB
  rw [hn] at hp hc hk c2 c3
  have HN := Lib.hid hn
  have k1 : (p : Int) ≤ (p : Int) + k := by omega
  have k2 : (p : Int) + k ≤ (c : Int) := by omega
  have k0 : (0 : Int) ≤ (p : Int) := by omega
  clear hn
  by_cases hpc : p = c
  · have hk0 : k = 0 := by omega
    subst hk0
    subst hpc
    rcases hsh with ⟨rfl, rfl⟩ | ⟨g, rfl⟩
    all_goals
      go_enter Try.func54, Try.ntmps54
      go_wp2_with (go_at_call 56; refine (pass_ok _ B _ n 0 hk (by omega) c1 c2 f1).mono ?_; rintro e w1 ⟨rfl, q, rfl⟩)
      go_quiet (fail)
      go_wp2
      go_ret2
      refine ⟨_, _, rfl, by rw [List.take_zero]; exact Seen.nil _ _ _ _, Nat.zero_le _, by unfold maxLen; omega, by simp, HBB.out q _ rfl, (chg_set w B _ 1 _).drewN _⟩
  · rcases hsh with ⟨rfl, rfl⟩ | ⟨g, rfl⟩
    · omega
    have hpc' : (p : Int) < (c : Int) := by omega
    go_enter Try.func54, Try.ntmps54
    go_wp2_with (go_at_call 56; refine (pass_ok _ B _ n k hk (by omega) c1 c2 f1).mono ?_; rintro e w1 ⟨rfl, q, rfl⟩)
    go_quiet (fail)
    go_wp2
    go_ret2
    refine ⟨_, _, by rw [show p + k - p = k from by omega]; rfl, ?_, ?_, ?_, by simp, HBB.out q _ rfl, (chg_set w B _ 1 _).drewN _⟩
    · have h := seen_drop (hS.past hb ((chg_set w B q 1 (.int .i64 ((p : Int) + (k : Int)))).drewN nq)) p
      rw [Nat.zero_add] at h
      exact seen_take h k
    · omega
    · unfold maxLen; omega

set_option maxRecDepth 100000 in
set_option maxHeartbeats 1000000 in
theorem take_end (w : World) (B p k : Nat) (xs : List Nat) (hR : Rdr w B p xs) (hk : xs.length < p + k) :
    Calls Try.prog 54 #[.pointer (some ⟨B, 0, none⟩), .int .i64 k] w fun e w' => e = .returned (.tuple #[.slice none 0 0, .int .i64 20]) ∧ Rdr w' B p xs ∧ Chg (· = B) w w' := by
  have hR' := Lib.hid hR
  obtain ⟨a, c, hb, hsh, hS, hx, hp, hc, hcm⟩ := hR
  unfold maxLen at hcm
  obtain ⟨c0, c1, c2, c3, f1, f3⟩ := ob_cells hb
  go_enter Try.func54, Try.ntmps54
  go_wp2_with (go_at_call 56; refine (pass_no _ B p xs.length k hp (by omega) hk c1 c2).mono ?_; rintro e w1 ⟨rfl, q, rfl⟩)
  go_ret2
  exact ⟨rfl, hR'.out, (Chg.refl _ w).drewN q⟩

theorem nilSlice (w : World) (a : Option Addr) (n c n' c' : Nat) : (binOp .eql 22 (.slice a n c) (.slice none n' c')).run Try.prog w = .ok (.bool a.isNone) w := Lib.run_eql_slice_nil w _ _ a n c n' c' Try.underlying22

set_option maxRecDepth 100000 in
/-- slices.Clone. -/
theorem clone_nil (w : World) : Calls Try.prog 47 #[.slice none 0 0] w fun e w' => e = .returned (.slice none 0 0) ∧ w = w' := by
  have q22 := nilSlice
  go_enter Try.func47, Try.ntmps47
  go_wp2
  go_ret
  exact ⟨rfl, rfl⟩
set_option maxRecDepth 100000 in
set_option maxHeartbeats 1000000 in
theorem clone_any (w : World) (a : Option Addr) (n c : Nat) (xs : List Nat) (hn : xs.length = n) (hc : n ≤ c) (hcm : c ≤ maxLen) (hs : a = none → c = 0) (hm : n ≤ 1000000000) (N : Nat) (hS : Seen w N .u8 a xs) (hN : N ≤ w.heap.size) :
    Calls Try.prog 47 #[.slice a n c] w fun e w' => ∃ v, e = .returned v ∧ w'.ownsRow w.heap.size 5 1 v n (xs.map fun x : Nat => Value.int .u8 x) ∧ Below w.heap.size w w' := by
  have q22 := nilSlice
  obtain ⟨i0, hi, hz0, hz1, hz2⟩ := info_parts infoB
  have HN := Lib.hid hn
  unfold maxLen at hcm
  clear hn
  cases a with
  | none =>
    have hc0 := hs rfl
    subst hc0
    obtain rfl : n = 0 := by omega
    refine (clone_nil w).mono ?_
    rintro e w' ⟨rfl, rfl⟩
    have hx : xs = [] := List.eq_nil_of_length_eq_zero HN.out
    subst hx
    exact ⟨_, rfl, World.ownsRow_nil _ _ _ _, Below.refl _ _⟩
  | some ad =>
    clear hs
    have hown0 : (w.alloc (.cells #[] 5)).ownsRow w.heap.size 5 1 (.slice (some ⟨w.heap.size, 0, none⟩) 0 0) 0 [] := World.ownsRow_made w #[] 0 (Nat.le_refl _) (by unfold maxLen; omega) (by simp)
    have hB1 : Below w.heap.size w (w.alloc (.cells #[] 5)) := (Below.refl _ w).alloc (Nat.le_refl _) _
    by_cases hn0 : n = 0
    · have H0 := Lib.hid hn0
      go_enter Try.func47, Try.ntmps47
      go_wp2_with (at_builtin; refine wpList_append_nothing _ rfl _ _ 22 rfl 5 i0 Try.underlying22 hi _ _ _ rfl (Nat.zero_le _) _ _ _ H0.out rfl ?_)
      go_ret
      have hx : xs = [] := List.eq_nil_of_length_eq_zero (HN.out.trans H0.out)
      subst hx
      have hz := H0.out
      subst hz
      exact ⟨_, rfl, hown0, hB1⟩
    · have hS1 := hS.below (hB1.mono hN)
      go_enter Try.func47, Try.ntmps47
      go_wp2_with (at_builtin; refine wpList_append_own _ rfl _ _ 22 rfl w.heap.size 5 i0 (.int .u8 0) 1 1 Try.underlying22 hi hz0 hz1 hz2 rfl (by decide) _ _ _ rfl hown0 ad n c (xs.map fun x : Nat => Value.int .u8 x) rfl (by rw [List.length_map, HN.out, Nat.mul_one]) (seen_cells hS1) (by intro u hu; obtain ⟨z, _, rfl⟩ := List.mem_map.1 hu; rfl) (by unfold maxLen; omega) (by omega) hB1.size ?_; intro v2 w2 hown2 hgrow2 _)
      go_ret
      refine ⟨_, rfl, ?_, hB1.grown hgrow2 hB1.size (fun k e => (hown0.lt k e).1)⟩
      rw [Nat.zero_add, List.nil_append] at hown2
      exact hown2

end Go.Proofs.Ytdemlifjhlpclaa
