/-
  awake.
-/
import Derived.Test.YtoecddkglenigaaDoorSeal
import Derived.Lib.SmallJoins
import Derived.Laws.BytesArg
namespace Go.Proofs.YtoecddkglenigaaDoor
open Go.RowKit
set_option linter.unusedVariables false

theorem seen_new (W : World) (xs : List Nat) (cs : Array Value) (t : TypeId) (fr : Nat × Nat) (hcs : cs = (xs.map fun x : Nat => Value.int .u8 x).toArray) (g : Nat) (hg : g = W.heap.size) : Seen (W.alloc (.cells cs t fr)) (W.heap.size + 1) .u8 (some ⟨g, 0, none⟩) xs := fun i x hx => by
  subst hg hcs
  refine ⟨_, _, rfl, by omega, ?_⟩
  have h : (W.alloc (.cells (xs.map fun x : Nat => Value.int .u8 x).toArray t fr)).heap[W.heap.size]? = some (.cells (xs.map fun x : Nat => Value.int .u8 x).toArray t fr) := heap_alloc_new W _
  unfold World.cell?
  rw [h]
  simp [hx]
theorem conv_const (W : World) (C : Array Value) (n c g : Nat) (hg : g = W.heap.size) : (convert 22 22 (.slice (some ⟨g, 0, none⟩) n c)).run Tryd.prog (W.alloc (.cells C 5)) = .ok (.slice (some ⟨g, 0, none⟩) n c) (W.alloc (.cells C 5 (C.size, C.size + 1))) :=
  Joins.run_convert_bytes_const_at W 22 5 C n c g hg Tryd.underlying22 Tryd.underlying5

theorem join_lit (w : World) : Calls Tryd.prog 34 #[.int .u32 2615402659, .int .u32 320708720, .int .i64 5] w fun e w' => e = .returned (.tuple #[.int .u32 3421780262, .int .i64 0]) ∧ Below w.heap.size w w' :=
  join_any 2615402659 320708720 5 (by decide) (by decide) (by decide) 3421780262 (by decide +kernel) w
theorem bit_lit (w : World) : Calls Tryd.prog 23 #[.int .i64 1, .int .i64 7] w fun e w' => e = .returned (.tuple #[.int .u32 3988292384, .int .i64 0]) ∧ Below w.heap.size w w' :=
  bit_any 1 7 (by decide) (by decide) (by decide) 3988292384 (by decide +kernel) w
theorem seal_nil (w : World) (hT : HT w) : Calls Tryd.prog 24 #[.slice none 0 0] w fun e w' => ∃ g cap, e = .returned (.tuple #[.slice (some ⟨g, 0, none⟩) 4 cap, .int .i64 0]) ∧ (∀ i, i < 4 → w'.cell? ⟨g, 0 + i, none⟩ = some (.int .u8 ([0, 0, 0, 0].getD i 0))) ∧ g < w'.heap.size ∧ Below w.heap.size w w' :=
  (seal_any none 0 0 [] (by simp) rfl (by decide) 0 w (Seen.nil _ _ _ _) (Nat.zero_le _) hT).mono fun e w' h => by
    obtain ⟨v, rfl, hown, hb⟩ := h
    obtain ⟨g, cap, rfl⟩ := own_form hown (by decide)
    have hS := Seen.of_own (k := .u8) hown
    have hx : [] ++ Crc.le4 (Crc.upd 0 []) = [0, 0, 0, 0] := by decide +kernel
    rw [hx] at hS
    refine ⟨g, cap, rfl, fun i hi => ?_, ?_, hb⟩
    · obtain ⟨b, off, e, _, hc⟩ := hS.at (i := i) (by simpa using hi)
      cases e
      rw [hc]
      have : i = 0 ∨ i = 1 ∨ i = 2 ∨ i = 3 := by omega
      rcases this with rfl | rfl | rfl | rfl <;> rfl
    · obtain ⟨b, off, e, hb, hc⟩ := hS.at (i := 0) (by simp)
      cases e
      exact hb
section
variable (W W0 : World) (cs : Array Value) (fr : Nat × Nat) (g : Nat) (hT : HT W0) (hb : Below W0.heap.size W0 W) (hg : g = W.heap.size)
include hT hb hg
omit hg in
theorem ht_new : HT (W.alloc (.cells cs 5 fr)) := hT.below (hb.alloc hb.size _)
theorem sum_lit (xs : List Nat) (hxs : ∀ y ∈ xs, y < 256) (n c : Nat) (hn : xs.length = n) (hl : n ≤ maxLen) (hcs : cs = (xs.map fun x : Nat => Value.int .u8 x).toArray) (r : Nat) (hr : Crc.upd 0 xs = r) (z : Int) (hz : (r : Int) = z) :
    Calls Tryd.prog 32 #[.slice (some ⟨g, 0, none⟩) n c] (W.alloc (.cells cs 5 fr)) fun e w' => e = .returned (.int .u32 z) ∧ W.alloc (.cells cs 5 fr) = w' := by
  subst hz
  exact sum_any _ n c xs hxs hn hl _ _ (seen_new W xs cs _ fr hcs g hg) (ht_new W W0 cs fr hT hb) r hr
theorem linear_lit (xs : List Nat) (hxs : ∀ y ∈ xs, y < 256) (n c : Nat) (hn : xs.length = n) (hl : n ≤ maxLen) (hcs : cs = (xs.map fun x : Nat => Value.int .u8 x).toArray) (r : Nat) (hr : Crc.reg 0 xs = r) (z : Int) (hz : (r : Int) = z) :
    Calls Tryd.prog 31 #[.slice (some ⟨g, 0, none⟩) n c] (W.alloc (.cells cs 5 fr)) fun e w' => e = .returned (.int .u32 z) ∧ W.alloc (.cells cs 5 fr) = w' := by
  subst hz
  exact linear_any _ n c xs hxs hn hl _ _ (seen_new W xs cs _ fr hcs g hg) (ht_new W W0 cs fr hT hb) r hr
end
theorem sum_nil (W : World) (hT : HT W) : Calls Tryd.prog 32 #[.slice none 0 0] W fun e w' => e = .returned (.int .u32 0) ∧ W = w' :=
  sum_any none 0 0 [] (by simp) rfl (by decide) W 0 (Seen.nil _ _ _ _) hT 0 (by decide +kernel)

theorem sum_a (W W0 : World) (g : Nat) (hT : HT W0) (hb : Below W0.heap.size W0 W) (hg : g = W.heap.size) :
    Calls Tryd.prog 32 #[.slice (some ⟨g, 0, none⟩) 4 4] (W.alloc (.cells #[.int .u8 49, .int .u8 50, .int .u8 51, .int .u8 52] 5 (4, 5))) fun e w' => e = .returned (.int .u32 2615402659) ∧ W.alloc (.cells #[.int .u8 49, .int .u8 50, .int .u8 51, .int .u8 52] 5 (4, 5)) = w' :=
  sum_lit W W0 _ _ g hT hb hg [49, 50, 51, 52] (by decide) _ _ rfl (by decide) rfl 2615402659 (by decide +kernel) _ rfl
theorem sum_b (W W0 : World) (g : Nat) (hT : HT W0) (hb : Below W0.heap.size W0 W) (hg : g = W.heap.size) :
    Calls Tryd.prog 32 #[.slice (some ⟨g, 0, none⟩) 5 5] (W.alloc (.cells #[.int .u8 53, .int .u8 54, .int .u8 55, .int .u8 56, .int .u8 57] 5 (5, 6))) fun e w' => e = .returned (.int .u32 320708720) ∧ W.alloc (.cells #[.int .u8 53, .int .u8 54, .int .u8 55, .int .u8 56, .int .u8 57] 5 (5, 6)) = w' :=
  sum_lit W W0 _ _ g hT hb hg [53, 54, 55, 56, 57] (by decide) _ _ rfl (by decide) rfl 320708720 (by decide +kernel) _ rfl
theorem sum_c (W W0 : World) (g : Nat) (hT : HT W0) (hb : Below W0.heap.size W0 W) (hg : g = W.heap.size) :
    Calls Tryd.prog 32 #[.slice (some ⟨g, 0, none⟩) 9 9] (W.alloc (.cells #[.int .u8 49, .int .u8 50, .int .u8 51, .int .u8 52, .int .u8 53, .int .u8 54, .int .u8 55, .int .u8 56, .int .u8 57] 5 (9, 10))) fun e w' => e = .returned (.int .u32 3421780262) ∧ W.alloc (.cells #[.int .u8 49, .int .u8 50, .int .u8 51, .int .u8 52, .int .u8 53, .int .u8 54, .int .u8 55, .int .u8 56, .int .u8 57] 5 (9, 10)) = w' :=
  sum_lit W W0 _ _ g hT hb hg [49, 50, 51, 52, 53, 54, 55, 56, 57] (by decide) _ _ rfl (by decide) rfl 3421780262 (by decide +kernel) _ rfl
theorem sum_d (W W0 : World) (g : Nat) (hT : HT W0) (hb : Below W0.heap.size W0 W) (hg : g = W.heap.size) :
    Calls Tryd.prog 32 #[.slice (some ⟨g, 0, none⟩) 1 1] (W.alloc (.cells #[.int .u8 0] 5 (0, 0))) fun e w' => e = .returned (.int .u32 3523407757) ∧ W.alloc (.cells #[.int .u8 0] 5 (0, 0)) = w' :=
  sum_lit W W0 _ _ g hT hb hg [0] (by decide) _ _ rfl (by decide) rfl 3523407757 (by decide +kernel) _ rfl
theorem linear_a (W W0 : World) (g : Nat) (hT : HT W0) (hb : Below W0.heap.size W0 W) (hg : g = W.heap.size) :
    Calls Tryd.prog 31 #[.slice (some ⟨g, 0, none⟩) 1 1] (W.alloc (.cells #[.int .u8 128] 5 (0, 0))) fun e w' => e = .returned (.int .u32 3988292384) ∧ W.alloc (.cells #[.int .u8 128] 5 (0, 0)) = w' :=
  linear_lit W W0 _ _ g hT hb hg [128] (by decide) _ _ rfl (by decide) rfl 3988292384 (by decide +kernel) _ rfl
theorem linear_b (W W0 : World) (g : Nat) (hT : HT W0) (hb : Below W0.heap.size W0 W) (hg : g = W.heap.size) :
    Calls Tryd.prog 31 #[.slice (some ⟨g, 0, none⟩) 1 1] (W.alloc (.cells #[.int .u8 1] 5 (0, 0))) fun e w' => e = .returned (.int .u32 1996959894) ∧ W.alloc (.cells #[.int .u8 1] 5 (0, 0)) = w' :=
  linear_lit W W0 _ _ g hT hb hg [1] (by decide) _ _ rfl (by decide) rfl 1996959894 (by decide +kernel) _ rfl
theorem size_two (W : World) (a b : Obj) : W.heap.size + 2 = ((W.alloc a).alloc b).heap.size := by simp
theorem size_three (W : World) (a b c : Obj) : W.heap.size + 3 = (((W.alloc a).alloc b).alloc c).heap.size := by simp
theorem below_three (W : World) (a b c : Obj) : Below W.heap.size W (((W.alloc a).alloc b).alloc c) := (((Below.refl _ W).alloc (Nat.le_refl _) a).alloc (by simp) b).alloc (by simp; omega) c
theorem below_four (W : World) (a b c d : Obj) : Below W.heap.size W ((((W.alloc a).alloc b).alloc c).alloc d) := (below_three W a b c).alloc (by simp; omega) d
theorem conv_seal (w1 W : World) (g cap : Nat) (hc : ∀ i, i < 4 → w1.cell? ⟨g, 0 + i, none⟩ = some (.int .u8 ([0, 0, 0, 0].getD i 0))) (hg : g < w1.heap.size) (hb : Below w1.heap.size w1 W) :
    (convert 22 9 (.slice (some ⟨g, 0, none⟩) 4 cap)).run Tryd.prog W = .ok (.string ⟨#[0, 0, 0, 0]⟩) W :=
  run_convert_bytes_arg W 22 5 Tryd.underlying22 Tryd.underlying5 g 0 4 cap [0, 0, 0, 0] rfl (fun i hi => (hb.cell (p := ⟨g, 0 + i, none⟩) hg).trans (hc i hi)) 9 Tryd.underlying9
set_option maxRecDepth 100000 in
set_option maxHeartbeats 4000000 in
theorem awake_any (w : World) (hT : HT w) :
    Calls Tryd.prog 15 #[] w fun e w' => e = .returned (.bool true) ∧ Below w.heap.size w w' := by
  have HTT := Lib.hid hT
  clear hT
  have hcv := conv_const
  go_enter Tryd.func15, Tryd.ntmps15
  go_wp2_with (first
    | (go_at_call 24; ((with_reducible refine (seal_nil _ HTT.out).mono ?_); rintro e w1 ⟨g, cap, rfl, hc1, hg1, hb1⟩; have HC1 := Lib.hid hc1; have HT1 := Lib.hid (HTT.out.below hb1); have HB1 := Lib.hid hb1; clear hc1 hb1))
    | (go_at_call 32; ((with_reducible refine (sum_a w1 w1 _ HT1.out (Below.refl _ _) rfl).mono ?_); rintro e w2 ⟨rfl, rfl⟩))
    | (go_at_call 32; ((with_reducible refine (sum_b _ w1 _ HT1.out ((Below.refl _ w1).alloc (Nat.le_refl _) _) (World.size_alloc _ _).symm).mono ?_); rintro e w2 ⟨rfl, rfl⟩))
    | (go_at_call 34; ((with_reducible refine (join_lit _).mono ?_); rintro e w4 ⟨rfl, hb4⟩))
    | (go_at_call 23; ((with_reducible refine (bit_lit _).mono ?_); rintro e w5 ⟨rfl, hb5⟩; have hB5 : Below w1.heap.size w1 w5 := ((((Below.refl _ w1).alloc (Nat.le_refl _) _).alloc (by simp) _).trans (hb4.mono (by simp; omega))).trans (hb5.mono (by have := hb4.size; simp at this; omega)); have hst := conv_seal w1 w5 g cap HC1.out hg1 hB5; have HT5 := Lib.hid (HT1.out.below hB5); have HB5 := Lib.hid hB5; clear hB5 hb4 hb5))
    | (go_at_call 32; ((with_reducible refine (sum_nil _ HT5.out).mono ?_); rintro e w2 ⟨rfl, rfl⟩))
    | (go_at_call 32; ((with_reducible refine (sum_c w5 w5 _ HT5.out (Below.refl _ _) rfl).mono ?_); rintro e w2 ⟨rfl, rfl⟩))
    | (go_at_call 32; ((with_reducible refine (sum_d _ w5 _ HT5.out ((Below.refl _ w5).alloc (Nat.le_refl _) _) (World.size_alloc _ _).symm).mono ?_); rintro e w2 ⟨rfl, rfl⟩))
    | (go_at_call 31; ((with_reducible refine (linear_a _ w5 _ HT5.out (((Below.refl _ w5).alloc (Nat.le_refl _) _).alloc (Nat.le_of_lt (Nat.lt_of_lt_of_eq (Nat.lt_succ_self _) (World.size_alloc _ _).symm)) _) (size_two _ _ _)).mono ?_); rintro e w2 ⟨rfl, rfl⟩))
    | (go_at_call 31; ((with_reducible refine (linear_b _ w5 _ HT5.out (below_three w5 _ _ _) (size_three _ _ _ _)).mono ?_); rintro e w2 ⟨rfl, rfl⟩)))
  go_ret
  exact ⟨rfl, HB1.out.trans ((HB5.out.trans ((below_four _ _ _ _ _).mono HB5.out.size)).mono HB1.out.size)⟩
end Go.Proofs.YtoecddkglenigaaDoor
