/-
  awake.
-/
import Derived.Test.YthamilolacfeoaaAwk9
namespace Go.Proofs.Ythamilolacfeoaa
open Go.RowKit Sq
set_option linter.unusedVariables false

section
variable (w : World)
theorem of_ex : Calls Try.prog 33 #[.slice (some ⟨w.heap.size, 0, none⟩) 5 5] (w.alloc (.cells #[.int .i64 5, .int .i64 2, .int .i64 1, .int .i64 5, .int .i64 9] 3)) fun e w' => (∃ a1 c1 a2 c2, e = .returned (.tuple #[.slice a1 3 c1, .slice a2 1 c2, .int .i64 0]) ∧ SeenR w' w'.heap.size a1 [(1, 2), (5, 1), (9, 1)] ∧ SeenZ w' w'.heap.size a2 [5]) ∧ Below w.heap.size w w' :=
  (of_any (some ⟨w.heap.size, 0, none⟩) 5 5 [5, 2, 1, 5, 9] rfl (by decide) _ (w.heap.size + 1) (seenZ_new w _ _ _ rfl) (by simp) (by decide)).mono fun e w1 h => by
    obtain ⟨⟨a1, c1, L1, a2, c2, T1, rfl, hL1, hT1, hO1⟩, hb1⟩ := h
    obtain ⟨rfl, rfl⟩ := ex_of hO1
    exact ⟨⟨a1, c1, a2, c2, rfl, SeenR.of_own hL1, SeenZ.of_own hT1⟩, below_alloc hb1⟩
theorem miss_ex (a : Option Addr) (c : Nat) (B : Nat) (h : SeenR w B a [(1, 2), (5, 1), (9, 1)]) (hB : B ≤ w.heap.size) : Calls Try.prog 31 #[.slice a 3 c, .int .i64 1, .int .i64 11] w fun e w' => (∃ a1 c1, e = .returned (.tuple #[.slice a1 3 c1, .int .i64 0]) ∧ SeenR w' w'.heap.size a1 [(3, 2), (6, 3), (10, 1)]) ∧ Below w.heap.size w w' :=
  (missing_any a 3 c [(1, 2), (5, 1), (9, 1)] rfl w B h hB rt_ex 1 11 (by decide) (by decide) (by decide)).mono fun e w1 h => by
    obtain ⟨⟨a1, c1, L1, rfl, hL1, hO1⟩, hb1⟩ := h
    obtain rfl := ex_m hO1
    exact ⟨⟨a1, c1, rfl, SeenR.of_own hL1⟩, hb1⟩
theorem first_ex (a : Option Addr) (c : Nat) (B : Nat) (h : SeenR w B a [(1, 2), (5, 1), (9, 1)]) (hB : B ≤ w.heap.size) : Calls Try.prog 32 #[.slice a 3 c, .int .i64 5, .int .i64 11] w fun e w' => e = .returned (.tuple #[.int .i64 6, .int .i64 0]) ∧ Below w.heap.size w w' :=
  (first_any a 3 c [(1, 2), (5, 1), (9, 1)] rfl w B h hB rt_ex 5 11 (by decide) (by decide) (by decide)).mono fun e w1 h => by
    obtain ⟨⟨L1, rfl, hO1⟩, hb1⟩ := h
    obtain rfl := ex_m2 hO1
    exact ⟨rfl, hb1⟩
theorem first_ex2 (a : Option Addr) (c : Nat) (B : Nat) (h : SeenR w B a [(1, 2), (5, 1), (9, 1)]) (hB : B ≤ w.heap.size) : Calls Try.prog 32 #[.slice a 3 c, .int .i64 5, .int .i64 6] w fun e w' => e = .returned (.tuple #[.int .i64 0, .int .i64 6]) ∧ Below w.heap.size w w' :=
  (first_any a 3 c [(1, 2), (5, 1), (9, 1)] rfl w B h hB rt_ex 5 6 (by decide) (by decide) (by decide)).mono fun e w1 h => by
    obtain ⟨⟨L1, rfl, hO1⟩, hb1⟩ := h
    obtain rfl := ex_m3 hO1
    exact ⟨rfl, hb1⟩
theorem two_new (f d x y : Int) : SeenR ((w.alloc (.cells #[.int .i64 f, .int .i64 d] 34)).alloc (.cells #[.int .i64 x, .int .i64 y] 34)) (w.heap.size + 1 + 1) (some ⟨w.heap.size, 0, none⟩) [(f, d)] ∧ SeenR ((w.alloc (.cells #[.int .i64 f, .int .i64 d] 34)).alloc (.cells #[.int .i64 x, .int .i64 y] 34)) (w.heap.size + 1 + 1) (some ⟨w.heap.size + 1, 0, none⟩) [(x, y)] := by
  refine ⟨((seenR_new w _ _ [(f, d)] rfl).alloc (by simp) _).more (by omega), ?_⟩
  have := seenR_new (w.alloc (.cells #[.int .i64 f, .int .i64 d] 34)) #[.int .i64 x, .int .i64 y] 34 [(x, y)] rfl
  rw [World.size_alloc] at this
  exact this
theorem union_ex : Calls Try.prog 19 #[.slice (some ⟨w.heap.size, 0, none⟩) 1 1, .slice (some ⟨w.heap.size + 1, 0, none⟩) 1 1] ((w.alloc (.cells #[.int .i64 1, .int .i64 2] 34)).alloc (.cells #[.int .i64 3, .int .i64 1] 34)) fun e w' => (∃ a1 c1, e = .returned (.tuple #[.slice a1 1 c1, .int .i64 0]) ∧ SeenR w' w'.heap.size a1 [(1, 3)]) ∧ Below w.heap.size w w' :=
  (union_any (some ⟨w.heap.size, 0, none⟩) (some ⟨w.heap.size + 1, 0, none⟩) 1 1 1 1 [(1, 2)] [(3, 1)] rfl rfl _ (w.heap.size + 1 + 1) (two_new w 1 2 3 1).1 (two_new w 1 2 3 1).2 (by simp) ⟨by decide, by decide, by decide, by decide, trivial⟩ ⟨by decide, by decide, by decide, by decide, trivial⟩).mono fun e w1 h => by
    obtain ⟨⟨a1, c1, L1, rfl, hL1, hO1⟩, hb1⟩ := h
    obtain rfl := ex_u hO1
    exact ⟨⟨a1, c1, rfl, SeenR.of_own hL1⟩, below_alloc (below_alloc hb1)⟩
theorem without_ex : Calls Try.prog 21 #[.slice (some ⟨w.heap.size, 0, none⟩) 1 1, .slice (some ⟨w.heap.size + 1, 0, none⟩) 1 1] ((w.alloc (.cells #[.int .i64 1, .int .i64 9] 34)).alloc (.cells #[.int .i64 4, .int .i64 2] 34)) fun e w' => (∃ a1 c1, e = .returned (.tuple #[.slice a1 2 c1, .int .i64 0]) ∧ SeenR w' w'.heap.size a1 [(1, 3), (6, 4)]) ∧ Below w.heap.size w w' :=
  (without_any (some ⟨w.heap.size, 0, none⟩) (some ⟨w.heap.size + 1, 0, none⟩) 1 1 1 1 [(1, 9)] [(4, 2)] rfl rfl _ (w.heap.size + 1 + 1) (two_new w 1 9 4 2).1 (two_new w 1 9 4 2).2 (by simp) ⟨by decide, by decide, by decide, by decide, trivial⟩ ⟨by decide, by decide, by decide, by decide, trivial⟩).mono fun e w1 h => by
    obtain ⟨⟨a1, c1, L1, rfl, hL1, hO1⟩, hb1⟩ := h
    obtain rfl := ex_w hO1
    exact ⟨⟨a1, c1, rfl, SeenR.of_own hL1⟩, below_alloc (below_alloc hb1)⟩
/-- A set equals a literal one. -/
theorem equal_ex (a : Option Addr) (n c B : Nat) (l : Rs) (hl : l.length = n) (hn : n ≤ 1000) (h : SeenR w B a l) (hB : B ≤ w.heap.size) (cs : Array Value) (t : TypeId) (hc : cs.toList = flat l) : Calls Try.prog 29 #[.slice a n c, .slice (some ⟨w.heap.size, 0, none⟩) n n] (w.alloc (.cells cs t)) fun e w' => e = .returned (.bool true) ∧ Below w.heap.size w w' :=
  (equalR_any a (some ⟨w.heap.size, 0, none⟩) n n c n l l hl hl (by omega) (by omega) _ (w.heap.size + 1) ((h.alloc hB _).more (by omega)) (seenR_new w cs t l hc) true (by simp)).mono fun e w' h => ⟨h.1, below_alloc h.2⟩
theorem equalZ_ex (a : Option Addr) (c B : Nat) (h : SeenZ w B a [5]) (hB : B ≤ w.heap.size) : Calls Try.prog 34 #[.slice a 1 c, .slice (some ⟨w.heap.size, 0, none⟩) 1 1] (w.alloc (.cells #[.int .i64 5] 3)) fun e w' => e = .returned (.bool true) ∧ Below w.heap.size w w' := by
  obtain ⟨b, off, rfl, hb, hc⟩ := h 0 5 rfl
  refine (Try.slices_Equal_int b off 1 c w.heap.size 0 1 1 [5] [5] _ (by decide) (by decide) (by decide) (by decide) (fun j hj => ?_) (fun j hj => ?_)).mono ?_
  · obtain rfl : j = 0 := by simp at hj; omega
    exact (World.cell?_alloc_lt w _ ⟨b, off + 0, none⟩ (by show b < _; omega)).trans hc
  · obtain rfl : j = 0 := by simp at hj; omega
    exact cell_new_at w _ _
  · rintro e w' ⟨rfl, q, rfl⟩
    exact ⟨rfl, below_drewN ((Below.refl _ w).alloc (Nat.le_refl _) _) _⟩
end

theorem heap_alloc_new' (w : World) (o : Obj) (n : Nat) (h : w.heap.size = n) : (w.alloc o).heap[n]? = some o := by subst h; exact heap_alloc_new w o
theorem tab_ex (w8 : World) : TabR (((((w8.alloc (.cells #[.int .i64 1, .int .i64 0] 34)).alloc (.cells #[.int .i64 1, .int .i64 2, .int .i64 3, .int .i64 1] 34)).alloc (.cells #[.int .i64 5, .int .i64 1, .int .i64 2, .int .i64 1] 34)).alloc (.cells #[.int .i64 281474976710656, .int .i64 2] 34)).alloc (.cells #[.slice (some ⟨w8.heap.size, 0, none⟩) 1 1, .slice (some ⟨w8.heap.size + 1, 0, none⟩) 2 2, .slice (some ⟨w8.heap.size + 1 + 1, 0, none⟩) 2 2, .slice (some ⟨w8.heap.size + 1 + 1 + 1, 0, none⟩) 1 1] 22)) (w8.heap.size + 5) (w8.heap.size + 4) [[(1, 0)], [(1, 2), (3, 1)], [(5, 1), (2, 1)], [(281474976710656, 2)]] := by
  have s1 := seenR_new w8 #[.int .i64 1, .int .i64 0] 34 [(1, 0)] rfl
  have s2 := seenR_new (w8.alloc (.cells #[.int .i64 1, .int .i64 0] 34)) #[.int .i64 1, .int .i64 2, .int .i64 3, .int .i64 1] 34 [(1, 2), (3, 1)] rfl
  have s3 := seenR_new ((w8.alloc (.cells #[.int .i64 1, .int .i64 0] 34)).alloc (.cells #[.int .i64 1, .int .i64 2, .int .i64 3, .int .i64 1] 34)) #[.int .i64 5, .int .i64 1, .int .i64 2, .int .i64 1] 34 [(5, 1), (2, 1)] rfl
  have s4 := seenR_new (((w8.alloc (.cells #[.int .i64 1, .int .i64 0] 34)).alloc (.cells #[.int .i64 1, .int .i64 2, .int .i64 3, .int .i64 1] 34)).alloc (.cells #[.int .i64 5, .int .i64 1, .int .i64 2, .int .i64 1] 34)) #[.int .i64 281474976710656, .int .i64 2] 34 [(281474976710656, 2)] rfl
  simp only [World.size_alloc] at s1 s2 s3 s4
  refine TabR.of_block (heap_alloc_new' _ _ _ (by simp)) (by omega) ?_
  intro i l h
  match i, h with
  | 0, h => obtain rfl := Option.some.inj h; exact ⟨_, _, rfl, (((((s1.alloc (by simp only [World.size_alloc]; omega) _).alloc (by simp only [World.size_alloc]; omega) _).alloc (by simp only [World.size_alloc]; omega) _).alloc (by simp only [World.size_alloc]; omega) _)).more (by omega)⟩
  | 1, h => obtain rfl := Option.some.inj h; exact ⟨_, _, rfl, ((((s2.alloc (by simp only [World.size_alloc]; omega) _).alloc (by simp only [World.size_alloc]; omega) _).alloc (by simp only [World.size_alloc]; omega) _)).more (by omega)⟩
  | 2, h => obtain rfl := Option.some.inj h; exact ⟨_, _, rfl, (((s3.alloc (by simp only [World.size_alloc]; omega) _).alloc (by simp only [World.size_alloc]; omega) _)).more (by omega)⟩
  | 3, h => obtain rfl := Option.some.inj h; exact ⟨_, _, rfl, ((s4.alloc (by simp only [World.size_alloc]; omega) _)).more (by omega)⟩
  | i + 4, h => simp at h
theorem bad_ex (k : Nat) (l : Rs) (h : [[(1, 0)], [(1, 2), (3, 1)], [(5, 1), (2, 1)], [(281474976710656, 2)]][k]? = some l) : ¬ Rt l ∧ I64L l ∧ l.length ≤ 2 := by
  match k, h with
  | 0, h => obtain rfl := Option.some.inj h; exact ⟨bad_1, by unfold I64L; decide, by decide⟩
  | 1, h => obtain rfl := Option.some.inj h; exact ⟨bad_2, by unfold I64L; decide, by decide⟩
  | 2, h => obtain rfl := Option.some.inj h; exact ⟨bad_3, by unfold I64L; decide, by decide⟩
  | 3, h => obtain rfl := Option.some.inj h; exact ⟨bad_4, by unfold I64L; decide, by decide⟩
  | k + 4, h => simp at h
set_option maxRecDepth 100000 in
set_option maxHeartbeats 8000000 in
theorem awake_any (w : World) : Calls Try.prog 13 #[] w fun e w' => e = .returned (.bool true) ∧ Below w.heap.size w w' := by
  have L3 : Hid (([(1, 2), (5, 1), (9, 1)] : Rs).length = 3 ∧ 3 ≤ 1000 ∧ (#[Value.int .i64 1, .int .i64 2, .int .i64 5, .int .i64 1, .int .i64 9, .int .i64 1] : Array Value).toList = flat [(1, 2), (5, 1), (9, 1)]) := ⟨rfl, by decide, rfl⟩
  have L4 : Hid (([(3, 2), (6, 3), (10, 1)] : Rs).length = 3 ∧ 3 ≤ 1000 ∧ (#[Value.int .i64 3, .int .i64 2, .int .i64 6, .int .i64 3, .int .i64 10, .int .i64 1] : Array Value).toList = flat [(3, 2), (6, 3), (10, 1)]) := ⟨rfl, by decide, rfl⟩
  have L5 : Hid (([(1, 3)] : Rs).length = 1 ∧ 1 ≤ 1000 ∧ (#[Value.int .i64 1, .int .i64 3] : Array Value).toList = flat [(1, 3)]) := ⟨rfl, by decide, rfl⟩
  have L6 : Hid (([(1, 3), (6, 4)] : Rs).length = 2 ∧ 2 ≤ 1000 ∧ (#[Value.int .i64 1, .int .i64 3, .int .i64 6, .int .i64 4] : Array Value).toList = flat [(1, 3), (6, 4)]) := ⟨rfl, by decide, rfl⟩
  go_enter Try.func13, Try.ntmps13
  go_upto_region 9 with (first
    | (go_at_call 33; (with_reducible refine (of_ex _).mono ?_); rintro e w1 ⟨⟨a1, c1, a2, c2, rfl, hs1, ht1⟩, hb1⟩; have HB1 := Lib.hid hb1; have HS1 := Lib.hid hs1; have HT1 := Lib.hid ht1; clear hb1 hs1 ht1)
    | (go_at_call 31; (with_reducible refine (miss_ex _ a1 c1 w1.heap.size HS1.out (Nat.le_refl _)).mono ?_); rintro e w2 ⟨⟨a3, c3, rfl, hs2⟩, hb2⟩; have HB2 := Lib.hid hb2; have HS2 := Lib.hid hs2; clear hb2 hs2)
    | (go_at_call 32; (with_reducible refine (first_ex w2 a1 c1 w1.heap.size (HS1.out.below HB2.out) HB2.out.size).mono ?_); rintro e w3 ⟨rfl, hb3⟩; have HB3 := Lib.hid hb3; clear hb3)
    | (go_at_call 32; (with_reducible refine (first_ex2 w3 a1 c1 w1.heap.size ((HS1.out.below HB2.out).below (HB3.out.mono HB2.out.size)) (Nat.le_trans HB2.out.size HB3.out.size)).mono ?_); rintro e w4 ⟨rfl, hb4⟩; have HB4 := Lib.hid hb4; clear hb4)
    | (go_at_call 19; (with_reducible refine (union_ex w4).mono ?_); rintro e w5 ⟨⟨a5, c5, rfl, hs5⟩, hb5⟩; have HB5 := Lib.hid hb5; have HS5 := Lib.hid hs5; clear hb5 hs5)
    | (go_at_call 21; (with_reducible refine (without_ex w5).mono ?_); rintro e w6 ⟨⟨a6, c6, rfl, hs6⟩, hb6⟩; have HB6 := Lib.hid hb6; have HS6 := Lib.hid hs6; have HB26 : Hid (Below w2.heap.size w2 w6) := ((HB3.out.trans (HB4.out.mono HB3.out.size)).trans (HB5.out.mono (HB3.out.trans (HB4.out.mono HB3.out.size)).size)).trans (hb6.mono ((HB3.out.trans (HB4.out.mono HB3.out.size)).trans (HB5.out.mono (HB3.out.trans (HB4.out.mono HB3.out.size)).size)).size); have HB16 : Hid (Below w1.heap.size w1 w6) := HB2.out.trans (HB26.out.mono HB2.out.size); clear hb6 hs6)
    | (go_at_call 34; (with_reducible refine (equalZ_ex w6 a2 c2 w1.heap.size (HT1.out.below HB16.out) HB16.out.size).mono ?_); rintro e w7 ⟨rfl, hb7⟩; have HB7 := Lib.hid hb7; have HB17 : Hid (Below w1.heap.size w1 w7) := HB16.out.trans (hb7.mono HB16.out.size); clear hb7)
    | (go_at_call 29; (with_reducible refine (equal_ex w7 a1 3 c1 w1.heap.size [(1, 2), (5, 1), (9, 1)] L3.out.1 L3.out.2.1 (HS1.out.below HB17.out) HB17.out.size _ _ L3.out.2.2).mono ?_); rintro e w8 ⟨rfl, hb8⟩; have HB8 := Lib.hid hb8; clear hb8))
  have HTAB := Lib.hid (tab_ex w8)
  have HB18 : Hid (Below w.heap.size w w8) := (HB1.out.trans ((HB17.out.trans (HB8.out.mono HB17.out.size)).mono HB1.out.size))
  have HB19 : Hid (Below w8.heap.size w8 (((((w8.alloc (.cells #[.int .i64 1, .int .i64 0] 34)).alloc (.cells #[.int .i64 1, .int .i64 2, .int .i64 3, .int .i64 1] 34)).alloc (.cells #[.int .i64 5, .int .i64 1, .int .i64 2, .int .i64 1] 34)).alloc (.cells #[.int .i64 281474976710656, .int .i64 2] 34)).alloc (.cells #[.slice (some ⟨w8.heap.size, 0, none⟩) 1 1, .slice (some ⟨w8.heap.size + 1, 0, none⟩) 2 2, .slice (some ⟨w8.heap.size + 1 + 1, 0, none⟩) 2 2, .slice (some ⟨w8.heap.size + 1 + 1 + 1, 0, none⟩) 1 1] 22))) := ((((((Below.refl _ w8).alloc (Nat.le_refl _) _).alloc (by simp only [World.size_alloc]; omega) _).alloc (by simp only [World.size_alloc]; omega) _).alloc (by simp only [World.size_alloc]; omega) _).alloc (by simp only [World.size_alloc]; omega) _)
  have HSZ : Hid ((((((w8.alloc (.cells #[.int .i64 1, .int .i64 0] 34)).alloc (.cells #[.int .i64 1, .int .i64 2, .int .i64 3, .int .i64 1] 34)).alloc (.cells #[.int .i64 5, .int .i64 1, .int .i64 2, .int .i64 1] 34)).alloc (.cells #[.int .i64 281474976710656, .int .i64 2] 34)).alloc (.cells #[.slice (some ⟨w8.heap.size, 0, none⟩) 1 1, .slice (some ⟨w8.heap.size + 1, 0, none⟩) 2 2, .slice (some ⟨w8.heap.size + 1 + 1, 0, none⟩) 2 2, .slice (some ⟨w8.heap.size + 1 + 1 + 1, 0, none⟩) 1 1] 22)).heap.size = w8.heap.size + 5) := by show _ = _; simp
  generalize hG : (((((w8.alloc (.cells #[.int .i64 1, .int .i64 0] 34)).alloc (.cells #[.int .i64 1, .int .i64 2, .int .i64 3, .int .i64 1] 34)).alloc (.cells #[.int .i64 5, .int .i64 1, .int .i64 2, .int .i64 1] 34)).alloc (.cells #[.int .i64 281474976710656, .int .i64 2] 34)).alloc (.cells #[.slice (some ⟨w8.heap.size, 0, none⟩) 1 1, .slice (some ⟨w8.heap.size + 1, 0, none⟩) 2 2, .slice (some ⟨w8.heap.size + 1 + 1, 0, none⟩) 2 2, .slice (some ⟨w8.heap.size + 1 + 1 + 1, 0, none⟩) 1 1] 22)) = W9 at HTAB HB19 HSZ
  go_wp2
  go_loopw [98] (fun i wr => ∃ k : Nat, k ≤ 4 ∧ i = .int .i64 k ∧ Hid (Below W9.heap.size W9 wr)) (fun i _ => 4 - (intOf i).toNat)
  case atStart => exact ⟨0, by decide, rfl, Below.refl _ _⟩
  case round =>
    obtain ⟨k, hk, rfl, HW⟩ := hrel
    by_cases hk4 : k < 4
    · obtain ⟨l, hl⟩ : ∃ l, ([[(1, 0)], [(1, 2), (3, 1)], [(5, 1), (2, 1)], [(281474976710656, 2)]] : List Rs)[k]? = some l := ⟨_, List.getElem?_eq_getElem hk4⟩
      have HBAD := Lib.hid (bad_ex k l hl)
      obtain ⟨a9, c9, hc9, hs9⟩ := (HTAB.out.below (HW.out.mono (by rw [HSZ.out]; exact Nat.le_refl _))).2 k l hl
      have HS9 := Lib.hid hs9
      obtain ⟨m, hm⟩ : ∃ m, l.length = m := ⟨_, rfl⟩
      have HM := Lib.hid hm
      rw [hm] at hc9
      have hki : (k : Int) < 4 := by omega
      clear hl hs9 hm
      go_wp2_with (go_at_call 22; ((with_reducible refine (right_no a9 m c9 l HM.out (by have := HBAD.out.2.2; have := HM.out; unfold maxLen; omega) HBAD.out.2.1 HBAD.out.1 _ (w8.heap.size + 5) HS9.out (by have := HW.out.size; have := HSZ.out; omega)).mono ?_); rintro e w10 ⟨rfl, hb10⟩; have HB10 := Lib.hid (HW.out.trans (hb10.mono HW.out.size)); clear hb10))
      exact ⟨⟨k + 1, hk4, rfl, HB10⟩, by simp [intOf]; omega⟩
    · obtain rfl : 4 = k := by omega
      have HB20 : Hid (Below w8.heap.size w8 wr) := HB19.out.trans (HW.out.mono HB19.out.size)
      have HB68 : Hid (Below w6.heap.size w6 wr) := HB7.out.trans ((HB8.out.trans (HB20.out.mono HB8.out.size)).mono HB7.out.size)
      have HB56 : Hid (Below w5.heap.size w5 wr) := HB6.out.trans (HB68.out.mono HB6.out.size)
      have HB28 : Hid (Below w2.heap.size w2 wr) := HB26.out.trans (HB68.out.mono HB26.out.size)
      have HB08 : Hid (Below w.heap.size w wr) := HB18.out.trans (HB20.out.mono HB18.out.size)
      clear hk4
      go_wp2_with (first
        | (go_at_call 29; (with_reducible refine (equal_ex wr a3 3 c3 w2.heap.size [(3, 2), (6, 3), (10, 1)] L4.out.1 L4.out.2.1 (HS2.out.below HB28.out) HB28.out.size _ _ L4.out.2.2).mono ?_); rintro e w11 ⟨rfl, hb11⟩; have HB11 := Lib.hid hb11; have HB511 : Hid (Below w5.heap.size w5 w11) := HB56.out.trans (hb11.mono HB56.out.size); have HB611 : Hid (Below w6.heap.size w6 w11) := HB68.out.trans (hb11.mono HB68.out.size); have HB011 : Hid (Below w.heap.size w w11) := HB08.out.trans (hb11.mono HB08.out.size); clear hb11)
        | (go_at_call 29; (with_reducible refine (equal_ex w11 a5 1 c5 w5.heap.size [(1, 3)] L5.out.1 L5.out.2.1 (HS5.out.below HB511.out) HB511.out.size _ _ L5.out.2.2).mono ?_); rintro e w12 ⟨rfl, hb12⟩; have HB612 : Hid (Below w6.heap.size w6 w12) := HB611.out.trans (hb12.mono HB611.out.size); have HB012 : Hid (Below w.heap.size w w12) := HB011.out.trans (hb12.mono HB011.out.size); clear hb12)
        | (go_at_call 29; (with_reducible refine (equal_ex w12 a6 2 c6 w6.heap.size [(1, 3), (6, 4)] L6.out.1 L6.out.2.1 (HS6.out.below HB612.out) HB612.out.size _ _ L6.out.2.2).mono ?_); rintro e w13 ⟨rfl, hb13⟩; have HB013 : Hid (Below w.heap.size w w13) := HB012.out.trans (hb13.mono HB012.out.size); clear hb13))
      go_ret
      exact ⟨rfl, HB013.out⟩
end Go.Proofs.Ythamilolacfeoaa
