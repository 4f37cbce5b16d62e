/-
  EventValues' walk.
-/
import Derived.Test.YtainjicbmjfnkaaDoorBack6
namespace Go.Proofs.YtainjicbmjfnkaaDoor
open Go.RowKit
set_option linter.unusedVariables false
theorem row_below {w w' : World} {base : Nat} {e : TypeId} {size : Nat} {v : Value} {k : Nat} {xs : List Value} (h : w.ownsRow base e size v k xs) (hb : Below w.heap.size w w') : w'.ownsRow base e size v k xs := by
  refine ⟨h.1, ?_⟩
  rcases h.2 with h2 | ⟨g, cap, cur, hv, hg, hh, h3⟩
  · exact .inl h2
  · exact .inr ⟨g, cap, cur, hv, hg, (hb.block g (Array.getElem?_eq_some_iff.1 hh).1).trans hh, h3⟩
theorem EBox.set4 {w : World} {b : Nat} {o0_ o1_ o4_ o5_ o6_ o7_ o8_ o10_ : Int} {o2_ o3_ o9_ : Nat} (h : EBox w b o0_ o1_ o2_ o3_ o4_ o5_ o6_ o7_ o8_ o9_ o10_) (a0_ a1_ : Int) (a2_ a3_ : Nat) : EBox ((((w.setCell ⟨b, 0, none⟩ (.int .i64 a0_)).setCell ⟨b, 1, none⟩ (.int .i64 a1_)).setCell ⟨b, 2, none⟩ (.int .u8 a2_)).setCell ⟨b, 3, none⟩ (.int .u8 a3_)) b a0_ a1_ a2_ a3_ o4_ o5_ o6_ o7_ o8_ o9_ o10_ :=
  EBox.one (EBox.one (EBox.one (EBox.one h 0 (.int .i64 a0_)) 1 (.int .i64 a1_)) 2 (.int .u8 a2_)) 3 (.int .u8 a3_)
theorem gr_trans {a b c : World} {r : Option Nat} (h : a.grownBy b r) (k : b.grownBy c r) : a.grownBy c r :=
  ⟨k.os.trans h.os, k.tape.trans h.tape, k.output.trans h.output, Nat.le_trans h.size k.size, fun i hi hn => (k.block i (Nat.lt_of_lt_of_le hi h.size) hn).trans (h.block i hi hn)⟩
theorem gr_below {a b c : World} {r : Option Nat} (h : a.grownBy b r) (k : Below b.heap.size b c) : a.grownBy c r := gr_trans h ⟨k.os, k.tape, k.output, k.size, fun i hi _ => k.block i hi⟩
theorem gr_new {a b : World} {r : Option Nat} (h : a.grownBy b r) {p : Addr} (hp : a.heap.size ≤ p.block) (v : Value) : a.grownBy (b.setCell p v) r :=
  ⟨h.os, h.tape, h.output, by have := h.size; simpa [World.setCell] using this, fun i hi hn => (Below.heap_setCell b p v i (by omega)).trans (h.block i hi hn)⟩
theorem gr_all {a b : World} {r : Option Nat} (h : a.grownBy b r) {p : Nat} (hp : a.heap.size ≤ p) : a.grownBy (((((((((((b.setCell ⟨p, 0, none⟩ (.int .i64 0)).setCell ⟨p, 1, none⟩ (.int .i64 0)).setCell ⟨p, 2, none⟩ (.int .u8 0)).setCell ⟨p, 3, none⟩ (.int .u8 0)).setCell ⟨p, 4, none⟩ (.int .i64 0)).setCell ⟨p, 5, none⟩ (.int .i64 0)).setCell ⟨p, 6, none⟩ (.int .i64 0)).setCell ⟨p, 7, none⟩ (.int .i64 0)).setCell ⟨p, 8, none⟩ (.int .i64 0)).setCell ⟨p, 9, none⟩ (.int .u64 0)).setCell ⟨p, 10, none⟩ (.int .i64 0)) r :=
  (gr_new (gr_new (gr_new (gr_new (gr_new (gr_new (gr_new (gr_new (gr_new (gr_new (gr_new h (p := ⟨p, 0, none⟩) hp _) (p := ⟨p, 1, none⟩) hp _) (p := ⟨p, 2, none⟩) hp _) (p := ⟨p, 3, none⟩) hp _) (p := ⟨p, 4, none⟩) hp _) (p := ⟨p, 5, none⟩) hp _) (p := ⟨p, 6, none⟩) hp _) (p := ⟨p, 7, none⟩) hp _) (p := ⟨p, 8, none⟩) hp _) (p := ⟨p, 9, none⟩) hp _) (p := ⟨p, 10, none⟩) hp _)
theorem EBox.grown {w w' : World} {b g : Nat} {o0_ o1_ o4_ o5_ o6_ o7_ o8_ o10_ : Int} {o2_ o3_ o9_ : Nat} (h : EBox w b o0_ o1_ o2_ o3_ o4_ o5_ o6_ o7_ o8_ o9_ o10_) (hg : w.grownBy w' (some g)) (hne : b ≠ g) : EBox w' b o0_ o1_ o2_ o3_ o4_ o5_ o6_ o7_ o8_ o9_ o10_ := (hg.block b h.lt (fun e => hne (by cases e; rfl))).trans h
theorem below_gr {w wc W : World} {g : Nat} (h : Below w.heap.size w wc) (hg : wc.grownBy W (some g)) (hle : w.heap.size ≤ g) : Below w.heap.size w W := h.trans ((Below.refl w.heap.size wc).grown hg h.size (fun k e => by cases e; exact hle))
set_option maxRecDepth 100000 in
/-- append of one 0 to a row of one's own, as one step of a region that draws. -/
theorem step_append_u64 {ops : Array Oper} {o : Oper} {a : Act} {w : World} {K : Act → World → Prop} {Q : Exit → Act → World → Prop} {E : Prop}
    (hg : o.guard = none) (s x : Operand) (hop : o.op = Op.call { callee := Callee.builtin Builtin.append, args := #[s, x], argTypes := #[25, 25] })
    (base : Nat) (v : Value) (n : Nat) (xs : List Value) (hs : a.eval s = v) (hown : w.ownsRow base 22 1 v n xs) (b : Nat) (hx : a.eval x = .slice (some ⟨b, 0, none⟩) 1 1) (hc : w.cell? ⟨b, 0, none⟩ = some (.int .u64 0)) (hn : n ≤ 1000) (hb : base ≤ w.heap.size)
    (hK : ∀ a' c' w', w'.ownsRow base 22 1 (.slice a' (n + 1) c') (n + 1) (xs ++ [.int .u64 0]) → w.grownBy w' v.ownBlock → K (a.put o.dst (.slice a' (n + 1) c')) w') :
    if Region.wanted o (yielded ops a.tmps) = true then Oper.wp Tryd.prog o a w K Q else E := by
  have hw : Region.wanted o (yielded ops a.tmps) = true := by simp [Region.wanted, hg]
  rw [if_pos hw]
  obtain ⟨i0, hi, hz0, hz1, hz2⟩ := info_parts infoW
  obtain ⟨v', w', hrun, r1, r2, _⟩ := run_append_own (P := Tryd.prog) w base _ o.type 22 i0 (.int .u64 0) 1 8 Tryd.underlying25 hi hz0 hz1 hz2 rfl (by decide) v n xs hown ⟨b, 0, none⟩ 1 1 [.int .u64 0] rfl (by
    intro j u h
    match j, h with
    | 0, h => simp at h; subst h; exact hc
    | j + 1, h => simp at h) (by intro u hu; simp at hu; subst hu; rfl) (by unfold maxLen; omega) (by omega) hb
  obtain ⟨g', cap', rfl⟩ := ownsRow_succ r1
  unfold Oper.wp
  simp [execOp, hop, resolve, invoke, builtin, hs, hx, hrun, Result.andThen]
  exact hK _ _ w' r1 r2
set_option maxRecDepth 100000 in
set_option maxHeartbeats 8000000 in
theorem val_core (x0_ x1_ x2_ x3_ x4_ x5_ x6_ x7_ x8_ x9_ x10_ : Nat) (a0_ a1_ a4_ a5_ a6_ a7_ a8_ a10_ : Int) (a2_ a3_ a9_ : Nat) (o0_ o1_ o4_ o5_ o6_ o7_ o8_ o10_ : Int) (o2_ o3_ o9_ : Nat) (vs : List Nat) (n : Nat) (hn : vs.length = n) (hn0 : 0 < n) (hn4 : n ≤ 4) (hmx : ∀ w : World, Calls Tryd.prog 14 #[.agg #[.int .u8 x0_, .int .u8 x1_, .int .u32 x2_, .int .u32 x3_, .int .u32 x4_, .int .u32 x5_, .int .u32 x6_, .int .u32 x7_, .int .u32 x8_, .int .u32 x9_, .int .u64 x10_]] w fun e w' => e = .returned (.agg #[.int .i64 a0_, .int .i64 a1_, .int .u8 a2_, .int .u8 a3_, .int .i64 a4_, .int .i64 a5_, .int .i64 a6_, .int .i64 a7_, .int .i64 a8_, .int .u64 a9_, .int .i64 a10_]) ∧ Below w.heap.size w w') (hva : ∀ w : World, A6 w → Calls Tryd.prog 18 #[.agg #[.int .i64 a0_, .int .i64 a1_, .int .u8 a2_, .int .u8 a3_, .int .i64 a4_, .int .i64 a5_, .int .i64 a6_, .int .i64 a7_, .int .i64 a8_, .int .u64 a9_, .int .i64 a10_]] w fun e w' => ∃ a c, e = .returned (.tuple #[.slice a n c, .int .i64 0]) ∧ w'.ownsRow w.heap.size 22 1 (.slice a n c) n (vs.map fun x : Nat => Value.int .u64 x) ∧ Below w.heap.size w w') (hwi : ∀ (w : World) (a : Option Addr) (c : Nat), A6 w → Seen w w.heap.size .u64 a vs → Calls Tryd.prog 19 #[.agg #[.int .i64 a0_, .int .i64 a1_, .int .u8 a2_, .int .u8 a3_, .int .i64 o4_, .int .i64 o5_, .int .i64 o6_, .int .i64 o7_, .int .i64 o8_, .int .u64 o9_, .int .i64 o10_], .slice a n c] w fun e w' => e = .returned (.tuple #[.agg #[.int .i64 a0_, .int .i64 a1_, .int .u8 a2_, .int .u8 a3_, .int .i64 a4_, .int .i64 a5_, .int .i64 a6_, .int .i64 a7_, .int .i64 a8_, .int .u64 a9_, .int .i64 a10_], .int .i64 0]) ∧ Below w.heap.size w w') (hln : ∀ (w : World) (a : Option Addr) (m c : Nat), A6 w → m ≠ n → Calls Tryd.prog 19 #[.agg #[.int .i64 a0_, .int .i64 a1_, .int .u8 a2_, .int .u8 a3_, .int .i64 a4_, .int .i64 a5_, .int .i64 a6_, .int .i64 a7_, .int .i64 a8_, .int .u64 a9_, .int .i64 a10_], .slice a m c] w fun e w' => e = .returned (.tuple #[.agg #[.int .i64 0, .int .i64 0, .int .u8 0, .int .u8 0, .int .i64 0, .int .i64 0, .int .i64 0, .int .i64 0, .int .i64 0, .int .u64 0, .int .i64 0], .int .i64 2]) ∧ Below w.heap.size w w') (hfi : ∀ w : World, A6 w → Calls Tryd.prog 20 #[.int .u8 a3_] w fun e w' => ∃ a c, e = .returned (.slice a n c) ∧ Below w.heap.size w w') (haa : ∀ W : World, (Op.equalIn 10000 24 (.agg #[.int .i64 a0_, .int .i64 a1_, .int .u8 a2_, .int .u8 a3_, .int .i64 a4_, .int .i64 a5_, .int .i64 a6_, .int .i64 a7_, .int .i64 a8_, .int .u64 a9_, .int .i64 a10_]) (.agg #[.int .i64 a0_, .int .i64 a1_, .int .u8 a2_, .int .u8 a3_, .int .i64 a4_, .int .i64 a5_, .int .i64 a6_, .int .i64 a7_, .int .i64 a8_, .int .u64 a9_, .int .i64 a10_])).run Tryd.prog W = .ok true W) (hzz : ∀ W : World, (Op.equalIn 10000 24 (.agg #[.int .i64 0, .int .i64 0, .int .u8 0, .int .u8 0, .int .i64 0, .int .i64 0, .int .i64 0, .int .i64 0, .int .i64 0, .int .u64 0, .int .i64 0]) (.agg #[.int .i64 0, .int .i64 0, .int .u8 0, .int .u8 0, .int .i64 0, .int .i64 0, .int .i64 0, .int .i64 0, .int .i64 0, .int .u64 0, .int .i64 0])).run Tryd.prog W = .ok true W) (w : World) (h : A6 w) : Calls Tryd.prog 6 #[.agg #[.int .u8 x0_, .int .u8 x1_, .int .u32 x2_, .int .u32 x3_, .int .u32 x4_, .int .u32 x5_, .int .u32 x6_, .int .u32 x7_, .int .u32 x8_, .int .u32 x9_, .int .u64 x10_], .agg #[.int .i64 o0_, .int .i64 o1_, .int .u8 o2_, .int .u8 o3_, .int .i64 o4_, .int .i64 o5_, .int .i64 o6_, .int .i64 o7_, .int .i64 o8_, .int .u64 o9_, .int .i64 o10_]] w fun e w' => e = .returned (.bool true) ∧ Below w.heap.size w w' := by
  have HMX : Hid (∀ w : World, Calls Tryd.prog 14 #[.agg #[.int .u8 x0_, .int .u8 x1_, .int .u32 x2_, .int .u32 x3_, .int .u32 x4_, .int .u32 x5_, .int .u32 x6_, .int .u32 x7_, .int .u32 x8_, .int .u32 x9_, .int .u64 x10_]] w fun e w' => e = .returned (.agg #[.int .i64 a0_, .int .i64 a1_, .int .u8 a2_, .int .u8 a3_, .int .i64 a4_, .int .i64 a5_, .int .i64 a6_, .int .i64 a7_, .int .i64 a8_, .int .u64 a9_, .int .i64 a10_]) ∧ Below w.heap.size w w') := hmx
  have HVA : Hid (∀ w : World, A6 w → Calls Tryd.prog 18 #[.agg #[.int .i64 a0_, .int .i64 a1_, .int .u8 a2_, .int .u8 a3_, .int .i64 a4_, .int .i64 a5_, .int .i64 a6_, .int .i64 a7_, .int .i64 a8_, .int .u64 a9_, .int .i64 a10_]] w fun e w' => ∃ a c, e = .returned (.tuple #[.slice a n c, .int .i64 0]) ∧ w'.ownsRow w.heap.size 22 1 (.slice a n c) n (vs.map fun x : Nat => Value.int .u64 x) ∧ Below w.heap.size w w') := hva
  have HWI : Hid (∀ (w : World) (a : Option Addr) (c : Nat), A6 w → Seen w w.heap.size .u64 a vs → Calls Tryd.prog 19 #[.agg #[.int .i64 a0_, .int .i64 a1_, .int .u8 a2_, .int .u8 a3_, .int .i64 o4_, .int .i64 o5_, .int .i64 o6_, .int .i64 o7_, .int .i64 o8_, .int .u64 o9_, .int .i64 o10_], .slice a n c] w fun e w' => e = .returned (.tuple #[.agg #[.int .i64 a0_, .int .i64 a1_, .int .u8 a2_, .int .u8 a3_, .int .i64 a4_, .int .i64 a5_, .int .i64 a6_, .int .i64 a7_, .int .i64 a8_, .int .u64 a9_, .int .i64 a10_], .int .i64 0]) ∧ Below w.heap.size w w') := hwi
  have HLN : Hid (∀ (w : World) (a : Option Addr) (m c : Nat), A6 w → m ≠ n → Calls Tryd.prog 19 #[.agg #[.int .i64 a0_, .int .i64 a1_, .int .u8 a2_, .int .u8 a3_, .int .i64 a4_, .int .i64 a5_, .int .i64 a6_, .int .i64 a7_, .int .i64 a8_, .int .u64 a9_, .int .i64 a10_], .slice a m c] w fun e w' => e = .returned (.tuple #[.agg #[.int .i64 0, .int .i64 0, .int .u8 0, .int .u8 0, .int .i64 0, .int .i64 0, .int .i64 0, .int .i64 0, .int .i64 0, .int .u64 0, .int .i64 0], .int .i64 2]) ∧ Below w.heap.size w w') := hln
  have HFI : Hid (∀ w : World, A6 w → Calls Tryd.prog 20 #[.int .u8 a3_] w fun e w' => ∃ a c, e = .returned (.slice a n c) ∧ Below w.heap.size w w') := hfi
  have HH := Lib.hid h
  have HN := Lib.hid hn
  have HN0 := Lib.hid hn0
  have HN4 := Lib.hid hn4
  have hni : (n : Int) ≤ 4 := by omega
  have hn0i : (1 : Int) ≤ (n : Int) := by omega
  have hnz : ((n : Int) == 0) = false := by simp; omega
  obtain ⟨W0, hW0⟩ : ∃ W, ((w.alloc (.cells #[.int .u8 x0_, .int .u8 x1_, .int .u32 x2_, .int .u32 x3_, .int .u32 x4_, .int .u32 x5_, .int .u32 x6_, .int .u32 x7_, .int .u32 x8_, .int .u32 x9_, .int .u64 x10_] 31)).alloc (.cells #[.int .i64 o0_, .int .i64 o1_, .int .u8 o2_, .int .u8 o3_, .int .i64 o4_, .int .i64 o5_, .int .i64 o6_, .int .i64 o7_, .int .i64 o8_, .int .u64 o9_, .int .i64 o10_] 24)) = W := ⟨_, rfl⟩
  have HB_W0 : Hid (Below w.heap.size w W0) := by
    have t := ((Below.refl w.heap.size w).alloc (Nat.le_refl _) (.cells #[.int .u8 x0_, .int .u8 x1_, .int .u32 x2_, .int .u32 x3_, .int .u32 x4_, .int .u32 x5_, .int .u32 x6_, .int .u32 x7_, .int .u32 x8_, .int .u32 x9_, .int .u64 x10_] 31)).alloc (by simp) (.cells #[.int .i64 o0_, .int .i64 o1_, .int .u8 o2_, .int .u8 o3_, .int .i64 o4_, .int .i64 o5_, .int .i64 o6_, .int .i64 o7_, .int .i64 o8_, .int .u64 o9_, .int .i64 o10_] 24)
    rw [hW0] at t
    exact t
  have HSM : Hid ((fun W : World => W.cell? ⟨w.heap.size, 0, none⟩ = some (.int .u8 x0_) ∧ W.cell? ⟨w.heap.size, 1, none⟩ = some (.int .u8 x1_) ∧ W.cell? ⟨w.heap.size, 2, none⟩ = some (.int .u32 x2_) ∧ W.cell? ⟨w.heap.size, 3, none⟩ = some (.int .u32 x3_) ∧ W.cell? ⟨w.heap.size, 4, none⟩ = some (.int .u32 x4_) ∧ W.cell? ⟨w.heap.size, 5, none⟩ = some (.int .u32 x5_) ∧ W.cell? ⟨w.heap.size, 6, none⟩ = some (.int .u32 x6_) ∧ W.cell? ⟨w.heap.size, 7, none⟩ = some (.int .u32 x7_) ∧ W.cell? ⟨w.heap.size, 8, none⟩ = some (.int .u32 x8_) ∧ W.cell? ⟨w.heap.size, 9, none⟩ = some (.int .u32 x9_) ∧ W.cell? ⟨w.heap.size, 10, none⟩ = some (.int .u64 x10_)) W0) := by
    have t : (fun W : World => W.cell? ⟨w.heap.size, 0, none⟩ = some (.int .u8 x0_) ∧ W.cell? ⟨w.heap.size, 1, none⟩ = some (.int .u8 x1_) ∧ W.cell? ⟨w.heap.size, 2, none⟩ = some (.int .u32 x2_) ∧ W.cell? ⟨w.heap.size, 3, none⟩ = some (.int .u32 x3_) ∧ W.cell? ⟨w.heap.size, 4, none⟩ = some (.int .u32 x4_) ∧ W.cell? ⟨w.heap.size, 5, none⟩ = some (.int .u32 x5_) ∧ W.cell? ⟨w.heap.size, 6, none⟩ = some (.int .u32 x6_) ∧ W.cell? ⟨w.heap.size, 7, none⟩ = some (.int .u32 x7_) ∧ W.cell? ⟨w.heap.size, 8, none⟩ = some (.int .u32 x8_) ∧ W.cell? ⟨w.heap.size, 9, none⟩ = some (.int .u32 x9_) ∧ W.cell? ⟨w.heap.size, 10, none⟩ = some (.int .u64 x10_)) ((w.alloc (.cells #[.int .u8 x0_, .int .u8 x1_, .int .u32 x2_, .int .u32 x3_, .int .u32 x4_, .int .u32 x5_, .int .u32 x6_, .int .u32 x7_, .int .u32 x8_, .int .u32 x9_, .int .u64 x10_] 31)).alloc (.cells #[.int .i64 o0_, .int .i64 o1_, .int .u8 o2_, .int .u8 o3_, .int .i64 o4_, .int .i64 o5_, .int .i64 o6_, .int .i64 o7_, .int .i64 o8_, .int .u64 o9_, .int .i64 o10_] 24)) := ⟨small_at w _ 0 _ rfl, small_at w _ 1 _ rfl, small_at w _ 2 _ rfl, small_at w _ 3 _ rfl, small_at w _ 4 _ rfl, small_at w _ 5 _ rfl, small_at w _ 6 _ rfl, small_at w _ 7 _ rfl, small_at w _ 8 _ rfl, small_at w _ 9 _ rfl, small_at w _ 10 _ rfl⟩
    rw [hW0] at t
    exact t
  have Ho_W0 : Hid (EBox W0 (w.heap.size + 1) o0_ o1_ o2_ o3_ o4_ o5_ o6_ o7_ o8_ o9_ o10_) := by
    have t := EBox.new (w.alloc (.cells #[.int .u8 x0_, .int .u8 x1_, .int .u32 x2_, .int .u32 x3_, .int .u32 x4_, .int .u32 x5_, .int .u32 x6_, .int .u32 x7_, .int .u32 x8_, .int .u32 x9_, .int .u64 x10_] 31)) o0_ o1_ o2_ o3_ o4_ o5_ o6_ o7_ o8_ o9_ o10_
    rw [hW0, World.size_alloc] at t
    exact t
  have HLT : Hid (w.heap.size + 1 < W0.heap.size) := Ho_W0.out.lt
  have HA_W0 : Hid (A6 W0) := h.below HB_W0.out
  clear hmx hva hwi hln hfi h hn hn0 hn4
  go_enter Tryd.func6, Tryd.ntmps6
  go_upto_region 5 with (first
    | (go_at_call 12; ((with_reducible refine (awake_any _ HA_W0.out).mono ?_); rintro e w1 ⟨rfl, hb⟩; have HB_w1 := Lib.hid (HB_W0.out.trans (hb.mono HB_W0.out.size)); have HA_w1 := Lib.hid (HA_W0.out.below hb); have Ho_w1 := Lib.hid (Ho_W0.out.keep hb); obtain ⟨k0, k1, k2, k3, k4, k5, k6, k7, k8, k9, k10⟩ := HSM.out; have hl := Nat.lt_of_succ_lt HLT.out; replace k0 := (hb.cell (p := ⟨w.heap.size, 0, none⟩) hl).trans k0; replace k1 := (hb.cell (p := ⟨w.heap.size, 1, none⟩) hl).trans k1; replace k2 := (hb.cell (p := ⟨w.heap.size, 2, none⟩) hl).trans k2; replace k3 := (hb.cell (p := ⟨w.heap.size, 3, none⟩) hl).trans k3; replace k4 := (hb.cell (p := ⟨w.heap.size, 4, none⟩) hl).trans k4; replace k5 := (hb.cell (p := ⟨w.heap.size, 5, none⟩) hl).trans k5; replace k6 := (hb.cell (p := ⟨w.heap.size, 6, none⟩) hl).trans k6; replace k7 := (hb.cell (p := ⟨w.heap.size, 7, none⟩) hl).trans k7; replace k8 := (hb.cell (p := ⟨w.heap.size, 8, none⟩) hl).trans k8; replace k9 := (hb.cell (p := ⟨w.heap.size, 9, none⟩) hl).trans k9; replace k10 := (hb.cell (p := ⟨w.heap.size, 10, none⟩) hl).trans k10; clear hb))
    | (go_at_call 14; ((with_reducible refine (HMX.out _).mono ?_); rintro e w2 ⟨rfl, hb⟩; have HB_w2 := Lib.hid (HB_w1.out.trans (hb.mono HB_w1.out.size)); have HA_w2 := Lib.hid (HA_w1.out.below hb); have Ho_w2 := Lib.hid (Ho_w1.out.keep hb); have HNE := Lib.hid Ho_w2.out.lt; clear hb; have hb : Below w2.heap.size w2 (w2.alloc (.cells #[.int .i64 a0_, .int .i64 a1_, .int .u8 a2_, .int .u8 a3_, .int .i64 a4_, .int .i64 a5_, .int .i64 a6_, .int .i64 a7_, .int .i64 a8_, .int .u64 a9_, .int .i64 a10_] 24)) := (Below.refl _ _).alloc (Nat.le_refl _) _; have He_ := EBox.new w2 a0_ a1_ a2_ a3_ a4_ a5_ a6_ a7_ a8_ a9_ a10_; obtain ⟨Be, hBe⟩ : ∃ B, w2.heap.size = B := ⟨_, rfl⟩; obtain ⟨D2, hD2⟩ : ∃ D, (w2.alloc (.cells #[.int .i64 a0_, .int .i64 a1_, .int .u8 a2_, .int .u8 a3_, .int .i64 a4_, .int .i64 a5_, .int .i64 a6_, .int .i64 a7_, .int .i64 a8_, .int .u64 a9_, .int .i64 a10_] 24)) = D := ⟨_, rfl⟩; rw [hD2] at hb He_; have HB_D2 := Lib.hid (HB_w2.out.trans (hb.mono HB_w2.out.size)); have HA_D2 := Lib.hid (HA_w2.out.below hb); have He_D2 := Lib.hid He_; have Ho_D2 := Lib.hid (Ho_w2.out.keep hb); clear hb He_ hBe; obtain ⟨p0_, p1_, p2_, p3_, p4_, p5_, p6_, p7_, p8_, p9_, p10_⟩ := He_D2.out.cells))
    | (go_at_call 18; ((with_reducible refine (HVA.out _ HA_D2.out).mono ?_); rintro e w3 ⟨la, lc, rfl, hl3, hb⟩; have HB_w3 := Lib.hid (HB_D2.out.trans (hb.mono HB_D2.out.size)); have HA_w3 := Lib.hid (HA_D2.out.below hb); have Ho_w3 := Lib.hid (Ho_D2.out.keep hb); have He_w3 := Lib.hid (He_D2.out.keep hb); obtain ⟨_, _, hva, hs3, _⟩ := own_slice hl3; cases hva; have HL3 := Lib.hid hl3; have HS3 := Lib.hid hs3; have HD3 := Lib.hid hb.size; have HNE2 := Lib.hid Ho_D2.out.lt; clear hl3 hs3; clear hb)))
  clear hW0 k0 k1 k2 k3 k4 k5 k6 k7 k8 k9 k10 hl p0_ p1_ p2_ p3_ p4_ p5_ p6_ p7_ p8_ p9_ p10_
  obtain ⟨Be, hBe⟩ : ∃ B, w2.heap.size = B := ⟨_, rfl⟩
  rw [hBe] at He_w3 HNE
  simp only [hBe]
  clear hBe
  obtain ⟨p0, p1, p2, p3, _⟩ := He_w3.out.cells
  have hbo : ¬ Be = w.heap.size + 1 := by have := HNE.out; omega
  have hbo2 : ¬ w.heap.size + 1 = Be := by have := HNE.out; omega
  obtain ⟨q0_, q1_, q2_, q3_, q4_, q5_, q6_, q7_, q8_, q9_, q10_⟩ := Ho_w3.out.cells
  have f0 := Ho_w3.out.free 0
  have f1 := Ho_w3.out.free 1
  have f2 := Ho_w3.out.free 2
  have f3 := Ho_w3.out.free 3
  have HS0 : Hid ((fun W : World => W.cell? ⟨Be, 0, none⟩ = some (.int .i64 a0_) ∧ W.cell? ⟨Be, 1, none⟩ = some (.int .i64 a1_) ∧ W.cell? ⟨Be, 2, none⟩ = some (.int .u8 a2_) ∧ W.cell? ⟨Be, 3, none⟩ = some (.int .u8 a3_)) w3) := ⟨p0, p1, p2, p3⟩
  have HKD : Hid (∀ W : World, (fun W : World => W.cell? ⟨Be, 0, none⟩ = some (.int .i64 a0_) ∧ W.cell? ⟨Be, 1, none⟩ = some (.int .i64 a1_) ∧ W.cell? ⟨Be, 2, none⟩ = some (.int .u8 a2_) ∧ W.cell? ⟨Be, 3, none⟩ = some (.int .u8 a3_)) W → (fun W : World => W.cell? ⟨Be, 0, none⟩ = some (.int .i64 a0_) ∧ W.cell? ⟨Be, 1, none⟩ = some (.int .i64 a1_) ∧ W.cell? ⟨Be, 2, none⟩ = some (.int .u8 a2_) ∧ W.cell? ⟨Be, 3, none⟩ = some (.int .u8 a3_)) W.drew) := fun W h => h
  have HK : Hid (∀ W : World, (fun W : World => W.cell? ⟨Be, 0, none⟩ = some (.int .i64 a0_) ∧ W.cell? ⟨Be, 1, none⟩ = some (.int .i64 a1_) ∧ W.cell? ⟨Be, 2, none⟩ = some (.int .u8 a2_) ∧ W.cell? ⟨Be, 3, none⟩ = some (.int .u8 a3_)) W → ∀ (i : Nat) (v : Value), (fun W : World => W.cell? ⟨Be, 0, none⟩ = some (.int .i64 a0_) ∧ W.cell? ⟨Be, 1, none⟩ = some (.int .i64 a1_) ∧ W.cell? ⟨Be, 2, none⟩ = some (.int .u8 a2_) ∧ W.cell? ⟨Be, 3, none⟩ = some (.int .u8 a3_)) (W.setCell ⟨w.heap.size + 1, i, none⟩ v)) := fun W h i v => by
    obtain ⟨h0, h1, h2, h3⟩ := h
    exact ⟨(World.cell?_setCell_other _ _ _ _ (by intro e; injection e with e1 e2; omega)).trans h0, (World.cell?_setCell_other _ _ _ _ (by intro e; injection e with e1 e2; omega)).trans h1, (World.cell?_setCell_other _ _ _ _ (by intro e; injection e with e1 e2; omega)).trans h2, (World.cell?_setCell_other _ _ _ _ (by intro e; injection e with e1 e2; omega)).trans h3⟩
  go_region_held3 (fun W => W.cell? ⟨Be, 0, none⟩ = some (.int .i64 a0_) ∧ W.cell? ⟨Be, 1, none⟩ = some (.int .i64 a1_) ∧ W.cell? ⟨Be, 2, none⟩ = some (.int .u8 a2_) ∧ W.cell? ⟨Be, 3, none⟩ = some (.int .u8 a3_)) (first
    | ((with_reducible refine HKD.out _ ?_); (repeat (with_reducible refine HK.out _ ?_ _ _)); (with_reducible exact HS0.out))) (first
    | fail)
  have Ho5 : EBox ((((w3.setCell ⟨w.heap.size + 1, 0, none⟩ (.int .i64 a0_)).setCell ⟨w.heap.size + 1, 1, none⟩ (.int .i64 a1_)).setCell ⟨w.heap.size + 1, 2, none⟩ (.int .u8 a2_)).setCell ⟨w.heap.size + 1, 3, none⟩ (.int .u8 a3_)) (w.heap.size + 1) a0_ a1_ a2_ a3_ o4_ o5_ o6_ o7_ o8_ o9_ o10_ := EBox.set4 Ho_w3.out a0_ a1_ a2_ a3_
  have He5 : EBox ((((w3.setCell ⟨w.heap.size + 1, 0, none⟩ (.int .i64 a0_)).setCell ⟨w.heap.size + 1, 1, none⟩ (.int .i64 a1_)).setCell ⟨w.heap.size + 1, 2, none⟩ (.int .u8 a2_)).setCell ⟨w.heap.size + 1, 3, none⟩ (.int .u8 a3_)) Be a0_ a1_ a2_ a3_ a4_ a5_ a6_ a7_ a8_ a9_ a10_ := (((He_w3.out.other hbo2 0 (.int .i64 a0_)).other hbo2 1 (.int .i64 a1_)).other hbo2 2 (.int .u8 a2_)).other hbo2 3 (.int .u8 a3_)
  have HB5 : Below w.heap.size w ((((w3.setCell ⟨w.heap.size + 1, 0, none⟩ (.int .i64 a0_)).setCell ⟨w.heap.size + 1, 1, none⟩ (.int .i64 a1_)).setCell ⟨w.heap.size + 1, 2, none⟩ (.int .u8 a2_)).setCell ⟨w.heap.size + 1, 3, none⟩ (.int .u8 a3_)) := (((HB_w3.out.setCell (p := ⟨w.heap.size + 1, 0, none⟩) (Nat.le_succ _) _).setCell (p := ⟨w.heap.size + 1, 1, none⟩) (Nat.le_succ _) _).setCell (p := ⟨w.heap.size + 1, 2, none⟩) (Nat.le_succ _) _).setCell (p := ⟨w.heap.size + 1, 3, none⟩) (Nat.le_succ _) _
  have HL5 := ownsRow_setCell_below (ownsRow_setCell_below (ownsRow_setCell_below (ownsRow_setCell_below HL3.out (a := ⟨w.heap.size + 1, 0, none⟩) HNE2.out (.int .i64 a0_)) (a := ⟨w.heap.size + 1, 1, none⟩) HNE2.out (.int .i64 a1_)) (a := ⟨w.heap.size + 1, 2, none⟩) HNE2.out (.int .u8 a2_)) (a := ⟨w.heap.size + 1, 3, none⟩) HNE2.out (.int .u8 a3_)
  have Ho_w5 : Hid (EBox ((((w3.setCell ⟨w.heap.size + 1, 0, none⟩ (.int .i64 a0_)).setCell ⟨w.heap.size + 1, 1, none⟩ (.int .i64 a1_)).setCell ⟨w.heap.size + 1, 2, none⟩ (.int .u8 a2_)).setCell ⟨w.heap.size + 1, 3, none⟩ (.int .u8 a3_)).drew (w.heap.size + 1) a0_ a1_ a2_ a3_ o4_ o5_ o6_ o7_ o8_ o9_ o10_) := Ho5
  have He_w5 : Hid (EBox ((((w3.setCell ⟨w.heap.size + 1, 0, none⟩ (.int .i64 a0_)).setCell ⟨w.heap.size + 1, 1, none⟩ (.int .i64 a1_)).setCell ⟨w.heap.size + 1, 2, none⟩ (.int .u8 a2_)).setCell ⟨w.heap.size + 1, 3, none⟩ (.int .u8 a3_)).drew Be a0_ a1_ a2_ a3_ a4_ a5_ a6_ a7_ a8_ a9_ a10_) := He5
  have HB_w5 : Hid (Below w.heap.size w ((((w3.setCell ⟨w.heap.size + 1, 0, none⟩ (.int .i64 a0_)).setCell ⟨w.heap.size + 1, 1, none⟩ (.int .i64 a1_)).setCell ⟨w.heap.size + 1, 2, none⟩ (.int .u8 a2_)).setCell ⟨w.heap.size + 1, 3, none⟩ (.int .u8 a3_)).drew) := HB5.drew
  have HL_w5 : Hid (((((w3.setCell ⟨w.heap.size + 1, 0, none⟩ (.int .i64 a0_)).setCell ⟨w.heap.size + 1, 1, none⟩ (.int .i64 a1_)).setCell ⟨w.heap.size + 1, 2, none⟩ (.int .u8 a2_)).setCell ⟨w.heap.size + 1, 3, none⟩ (.int .u8 a3_)).drew.ownsRow D2.heap.size 22 1 (.slice la n lc) n (vs.map fun x : Nat => Value.int .u64 x)) := HL5
  clear Ho5 He5 HB5 HL5 p0 p1 p2 p3 q0_ q1_ q2_ q3_ q4_ q5_ q6_ q7_ q8_ q9_ q10_ f0 f1 f2 f3 HS0 HK HKD
  generalize ((((w3.setCell ⟨w.heap.size + 1, 0, none⟩ (.int .i64 a0_)).setCell ⟨w.heap.size + 1, 1, none⟩ (.int .i64 a1_)).setCell ⟨w.heap.size + 1, 2, none⟩ (.int .u8 a2_)).setCell ⟨w.heap.size + 1, 3, none⟩ (.int .u8 a3_)).drew = w5 at Ho_w5 He_w5 HB_w5 HL_w5 ⊢
  have HA_w5 : Hid (A6 w5) := HH.out.below HB_w5.out
  obtain ⟨_, _, hva, hs5, _, hnc, hcm⟩ := own_slice HL_w5.out
  cases hva
  have HS_w5 := Lib.hid hs5
  clear hs5
  have hnci : (n : Int) ≤ (lc : Int) := by omega
  have hcmi : (lc : Int) ≤ 9223372036854775807 := by unfold maxLen at hcm; omega
  obtain ⟨g, hla, hgb⟩ : ∃ g, la = some ⟨g, 0, none⟩ ∧ Hid (g < w5.heap.size) := by
    rcases HL_w5.out.2 with ⟨h0, h1⟩ | ⟨g, cap, cur, hv, _, hh, _⟩
    · have := HN0.out; omega
    · injection hv with hv1
      exact ⟨g, hv1, (Array.getElem?_eq_some_iff.1 hh).1⟩
  subst hla
  clear hnc hcm
  obtain ⟨q0_, q1_, q2_, q3_, q4_, q5_, q6_, q7_, q8_, q9_, q10_⟩ := Ho_w5.out.cells
  go_upto_region 9 with (first
    | (go_at_call 19; ((with_reducible refine (HWI.out w5 _ _ HA_w5.out HS_w5.out).mono ?_); rintro e w6 ⟨rfl, hb⟩; have HB_w6 := Lib.hid (HB_w5.out.trans (hb.mono HB_w5.out.size)); have HA_w6 := Lib.hid (HA_w5.out.below hb); have He_w6 := Lib.hid (He_w5.out.keep hb); have HL_w6 := Lib.hid (row_below HL_w5.out hb); clear hb; have hb : Below w6.heap.size w6 (w6.alloc (.cells #[.int .i64 a0_, .int .i64 a1_, .int .u8 a2_, .int .u8 a3_, .int .i64 a4_, .int .i64 a5_, .int .i64 a6_, .int .i64 a7_, .int .i64 a8_, .int .u64 a9_, .int .i64 a10_] 24)) := (Below.refl _ _).alloc (Nat.le_refl _) _; have Hk_ := EBox.new w6 a0_ a1_ a2_ a3_ a4_ a5_ a6_ a7_ a8_ a9_ a10_; obtain ⟨Bk, hBk⟩ : ∃ B, w6.heap.size = B := ⟨_, rfl⟩; obtain ⟨D6, hD6⟩ : ∃ D, (w6.alloc (.cells #[.int .i64 a0_, .int .i64 a1_, .int .u8 a2_, .int .u8 a3_, .int .i64 a4_, .int .i64 a5_, .int .i64 a6_, .int .i64 a7_, .int .i64 a8_, .int .u64 a9_, .int .i64 a10_] 24)) = D := ⟨_, rfl⟩; rw [hD6] at hb Hk_; have HB_D6 := Lib.hid (HB_w6.out.trans (hb.mono HB_w6.out.size)); have HA_D6 := Lib.hid (HA_w6.out.below hb); have Hk_D6 := Lib.hid Hk_; have He_D6 := Lib.hid (He_w6.out.keep hb); have HL_D6 := Lib.hid (row_below HL_w6.out hb); clear hb Hk_ hBk; obtain ⟨p0_, p1_, p2_, p3_, p4_, p5_, p6_, p7_, p8_, p9_, p10_⟩ := He_D6.out.cells; obtain ⟨r0_, r1_, r2_, r3_, r4_, r5_, r6_, r7_, r8_, r9_, r10_⟩ := Hk_D6.out.cells))
    | (go_at_call 20; ((with_reducible refine (HFI.out _ HA_D6.out).mono ?_); rintro e w7 ⟨fa, fc, rfl, hb⟩; have HB_w7 := Lib.hid (HB_D6.out.trans (hb.mono HB_D6.out.size)); have HA_w7 := Lib.hid (HA_D6.out.below hb); have He_w7 := Lib.hid (He_D6.out.keep hb); have HL_w7 := Lib.hid (row_below HL_D6.out hb); clear hb)))
  clear q0_ q1_ q2_ q3_ q4_ q5_ q6_ q7_ q8_ q9_ q10_ p0_ p1_ p2_ p3_ p4_ p5_ p6_ p7_ p8_ p9_ p10_ r0_ r1_ r2_ r3_ r4_ r5_ r6_ r7_ r8_ r9_ r10_
  obtain ⟨p0_, p1_, p2_, p3_, p4_, p5_, p6_, p7_, p8_, p9_, p10_⟩ := He_w7.out.cells
  have HA5 : Hid (Below w7.heap.size w7 w7.drew) := (Below.refl _ w7).drew
  have HA6 : Hid (Below w7.heap.size w7 (w7.alloc (.cells #[.int .i64 0, .int .i64 0, .int .u8 0, .int .u8 0, .int .i64 0, .int .i64 0, .int .i64 0, .int .i64 0, .int .i64 0, .int .u64 0, .int .i64 0] 24)).drew) := HA5.out.alloc (Nat.le_refl _) _
  have HD6_ : Hid (EBox (w7.alloc (.cells #[.int .i64 0, .int .i64 0, .int .u8 0, .int .u8 0, .int .i64 0, .int .i64 0, .int .i64 0, .int .i64 0, .int .i64 0, .int .u64 0, .int .i64 0] 24)).drew w7.heap.size 0 0 0 0 0 0 0 0 0 0 0) := (EBox.new w7 0 0 0 0 0 0 0 0 0 0 0).keep (Below.refl _ _).drew
  obtain ⟨D, hD⟩ : ∃ D, (w7.alloc (.cells #[.int .i64 0, .int .i64 0, .int .u8 0, .int .u8 0, .int .i64 0, .int .i64 0, .int .i64 0, .int .i64 0, .int .i64 0, .int .u64 0, .int .i64 0] 24)) = D := ⟨_, rfl⟩
  rw [hD] at HA6 HD6_
  have HKC : Hid (∀ W : World, Below w7.heap.size w7 W → W.cell? ⟨Be, 0, none⟩ = some (.int .i64 a0_) ∧ W.cell? ⟨Be, 1, none⟩ = some (.int .i64 a1_) ∧ W.cell? ⟨Be, 2, none⟩ = some (.int .u8 a2_) ∧ W.cell? ⟨Be, 3, none⟩ = some (.int .u8 a3_) ∧ W.cell? ⟨Be, 4, none⟩ = some (.int .i64 a4_) ∧ W.cell? ⟨Be, 5, none⟩ = some (.int .i64 a5_) ∧ W.cell? ⟨Be, 6, none⟩ = some (.int .i64 a6_) ∧ W.cell? ⟨Be, 7, none⟩ = some (.int .i64 a7_) ∧ W.cell? ⟨Be, 8, none⟩ = some (.int .i64 a8_) ∧ W.cell? ⟨Be, 9, none⟩ = some (.int .u64 a9_) ∧ W.cell? ⟨Be, 10, none⟩ = some (.int .i64 a10_)) := fun W hW => (He_w7.out.keep hW).cells
  have HAa : Hid (A6 w7.drew) := HA_w7.out.below HA5.out
  have HAd : Hid (A6 D.drew) := HA_w7.out.below HA6.out
  have HM1 : Hid (n - 1 ≠ n) := by show _ ≠ _; have := HN0.out; omega
  have hn1 : 1 ≤ n := HN0.out
  have hlc1 : 1 ≤ lc := by omega
  obtain ⟨a2, ha2⟩ : ∃ a2 : Option Addr, (if lc = 1 then some (⟨g, 0, none⟩ : Addr) else some ⟨g, 1, none⟩) = a2 := ⟨_, rfl⟩
  go_cut [10, 11] (fun s10 s11 wx => ∃ B : Nat, s10 = .pointer (some ⟨B, 0, none⟩) ∧ s11 = .int .i64 2 ∧ Hid (EBox wx B 0 0 0 0 0 0 0 0 0 0 0) ∧ Hid (Below w7.heap.size w7 wx))
  case first =>
    go_region_held3 (fun W => W.cell? ⟨Be, 0, none⟩ = some (.int .i64 a0_) ∧ W.cell? ⟨Be, 1, none⟩ = some (.int .i64 a1_) ∧ W.cell? ⟨Be, 2, none⟩ = some (.int .u8 a2_) ∧ W.cell? ⟨Be, 3, none⟩ = some (.int .u8 a3_) ∧ W.cell? ⟨Be, 4, none⟩ = some (.int .i64 a4_) ∧ W.cell? ⟨Be, 5, none⟩ = some (.int .i64 a5_) ∧ W.cell? ⟨Be, 6, none⟩ = some (.int .i64 a6_) ∧ W.cell? ⟨Be, 7, none⟩ = some (.int .i64 a7_) ∧ W.cell? ⟨Be, 8, none⟩ = some (.int .i64 a8_) ∧ W.cell? ⟨Be, 9, none⟩ = some (.int .u64 a9_) ∧ W.cell? ⟨Be, 10, none⟩ = some (.int .i64 a10_)) (first
      | with_reducible exact HKC.out _ HA5.out
      | with_reducible exact HKC.out _ HA6.out
      | with_reducible exact HKC.out _ HB8.out
      | with_reducible exact HKC.out _ (HB8.out.alloc HB8.out.size _)
      | (have t2 : Below w7.heap.size w7 (((((((((((w8.setCell ⟨w7.heap.size, 0, none⟩ (.int .i64 0)).setCell ⟨w7.heap.size, 1, none⟩ (.int .i64 0)).setCell ⟨w7.heap.size, 2, none⟩ (.int .u8 0)).setCell ⟨w7.heap.size, 3, none⟩ (.int .u8 0)).setCell ⟨w7.heap.size, 4, none⟩ (.int .i64 0)).setCell ⟨w7.heap.size, 5, none⟩ (.int .i64 0)).setCell ⟨w7.heap.size, 6, none⟩ (.int .i64 0)).setCell ⟨w7.heap.size, 7, none⟩ (.int .i64 0)).setCell ⟨w7.heap.size, 8, none⟩ (.int .i64 0)).setCell ⟨w7.heap.size, 9, none⟩ (.int .u64 0)).setCell ⟨w7.heap.size, 10, none⟩ (.int .i64 0)) := below_setAll HB8.out (Nat.le_refl w7.heap.size) 0 0 0 0 0 0 0 0 0 0 0; with_reducible exact HKC.out _ t2)) (first
      | (go_at_call 19; ((with_reducible refine (HLN.out w7.drew _ _ _ HAa.out HM1.out).mono ?_); rintro e w8 ⟨rfl, hb'⟩; have HB8 := Lib.hid (HA5.out.trans (hb'.mono HA5.out.size)); have HN8 := Lib.hid (EBox.new w8 0 0 0 0 0 0 0 0 0 0 0); clear hb'))
      | (go_at_call 19; ((with_reducible refine (HLN.out D.drew _ _ _ HAd.out HM1.out).mono ?_); rintro e w8 ⟨rfl, hb'⟩; have HB8 := Lib.hid (HA6.out.trans (hb'.mono HA6.out.size)); have HD8 := Lib.hid (HD6_.out.keep hb'); clear hb'; obtain ⟨q0_, q1_, q2_, q3_, q4_, q5_, q6_, q7_, q8_, q9_, q10_⟩ := HD8.out.cells; have f0 := HD8.out.free 0; have f1 := HD8.out.free 1; have f2 := HD8.out.free 2; have f3 := HD8.out.free 3; have f4 := HD8.out.free 4; have f5 := HD8.out.free 5; have f6 := HD8.out.free 6; have f7 := HD8.out.free 7; have f8 := HD8.out.free 8; have f9 := HD8.out.free 9; have f10 := HD8.out.free 10)))
    all_goals
      go_wp2
      go_meet
      first
        | exact ⟨_, rfl, rfl, HN8, Lib.hid (HB8.out.alloc HB8.out.size _)⟩
        | (have t1 := EBox.setAll HD8.out 0 0 0 0 0 0 0 0 0 0 0
           have t2 := below_setAll HB8.out (Nat.le_refl _) 0 0 0 0 0 0 0 0 0 0 0
           exact ⟨_, rfl, rfl, Lib.hid t1, Lib.hid t2⟩)
  case rest =>
    obtain ⟨B9, rfl, rfl, HN9, HBX⟩ := hcut
    have HB_wc := Lib.hid (HB_w7.out.trans (HBX.out.mono HB_w7.out.size))
    have HA_wc := Lib.hid (HA_w7.out.below HBX.out)
    have He_wc := Lib.hid (He_w7.out.keep HBX.out)
    have HL_wc := Lib.hid (row_below HL_w7.out HBX.out)
    clear p0_ p1_ p2_ p3_ p4_ p5_ p6_ p7_ p8_ p9_ p10_ ha2 hD
    have HG0 : Hid (w.heap.size ≤ g ∧ D2.heap.size ≤ wc.heap.size ∧ Be ≠ g ∧ B9 ≠ g ∧ w.heap.size + 1 < D2.heap.size) := by
      rcases HL_wc.out.2 with ⟨h0, h1⟩ | ⟨g', cap, cur, hv, hgb', hh, _⟩
      · cases h0
      · injection hv with hv1
        injection hv1 with hv1
        injection hv1 with hv1
        subst hv1
        have hlt := (Array.getElem?_eq_some_iff.1 hh).1
        have h2 := HNE2.out
        refine ⟨by omega, by omega, fun e => ?_, fun e => ?_, h2⟩
        · have t := He_wc.out
          rw [e] at t
          rw [show wc.heap[g]? = _ from t] at hh
          injection hh with hh
          injection hh with _ hh
          exact absurd hh (by decide)
        · have t := HN9.out
          rw [e] at t
          rw [show wc.heap[g]? = _ from t] at hh
          injection hh with hh
          injection hh with _ hh
          exact absurd hh (by decide)
    have HKG : Hid (∀ W : World, wc.grownBy W (some g) → W.cell? ⟨Be, 0, none⟩ = some (.int .i64 a0_) ∧ W.cell? ⟨Be, 1, none⟩ = some (.int .i64 a1_) ∧ W.cell? ⟨Be, 2, none⟩ = some (.int .u8 a2_) ∧ W.cell? ⟨Be, 3, none⟩ = some (.int .u8 a3_) ∧ W.cell? ⟨Be, 4, none⟩ = some (.int .i64 a4_) ∧ W.cell? ⟨Be, 5, none⟩ = some (.int .i64 a5_) ∧ W.cell? ⟨Be, 6, none⟩ = some (.int .i64 a6_) ∧ W.cell? ⟨Be, 7, none⟩ = some (.int .i64 a7_) ∧ W.cell? ⟨Be, 8, none⟩ = some (.int .i64 a8_) ∧ W.cell? ⟨Be, 9, none⟩ = some (.int .u64 a9_) ∧ W.cell? ⟨Be, 10, none⟩ = some (.int .i64 a10_)) := fun W hW => (He_wc.out.grown hW HG0.out.2.2.1).cells
    have HAG : Hid (∀ W : World, wc.grownBy W (some g) → A6 W) := fun W hW => HH.out.below (below_gr HB_wc.out hW HG0.out.1)
    have G0 : Hid (wc.grownBy wc.drew (some g)) := ⟨rfl, rfl, rfl, Nat.le_refl _, fun _ _ _ => rfl⟩
    have GU1 : Hid (wc.grownBy (wc.alloc (.cells #[.int .u64 0] 22)).drew (some g)) := gr_below (World.grownBy.refl wc _) ((Below.refl wc.heap.size wc).alloc (Nat.le_refl _) _ |>.drew)
    have GU2 : Hid (wc.grownBy ((wc.alloc (.cells #[.int .u64 0] 22)).alloc (.cells #[.int .i64 0, .int .i64 0, .int .u8 0, .int .u8 0, .int .i64 0, .int .i64 0, .int .i64 0, .int .i64 0, .int .i64 0, .int .u64 0, .int .i64 0] 24)).drew (some g)) := gr_below (World.grownBy.refl wc _) (((Below.refl wc.heap.size wc).alloc (Nat.le_refl _) _).alloc (by simp) _ |>.drew)
    have GV1 : Hid (wc.grownBy (wc.alloc (.cells #[.int .i64 0, .int .i64 0, .int .u8 0, .int .u8 0, .int .i64 0, .int .i64 0, .int .i64 0, .int .i64 0, .int .i64 0, .int .u64 0, .int .i64 0] 24)).drew (some g)) := gr_below (World.grownBy.refl wc _) ((Below.refl wc.heap.size wc).alloc (Nat.le_refl _) _ |>.drew)
    have GV2 : Hid (wc.grownBy ((wc.alloc (.cells #[.int .i64 0, .int .i64 0, .int .u8 0, .int .u8 0, .int .i64 0, .int .i64 0, .int .i64 0, .int .i64 0, .int .i64 0, .int .u64 0, .int .i64 0] 24)).alloc (.cells #[.int .u64 0] 22)).drew (some g)) := gr_below (World.grownBy.refl wc _) (((Below.refl wc.heap.size wc).alloc (Nat.le_refl _) _).alloc (by simp) _ |>.drew)
    have RU1 : Hid ((wc.alloc (.cells #[.int .u64 0] 22)).drew.ownsRow D2.heap.size 22 1 (.slice (some ⟨g, 0, none⟩) n lc) n (vs.map fun x : Nat => Value.int .u64 x)) := HL_wc.out.alloc _
    have RU2 : Hid (((wc.alloc (.cells #[.int .u64 0] 22)).alloc (.cells #[.int .i64 0, .int .i64 0, .int .u8 0, .int .u8 0, .int .i64 0, .int .i64 0, .int .i64 0, .int .i64 0, .int .i64 0, .int .u64 0, .int .i64 0] 24)).drew.ownsRow D2.heap.size 22 1 (.slice (some ⟨g, 0, none⟩) n lc) n (vs.map fun x : Nat => Value.int .u64 x)) := (HL_wc.out.alloc _).alloc _
    have RV2 : Hid (((wc.alloc (.cells #[.int .i64 0, .int .i64 0, .int .u8 0, .int .u8 0, .int .i64 0, .int .i64 0, .int .i64 0, .int .i64 0, .int .i64 0, .int .u64 0, .int .i64 0] 24)).alloc (.cells #[.int .u64 0] 22)).drew.ownsRow D2.heap.size 22 1 (.slice (some ⟨g, 0, none⟩) n lc) n (vs.map fun x : Nat => Value.int .u64 x)) := (HL_wc.out.alloc _).alloc _
    have CU1 : Hid ((wc.alloc (.cells #[.int .u64 0] 22)).drew.cell? ⟨wc.heap.size, 0, none⟩ = some (.int .u64 0)) := by
      show World.cell? (wc.alloc _) _ = _
      unfold World.cell?
      rw [heap_alloc_new wc _]
      rfl
    have CU2 : Hid (((wc.alloc (.cells #[.int .u64 0] 22)).alloc (.cells #[.int .i64 0, .int .i64 0, .int .u8 0, .int .u8 0, .int .i64 0, .int .i64 0, .int .i64 0, .int .i64 0, .int .i64 0, .int .u64 0, .int .i64 0] 24)).drew.cell? ⟨wc.heap.size, 0, none⟩ = some (.int .u64 0)) := by
      show World.cell? ((wc.alloc _).alloc _) _ = _
      exact ((Below.refl _ (wc.alloc (.cells #[.int .u64 0] 22))).alloc (Nat.le_refl _) _ |>.cell (p := ⟨wc.heap.size, 0, none⟩) (by simp)).trans CU1.out
    have CV2 : Hid (((wc.alloc (.cells #[.int .i64 0, .int .i64 0, .int .u8 0, .int .u8 0, .int .i64 0, .int .i64 0, .int .i64 0, .int .i64 0, .int .i64 0, .int .u64 0, .int .i64 0] 24)).alloc (.cells #[.int .u64 0] 22)).drew.cell? ⟨wc.heap.size + 1, 0, none⟩ = some (.int .u64 0)) := by
      have e : (wc.alloc (.cells #[.int .i64 0, .int .i64 0, .int .u8 0, .int .u8 0, .int .i64 0, .int .i64 0, .int .i64 0, .int .i64 0, .int .i64 0, .int .u64 0, .int .i64 0] 24)).heap.size = wc.heap.size + 1 := by simp
      show World.cell? ((wc.alloc _).alloc _) _ = _
      rw [← e]
      unfold World.cell?
      rw [heap_alloc_new (wc.alloc (.cells #[.int .i64 0, .int .i64 0, .int .u8 0, .int .u8 0, .int .i64 0, .int .i64 0, .int .i64 0, .int .i64 0, .int .i64 0, .int .u64 0, .int .i64 0] 24)) _]
      rfl
    have ZU2 : Hid (EBox ((wc.alloc (.cells #[.int .u64 0] 22)).alloc (.cells #[.int .i64 0, .int .i64 0, .int .u8 0, .int .u8 0, .int .i64 0, .int .i64 0, .int .i64 0, .int .i64 0, .int .i64 0, .int .u64 0, .int .i64 0] 24)).drew (wc.heap.size + 1) 0 0 0 0 0 0 0 0 0 0 0) := by
      have t := EBox.new (wc.alloc (.cells #[.int .u64 0] 22)) 0 0 0 0 0 0 0 0 0 0 0
      rw [World.size_alloc] at t
      exact t
    have ZV2 : Hid (EBox ((wc.alloc (.cells #[.int .i64 0, .int .i64 0, .int .u8 0, .int .u8 0, .int .i64 0, .int .i64 0, .int .i64 0, .int .i64 0, .int .i64 0, .int .u64 0, .int .i64 0] 24)).alloc (.cells #[.int .u64 0] 22)).drew wc.heap.size 0 0 0 0 0 0 0 0 0 0 0) := (EBox.new wc 0 0 0 0 0 0 0 0 0 0 0).alloc _
    have SZ : Hid (D2.heap.size ≤ (wc.alloc (.cells #[.int .u64 0] 22)).drew.heap.size ∧ D2.heap.size ≤ ((wc.alloc (.cells #[.int .u64 0] 22)).alloc (.cells #[.int .i64 0, .int .i64 0, .int .u8 0, .int .u8 0, .int .i64 0, .int .i64 0, .int .i64 0, .int .i64 0, .int .i64 0, .int .u64 0, .int .i64 0] 24)).drew.heap.size ∧ D2.heap.size ≤ ((wc.alloc (.cells #[.int .i64 0, .int .i64 0, .int .u8 0, .int .u8 0, .int .i64 0, .int .i64 0, .int .i64 0, .int .i64 0, .int .i64 0, .int .u64 0, .int .i64 0] 24)).alloc (.cells #[.int .u64 0] 22)).drew.heap.size) := ⟨Nat.le_trans HG0.out.2.1 GU1.out.size, Nat.le_trans HG0.out.2.1 GU2.out.size, Nat.le_trans HG0.out.2.1 GV2.out.size⟩
    have HM2 : Hid (n + 1 ≠ n) := Nat.succ_ne_self n
    have HN3 : Hid (n ≤ 1000) := Nat.le_trans HN4.out (by decide)
    have HZNE : Hid (wc.heap.size ≠ g ∧ wc.heap.size + 1 ≠ g) := by
      have hlt : g < wc.heap.size := by
        rcases HL_wc.out.2 with ⟨h0, h1⟩ | ⟨g', cap, cur, hv, hgb', hh, _⟩
        · cases h0
        · injection hv with hv1
          injection hv1 with hv1
          injection hv1 with hv1
          subst hv1
          exact (Array.getElem?_eq_some_iff.1 hh).1
      show _ ∧ _
      omega
    obtain ⟨p0_, p1_, p2_, p3_, p4_, p5_, p6_, p7_, p8_, p9_, p10_⟩ := He_wc.out.cells
    go_upto_region 10 with fail
    go_cut [12, 13] (fun s12 s13 wx => ∃ B : Nat, s12 = .pointer (some ⟨B, 0, none⟩) ∧ s13 = .int .i64 2 ∧ Hid (EBox wx B 0 0 0 0 0 0 0 0 0 0 0) ∧ Hid (wc.grownBy wx (some g)))
    case first =>
      go_region_held3 (fun W => W.cell? ⟨Be, 0, none⟩ = some (.int .i64 a0_) ∧ W.cell? ⟨Be, 1, none⟩ = some (.int .i64 a1_) ∧ W.cell? ⟨Be, 2, none⟩ = some (.int .u8 a2_) ∧ W.cell? ⟨Be, 3, none⟩ = some (.int .u8 a3_) ∧ W.cell? ⟨Be, 4, none⟩ = some (.int .i64 a4_) ∧ W.cell? ⟨Be, 5, none⟩ = some (.int .i64 a5_) ∧ W.cell? ⟨Be, 6, none⟩ = some (.int .i64 a6_) ∧ W.cell? ⟨Be, 7, none⟩ = some (.int .i64 a7_) ∧ W.cell? ⟨Be, 8, none⟩ = some (.int .i64 a8_) ∧ W.cell? ⟨Be, 9, none⟩ = some (.int .u64 a9_) ∧ W.cell? ⟨Be, 10, none⟩ = some (.int .i64 a10_)) (first
        | with_reducible exact HKG.out _ G0.out
        | with_reducible exact HKG.out _ GU1.out
        | with_reducible exact HKG.out _ GU2.out
        | with_reducible exact HKG.out _ GV1.out
        | with_reducible exact HKG.out _ GV2.out
        | with_reducible exact HKG.out _ G8.out
        | with_reducible exact HKG.out _ G8a.out
        | with_reducible exact HKG.out _ G9.out
        | with_reducible exact HKG.out _ G9a.out
        | (have t2 : wc.grownBy (((((((((((w9.setCell ⟨wc.heap.size, 0, none⟩ (.int .i64 0)).setCell ⟨wc.heap.size, 1, none⟩ (.int .i64 0)).setCell ⟨wc.heap.size, 2, none⟩ (.int .u8 0)).setCell ⟨wc.heap.size, 3, none⟩ (.int .u8 0)).setCell ⟨wc.heap.size, 4, none⟩ (.int .i64 0)).setCell ⟨wc.heap.size, 5, none⟩ (.int .i64 0)).setCell ⟨wc.heap.size, 6, none⟩ (.int .i64 0)).setCell ⟨wc.heap.size, 7, none⟩ (.int .i64 0)).setCell ⟨wc.heap.size, 8, none⟩ (.int .i64 0)).setCell ⟨wc.heap.size, 9, none⟩ (.int .u64 0)).setCell ⟨wc.heap.size, 10, none⟩ (.int .i64 0)) (some g) := gr_all G9.out (Nat.le_refl _); with_reducible exact HKG.out _ t2)
        | (have t2 : wc.grownBy (((((((((((w9.setCell ⟨(wc.heap.size + 1), 0, none⟩ (.int .i64 0)).setCell ⟨(wc.heap.size + 1), 1, none⟩ (.int .i64 0)).setCell ⟨(wc.heap.size + 1), 2, none⟩ (.int .u8 0)).setCell ⟨(wc.heap.size + 1), 3, none⟩ (.int .u8 0)).setCell ⟨(wc.heap.size + 1), 4, none⟩ (.int .i64 0)).setCell ⟨(wc.heap.size + 1), 5, none⟩ (.int .i64 0)).setCell ⟨(wc.heap.size + 1), 6, none⟩ (.int .i64 0)).setCell ⟨(wc.heap.size + 1), 7, none⟩ (.int .i64 0)).setCell ⟨(wc.heap.size + 1), 8, none⟩ (.int .i64 0)).setCell ⟨(wc.heap.size + 1), 9, none⟩ (.int .u64 0)).setCell ⟨(wc.heap.size + 1), 10, none⟩ (.int .i64 0)) (some g) := gr_all G9.out (Nat.le_succ _); with_reducible exact HKG.out _ t2)
        | (have t2 : wc.grownBy (((((((((((w9.setCell ⟨w8.heap.size, 0, none⟩ (.int .i64 0)).setCell ⟨w8.heap.size, 1, none⟩ (.int .i64 0)).setCell ⟨w8.heap.size, 2, none⟩ (.int .u8 0)).setCell ⟨w8.heap.size, 3, none⟩ (.int .u8 0)).setCell ⟨w8.heap.size, 4, none⟩ (.int .i64 0)).setCell ⟨w8.heap.size, 5, none⟩ (.int .i64 0)).setCell ⟨w8.heap.size, 6, none⟩ (.int .i64 0)).setCell ⟨w8.heap.size, 7, none⟩ (.int .i64 0)).setCell ⟨w8.heap.size, 8, none⟩ (.int .i64 0)).setCell ⟨w8.heap.size, 9, none⟩ (.int .u64 0)).setCell ⟨w8.heap.size, 10, none⟩ (.int .i64 0)) (some g) := gr_all G9.out G8.out.size; with_reducible exact HKG.out _ t2)) (first
        | (refine step_append_u64 (w := (wc.alloc (.cells #[.int .u64 0] 22)).drew) rfl _ _ rfl D2.heap.size (.slice (some ⟨g, 0, none⟩) n lc) n _ rfl RU1.out wc.heap.size rfl CU1.out HN3.out SZ.out.1 ?_; intro a8 c8 w8 ho8 hg8; have G8 := Lib.hid (gr_trans GU1.out hg8); have G8a := Lib.hid (gr_below G8.out ((Below.refl w8.heap.size w8).alloc (Nat.le_refl _) (.cells #[.int .i64 0, .int .i64 0, .int .u8 0, .int .u8 0, .int .i64 0, .int .i64 0, .int .i64 0, .int .i64 0, .int .i64 0, .int .u64 0, .int .i64 0] 24))); have HA8 := Lib.hid (HAG.out _ G8.out); have HA8a := Lib.hid (HAG.out _ G8a.out); have HY8 := Lib.hid (EBox.new w8 0 0 0 0 0 0 0 0 0 0 0); clear ho8 hg8)
        | (refine step_append_u64 (w := ((wc.alloc (.cells #[.int .u64 0] 22)).alloc (.cells #[.int .i64 0, .int .i64 0, .int .u8 0, .int .u8 0, .int .i64 0, .int .i64 0, .int .i64 0, .int .i64 0, .int .i64 0, .int .u64 0, .int .i64 0] 24)).drew) rfl _ _ rfl D2.heap.size (.slice (some ⟨g, 0, none⟩) n lc) n _ rfl RU2.out wc.heap.size rfl CU2.out HN3.out SZ.out.2.1 ?_; intro a8 c8 w8 ho8 hg8; have G8 := Lib.hid (gr_trans GU2.out hg8); have HA8 := Lib.hid (HAG.out _ G8.out); have HZ8u := Lib.hid (ZU2.out.grown hg8 HZNE.out.2); clear ho8 hg8)
        | (refine step_append_u64 (w := ((wc.alloc (.cells #[.int .i64 0, .int .i64 0, .int .u8 0, .int .u8 0, .int .i64 0, .int .i64 0, .int .i64 0, .int .i64 0, .int .i64 0, .int .u64 0, .int .i64 0] 24)).alloc (.cells #[.int .u64 0] 22)).drew) rfl _ _ rfl D2.heap.size (.slice (some ⟨g, 0, none⟩) n lc) n _ rfl RV2.out (wc.heap.size + 1) rfl CV2.out HN3.out SZ.out.2.2 ?_; intro a8 c8 w8 ho8 hg8; have G8 := Lib.hid (gr_trans GV2.out hg8); have HA8 := Lib.hid (HAG.out _ G8.out); have HZ8v := Lib.hid (ZV2.out.grown hg8 HZNE.out.1); clear ho8 hg8)
        | (go_at_call 19; ((have hz8 := HZ8u); (with_reducible refine (HLN.out w8 _ _ _ HA8.out HM2.out).mono ?_); rintro e w9 ⟨rfl, hb'⟩; have G9 := Lib.hid (gr_below G8.out hb'); have HZ9u := Lib.hid (hz8.out.keep hb'); clear hb' hz8; obtain ⟨q0_, q1_, q2_, q3_, q4_, q5_, q6_, q7_, q8_, q9_, q10_⟩ := HZ9u.out.cells; have f0 := HZ9u.out.free 0; have f1 := HZ9u.out.free 1; have f2 := HZ9u.out.free 2; have f3 := HZ9u.out.free 3; have f4 := HZ9u.out.free 4; have f5 := HZ9u.out.free 5; have f6 := HZ9u.out.free 6; have f7 := HZ9u.out.free 7; have f8 := HZ9u.out.free 8; have f9 := HZ9u.out.free 9; have f10 := HZ9u.out.free 10))
        | (go_at_call 19; ((have hz8 := HZ8v); (with_reducible refine (HLN.out w8 _ _ _ HA8.out HM2.out).mono ?_); rintro e w9 ⟨rfl, hb'⟩; have G9 := Lib.hid (gr_below G8.out hb'); have HZ9v := Lib.hid (hz8.out.keep hb'); clear hb' hz8; obtain ⟨q0_, q1_, q2_, q3_, q4_, q5_, q6_, q7_, q8_, q9_, q10_⟩ := HZ9v.out.cells; have f0 := HZ9v.out.free 0; have f1 := HZ9v.out.free 1; have f2 := HZ9v.out.free 2; have f3 := HZ9v.out.free 3; have f4 := HZ9v.out.free 4; have f5 := HZ9v.out.free 5; have f6 := HZ9v.out.free 6; have f7 := HZ9v.out.free 7; have f8 := HZ9v.out.free 8; have f9 := HZ9v.out.free 9; have f10 := HZ9v.out.free 10))
        | (go_at_call 19; ((with_reducible refine (HLN.out w8 _ _ _ HA8.out HM2.out).mono ?_); rintro e w9 ⟨rfl, hb'⟩; have G9 := Lib.hid (gr_below G8.out hb'); have G9a := Lib.hid (gr_below G9.out ((Below.refl w9.heap.size w9).alloc (Nat.le_refl _) (.cells #[.int .i64 0, .int .i64 0, .int .u8 0, .int .u8 0, .int .i64 0, .int .i64 0, .int .i64 0, .int .i64 0, .int .i64 0, .int .u64 0, .int .i64 0] 24))); have HN10 : Hid (EBox (w9.alloc (.cells #[.int .i64 0, .int .i64 0, .int .u8 0, .int .u8 0, .int .i64 0, .int .i64 0, .int .i64 0, .int .i64 0, .int .i64 0, .int .u64 0, .int .i64 0] 24)) w9.heap.size 0 0 0 0 0 0 0 0 0 0 0) := EBox.new w9 0 0 0 0 0 0 0 0 0 0 0; clear hb'))
        | (go_at_call 19; ((with_reducible refine (HLN.out (w8.alloc (.cells #[.int .i64 0, .int .i64 0, .int .u8 0, .int .u8 0, .int .i64 0, .int .i64 0, .int .i64 0, .int .i64 0, .int .i64 0, .int .u64 0, .int .i64 0] 24)) _ _ _ HA8a.out HM2.out).mono ?_); rintro e w9 ⟨rfl, hb'⟩; have G9 := Lib.hid (gr_below G8a.out hb'); have HZ9w := Lib.hid (HY8.out.keep hb'); clear hb'; obtain ⟨q0_, q1_, q2_, q3_, q4_, q5_, q6_, q7_, q8_, q9_, q10_⟩ := HZ9w.out.cells; have f0 := HZ9w.out.free 0; have f1 := HZ9w.out.free 1; have f2 := HZ9w.out.free 2; have f3 := HZ9w.out.free 3; have f4 := HZ9w.out.free 4; have f5 := HZ9w.out.free 5; have f6 := HZ9w.out.free 6; have f7 := HZ9w.out.free 7; have f8 := HZ9w.out.free 8; have f9 := HZ9w.out.free 9; have f10 := HZ9w.out.free 10)))
      all_goals
        go_wp2
        go_meet
        first
          | with_reducible exact ⟨_, rfl, rfl, HN10, G9a⟩
          | (have t1 : EBox (((((((((((w9.setCell ⟨(wc.heap.size), 0, none⟩ (.int .i64 0)).setCell ⟨(wc.heap.size), 1, none⟩ (.int .i64 0)).setCell ⟨(wc.heap.size), 2, none⟩ (.int .u8 0)).setCell ⟨(wc.heap.size), 3, none⟩ (.int .u8 0)).setCell ⟨(wc.heap.size), 4, none⟩ (.int .i64 0)).setCell ⟨(wc.heap.size), 5, none⟩ (.int .i64 0)).setCell ⟨(wc.heap.size), 6, none⟩ (.int .i64 0)).setCell ⟨(wc.heap.size), 7, none⟩ (.int .i64 0)).setCell ⟨(wc.heap.size), 8, none⟩ (.int .i64 0)).setCell ⟨(wc.heap.size), 9, none⟩ (.int .u64 0)).setCell ⟨(wc.heap.size), 10, none⟩ (.int .i64 0)) (wc.heap.size) 0 0 0 0 0 0 0 0 0 0 0 := EBox.setAll HZ9v.out 0 0 0 0 0 0 0 0 0 0 0
             have t2 : wc.grownBy (((((((((((w9.setCell ⟨(wc.heap.size), 0, none⟩ (.int .i64 0)).setCell ⟨(wc.heap.size), 1, none⟩ (.int .i64 0)).setCell ⟨(wc.heap.size), 2, none⟩ (.int .u8 0)).setCell ⟨(wc.heap.size), 3, none⟩ (.int .u8 0)).setCell ⟨(wc.heap.size), 4, none⟩ (.int .i64 0)).setCell ⟨(wc.heap.size), 5, none⟩ (.int .i64 0)).setCell ⟨(wc.heap.size), 6, none⟩ (.int .i64 0)).setCell ⟨(wc.heap.size), 7, none⟩ (.int .i64 0)).setCell ⟨(wc.heap.size), 8, none⟩ (.int .i64 0)).setCell ⟨(wc.heap.size), 9, none⟩ (.int .u64 0)).setCell ⟨(wc.heap.size), 10, none⟩ (.int .i64 0)) (some g) := gr_all (p := wc.heap.size) G9.out (Nat.le_refl _)
             with_reducible exact ⟨_, rfl, rfl, Lib.hid t1, Lib.hid t2⟩)
          | (have t1 : EBox (((((((((((w9.setCell ⟨(wc.heap.size + 1), 0, none⟩ (.int .i64 0)).setCell ⟨(wc.heap.size + 1), 1, none⟩ (.int .i64 0)).setCell ⟨(wc.heap.size + 1), 2, none⟩ (.int .u8 0)).setCell ⟨(wc.heap.size + 1), 3, none⟩ (.int .u8 0)).setCell ⟨(wc.heap.size + 1), 4, none⟩ (.int .i64 0)).setCell ⟨(wc.heap.size + 1), 5, none⟩ (.int .i64 0)).setCell ⟨(wc.heap.size + 1), 6, none⟩ (.int .i64 0)).setCell ⟨(wc.heap.size + 1), 7, none⟩ (.int .i64 0)).setCell ⟨(wc.heap.size + 1), 8, none⟩ (.int .i64 0)).setCell ⟨(wc.heap.size + 1), 9, none⟩ (.int .u64 0)).setCell ⟨(wc.heap.size + 1), 10, none⟩ (.int .i64 0)) (wc.heap.size + 1) 0 0 0 0 0 0 0 0 0 0 0 := EBox.setAll HZ9u.out 0 0 0 0 0 0 0 0 0 0 0
             have t2 : wc.grownBy (((((((((((w9.setCell ⟨(wc.heap.size + 1), 0, none⟩ (.int .i64 0)).setCell ⟨(wc.heap.size + 1), 1, none⟩ (.int .i64 0)).setCell ⟨(wc.heap.size + 1), 2, none⟩ (.int .u8 0)).setCell ⟨(wc.heap.size + 1), 3, none⟩ (.int .u8 0)).setCell ⟨(wc.heap.size + 1), 4, none⟩ (.int .i64 0)).setCell ⟨(wc.heap.size + 1), 5, none⟩ (.int .i64 0)).setCell ⟨(wc.heap.size + 1), 6, none⟩ (.int .i64 0)).setCell ⟨(wc.heap.size + 1), 7, none⟩ (.int .i64 0)).setCell ⟨(wc.heap.size + 1), 8, none⟩ (.int .i64 0)).setCell ⟨(wc.heap.size + 1), 9, none⟩ (.int .u64 0)).setCell ⟨(wc.heap.size + 1), 10, none⟩ (.int .i64 0)) (some g) := gr_all (p := wc.heap.size + 1) G9.out (Nat.le_succ _)
             with_reducible exact ⟨_, rfl, rfl, Lib.hid t1, Lib.hid t2⟩)
          | (have t1 : EBox (((((((((((w9.setCell ⟨(w8.heap.size), 0, none⟩ (.int .i64 0)).setCell ⟨(w8.heap.size), 1, none⟩ (.int .i64 0)).setCell ⟨(w8.heap.size), 2, none⟩ (.int .u8 0)).setCell ⟨(w8.heap.size), 3, none⟩ (.int .u8 0)).setCell ⟨(w8.heap.size), 4, none⟩ (.int .i64 0)).setCell ⟨(w8.heap.size), 5, none⟩ (.int .i64 0)).setCell ⟨(w8.heap.size), 6, none⟩ (.int .i64 0)).setCell ⟨(w8.heap.size), 7, none⟩ (.int .i64 0)).setCell ⟨(w8.heap.size), 8, none⟩ (.int .i64 0)).setCell ⟨(w8.heap.size), 9, none⟩ (.int .u64 0)).setCell ⟨(w8.heap.size), 10, none⟩ (.int .i64 0)) (w8.heap.size) 0 0 0 0 0 0 0 0 0 0 0 := EBox.setAll HZ9w.out 0 0 0 0 0 0 0 0 0 0 0
             have t2 : wc.grownBy (((((((((((w9.setCell ⟨(w8.heap.size), 0, none⟩ (.int .i64 0)).setCell ⟨(w8.heap.size), 1, none⟩ (.int .i64 0)).setCell ⟨(w8.heap.size), 2, none⟩ (.int .u8 0)).setCell ⟨(w8.heap.size), 3, none⟩ (.int .u8 0)).setCell ⟨(w8.heap.size), 4, none⟩ (.int .i64 0)).setCell ⟨(w8.heap.size), 5, none⟩ (.int .i64 0)).setCell ⟨(w8.heap.size), 6, none⟩ (.int .i64 0)).setCell ⟨(w8.heap.size), 7, none⟩ (.int .i64 0)).setCell ⟨(w8.heap.size), 8, none⟩ (.int .i64 0)).setCell ⟨(w8.heap.size), 9, none⟩ (.int .u64 0)).setCell ⟨(w8.heap.size), 10, none⟩ (.int .i64 0)) (some g) := gr_all (p := w8.heap.size) G9.out G8.out.size
             with_reducible exact ⟨_, rfl, rfl, Lib.hid t1, Lib.hid t2⟩)
    case rest =>
      obtain ⟨B10, rfl, rfl, HN11, HGX⟩ := hcut
      have HN9f := Lib.hid (HN9.out.grown HGX.out HG0.out.2.2.2.1)
      clear p0_ p1_ p2_ p3_ p4_ p5_ p6_ p7_ p8_ p9_ p10_
      obtain ⟨u0_, u1_, u2_, u3_, u4_, u5_, u6_, u7_, u8_, u9_, u10_⟩ := HN9f.out.cells
      obtain ⟨v0_, v1_, v2_, v3_, v4_, v5_, v6_, v7_, v8_, v9_, v10_⟩ := HN11.out.cells
      go_wp2
      go_ret
      exact ⟨rfl, below_gr HB_wc.out HGX.out HG0.out.1⟩
theorem values_walk (e0 : Sm) (e1 : Ev.E) (w : World) (w0 : e0.wf) (w1 : e1.wf) (wx : A6 w) : Calls Tryd.prog 6 #[e0.v, e1.v] w fun e w' => e = .returned (.bool true) ∧ Below w.heap.size w w' := by
  have ha := made_right e0 w0
  obtain ⟨k1, k2, ia, oa⟩ := Ev.check_zero ha.2
  have hk := ha.1.2.2.2.1
  have hcp := ha.1.2.2.1
  have hvl := Ev.vals_lt (kd := e0.e.kd) (tk := e0.e.tk) (gr := e0.e.gr) (to_ := e0.e.to_) (wg := e0.e.wg) (tc := e0.e.tc) (gt := e0.e.gt) ha.1.2.2.2.2.2.2.2.2.2.1
  obtain ⟨n, hn⟩ : ∃ n, e0.e.vals.length = n := ⟨_, rfl⟩
  have hkn : n = (Ev.kfs e0.e.kd).length := by rw [← hn]; unfold Ev.E.vals Ev.vals; rw [List.length_map]
  have hn0 : 0 < n := by rw [hkn]; exact Ev.kfs_pos ⟨e0.e.kd, by omega⟩ k1
  have hn4 : n ≤ 4 := by rw [← hn]; exact Ev.vals_len hk
  obtain ⟨g0, g1, g2, g3, g4, g5, g6, g7, g8, g9, g10⟩ := ha.1
  obtain ⟨t0, t1, t2, t3, t4, t5, t6⟩ := Ev.right_get g4 g5 g6 g7 g8 g10 oa _ rfl
  refine val_core e0.kd e0.cp e0.sq e0.tm e0.tk e0.gr e0.to_ e0.wg e0.tc e0.gt e0.ms e0.e.sq e0.e.tm e0.e.tk e0.e.gr e0.e.to_ e0.e.wg e0.e.tc e0.e.gt e0.e.cp e0.e.kd e0.e.mk e1.sq e1.tm e1.tk e1.gr e1.to_ e1.wg e1.tc e1.gt e1.cp e1.kd e1.mk e0.e.vals n hn hn0 hn4 (made_any e0 w0) (fun w h => values_yes _ _ _ _ _ _ _ _ _ _ _ ha.1 ha.2 _ rfl n hn w h.1) ?_ (fun w a m c h hm => with_len _ _ _ _ _ _ _ _ _ _ _ hk k1 k2 a m c (by rw [← hkn]; exact hm) w h.1) ?_ (eq_ev_dec e0.e e0.e true ⟨fun _ => rfl, fun _ => rfl⟩) (fun W => by simpa using run_eq_ev 0 0 0 0 0 0 0 0 0 0 0 0 0 0 0 0 0 0 0 0 0 0 W) w wx
  · intro w a c h hS
    refine (with_made e0.e.sq e0.e.tm e0.e.cp e0.e.kd e1.tk e1.gr e1.to_ e1.wg e1.tc e1.mk e1.gt hcp hk k1 k2 a n c e0.e.vals hvl hn hkn _ rfl true (by rw [show e0.e.vals = Ev.vals e0.e.kd e0.e.tk e0.e.gr e0.e.to_ e0.e.wg e0.e.tc e0.e.mk e0.e.gt from rfl, t0, t1, t2, t3, t4, t5, t6]; exact ia) w hS h.1).mono ?_
    rintro e w' ⟨rfl, hb⟩
    refine ⟨?_, hb⟩
    rw [if_pos rfl, show e0.e.vals = Ev.vals e0.e.kd e0.e.tk e0.e.gr e0.e.to_ e0.e.wg e0.e.tc e0.e.mk e0.e.gt from rfl, t0, t1, t2, t3, t4, t5, t6]
  · intro w h
    refine (fields_yes e0.e.kd k1 k2 _ rfl n (by unfold Ev.fnames; rw [List.length_map]; exact hkn.symm) w h.1).mono ?_
    rintro e w' ⟨a, c, rfl, _, hb⟩
    exact ⟨a, c, rfl, hb⟩
end Go.Proofs.YtainjicbmjfnkaaDoor
