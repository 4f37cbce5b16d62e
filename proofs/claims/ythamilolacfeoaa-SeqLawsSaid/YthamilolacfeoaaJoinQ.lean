/-
  join.
-/
import Derived.Test.YthamilolacfeoaaStopQ
namespace Go.Proofs.Ythamilolacfeoaa
open Go.RowKit Sq
attribute [local go_sem] Oper.semAt_some
set_option linter.unusedVariables false

/-- The frame of a round: its border lies in block b. -/
def joinAct (a1 a2 : Option Addr) (n c1 m c2 F pf pl ps p1 p2 : Nat) (q : Int) (x y : Bool) (b : Nat) : Act := { tmps := #[.slice a1 n c1, .slice a2 m c2, .func (.func F) #[] #[], undef, undef, .pointer (some ⟨pf, 0, none⟩), .slice none 0 0, .int .i64 0, .pointer (some ⟨pl, 0, none⟩), .pointer (some ⟨ps, 0, none⟩), .pointer (some ⟨b, 0, none⟩), undef, .slice a1 n c1, .bool true, .bool false, .bool false, .slice a2 m c2, .bool true, .bool false, .bool false, .slice a1 n c1, .slice a2 m c2, .func (.func 71) #[] #[.pointer (some ⟨p1, 0, none⟩), .pointer (some ⟨p2, 0, none⟩)], .agg #[.int .i64 q, .bool x, .bool y], undef, undef, undef, undef, undef, undef, undef, undef, undef, undef, undef, undef, undef, undef, undef, undef, undef, undef, undef, undef, undef, undef, undef, undef, undef, undef, undef, undef, undef, undef, undef], defers := [] }
def VarAt (W : World) (b : Nat) (q : Int) (x y : Bool) : Prop := W.heap[b]? = some (.cells #[.int .i64 q, .bool x, .bool y] 99 (0, 0))
theorem VarAt.cells {W : World} {b : Nat} {q : Int} {x y : Bool} (h : VarAt W b q x y) : W.cell? ⟨b, 0, none⟩ = some (.int .i64 q) ∧ W.cell? ⟨b, 1, none⟩ = some (.bool x) ∧ W.cell? ⟨b, 2, none⟩ = some (.bool y) := by
  unfold VarAt at h
  refine ⟨?_, ?_, ?_⟩ <;> (unfold World.cell?; simp [h])
theorem VarAt.new (W : World) (q : Int) (x y : Bool) : VarAt (W.alloc (.cells #[.int .i64 q, .bool x, .bool y] 99)) W.heap.size q x y := heap_alloc_new W _
theorem VarAt.keep {W W' : World} {b : Nat} {q : Int} {x y : Bool} (h : VarAt W b q x y) (hk : W'.heap[b]? = W.heap[b]?) : VarAt W' b q x y := hk.trans h

section
variable (a1 a2 : Option Addr) (n m c1 c2 : Nat) (a b : Rs) (hn : a.length = n) (hm : b.length = m) (ha : Rt a) (hb : Rt b) (w : World) (B : Nat) (hS1 : SeenR w B a1 a) (hS2 : SeenR w B a2 b) (hB : B ≤ w.heap.size) (F : Nat) (f : Bool → Bool → Bool) (h0 : f false false = false) (hE : ∀ args W, (callFunc F args).run Try.prog W = .ok (.enter F args) W) (hF : ∀ (x y : Bool) (W : World), Calls Try.prog F #[.bool x, .bool y] W fun e w' => e = .returned (.bool (f x y)) ∧ w' = W)
include hn hm ha hb hS1 hS2 hB h0 hE hF

set_option maxRecDepth 100000 in
set_option maxHeartbeats 8000000 in
theorem join_in :
    CallsIn Fence.wide 9 Try.prog 49 #[.slice a1 n c1, .slice a2 m c2, .func (.func F) #[] #[]] w fun e w' => (∃ v L, e = .returned (.tuple #[v, .int .i64 0]) ∧ w'.ownsRow w.heap.size 34 2 v L.length (flat L) ∧ Made f a b L) ∧ Below w.heap.size w w' := by
  refine callsIn_of_wp_marks Try.func49 rfl trivial ?_ rfl
  simp only [Try.ntmps49, List.size_toArray, List.length_cons, List.length_nil, Nat.reduceAdd, Nat.reduceSub, Array.replicate_succ, Array.replicate_zero, List.push_toArray, List.append_toArray, List.nil_append, List.cons_append]
  obtain ⟨i0, hi, hz0, hz1, hz2⟩ := info_parts infoR
  obtain ⟨K, hK, hN, hKl⟩ := fin_exists ha.2 hb.2
  have HNA := Lib.hid hn
  have HNB := Lib.hid hm
  have HA : Hid (Rt a) := ha
  have HB' : Hid (Rt b) := hb
  have HS1 : Hid (SeenR w B a1 a) := hS1
  have HS2 : Hid (SeenR w B a2 b) := hS2
  have HB := Lib.hid hB
  have HF := Lib.hid hF
  have HK : Hid (Sq.Fin a b K) := hK
  have HN : Hid (∀ i, i < K → ¬ Sq.Fin a b i) := hN
  have HKL : Hid (K ≤ 262144) := by show _ ≤ _; have := ha.1; have := hb.1; omega
  have H0 := Lib.hid h0
  clear hn hm ha hb hS1 hS2 hB h0 hF hK hN hKl
  refine wpIn_wide.2 ?_
  go_wp2_with (first
    | (go_at_call 22; ((with_reducible refine (right_yes a1 n c1 a HNA.out HA.out _ B (HS1.out.alloc HB.out _) (by simp; have := HB.out; omega)).mono ?_); rintro e w1 ⟨rfl, hb1⟩; have HB1 := Lib.hid (below_alloc hb1); have HF1 : Hid (Boxed w1 w.heap.size 83 (.func (.func F) #[] #[])) := (hb1.block w.heap.size (by simp)).trans (Boxed.new w _ _); clear hb1))
    | (go_at_call 22; ((with_reducible refine (right_yes a2 m c2 b HNB.out HB'.out w1 B (HS2.out.below (HB1.out.mono HB.out)) (Nat.le_trans HB.out HB1.out.size)).mono ?_); rintro e w2 ⟨rfl, hb2⟩; have HB2 := Lib.hid (HB1.out.trans (hb2.mono HB1.out.size)); have HF2 : Hid (Boxed w2 w.heap.size 83 (.func (.func F) #[] #[])) := (hb2.block w.heap.size HF1.out.lt).trans HF1.out; clear hb2))
    | (go_at_call 64; ((with_reducible refine (borders_any a1 a2 n c1 m c2 _).mono ?_); rintro e w3 ⟨rfl, rfl⟩)))
  refine (wpIn_wide (n := 9)).1 ?_
  obtain ⟨pf, hpf⟩ : ∃ pf, w.heap.size = pf := ⟨_, rfl⟩
  obtain ⟨pl, hpl⟩ : ∃ pl, w2.heap.size = pl := ⟨_, rfl⟩
  have hbl := (((Boxed.new w2 22 (.slice none 0 0)).alloc (.cells #[.int .i64 0] 3)).alloc (.cells #[.slice a1 n c1] 22)).alloc (.cells #[.slice a2 m c2] 22)
  have hbs := ((Boxed.new (w2.alloc (.cells #[.slice none 0 0] 22)) 3 (.int .i64 0)).alloc (.cells #[.slice a1 n c1] 22)).alloc (.cells #[.slice a2 m c2] 22)
  have hb1 := (Boxed.new ((w2.alloc (.cells #[.slice none 0 0] 22)).alloc (.cells #[.int .i64 0] 3)) 22 (.slice a1 n c1)).alloc (.cells #[.slice a2 m c2] 22)
  have hb2 := Boxed.new (((w2.alloc (.cells #[.slice none 0 0] 22)).alloc (.cells #[.int .i64 0] 3)).alloc (.cells #[.slice a1 n c1] 22)) 22 (.slice a2 m c2)
  have hbf := (((HF2.out.alloc (.cells #[.slice none 0 0] 22)).alloc (.cells #[.int .i64 0] 3)).alloc (.cells #[.slice a1 n c1] 22)).alloc (.cells #[.slice a2 m c2] 22)
  have hbb : Below w.heap.size w ((((w2.alloc (.cells #[.slice none 0 0] 22)).alloc (.cells #[.int .i64 0] 3)).alloc (.cells #[.slice a1 n c1] 22)).alloc (.cells #[.slice a2 m c2] 22)) := (((HB2.out.alloc HB2.out.size _).alloc (by have := HB2.out.size; simp; omega) _).alloc (by have := HB2.out.size; simp; omega) _).alloc (by have := HB2.out.size; simp; omega) _
  simp only [World.size_alloc] at hbl hbs hb1 hb2 hbf
  have hszW : ((((w2.alloc (.cells #[.slice none 0 0] 22)).alloc (.cells #[.int .i64 0] 3)).alloc (.cells #[.slice a1 n c1] 22)).alloc (.cells #[.slice a2 m c2] 22)).heap.size = w2.heap.size + 1 + 1 + 1 + 1 := by simp
  have hpp : w.heap.size < w2.heap.size := Nat.lt_of_lt_of_le HF2.out.lt (Nat.le_refl _)
  generalize ((((w2.alloc (.cells #[.slice none 0 0] 22)).alloc (.cells #[.int .i64 0] 3)).alloc (.cells #[.slice a1 n c1] 22)).alloc (.cells #[.slice a2 m c2] 22)) = W0 at *
  have HS01 : Hid (SeenR W0 B a1 a) := HS1.out.below (hbb.mono HB.out)
  have HS02 : Hid (SeenR W0 B a2 b) := HS2.out.below (hbb.mono HB.out)
  rw [hpl] at hbl hbs hb1 hb2 hszW hpp ⊢
  have HPF := Lib.hid hpf
  have HPP : Hid (pf < pl) := by show _ < _; omega
  have HW0 := Lib.hid hszW
  have HBF : Hid (B ≤ pf) := by show _ ≤ _; rw [← hpf]; exact HB.out
  have hbb' : Below pf w W0 := by rw [← hpf]; exact hbb
  have hpfW : pf ≤ w.heap.size := by omega
  have hbf' : Boxed W0 pf 83 (.func (.func F) #[] #[]) := by rw [← hpf]; exact hbf
  rw [hpf]
  clear hbb hbf hpp hszW hpl HF2 HF1 HB1
  have HST := Lib.hid (borders_stops a1 a2 n m c1 c2 a b HNA.out HNB.out HA.out HB'.out W0 B HS01.out HS02.out (pl + 1 + 1) (pl + 1 + 1 + 1) hb1 hb2 (Nat.le_trans HBF.out (by have := HPP.out; have := HW0.out; omega)) K HK.out HN.out)
  refine wpIn_rangeFunc_ownH rfl (by decide) (gf := 71) (lb := #[.pointer (some ⟨pl + 1 + 1, 0, none⟩), .pointer (some ⟨pl + 1 + 1 + 1, 0, none⟩)]) rfl trivial (enters_of Try.func71 (by kernel_rfl) rfl)
    HST.out (fun h k => h.trans k) (fun W l o o' hl _ _ _ => KS.put fun k hk => by have := HW0.out; have := HBF.out; have := HPP.out; rcases hk with hk | rfl | rfl <;> omega) (Below.refl _ _) (fun _ => rfl)
    (fun pre W => (((((∃ v, Boxed W pl 22 v ∧ W.ownsRow pf 34 2 v (fd f a b pre).1.length (flat (fd f a b pre).1) ∧ True) ∧ Boxed W (pl + 1) 3 (.int .i64 (fd f a b pre).2)) ∧ Boxed W pf 83 (.func (.func F) #[] #[])) ∧ Boxed W (pl + 1 + 1) 22 (.slice a1 n c1)) ∧ Boxed W (pl + 1 + 1 + 1) 22 (.slice a2 m c2)) ∧ Below pf w W)
    (fun _ _ _ => False)
    (OwnFrom.and (OwnFrom.and (OwnFrom.and (OwnFrom.and (OwnFrom.and (Own.from (holdsRow_own pf pl _ _ 2 (fun pre : List Nat => (fd f a b pre).1.length) (fun pre => flat (fd f a b pre).1) (fun _ _ => True)) _) (Own.from (boxed_own (pl + 1) _ (fun pre : List Nat => .int .i64 (fd f a b pre).2)) _)) (Own.from (boxed_own pf _ (fun _ : List Nat => .func (.func F) #[] #[])) _)) (Own.from (boxed_own (pl + 1 + 1) _ (fun _ : List Nat => .slice a1 n c1)) _)) (Own.from (boxed_own (pl + 1 + 1 + 1) _ (fun _ : List Nat => .slice a2 m c2)) _)) (ownFrom_below hpfW (by have := HW0.out; have := HPP.out; omega)))
    (fun _ _ _ _ _ hs _ _ => hs)
    ⟨⟨⟨⟨⟨⟨_, hbl, World.ownsRow_nil _ _ _ _, trivial⟩, hbs⟩, hbf'⟩, hb1⟩, hb2⟩, hbb'⟩
    (fun t a' W => ∃ bv, a' = joinAct a1 a2 n c1 m c2 F pf pl (pl + 1) (pl + 1 + 1) (pl + 1 + 1 + 1) (item a b t).1 (item a b t).2.1 (item a b t).2.2 bv ∧ VarAt W bv (item a b t).1 (item a b t).2.1 (item a b t).2.2)
    (fun x a' s W W' row hs hg hr => by
      obtain ⟨bv, h1, h2⟩ := hs
      refine ⟨bv, h1, (hg.block bv (Array.getElem?_eq_some_iff.1 h2).1 fun e => ?_).trans h2⟩
      obtain ⟨_, o, ho, hc⟩ := hr bv e.symm
      rw [show W.heap[bv]? = _ from h2] at ho
      cases ho
      cases hc)
    ?assign ?body ?done ?stop
  case assign =>
    intro l pre t W K' hI hK'
    obtain ⟨⟨⟨⟨⟨⟨v, hbx, hrow, _⟩, hs⟩, hfb⟩, h1⟩, h2⟩, hB'⟩ := hI
    obtain ⟨q, hq⟩ : ∃ q, (item a b t).1 = q := ⟨_, rfl⟩
    obtain ⟨x, hx⟩ : ∃ x, (item a b t).2.1 = x := ⟨_, rfl⟩
    obtain ⟨y, hy⟩ : ∃ y, (item a b t).2.2 = y := ⟨_, rfl⟩
    have he : encB a b t = #[.agg #[.int .i64 q, .bool x, .bool y]] := by rw [← hq, ← hx, ← hy]; rfl
    rw [he]
    rw [hq, hx, hy] at hK'
    gi_wp2
    have hbk : Below pf W (W.alloc (.cells #[.int .i64 q, .bool x, .bool y] 99)) := (Below.refl _ W).alloc (Nat.le_trans hpfW hB'.size) _
    exact hK' _ _ ((KeepsOthers.alloc W _).from _) (fun k hk => (World.grownBy_alloc W _ none).block k (by rcases hk with hk | rfl | rfl; (have := hB'.size; have := HBF.out; omega); exact h1.lt; exact h2.lt) (by simp)) ⟨⟨⟨⟨⟨⟨v, hbx.alloc _, hrow.alloc _, trivial⟩, hs.alloc _⟩, hfb.alloc _⟩, h1.alloc _⟩, h2.alloc _⟩, hB'.trans hbk⟩ ⟨W.heap.size, rfl, VarAt.new W q x y⟩
  case body =>
    rintro l pre t a' W _ _ ⟨⟨⟨⟨⟨⟨v, hbx, hrow, _⟩, hs⟩, hfb⟩, h1⟩, h2⟩, hB'⟩ ⟨bv, rfl, hva⟩ hlt
    obtain ⟨e0, e1, e2⟩ := hva.cells
    have hil := item_le HA.out.2 HB'.out.2 t
    have hop := fd_open HA.out.2 HB'.out.2 f pre
    have HSN := Lib.hid (fd_snoc f a b pre t)
    obtain ⟨it, hit⟩ : ∃ it, item a b t = it := ⟨_, rfl⟩
    obtain ⟨sv, hsv⟩ : ∃ sv, fd f a b pre = sv := ⟨_, rfl⟩
    rw [hit] at e0 e1 e2 hil hva ⊢
    rw [hsv] at hs hrow hop
    have HSN' : Hid (fd f a b (pre ++ [t]) = Sq.step f sv it) := by show _ = _; rw [HSN.out, hsv, hit]
    obtain ⟨q, x, y⟩ := it
    obtain ⟨L, c⟩ := sv
    dsimp only at e0 e1 e2 hil hva hs hrow hop ⊢
    obtain ⟨k, hk⟩ : ∃ k, L.length = k := ⟨_, rfl⟩
    rw [hk] at hrow hop
    have hk6 : k < 262144 := by have := HKL.out; omega
    have HKK := Lib.hid hk
    have HK6 := Lib.hid hk6
    obtain ⟨z, hz⟩ : ∃ z, f x y = z := ⟨_, rfl⟩
    have HXY := Lib.hid hz
    have cf := hfb.cell
    have cs := hs.cell
    have cl := hbx.cell
    have ff := hs.frozen
    have fl := hbx.frozen
    have hbp : pf ≤ W.heap.size := Nat.le_trans hpfW hB'.size
    have HVA : Hid (VarAt W bv q x y) := hva
    have hil2 : q ≤ 281474976710658 := hil.2
    have hil1 : 1 ≤ q := hil.1
    have hc0 : 0 ≤ c := hop.1
    have hc1 : c ≤ 281474976710658 := hop.2.1
    unfold joinAct
    clear HSN hit hsv hk hz hil hop hva hlt
    cases z with
    | true =>
      by_cases hcz : c = 0
      · subst hcz
        have HE : Hid (fd f a b (pre ++ [t]) = (L, q)) := by show _ = _; rw [HSN'.out]; unfold Sq.step; rw [HXY.out]; rfl
        clear hil1 hil2 hc0 hc1
        gi_wp2_with ((refine ⟨trivial, ?_⟩); (with_reducible refine (CallsIn.inRound l (callsIn_wide.2 (HF.out x y _))).mono ?_); rintro e w5 ⟨rfl, hw5⟩; obtain rfl : W = w5 := hw5.symm; rw [HXY.out])
        have hbs : Below pf W (W.setCell ⟨pl + 1, 0, none⟩ (.int .i64 q)) := (Below.refl pf W).setCell (p := ⟨pl + 1, 0, none⟩) (by have := HPP.out; show pf ≤ pl + 1; omega) _
        refine ⟨(KeepsOthers.setCell _ _ _).from _, fun j hj => (grownBy_setCell' W (pl + 1) (.int .i64 q)).block j (by rcases hj with hj | rfl | rfl; (have := HBF.out; omega); exact h1.lt; exact h2.lt) (by have := HBF.out; have := HPP.out; rcases hj with hj | rfl | rfl <;> (intro e; injection e; omega)), ⟨⟨⟨⟨⟨⟨v, hbx.other (by omega) _, ?_, trivial⟩, ?_⟩, hfb.other (by have := HPP.out; omega) _⟩, h1.other (by omega) _⟩, h2.other (by omega) _⟩, hB'.trans hbs⟩⟩
        · rw [HE.out]; dsimp only; rw [HKK.out]
          exact hrow.kept (grownBy_setCell' W (pl + 1) _) (.inr (hs.not_row (by decide) hrow).symm)
        · rw [HE.out]; exact hs.set _
      · have HE : Hid (fd f a b (pre ++ [t]) = (L, c)) := by show _ = _; rw [HSN'.out]; unfold Sq.step; rw [HXY.out]; simp [hcz]
        have hcb : (c == 0) = false := by simpa using hcz
        clear hil1 hil2 hc0 hc1
        gi_wp2_with ((refine ⟨trivial, ?_⟩); (with_reducible refine (CallsIn.inRound l (callsIn_wide.2 (HF.out x y _))).mono ?_); rintro e w5 ⟨rfl, hw5⟩; obtain rfl : W = w5 := hw5.symm; rw [HXY.out])
        refine ⟨(KeepsOthers.refl _).from _, KS.refl _ _, ⟨⟨⟨⟨⟨⟨v, hbx, ?_, trivial⟩, ?_⟩, hfb⟩, h1⟩, h2⟩, hB'⟩⟩
        · rw [HE.out]; dsimp only; rw [HKK.out]; exact hrow
        · rw [HE.out]; exact hs
    | false =>
      by_cases hcz : c = 0
      · subst hcz
        have HE : Hid (fd f a b (pre ++ [t]) = (L, 0)) := by show _ = _; rw [HSN'.out]; unfold Sq.step; rw [HXY.out]; rfl
        clear hil1 hil2 hc0 hc1
        gi_wp2_with ((refine ⟨trivial, ?_⟩); (with_reducible refine (CallsIn.inRound l (callsIn_wide.2 (HF.out x y _))).mono ?_); rintro e w5 ⟨rfl, hw5⟩; obtain rfl : W = w5 := hw5.symm; rw [HXY.out])
        refine ⟨(KeepsOthers.refl _).from _, KS.refl _ _, ⟨⟨⟨⟨⟨⟨v, hbx, ?_, trivial⟩, ?_⟩, hfb⟩, h1⟩, h2⟩, hB'⟩⟩
        · rw [HE.out]; dsimp only; rw [HKK.out]; exact hrow
        · rw [HE.out]; exact hs
      · have HE : Hid (fd f a b (pre ++ [t]) = (L ++ [(c, q - c)], 0)) := by show _ = _; rw [HSN'.out]; unfold Sq.step; rw [HXY.out]; simp [hcz]
        have hcb : (c == 0) = false := by simpa using hcz
        have hcb2 : (c != 0) = true := by simpa using hcz
        have hw1 : IntKind.i64.wrap (q - c) = q - c := wrap_i (by omega) (by omega)
        obtain ⟨va, vc, rfl⟩ : ∃ va vc, v = .slice va k vc := by
          rcases hrow.2 with ⟨rfl, h0⟩ | ⟨g, cap, cur, rfl, _⟩
          · exact ⟨none, 0, by rw [h0]⟩
          · exact ⟨_, _, rfl⟩
        clear hil1 hil2 hc0 hc1
        gi_wp2_with (first
          | ((refine ⟨trivial, ?_⟩); (with_reducible refine (CallsIn.inRound l (callsIn_wide.2 (HF.out x y _))).mono ?_); rintro e w5 ⟨rfl, hw5⟩; obtain rfl : W = w5 := hw5.symm; rw [HXY.out])
          | (refine wpListIn_append_own _ rfl _ _ 22 rfl pf 34 i0 (.agg #[.int .i64 0, .int .i64 0]) 2 16 Try.underlying22 hi hz0 hz1 hz2 rfl (by decide) _ k (flat L) rfl (hrow.alloc _) ⟨W.heap.size, 0, none⟩ 1 1 [.int .i64 c, .int .i64 (q - c)] rfl rfl (cells_two_new _ _ _ _) (by simp [Value.oneCell']) (by have := HK6.out; unfold maxLen; omega) (by have := HK6.out; omega) (by have := hB'.size; simp; omega) ?_; intro v2 w4 hown' hgrow' _; obtain ⟨hv1, hv2, hr2, hk2, hb3⟩ := hbx.appended (tmp := .cells #[.int .i64 c, .int .i64 (q - c)] 34) (by decide) hrow hbp (by have := HPP.out; omega) hown' ⟨hgrow'.os, hgrow'.tape, hgrow'.output, hgrow'.size, hgrow'.block⟩; have hs4 : Boxed w4 (pl + 1) 3 (.int .i64 c) := (hs.alloc _).kept ⟨hgrow'.os, hgrow'.tape, hgrow'.output, hgrow'.size, hgrow'.block⟩ (hs.not_row (by decide) hrow); have HGR : Hid (KeepsOthers W (w4.setCell ⟨pl, 0, none⟩ v2)) := hk2; have hs5 : Boxed (w4.setCell ⟨pl, 0, none⟩ v2) (pl + 1) 3 (.int .i64 c) := hs4.other (by omega) _; have hf4 := ((hfb.alloc (.cells #[.int .i64 c, .int .i64 (q - c)] 34)).kept ⟨hgrow'.os, hgrow'.tape, hgrow'.output, hgrow'.size, hgrow'.block⟩ (hfb.not_row (by decide) hrow)).other (B' := pl) (by have := HPP.out; omega) v2; have h14 := ((h1.alloc (.cells #[.int .i64 c, .int .i64 (q - c)] 34)).kept ⟨hgrow'.os, hgrow'.tape, hgrow'.output, hgrow'.size, hgrow'.block⟩ (h1.not_row (by decide) hrow)).other (B' := pl) (by omega) v2; have h24 := ((h2.alloc (.cells #[.int .i64 c, .int .i64 (q - c)] 34)).kept ⟨hgrow'.os, hgrow'.tape, hgrow'.output, hgrow'.size, hgrow'.block⟩ (h2.not_row (by decide) hrow)).other (B' := pl) (by omega) v2; have cs5 := hs5.cell; have fs5 := hs5.frozen; have hc1' := hv1.cell; have hf1 := hv1.frozen; obtain ⟨g', cap', rfl⟩ := ownsRow_succ hown'))
        have hb6 : Below pf W ((w4.setCell ⟨pl, 0, none⟩ (.slice (some ⟨g', 0, none⟩) (k + 1) cap')).setCell ⟨pl + 1, 0, none⟩ (.int .i64 0)) := hb3.setCell (p := ⟨pl + 1, 0, none⟩) (by have := HPP.out; show pf ≤ pl + 1; omega) _
        have h16 := h14.other (B' := pl + 1) (by omega) (.int .i64 0)
        have h26 := h24.other (B' := pl + 1) (by omega) (.int .i64 0)
        refine ⟨(hk2.trans (KeepsOthers.setCell _ _ _)).from _, ?_, ⟨⟨⟨⟨⟨⟨_, hv2.other (by omega) _, ?_, trivial⟩, ?_⟩, hf4.other (by have := HPP.out; omega) _⟩, h16⟩, h26⟩, hB'.trans hb6⟩⟩
        · intro j hj
          rcases hj with hj | rfl | rfl
          · exact hb6.block j (by have := HBF.out; omega)
          · exact h16.trans h1.symm
          · exact h26.trans h2.symm
        · rw [HE.out]; dsimp only; rw [List.length_append, HKK.out, flat_append]
          exact hr2.kept (grownBy_setCell' _ (pl + 1) _) (.inr (hs5.not_row (by decide) hr2).symm)
        · rw [HE.out]; exact hs5.set _
  case done =>
    rintro D ys W hD rfl ⟨⟨⟨⟨⟨⟨v, hbx, hrow, _⟩, hs⟩, hfb⟩, h1⟩, h2⟩, hB'⟩ hK
    obtain ⟨L, hfL, hmade⟩ := made_of H0.out HA.out.2 HB'.out.2 HK.out HN.out
    rw [hfL] at hrow
    have hc := hbx.cell
    go_wp2
    refine ⟨by simp, .inl ⟨_, _, rfl, run_takeDeferred hK, ?_⟩⟩
    refine ⟨_, results_tmp2 rfl _ _ _, ?_, ?_⟩
    · exact ⟨v, rfl, L, ownsRow_putObj hrow _ hK rfl, hmade⟩
    · exact hB'.trans (belowK_b (w := w) hpfW W D _ _ (by have := HW0.out; have := HPP.out; omega) hK rfl rfl)
  case stop =>
    rintro D c pre W _ _ h _
    exact h.elim
end
end Go.Proofs.Ythamilolacfeoaa
