/-
  Members.
-/
import Derived.Test.YtkochcolmkgkgaaDoorYield
import Derived.Test.YtkochcolmkgkgaaDoorNew
import Derived.Test.YtkochcolmkgkgaaDoorSelect
import Derived.Maps.AppendAt
namespace Go.Proofs.YtkochcolmkgkgaaDoor
open Go.RowKit
attribute [local go_sem] Oper.semAt_some
set_option linter.unusedVariables false

theorem infoI : (Tryd.prog.info? 3).map (fun i => (i.zero, i.size, i.bytes)) = some (some (.int .i64 0), 1, 8) := by kernel_rfl
theorem KB.put {B l : Nat} {W : World} {o' : Obj} (h : B ≤ l) : KB B W (W.putObj l o') := fun k hk => World.putObj_heap_other (by omega)
def intV (d : Fin 65536) : Value := .int .i64 d.val

theorem members_any (N : Int) (a : Option Addr) (n c : Nat) (w : World) :
    Calls Tryd.prog 60 #[.agg #[.int .i64 N, .slice a n c]] w fun e w' => e = .returned (.func (.func 71) #[] #[.pointer (some ⟨w.heap.size, 0, none⟩)]) ∧ w' = w.alloc (.cells #[.int .i64 N, .slice a n c] 24) := by
  go_enter Tryd.func60, Tryd.ntmps60
  go_wp2
  go_ret
  exact ⟨rfl, rfl⟩

section
variable (N : Nat) (a : Option Addr) (n c : Nat) (xs : List Nat) (hn : xs.length = n) (hc : n ≤ c) (hcm : c ≤ maxLen) (hR : Bm.Rt N xs) (w : World) (B : Nat) (hS : Seen w B .u64 a xs) (hT : HT w) (hB0 : 0 < B) (hB : B ≤ w.heap.size)
include hn hc hcm hR hS hT hB0 hB

set_option maxRecDepth 100000 in
set_option maxHeartbeats 8000000 in
theorem members_in (r : Nat) (hr : Bm.cnt (Bm.val xs) N = r) :
    CallsIn Fence.wide 9 Tryd.prog 24 #[.agg #[.int .i64 N, .slice a n c]] w fun e w' => (∃ v, e = .returned v ∧ w'.ownsRow w.heap.size 3 1 v r ((Bm.ml (Bm.val xs) N).map fun x : Nat => Value.int .i64 x)) ∧ Below w.heap.size w w' := by
  refine callsIn_of_wp_marks Tryd.func24 rfl trivial ?_ rfl
  simp only [Tryd.ntmps24, List.size_toArray, List.length_cons, List.length_nil, Nat.reduceAdd, Nat.reduceSub, Array.replicate_succ, Array.replicate_zero, List.push_toArray, List.append_toArray, List.nil_append, List.cons_append]
  obtain ⟨i0, hi, hz0, hz1, hz2⟩ := info_parts infoI
  have HN := Lib.hid hn
  have HC := Lib.hid hc
  have HCM : Hid (c ≤ maxLen) := hcm
  have HR : Hid (Bm.Rt N xs) := hR
  have HS : Hid (Seen w B .u64 a xs) := hS
  have HT' : Hid (HT w) := hT
  have HB := Lib.hid hB
  have HB0 := Lib.hid hB0
  have hr6 : r ≤ 65536 := by rw [← hr]; exact Nat.le_trans (Bm.cnt_le _ _) hR.1
  have HRR := Lib.hid hr
  clear hn hc hcm hR hS hT hB0 hr
  refine wpIn_wide.2 ?_
  go_wp2_with (first
    | (go_at_call 21; ((with_reducible refine (count_any N a n c xs HN.out HC.out HCM.out HR.out _ B (HS.out.alloc HB.out _) (by simp; omega) r HRR.out).mono ?_); rintro e w1 ⟨rfl, hb1⟩; have HB1 := Lib.hid (below_alloc hb1); have HX1 := Lib.hid ((Box.new w _ _).keep hb1); clear hb1))
    | (at_make; refine wpList_make_own _ rfl _ _ 27 rfl w.heap.size 3 i0 (.int .i64 0) 1 Tryd.underlying27 hi hz0 hz1 .i64 .i64 _ r rfl rfl rfl (by rw [hz2]; omega) (by unfold maxLen; omega) HB1.out.size ?_; intro w2 hown2 hgrow2; have hb2 := below_own hgrow2 (fun g e => by cases e) (Nat.le_refl _); have HB2 := Lib.hid (HB1.out.trans (hb2.mono HB1.out.size)); have HX2 := Lib.hid (HX1.out.keep hb2); have HO2 := Lib.hid hown2; obtain ⟨b0, b1, b2, b3⟩ := HX2.out.cells; have hlt2 := HX2.out.lt; clear hb2 hown2 hgrow2)
    | (go_at_call 60; ((with_reducible refine (members_any N a n c _).mono ?_); rintro e w' ⟨rfl, rfl⟩)))
  refine (wpIn_wide (n := 9)).1 ?_
  have HX3 : Hid (Box ((w2.alloc (.cells #[.slice (some ⟨w1.heap.size, 0, none⟩) 0 r] 27)).alloc (.cells #[.int .i64 N, .slice a n c] 24)) (w2.heap.size + 1) (.int .i64 N) (.slice a n c)) := by
    have := Box.new (w2.alloc (.cells #[.slice (some ⟨w1.heap.size, 0, none⟩) 0 r] 27)) (.int .i64 N) (.slice a n c)
    rw [World.size_alloc] at this
    exact this
  have hbl := (Boxed.new w2 27 (.slice (some ⟨w1.heap.size, 0, none⟩) 0 r)).alloc (.cells #[.int .i64 N, .slice a n c] 24)
  have HB3 : Hid (Below w.heap.size w ((w2.alloc (.cells #[.slice (some ⟨w1.heap.size, 0, none⟩) 0 r] 27)).alloc (.cells #[.int .i64 N, .slice a n c] 24))) := (HB2.out.alloc HB2.out.size _).alloc (by have := HB2.out.size; simp; omega) _
  have HWS : Hid (w.heap.size ≤ w2.heap.size) := HB2.out.size
  clear b0 b1 b2 b3 hlt2
  refine wpIn_rangeFunc_ownF rfl (by decide) (gf := 71) (lb := #[.pointer (some ⟨w2.heap.size + 1, 0, none⟩)]) rfl trivial (enters_of Tryd.func71 (by kernel_rfl) rfl)
    (members_stops N a n c xs HN.out HR.out _ B (HS.out.below (HB3.out.mono HB.out)) (HT'.out.below HB3.out (by have := HB.out; have := HB0.out; omega)) HB0.out (w2.heap.size + 1) HX3.out (Nat.le_trans HB.out HB3.out.size)) (fun h k => h.trans k) (fun W l o o' hl _ _ _ => KB.put (Nat.le_trans (Nat.le_trans HB.out HB3.out.size) hl)) (Below.refl _ _) (fun _ => rfl)
    (fun pre W => (∃ v, Boxed W w2.heap.size 27 v ∧ W.ownsRow w.heap.size 3 1 v pre.length (pre.map intV) ∧ True) ∧ Below w.heap.size w W)
    (fun _ _ _ => False)
    (OwnFrom.and (Own.from (holdsRow_own w.heap.size w2.heap.size _ _ 1 (fun pre : List (Fin 65536) => pre.length) (fun pre => pre.map intV) (fun _ _ => True)) _) (ownFrom_below (Nat.le_refl _) (by have := HWS.out; simp; omega)))
    (fun _ _ _ _ _ hs _ _ => hs)
    ⟨⟨_, hbl, (HO2.out.alloc _).alloc _, trivial⟩, HB3.out⟩
    (fun p => { tmps := #[.agg #[.int .i64 N, .slice a n c], .pointer (some ⟨w.heap.size, 0, none⟩), .slice none 0 0, .pointer (some ⟨w2.heap.size, 0, none⟩), .int .i64 p.val, .agg #[.int .i64 N, .slice a n c], .int .i64 r, .slice (some ⟨w1.heap.size, 0, none⟩) 0 r, .agg #[.int .i64 N, .slice a n c], .func (.func 71) #[] #[.pointer (some ⟨w2.heap.size + 1, 0, none⟩)], .int .i64 p.val, undef, undef, undef, undef, undef], defers := [] }) ?assign ?body ?done ?stop
  case assign =>
    intro l p W K hK
    gi_wp2
    simpa [encm] using hK
  case body =>
    rintro l pre p W ⟨⟨v, hbx, hrow, _⟩, hB'⟩ hlt
    have hc := hbx.cell
    have hf := hbx.frozen
    have hlr : pre.length < 65536 := by have := HRR.out; omega
    have hcA := (hbx.alloc (.cells #[.int .i64 p.val] 3)).cell
    gi_wp2_with (refine wpListIn_append_own _ rfl _ _ 27 rfl w.heap.size 3 i0 (.int .i64 0) 1 8 Tryd.underlying27 hi hz0 hz1 hz2 rfl (by decide) v pre.length (pre.map intV) rfl (hrow.alloc _) ⟨W.heap.size, 0, none⟩ 1 1 [intV p] rfl rfl (cell_one_new _ _ _) (by simp [intV, Value.oneCell']) (by unfold maxLen; omega) (by omega) (by have := hB'.size; simp; omega) ?_; intro v2 w4 hown' hgrow' _; obtain ⟨hv1, hv2, hr2, hk2, hb2⟩ := hbx.appended (tmp := .cells #[.int .i64 p.val] 3) (by decide) hrow hB'.size HWS.out hown' ⟨hgrow'.os, hgrow'.tape, hgrow'.output, hgrow'.size, hgrow'.block⟩; have hc1 := hv1.cell; have hf1 := hv1.frozen; obtain ⟨g', cap', rfl⟩ := ownsRow_succ hown')
    refine ⟨hk2, KB.below hb2 HB.out, ⟨⟨_, hv2, by rw [List.length_append, List.map_append]; exact hr2, trivial⟩, hB'.trans hb2⟩⟩
  case done =>
    rintro D ys W hD rfl ⟨⟨v, hbx, hrow, _⟩, hB'⟩ hK
    have hc := hbx.cell
    have hml : ((Bm.ml (Bm.val xs) N).map mF).map intV = (Bm.ml (Bm.val xs) N).map fun x : Nat => Value.int .i64 x := by
      rw [List.map_map]
      exact List.map_congr_left fun x hx => by
        have := Bm.ml_lt hx
        have := HR.out.1
        simp only [Function.comp_apply, intV, mF_val (show x < 65536 by omega)]
    rw [hml, List.length_map, Bm.ml_length, HRR.out] at hrow
    clear hml
    go_wp2
    refine ⟨by simp, .inl ⟨_, _, rfl, run_takeDeferred hK, ?_⟩⟩
    refine ⟨_, results_tmp rfl _ _ _, ⟨v, rfl, ?_⟩, ?_⟩
    · exact ownsRow_putObj hrow _ hK rfl
    · exact hB'.trans (belowK_b (w := w) (Nat.le_refl _) W D _ _ (by have := HWS.out; simp at hD; omega) hK rfl rfl)
  case stop =>
    rintro D c pre W _ _ h _
    exact h.elim
/-- Members of a right set. -/
theorem membersL_any (r : Nat) (hr : Bm.cnt (Bm.val xs) N = r) :
    Calls Tryd.prog 24 #[.agg #[.int .i64 N, .slice a n c]] w fun e w' => (∃ v, e = .returned v ∧ w'.ownsRow w.heap.size 3 1 v r ((Bm.ml (Bm.val xs) N).map fun x : Nat => Value.int .i64 x)) ∧ Below w.heap.size w w' :=
  (callsIn_wide (n := 9)).1 (members_in N a n c xs hn hc hcm hR w B hS hT hB0 hB r hr)
end
end Go.Proofs.YtkochcolmkgkgaaDoor
