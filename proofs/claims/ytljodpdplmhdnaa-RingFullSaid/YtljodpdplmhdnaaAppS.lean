/-
  slices.AppendSeq and slices.Collect of a ring's slots.
-/
import Derived.Test.YtljodpdplmhdnaaSlotsS
import Derived.Maps.AppendAt
namespace Go.Proofs.Ytljodpdplmhdnaa
namespace RS
open Go.RowKit
attribute [local go_sem] Oper.semAt_some
set_option linter.unusedVariables false

theorem infoR : (Try.prog.info? 77).map (fun i => (i.zero, i.size, i.bytes)) = some (some (.agg #[(.string ⟨#[]⟩), .int .i64 0]), 2, 24) := by kernel_rfl
theorem cell_two_new (w : World) (x y : Value) (t : TypeId) : ∀ j u, [x, y][j]? = some u → (w.alloc (.cells #[x, y] t)).cell? ((⟨w.heap.size, 0, none⟩ : Addr).add j) = some u := by
  intro j u h
  have hb : (w.alloc (.cells #[x, y] t)).heap[w.heap.size]? = some (.cells #[x, y] t (0, 0)) := heap_alloc_new w _
  match j, h with
  | 0, h => simp at h; subst h; show (w.alloc (.cells #[x, y] t)).cell? ⟨w.heap.size, 0, none⟩ = some x; unfold World.cell?; rw [hb]; rfl
  | 1, h => simp at h; subst h; show (w.alloc (.cells #[x, y] t)).cell? ⟨w.heap.size, 1, none⟩ = some y; unfold World.cell?; rw [hb]; rfl
  | j + 2, h => simp at h
/-- The loop's variable, in a box of its own. -/
def VarAt (W : World) (b : Nat) (x : RV) : Prop := W.heap[b]? = some (.cells #[.string x.1, .int .i64 x.2] 77 (0, 0))
theorem VarAt.cells {W : World} {b : Nat} {x : RV} (h : VarAt W b x) : W.cell? ⟨b, 0, none⟩ = some (.string x.1) ∧ W.cell? ⟨b, 1, none⟩ = some (.int .i64 x.2) := by
  unfold VarAt at h
  refine ⟨?_, ?_⟩ <;> (unfold World.cell?; simp [h])
theorem VarAt.new (W : World) (x : RV) : VarAt (W.alloc (.cells #[.string x.1, .int .i64 x.2] 77)) W.heap.size x := heap_alloc_new W _
/-- The slot at an index. -/
def pl (ps : Nat → RV) (L f i : Nat) : RV := ps ((f + i) % L)
def appAct (w : World) (br bn : Nat) (x : RV) (b : Nat) : Act := { tmps := #[.slice none 0 0, .func (.func 68) #[] #[.pointer (some ⟨bn, 0, none⟩), .pointer (some ⟨br, 0, none⟩)], .pointer (some ⟨w.heap.size, 0, none⟩), undef, .slice none 0 0, .pointer (some ⟨b, 0, none⟩), .func (.func 68) #[] #[.pointer (some ⟨bn, 0, none⟩), .pointer (some ⟨br, 0, none⟩)], .agg #[.string x.1, .int .i64 x.2], undef, undef, undef, undef, undef], defers := [] }

section
variable (w : World) (B : Nat) (a : Option Addr) (L : Nat) (ps : Nat → RV) (cap f n0 op ac rf : Nat) (hA : At w B a L ps cap f n0 op ac rf) (n : Nat) (hn : n ≤ n0) (br bn : Nat) (hbr : Boxed w br 69 (.pointer (some ⟨B, 0, none⟩))) (hbn : Boxed w bn 3 (.int .i64 n))
include hA hn hbr hbn

set_option maxRecDepth 100000 in
set_option maxHeartbeats 4000000 in
theorem appendSeq_in :
    CallsIn Fence.wide 9 Try.prog 69 #[.slice none 0 0, .func (.func 68) #[] #[.pointer (some ⟨bn, 0, none⟩), .pointer (some ⟨br, 0, none⟩)]] w fun e w' => (∃ v, e = .returned v ∧ w'.ownsRow w.heap.size 77 2 v n (flatR (Rg.sl ps L f n))) ∧ Below w.heap.size w w' := by
  refine callsIn_of_wp_marks Try.func69 rfl trivial ?_ rfl
  simp only [Try.ntmps69, List.size_toArray, List.length_cons, List.length_nil, Nat.reduceAdd, Nat.reduceSub, Array.replicate_succ, Array.replicate_zero, List.push_toArray, List.append_toArray, List.nil_append, List.cons_append]
  obtain ⟨i0, hi, hz0, hz1, hz2⟩ := info_parts infoR
  have hni : n ≤ 65536 := by have := hA.hn; have := hA.hL; have := hA.capM; omega
  have hnL : n ≤ L := Nat.le_trans hn hA.hn
  have hSS : ∀ k, SS B a br bn k → k < w.heap.size := by
    rintro k (h | rfl | rfl)
    · exact hA.size k h
    · exact hbr.lt
    · exact hbn.lt
  have hb1 : Below w.heap.size w (w.alloc (.cells #[.slice none 0 0] 73)) := (Below.refl _ w).alloc (Nat.le_refl _) _
  have hbx := Boxed.new w 73 (.slice none 0 0)
  have HST := Lib.hid (slots_stops _ B a L ps cap f n0 op ac rf (hA.below hb1) n hn br bn ((hb1.block br hbr.lt).trans hbr) ((hb1.block bn hbn.lt).trans hbn))
  refine wpIn_wide.2 ?_
  go_wp2
  refine (wpIn_wide (n := 9)).1 ?_
  refine wpIn_rangeFunc_ownH rfl (by decide) (gf := 68) (lb := #[.pointer (some ⟨bn, 0, none⟩), .pointer (some ⟨br, 0, none⟩)]) rfl trivial (enters_of Try.func68 (by kernel_rfl) rfl)
    HST.out (fun h k => h.trans k) (fun W l o o' hl _ _ _ => KS.put fun k hk => by have := hSS k hk; simp at hl; omega) (Below.refl _ _) (fun _ => rfl)
    (fun pre W => (∃ v, Boxed W w.heap.size 73 v ∧ W.ownsRow w.heap.size 77 2 v pre.length (flatR (pre.map (pl ps L f))) ∧ True) ∧ Below w.heap.size w W)
    (fun _ _ _ => False)
    (OwnFrom.and (Own.from (holdsRow_own w.heap.size w.heap.size _ _ 2 (fun pre : List Nat => pre.length) (fun pre => flatR (pre.map (pl ps L f))) (fun _ _ => True)) _) (ownFrom_below (Nat.le_refl _) (by simp)))
    (fun _ _ _ _ _ hs _ _ => hs)
    ⟨⟨_, hbx, World.ownsRow_nil _ _ _ _, trivial⟩, hb1⟩
    (fun x a' W => ∃ b, a' = appAct w br bn (pl ps L f x) b ∧ VarAt W b (pl ps L f x))
    (fun x a' s W W' row hs hg hr => by
      obtain ⟨b, h1, h2⟩ := hs
      refine ⟨b, h1, (hg.block b (Array.getElem?_eq_some_iff.1 h2).1 fun e => ?_).trans h2⟩
      obtain ⟨_, o, ho, hc⟩ := hr b e.symm
      rw [show W.heap[b]? = _ from h2] at ho
      cases ho
      cases hc)
    ?assign ?body ?done ?stop
  case assign =>
    intro l pre x W K hI hK
    have he : encR ps L f x = #[.agg #[.string ((pl ps L f x).1), .int .i64 (pl ps L f x).2]] := rfl
    rw [he]
    obtain ⟨y, hy⟩ : ∃ y, pl ps L f x = y := ⟨_, rfl⟩
    rw [hy] at hK ⊢
    gi_wp2
    have hbk : Below W.heap.size W (W.alloc (.cells #[.string y.1, .int .i64 y.2] 77)) := (Below.refl _ W).alloc (Nat.le_refl _) _
    obtain ⟨⟨v, hbx, hrow, _⟩, hB'⟩ := hI
    exact hK _ _ ((KeepsOthers.alloc W _).from _) (KS.below hbk fun k hk => Nat.lt_of_lt_of_le (hSS k hk) hB'.size) ⟨⟨v, hbx.alloc _, hrow.alloc _, trivial⟩, hB'.alloc hB'.size _⟩ ⟨W.heap.size, rfl, VarAt.new W y⟩
  case body =>
    rintro l pre x a' W _ _ ⟨⟨v, hbx, hrow, _⟩, hB'⟩ ⟨b, rfl, hva⟩ hlt
    have hc := hbx.cell
    have hf := hbx.frozen
    obtain ⟨e0, e1⟩ := hva.cells
    have hlr : pre.length < 65536 := by omega
    obtain ⟨y, hy⟩ : ∃ y, pl ps L f x = y := ⟨_, rfl⟩
    rw [hy] at e0 e1 hva
    rw [hy]
    unfold appAct
    clear hva
    gi_wp2_with (refine wpListIn_append_own _ rfl _ _ 73 rfl w.heap.size 77 i0 (.agg #[(.string ⟨#[]⟩), .int .i64 0]) 2 24 Try.underlying73 hi hz0 hz1 hz2 rfl (by decide) v pre.length (flatR (pre.map (pl ps L f))) rfl (hrow.alloc _) ⟨W.heap.size, 0, none⟩ 1 1 [.string y.1, .int .i64 y.2] rfl rfl (cell_two_new _ _ _ _) (by intro u hu; simp only [List.mem_cons, List.not_mem_nil, or_false] at hu; rcases hu with rfl | rfl <;> rfl) (by unfold maxLen; omega) (by omega) (by have := hB'.size; simp; omega) ?_; intro v2 w4 hown' hgrow' _; obtain ⟨hv1, hv2, hr2, hk2, hb2⟩ := hbx.appended (tmp := .cells #[.string y.1, .int .i64 y.2] 77) (by decide) hrow hB'.size (Nat.le_refl _) hown' ⟨hgrow'.os, hgrow'.tape, hgrow'.output, hgrow'.size, hgrow'.block⟩; have hc1 := hv1.cell; have hf1 := hv1.frozen; obtain ⟨g', cap', rfl⟩ := ownsRow_succ hown')
    have hfl : flatR ((pre ++ [x]).map (pl ps L f)) = flatR (pre.map (pl ps L f)) ++ [.string y.1, .int .i64 y.2] := by rw [List.map_append, flatR_append, ← hy]; rfl
    refine ⟨hk2.from _, KS.below hb2 hSS, ⟨⟨_, hv2, ?_, trivial⟩, hB'.trans hb2⟩⟩
    rw [List.length_append, hfl]
    exact hr2
  case done =>
    rintro D ys W hD rfl ⟨⟨v, hbx, hrow, _⟩, hB'⟩ hK
    have hc := hbx.cell
    rw [List.length_range] at hrow
    go_wp2
    have hsl : (List.range n).map (pl ps L f) = Rg.sl ps L f n := rfl
    rw [hsl] at hrow
    refine ⟨by simp, .inl ⟨_, _, rfl, run_takeDeferred hK, ?_⟩⟩
    refine ⟨_, results_tmp rfl _ _ _, ⟨v, rfl, ?_⟩, ?_⟩
    · exact ownsRow_putObj hrow _ hK rfl
    · exact hB'.trans (belowK_b (w := w) (Nat.le_refl _) W D _ _ (by simp at hD; omega) hK rfl rfl)
  case stop =>
    rintro D c pre W _ _ h _
    exact h.elim
/-- slices.Collect of the first n slots. -/
theorem collect_any : Calls Try.prog 65 #[.func (.func 68) #[] #[.pointer (some ⟨bn, 0, none⟩), .pointer (some ⟨br, 0, none⟩)]] w fun e w' => (∃ v, e = .returned v ∧ w'.ownsRow w.heap.size 77 2 v n (flatR (Rg.sl ps L f n))) ∧ Below w.heap.size w w' := by
  have HS := Lib.hid ((callsIn_wide (n := 9)).1 (appendSeq_in w B a L ps cap f n0 op ac rf hA n hn br bn hbr hbn))
  go_enter Try.func65, Try.ntmps65
  go_wp2_with (go_at_call 69; (with_reducible refine HS.out.mono ?_); rintro e w4 ⟨⟨v, rfl, hown⟩, hb⟩)
  go_ret
  exact ⟨⟨v, rfl, hown⟩, hb⟩
end
end RS
end Go.Proofs.Ytljodpdplmhdnaa
