/-
  Runs.
-/
import Derived.Test.YtkochcolmkgkgaaDoorMembers
import Derived.Test.YtkochcolmkgkgaaDoorRunsM
namespace Go.Proofs.YtkochcolmkgkgaaDoor
open Go.RowKit
attribute [local go_sem] Oper.semAt_some
set_option linter.unusedVariables false

theorem infoP : (Tryd.prog.info? 50).map (fun i => (i.zero, i.size, i.bytes)) = some (some (.agg #[.int .i64 0, .int .i64 0]), 2, 16) := by kernel_rfl
abbrev vals (l : List (Fin 65536)) : List Nat := l.map fun d => d.val
abbrev rl (l : List (Fin 65536)) : List (Nat × Nat) := Bm.runsL (vals l)

theorem cells_two_new (W : World) (t : TypeId) (u v : Value) : ∀ j x, [u, v][j]? = some x → (W.alloc (.cells #[u, v] t)).cell? ((⟨W.heap.size, 0, none⟩ : Addr).add j) = some x := by
  intro j x hx
  have hh := heap_alloc_new W (.cells #[u, v] t)
  match j, hx with
  | 0, hx =>
    obtain rfl : u = x := by simpa using hx
    rw [show (⟨W.heap.size, 0, none⟩ : Addr).add 0 = ⟨W.heap.size, 0, none⟩ by simp [Addr.add]]
    unfold World.cell?
    rw [hh]; rfl
  | 1, hx =>
    obtain rfl : v = x := by simpa using hx
    rw [show (⟨W.heap.size, 0, none⟩ : Addr).add 1 = ⟨W.heap.size, 1, none⟩ by simp [Addr.add]]
    unfold World.cell?
    rw [hh]; rfl
  | j + 2, hx => simp at hx
section
variable (N : Nat) (a : Option Addr) (n c : Nat) (xs : List Nat) (hn : xs.length = n) (hR : Bm.Rt N xs) (w : World) (B : Nat) (hS : Seen w B .u64 a xs) (hT : HT w) (hB0 : 0 < B) (hB : B ≤ w.heap.size)
include hn hR hS hT hB0 hB

set_option maxRecDepth 100000 in
set_option maxHeartbeats 8000000 in
theorem runs_in :
    CallsIn Fence.wide 9 Tryd.prog 22 #[.agg #[.int .i64 N, .slice a n c]] w fun e w' => (∃ v, e = .returned v ∧ w'.ownsRow w.heap.size 50 2 v (Bm.runsL (Bm.ml (Bm.val xs) N)).length (flat (Bm.runsL (Bm.ml (Bm.val xs) N)))) ∧ Below w.heap.size w w' := by
  refine callsIn_of_wp_marks Tryd.func22 rfl trivial ?_ rfl
  simp only [Tryd.ntmps22, List.size_toArray, List.length_cons, List.length_nil, Nat.reduceAdd, Nat.reduceSub, Array.replicate_succ, Array.replicate_zero, List.push_toArray, List.append_toArray, List.nil_append, List.cons_append]
  obtain ⟨i0, hi, hz0, hz1, hz2⟩ := info_parts infoP
  have HN := Lib.hid hn
  have HR : Hid (Bm.Rt N xs) := hR
  have HS : Hid (Seen w B .u64 a xs) := hS
  have HT' : Hid (HT w) := hT
  have HB := Lib.hid hB
  have HB0 := Lib.hid hB0
  have HCN : Hid (Bm.cnt (Bm.val xs) N ≤ 65536) := Nat.le_trans (Bm.cnt_le _ _) hR.1
  clear hn hR hS hT hB0
  refine wpIn_wide.2 ?_
  go_wp2_with (first
    | (go_at_call 60; ((with_reducible refine (members_any N a n c _).mono ?_); rintro e w' ⟨rfl, rfl⟩)))
  refine (wpIn_wide (n := 9)).1 ?_
  have HX3 : Hid (Box (((w.alloc (.cells #[.int .i64 N, .slice a n c] 24)).alloc (.cells #[.slice none 0 0] 42)).alloc (.cells #[.int .i64 N, .slice a n c] 24)) (w.heap.size + 1 + 1) (.int .i64 N) (.slice a n c)) := by
    have := Box.new ((w.alloc (.cells #[.int .i64 N, .slice a n c] 24)).alloc (.cells #[.slice none 0 0] 42)) (.int .i64 N) (.slice a n c)
    rw [World.size_alloc, World.size_alloc] at this
    exact this
  have hbl := (Boxed.new (w.alloc (.cells #[.int .i64 N, .slice a n c] 24)) 42 (.slice none 0 0)).alloc (.cells #[.int .i64 N, .slice a n c] 24)
  rw [World.size_alloc] at hbl
  have HB3 := Lib.hid (below3 w (.cells #[.int .i64 N, .slice a n c] 24) (.cells #[.slice none 0 0] 42) (.cells #[.int .i64 N, .slice a n c] 24))
  refine wpIn_rangeFunc_ownF rfl (by decide) (gf := 71) (lb := #[.pointer (some ⟨w.heap.size + 1 + 1, 0, none⟩)]) rfl trivial (enters_of Tryd.func71 (by kernel_rfl) rfl)
    (members_stops N a n c xs HN.out HR.out _ B (HS.out.below (HB3.out.mono HB.out)) (HT'.out.below HB3.out (by have := HB.out; have := HB0.out; omega)) HB0.out (w.heap.size + 1 + 1) HX3.out (Nat.le_trans HB.out HB3.out.size)) (fun h k => h.trans k) (fun W l o o' hl _ _ _ => KB.put (Nat.le_trans (Nat.le_trans HB.out HB3.out.size) hl)) (Below.refl _ _) (fun _ => rfl)
    (fun pre W => (∃ v, Boxed W (w.heap.size + 1) 42 v ∧ W.ownsRow w.heap.size 50 2 v (rl pre).length (flat (rl pre)) ∧ True) ∧ Below w.heap.size w W)
    (fun _ _ _ => False)
    (OwnFrom.and (Own.from (holdsRow_own w.heap.size (w.heap.size + 1) _ _ 2 (fun pre : List (Fin 65536) => (rl pre).length) (fun pre => flat (rl pre)) (fun _ _ => True)) _) (ownFrom_below (Nat.le_refl _) (by simp; omega)))
    (fun _ _ _ _ _ hs _ _ => hs)
    ⟨⟨_, hbl, World.ownsRow_nil _ _ _ _, trivial⟩, HB3.out⟩
    (fun p => { tmps := #[.agg #[.int .i64 N, .slice a n c], .pointer (some ⟨w.heap.size, 0, none⟩), .slice none 0 0, .pointer (some ⟨w.heap.size + 1, 0, none⟩), .int .i64 p.val, undef, .agg #[.int .i64 N, .slice a n c], .func (.func 71) #[] #[.pointer (some ⟨w.heap.size + 1 + 1, 0, none⟩)], .int .i64 p.val, undef, undef, undef, undef, undef, undef, undef, undef, undef, undef, undef, undef, undef, undef, undef, undef, undef, undef, undef, undef, undef, undef, undef, undef, undef, undef, undef, undef, undef, undef], defers := [] }) ?assign ?body ?done ?stop
  case assign =>
    intro l p W K hK
    gi_wp2
    simpa [encm] using hK
  case body =>
    rintro l pre p W ⟨⟨v, hbx, hrow, _⟩, hB'⟩ hlt
    have hc := hbx.cell
    have hf := hbx.frozen
    have hpv : (p.val : Int) < 65536 := by have := p.isLt; omega
    have HS1 : Hid (rl (pre ++ [p]) = Bm.ext (rl pre) p.val) := by
      show Bm.runsL ((pre ++ [p]).map _) = _
      rw [List.map_append, List.map_singleton, Bm.runsL_snoc]
    have hkl : (rl pre).length < 65536 := by
      have h1 := Bm.runsL_len (vals pre)
      rw [List.length_map] at h1
      have := HCN.out
      show (Bm.runsL _).length < _
      omega
    obtain ⟨R, hRR⟩ : ∃ R, rl pre = R := ⟨_, rfl⟩
    rw [hRR] at HS1 hrow hkl
    clear hRR hlt
    obtain ⟨k, hk⟩ : ∃ k, R.length = k := ⟨_, rfl⟩
    rw [hk] at hrow hkl
    have HKL := Lib.hid hk
    have HK6 := Lib.hid hkl
    clear hk hkl
    have hval : ∃ va vc, v = .slice va k vc := by
      rcases hrow.2 with ⟨rfl, h0⟩ | ⟨g, cap, cur, rfl, _⟩
      · exact ⟨none, 0, by rw [h0]⟩
      · exact ⟨_, _, rfl⟩
    have hp0 : (0 : Int) ≤ (p.val : Int) := by omega
    by_cases hk0 : k = 0
    · obtain ⟨va, vc, rfl⟩ := hval
      have HE : Hid (Bm.ext R p.val = R ++ [(p.val, p.val + 1)]) := by
        show _ = _
        have : R = [] := List.eq_nil_of_length_eq_zero (HKL.out.trans hk0)
        subst this; rfl
      subst hk0
      gi_wp2_with (refine wpListIn_append_own _ rfl _ _ 42 rfl w.heap.size 50 i0 (.agg #[.int .i64 0, .int .i64 0]) 2 16 Tryd.underlying42 hi hz0 hz1 hz2 rfl (by decide) _ 0 (flat R) rfl (hrow.alloc _) ⟨W.heap.size, 0, none⟩ 1 1 [.int .i64 p.val, .int .i64 ((p.val : Int) + 1)] rfl rfl (cells_two_new _ _ _ _) (by simp [Value.oneCell']) (by have := HK6.out; unfold maxLen; omega) (by have := HK6.out; omega) (by have := hB'.size; simp; omega) ?_; intro v2 w4 hown' hgrow' _; obtain ⟨hv1, hv2, hr2, hk2, hb2⟩ := hbx.appended (tmp := .cells #[.int .i64 p.val, .int .i64 ((p.val : Int) + 1)] 50) (by decide) hrow hB'.size (by omega) hown' ⟨hgrow'.os, hgrow'.tape, hgrow'.output, hgrow'.size, hgrow'.block⟩; have hc1 := hv1.cell; have hf1 := hv1.frozen; obtain ⟨g', cap', rfl⟩ := ownsRow_succ hown')
      refine ⟨hk2, KB.below hb2 HB.out, ⟨⟨_, hv2, ?_, trivial⟩, hB'.trans hb2⟩⟩
      rw [HS1.out, HE.out, List.length_append, HKL.out, flat_append]
      exact hr2
    · obtain ⟨j, rfl⟩ : ∃ j, k = j + 1 := ⟨k - 1, by omega⟩
      obtain ⟨g, cap, rfl⟩ := ownsRow_succ hrow
      obtain ⟨q, hq⟩ : ∃ q, R[j]? = some q := ⟨_, List.getElem?_eq_getElem (by have := HKL.out; omega)⟩
      have hq' : R[R.length - 1]? = some q := by rw [HKL.out]; exact hq
      have hji : ((j + 1 : Nat) : Int) - 1 = (j : Int) := by omega
      have hj0 : (0 : Int) ≤ (j : Int) := by omega
      have hj6 : (j : Int) < 65536 := by have := HK6.out; omega
      have hcl : W.cell? ⟨g, j * 2 + 1, none⟩ = some (.int .i64 q.2) := by rw [hrow.cellAt _ (by omega)]; exact flat_snd R j q hq
      have hfr : W.frozen? ⟨g, j * 2 + 1, none⟩ = false := by have := hrow.frozenAt (j * 2 + 1); simpa using this
      by_cases hqp : q.2 = p.val
      · have HE : Hid (Bm.ext R p.val = R.set j (q.1, p.val + 1)) := by
          have := Bm.ext_more hq' hqp
          rw [HKL.out] at this; exact this
        have HFL := Lib.hid (flat_set R j (p.val + 1) q hq)
        obtain ⟨q2, hq2⟩ : ∃ q2, q.2 = q2 := ⟨_, rfl⟩
        rw [hq2] at hcl
        have hqb : ((q2 : Int) == (p.val : Int)) = true := by simp; omega
        have hq26 : (q2 : Int) < 65536 := by omega
        have HQP : Hid (q2 = p.val) := hq2.symm.trans hqp
        have hgb := hbx.not_row (by decide) hrow
        have hgb' : ¬ g = w.heap.size + 1 := fun e => hgb (by rw [e]; rfl)
        have hst := (hrow.stored (j * 2 + 1) (.int .i64 ((q2 : Int) + 1))).1
        have HST := Lib.hid hst
        have hgw : w.heap.size ≤ g := (hrow.lt g rfl).1
        clear hq hq' hqp hst hgb hq2
        gi_wp2
        have hw1 : IntKind.i64.wrap ((q2 : Int) + 1) = (q2 : Int) + 1 := by rw [IntKind.wrap_i64]; omega
        have HW1 := Lib.hid hw1
        clear hq26 hj6 hpv
        gi_region
        all_goals
          gi_wp2
          refine ⟨(KeepsOthers.setCell _ _ _).trans (KeepsOthers.drew _), KB.below (((Below.refl _ W).setCell hgw _).drew) HB.out, ⟨⟨_, (Below.heap_setCell W ⟨g, j * 2 + 1, none⟩ _ (w.heap.size + 1) (fun e => hgb' e.symm)).trans hbx, ?_, trivial⟩, (hB'.setCell hgw _).drew⟩⟩
          have hrow' := HST.out
          rw [show (Value.int IntKind.i64 ((q2 : Int) + 1)) = .int .i64 ((p.val + 1 : Nat) : Int) by rw [HQP.out]; push_cast; rfl] at hrow' ⊢
          rw [HS1.out, HE.out, List.length_set, HKL.out, HFL.out]
          exact hrow'.drew
      · have HE : Hid (Bm.ext R p.val = R ++ [(p.val, p.val + 1)]) := Bm.ext_new hq' hqp
        have hqb : ((q.2 : Int) == (p.val : Int)) = false := by simp; omega
        clear hq hq' hqp
        gi_wp2_with (refine wpListIn_append_own _ rfl _ _ 42 rfl w.heap.size 50 i0 (.agg #[.int .i64 0, .int .i64 0]) 2 16 Tryd.underlying42 hi hz0 hz1 hz2 rfl (by decide) _ (j + 1) (flat R) rfl (hrow.alloc _) ⟨W.heap.size, 0, none⟩ 1 1 [.int .i64 p.val, .int .i64 ((p.val : Int) + 1)] rfl rfl (cells_two_new _ _ _ _) (by simp [Value.oneCell']) (by have := HK6.out; unfold maxLen; omega) (by have := HK6.out; omega) (by have := hB'.size; simp; omega) ?_; intro v2 w4 hown' hgrow' _; obtain ⟨hv1, hv2, hr2, hk2, hb2⟩ := hbx.appended (tmp := .cells #[.int .i64 p.val, .int .i64 ((p.val : Int) + 1)] 50) (by decide) hrow hB'.size (by omega) hown' ⟨hgrow'.os, hgrow'.tape, hgrow'.output, hgrow'.size, hgrow'.block⟩; have hc1 := hv1.cell; have hf1 := hv1.frozen; obtain ⟨g', cap', rfl⟩ := ownsRow_succ hown')
        refine ⟨hk2, KB.below hb2 HB.out, ⟨⟨_, hv2, ?_, trivial⟩, hB'.trans hb2⟩⟩
        rw [HS1.out, HE.out, List.length_append, HKL.out, flat_append]
        exact hr2
  case done =>
    rintro D ys W hD rfl ⟨⟨v, hbx, hrow, _⟩, hB'⟩ hK
    have hc := hbx.cell
    have hml : rl ((Bm.ml (Bm.val xs) N).map mF) = Bm.runsL (Bm.ml (Bm.val xs) N) := by
      show Bm.runsL (((Bm.ml (Bm.val xs) N).map mF).map _) = _
      rw [mF_vals fun x hx => by have := Bm.ml_lt hx; have := HR.out.1; omega]
    rw [hml] at hrow
    clear hml
    go_wp2
    refine ⟨by simp, .inl ⟨_, _, rfl, run_takeDeferred hK, ?_⟩⟩
    refine ⟨_, results_tmp rfl _ _ _, ⟨v, rfl, ?_⟩, ?_⟩
    · exact ownsRow_putObj hrow _ hK rfl
    · exact hB'.trans (belowK_b (w := w) (Nat.le_refl _) W D _ _ (by simp at hD; omega) hK rfl rfl)
  case stop =>
    rintro D c pre W _ _ h _
    exact h.elim
/-- Runs of a right set. -/
theorem runs_any :
    Calls Tryd.prog 22 #[.agg #[.int .i64 N, .slice a n c]] w fun e w' => (∃ v, e = .returned v ∧ w'.ownsRow w.heap.size 50 2 v (Bm.runsL (Bm.ml (Bm.val xs) N)).length (flat (Bm.runsL (Bm.ml (Bm.val xs) N)))) ∧ Below w.heap.size w w' :=
  (callsIn_wide (n := 9)).1 (runs_in N a n c xs hn hR w B hS hT hB0 hB)
end
end Go.Proofs.YtkochcolmkgkgaaDoor
