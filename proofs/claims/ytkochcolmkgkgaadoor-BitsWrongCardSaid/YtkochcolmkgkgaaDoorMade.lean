/-
  made.
-/
import Derived.Test.YtkochcolmkgkgaaDoorSame
import Derived.Test.YtkochcolmkgkgaaDoorAppend
import Derived.Test.YtkochcolmkgkgaaDoorOf
import Derived.Deep.RegionLaw
import Derived.ArgAppend
import Derived.StillTailTactics
namespace Go.Proofs.YtkochcolmkgkgaaDoor
open Go.RowKit
set_option linter.unusedVariables false

theorem seen_cells {w : World} {B : Nat} {k : IntKind} {ad : Addr} {xs : List Nat} (h : Seen w B k (some ad) xs) : ∀ j u, (xs.map fun x : Nat => Value.int k x)[j]? = some u → w.cell? (ad.add j) = some u := by
  intro j u hu
  rw [List.getElem?_map] at hu
  cases hx : xs[j]? with
  | none => rw [hx] at hu; simp at hu
  | some x =>
    rw [hx] at hu
    simp at hu
    obtain ⟨b, off, e, _, hc⟩ := h j x hx
    cases e
    rw [← hu]
    by_cases h0 : j = 0
    · subst h0; simpa [Addr.add] using hc
    · simpa [Addr.add, h0] using hc
theorem run_append_nilW (w : World) (base : Nat) (ty : TypeId) (hb : base ≤ w.heap.size) (A : Option Addr) (m c : Nat) (ys : List Nat) (hy : ys.length = m) (N : Nat) (hS : Seen w N .u64 A ys) (hnm : m ≤ 1000000) :
    ∃ v' w', (Builtin.append_ #[22, 22] ty #[.slice none 0 0, .slice A m c]).run Tryd.prog w = .ok v' w' ∧ w'.ownsRow base 30 1 v' m (ys.map fun x : Nat => Value.int .u64 x) ∧ w.grownBy w' none := by
  obtain ⟨i0, hi, hz0, hz1, hz2⟩ := info_parts infoW
  have hU := Tryd.underlying22
  by_cases hm0 : m = 0
  · subst hm0
    have hys : ys = [] := List.eq_nil_of_length_eq_zero hy
    subst hys
    exact ⟨.slice none 0 0, w, by cases A <;> simp [Builtin.append_, run_underlying hU, sizeOf, typeInfo, hi, Builtin.lenOf, Builtin.firstCells, loadCells, loadCellsFrom], World.ownsRow_nil _ _ _ _, World.grownBy.refl _ _⟩
  · obtain ⟨b, off, rfl, _, _⟩ := hS.at (i := 0) (by omega)
    have hc := seen_cells hS
    have h1 : ∀ u ∈ ys.map (fun x : Nat => Value.int .u64 x), u.oneCell' = true := by intro u hu; obtain ⟨z, _, rfl⟩ := List.mem_map.1 hu; rfl
    have hl : (ys.map fun x : Nat => Value.int .u64 x).length = m * 1 := by rw [List.length_map, hy, Nat.mul_one]
    obtain ⟨v', w', hrun, r1, r2, _⟩ := run_append_own (P := Tryd.prog) w base _ ty 30 i0 (.int .u64 0) 1 8 hU hi hz0 hz1 hz2 rfl (by decide) (.slice none 0 0) 0 [] (World.ownsRow_nil _ _ _ _) ⟨b, off, none⟩ m c _ hl hc h1 (by unfold maxLen; omega) (by omega) hb
    refine ⟨v', w', hrun, ?_, r2⟩
    rw [Nat.zero_add, List.nil_append] at r1
    exact r1
theorem wpList_append_nilW (w : World) {ops : Array Oper} {rest : List Oper} {o : Oper} {a : Act} {Q : Exit → Act → World → Prop}
    (hg : o.guard = none) (s x : Operand) (hop : o.op = Op.call { callee := Callee.builtin Builtin.append, args := #[s, x], argTypes := #[22, 22] })
    (base : Nat) (hs : a.eval s = .slice none 0 0) (hb : base ≤ w.heap.size)
    (A : Option Addr) (m c : Nat) (ys : List Nat) (hx : a.eval x = .slice A m c) (hy : ys.length = m) (N : Nat) (hS : Seen w N .u64 A ys) (hnm : m ≤ 1000000)
    (hK : ∀ v' w', w'.ownsRow base 30 1 v' m (ys.map fun x : Nat => Value.int .u64 x) → w.grownBy w' none → wpList Tryd.prog ops Q rest (a.put o.dst v') w') :
    wpList Tryd.prog ops Q (o :: rest) a w := by
  refine wpList_plain hg fun K hK' => ?_
  obtain ⟨v', w', hrun, r1, r2⟩ := run_append_nilW w base o.type hb A m c ys hy N hS hnm
  unfold Oper.wp
  simp [execOp, hop, resolve, invoke, builtin, hs, hx, hrun, Result.andThen]
  exact hK' _ _ (hK v' w' r1 r2)
theorem own_sliceW {w : World} {base n : Nat} {v : Value} {xs : List Nat} (h : w.ownsRow base 30 1 v n (xs.map fun x : Nat => Value.int .u64 x)) :
    ∃ a c, v = .slice a n c ∧ w.ownsRow base 30 1 (.slice a n c) n (xs.map fun x : Nat => Value.int .u64 x) := by
  obtain ⟨a, c, rfl, _⟩ := own_slice h
  exact ⟨a, c, rfl, h⟩

namespace Bm
/-- The words of a set that made makes. -/
def cut (N : Nat) (xs : List Nat) : List Nat := if N % 64 = 0 then xs else xs.set (N / 64) (xs.getD (N / 64) 0 % 2 ^ (N % 64))
theorem cut_right {N : Nat} {xs : List Nat} (hN : N ≤ 65536) (hl : xs.length = (N + 63) / 64) (h : ∀ x ∈ xs, x < 2 ^ 64) : Rt N (cut N xs) := by
  unfold cut
  split
  · rename_i h0; exact Rt.of_whole hN hl h h0
  · rename_i h0
    have hlt : N / 64 < xs.length := by omega
    refine Rt.of_last hN (by rw [List.length_set]; exact hl) (fun y hy => ?_) h0 (z := xs.getD (N / 64) 0 % 2 ^ (N % 64)) (by rw [List.getElem?_set_self hlt]) (Nat.mod_lt _ (Nat.pow_pos (by decide)))
    rcases List.mem_or_eq_of_mem_set hy with h1 | h1
    · exact h y h1
    · rw [h1]
      exact Nat.lt_of_lt_of_le (Nat.mod_lt _ (Nat.pow_pos (by decide))) (Nat.pow_le_pow_right (by decide) (by omega))
end Bm

/-- What made returns. -/
def MadeOut (w : World) (N : Nat) (e : Ending) (w' : World) : Prop := ∃ a c q ys, e = .returned (.agg #[.int .i64 N, .slice a q c]) ∧ Bm.Rt N ys ∧ w'.ownsRow w.heap.size 30 1 (.slice a q c) q (ys.map fun x : Nat => Value.int .u64 x) ∧ Below w.heap.size w w'

set_option maxRecDepth 100000 in
set_option maxHeartbeats 2000000 in
theorem made_any (n : Nat) (hn : n < 65536) (a : Option Addr) (m c : Nat) (xs : List Nat) (hm : xs.length = m) (hmc : m ≤ c) (hcm : c ≤ maxLen) (hx : ∀ x ∈ xs, x < 2 ^ 64) (w : World) (B : Nat) (hS : Seen w B .u64 a xs) (hB : B ≤ w.heap.size) (N : Nat) (hN : n % (64 * min m 16 + 1) = N) :
    Calls Tryd.prog 23 #[.int .u16 n, .slice a m c] w (MadeOut w N) := by
  unfold maxLen at hcm
  obtain ⟨k, hk⟩ : ∃ k, min m 16 = k := ⟨_, rfl⟩
  rw [hk] at hN
  have hki : min (m : Int) 16 = (k : Int) := by omega
  have hk16 : (k : Int) ≤ 16 := by omega
  have hkc : (k : Int) ≤ (c : Int) := by omega
  have hkc' : k ≤ c := by omega
  obtain ⟨d, hd⟩ : ∃ d, 64 * k + 1 = d := ⟨_, rfl⟩
  have hdi : 64 * (k : Int) + 1 = (d : Int) := by omega
  have hd0 : ¬ (d : Int) = 0 := by omega
  rw [hd] at hN
  have hN1 : (n : Int) % (d : Int) = (N : Int) := by rw [← hN]; exact (Int.natCast_emod _ _).symm
  have hN2 : (n : Int).tmod (d : Int) = (N : Int) := by rw [Int.tmod_eq_emod_of_nonneg (by omega)]; exact hN1
  have hwn : IntKind.i64.wrap (n : Int) = (n : Int) := by rw [IntKind.wrap_i64]; omega
  have hNk : N ≤ 64 * k := by have := Nat.mod_lt n (show 0 < d by omega); omega
  have hNi : (N : Int) ≤ 1024 := by omega
  obtain ⟨q, hq⟩ : ∃ q, (N + 63) / 64 = q := ⟨_, rfl⟩
  have hqi : ((N : Int) + 63) / 64 = (q : Int) := by omega
  have hqt : ((N : Int) + 63).tdiv 64 = (q : Int) := by rw [Int.tdiv_eq_ediv_of_nonneg (by omega)]; exact hqi
  have hqk : q ≤ k := by omega
  have hqc : (q : Int) ≤ (c : Int) := by omega
  have hqc' : q ≤ c := by omega
  have hq16 : (q : Int) ≤ 16 := by omega
  have HQL : Hid ((xs.take q).length = q) := by show _ = _; rw [List.length_take]; omega
  have HX : Hid (∀ x ∈ xs.take q, x < 2 ^ 64) := fun y hy => hx y (List.mem_of_mem_take hy)
  have HS : Hid (Seen w B .u64 a (xs.take q)) := fun i x hi => by
    rw [List.getElem?_take] at hi
    split at hi
    · exact hS i x hi
    · cases hi
  have HB := Lib.hid hB
  have HQ := Lib.hid hq
  have HQM : Hid (q ≤ 1000000) := by show _ ≤ _; omega
  have HCR : Hid (Bm.Rt N (Bm.cut N (xs.take q))) := Bm.cut_right (by omega) (by rw [List.length_take]; omega) HX.out
  clear hk hd hN hm hmc hS hx hq hNk hn
  go_enter Tryd.func23, Tryd.ntmps23
  go_wp2
  have HX0 : Hid (Box ((w.alloc (.cells #[.int .i64 0, .slice none 0 0] 24)).alloc (.cells #[.int .i64 N, .slice none 0 0] 24)) w.heap.size (.int .i64 0) (.slice none 0 0) ∧ Box ((w.alloc (.cells #[.int .i64 0, .slice none 0 0] 24)).alloc (.cells #[.int .i64 N, .slice none 0 0] 24)) (w.heap.size + 1) (.int .i64 N) (.slice none 0 0)) := box2 w _ _ _ _
  have HB0 := Lib.hid (below2 w (.cells #[.int .i64 0, .slice none 0 0] 24) (.cells #[.int .i64 N, .slice none 0 0] 24))
  have HZ0 : Hid (((w.alloc (.cells #[.int .i64 0, .slice none 0 0] 24)).alloc (.cells #[.int .i64 N, .slice none 0 0] 24)).heap.size = w.heap.size + 2) := by show _ = _; simp
  obtain ⟨W, hW⟩ : ∃ W, (w.alloc (.cells #[.int .i64 0, .slice none 0 0] 24)).alloc (.cells #[.int .i64 N, .slice none 0 0] 24) = W := ⟨_, rfl⟩
  rw [hW] at HX0 HB0 HZ0 ⊢
  clear hW
  obtain ⟨b0, b1, b2, b3⟩ := HX0.out.2.cells
  have hw1 : IntKind.i64.wrap ((N : Int) + 63) = (N : Int) + 63 := by rw [IntKind.wrap_i64]; omega
  have hw2 : IntKind.i64.wrap (q : Int) = (q : Int) := by rw [IntKind.wrap_i64]; omega
  have hq0 : 0 ≤ (q : Int) := by omega
  have hqk2 : (q : Int) ≤ (k : Int) := by omega
  go_still_tail 8, (by kernel_rfl)
  change wpList _ _ _ _ _ W.drew
  clear hw1 hw2 hq0 hqk2 hki hk16 hkc hkc' hdi hd0 hN1 hN2 hwn hqi hqt hqk hqc hqc'
  refine wpList_append_nilW W.drew rfl _ _ rfl (w.heap.size + 1 + 1) rfl (by have := HZ0.out; show _ ≤ W.heap.size; omega) a q c (xs.take q) rfl HQL.out B (HS.out.below (HB0.out.mono HB.out).drew) HQM.out ?_
  intro v2 w3 hown3 hgrow3
  have hb3 : Below W.heap.size W w3 := (Below.refl _ W).drew.grown hgrow3 (Nat.le_refl _) (fun k e => by cases e)
  obtain ⟨a2, c2, rfl, hown3'⟩ := own_sliceW hown3
  have HO3 := Lib.hid hown3'
  have HB3 := Lib.hid (HB0.out.trans (hb3.mono HB0.out.size))
  have HX3 : Hid (Box w3 w.heap.size (.int .i64 0) (.slice none 0 0) ∧ Box w3 (w.heap.size + 1) (.int .i64 N) (.slice none 0 0)) := ⟨HX0.out.1.keep hb3, HX0.out.2.keep hb3⟩
  clear hown3 hown3' hgrow3 hb3 b0 b1 b2 b3
  obtain ⟨d0, d1, d2, d3⟩ := HX3.out.2.cells
  have HX4 : Hid (Box (w3.setCell ⟨w.heap.size + 1, 1, none⟩ (.slice a2 q c2)) w.heap.size (.int .i64 0) (.slice none 0 0) ∧ Box (w3.setCell ⟨w.heap.size + 1, 1, none⟩ (.slice a2 q c2)) (w.heap.size + 1) (.int .i64 N) (.slice a2 q c2)) := ⟨HX3.out.1.other (show w.heap.size ≠ w.heap.size + 1 by omega) _, HX3.out.2.set1 _⟩
  have HO4 : Hid ((w3.setCell ⟨w.heap.size + 1, 1, none⟩ (.slice a2 q c2)).ownsRow (w.heap.size + 1 + 1) 30 1 (.slice a2 q c2) q ((xs.take q).map fun x : Nat => Value.int .u64 x)) := ownsRow_setCell_below HO3.out (show w.heap.size + 1 < w.heap.size + 1 + 1 by omega) _
  have HB4 : Hid (Below w.heap.size w (w3.setCell ⟨w.heap.size + 1, 1, none⟩ (.slice a2 q c2))) := HB3.out.setCell (show w.heap.size ≤ w.heap.size + 1 by omega) _
  obtain ⟨e0, e1, e2, e3⟩ := HX4.out.1.cells
  obtain ⟨f0, f1, f2, f3⟩ := HX4.out.2.cells
  obtain ⟨u, hu⟩ : ∃ u, N % 64 = u := ⟨_, rfl⟩
  have hui : (N : Int) % 64 = (u : Int) := by omega
  have hut : (N : Int).tmod 64 = (u : Int) := by rw [Int.tmod_eq_emod_of_nonneg (by omega)]; exact hui
  by_cases hu0 : u = 0
  · have HE : Hid (Bm.cut N (xs.take q) = xs.take q) := by show _ = _; unfold Bm.cut; rw [if_pos (hu.trans hu0)]
    subst hu0
    obtain ⟨h0, h1, h2, h3⟩ := (HX4.out.1.set (.int .i64 N) (.slice a2 q c2)).cells
    clear hu
    go_wp2
    refine bodyPost_ret (v := .agg #[.int .i64 N, .slice a2 q c2]) (by simp [results, Tryd.results23, go_sem, h0, h1]) rfl ⟨a2, c2, q, _, rfl, HCR.out, ?_, ?_⟩
    · rw [HE.out]
      exact rebase (ownsRow_setCell_below (ownsRow_setCell_below HO4.out (show w.heap.size < w.heap.size + 1 + 1 by omega) _) (show w.heap.size < w.heap.size + 1 + 1 by omega) _) (by omega)
    · exact (HB4.out.setCell (Nat.le_refl _) _).setCell (Nat.le_refl _) _
  · have hup : (0 : Int) < (u : Int) := by omega
    obtain ⟨p, hp⟩ : ∃ p, q = p + 1 := ⟨q - 1, by have := HQ.out; omega⟩
    subst hp
    obtain ⟨g2, c2', hv⟩ := own_form HO4.out (by omega)
    injection hv with hv1 _ hv2
    subst hv1
    subst hv2
    have hpi : ((p + 1 : Nat) : Int) - 1 = (p : Int) := by omega
    have hpn : N / 64 = p := by have := HQ.out; omega
    obtain ⟨z, hz⟩ : ∃ z, (xs.take (p + 1))[p]? = some z := ⟨_, List.getElem?_eq_getElem (by rw [HQL.out]; omega)⟩
    have hz64 : z < 2 ^ 64 := HX.out z (List.mem_of_getElem? hz)
    have hcl : (w3.setCell ⟨w.heap.size + 1, 1, none⟩ (.slice (some ⟨g2, 0, none⟩) (p + 1) c2)).cell? ⟨g2, p, none⟩ = some (.int .u64 z) := by
      rw [HO4.out.cellAt p (by omega), List.getElem?_map, hz]; rfl
    have hfr : (w3.setCell ⟨w.heap.size + 1, 1, none⟩ (.slice (some ⟨g2, 0, none⟩) (p + 1) c2)).frozen? ⟨g2, p, none⟩ = false := by have := HO4.out.frozenAt p; simpa using this
    obtain ⟨y, hy⟩ : ∃ y, z % 2 ^ u = y := ⟨_, rfl⟩
    have hu64 : u < 64 := by omega
    have hyi : bits .and .u64 (z : Int) (IntKind.u64.wrap (IntKind.u64.wrap ((2 : Int) ^ u) - 1)) = (y : Int) := by
      have hp2 : 2 ^ u < 2 ^ 64 := Nat.pow_lt_pow_right (by decide) hu64
      have hp1 : 0 < 2 ^ u := Nat.pow_pos (by decide)
      rw [shl1 hu64]
      have e : IntKind.u64.wrap (((2 ^ u : Nat) : Int) - 1) = ((2 ^ u - 1 : Nat) : Int) := by rw [IntKind.wrap_u64]; generalize 2 ^ u = P at hp1 hp2 ⊢; omega
      rw [e, bits_and_u64_nat z _ hz64 (by omega), Nat.and_two_pow_sub_one_eq_mod, hy]
    have HE : Hid (Bm.cut N (xs.take (p + 1)) = (xs.take (p + 1)).set p y) := by
      show _ = _
      unfold Bm.cut
      rw [if_neg (by omega), hpn, hu, List.getD_eq_getElem?_getD, hz, Option.getD_some, hy]
    have hui2 : (u : Int) < 64 := by omega
    have hg2 : w.heap.size + 1 + 1 ≤ g2 := (HO4.out.lt g2 rfl).1
    have HG2 := Lib.hid hg2
    have hg2a : ¬ g2 = w.heap.size := by omega
    have hg2b : ¬ g2 = w.heap.size + 1 := by omega
    have HO5 := Lib.hid (HO4.out.stored p (.int .u64 y)).1
    have HX5 := Lib.hid (HX4.out.1.other (p := ⟨g2, p, none⟩) (show w.heap.size ≠ g2 by omega) (.int .u64 y))
    have HX6 := Lib.hid (HX4.out.2.other (p := ⟨g2, p, none⟩) (show w.heap.size + 1 ≠ g2 by omega) (.int .u64 y))
    clear hu hu0 hpn hz hz64 hy hu64
    go_wp2
    obtain ⟨W4, hW4⟩ : ∃ W4, w3.setCell ⟨w.heap.size + 1, 1, none⟩ (.slice (some ⟨g2, 0, none⟩) (p + 1) c2) = W4 := ⟨_, rfl⟩
    rw [hW4] at HO5 HX5 HX6 HX4 HO4 HB4 hcl hfr e0 e1 e2 e3 f0 f1 f2 f3 ⊢
    clear hW4
    have hwp : IntKind.i64.wrap (p : Int) = (p : Int) := by rw [IntKind.wrap_i64]; omega
    have hwu : IntKind.i64.wrap (u : Int) = (u : Int) := by rw [IntKind.wrap_i64]; omega
    have hp0 : 0 ≤ (p : Int) := by omega
    have hpp : (p : Int) < ((p + 1 : Nat) : Int) := by omega
    have hpp' : p < p + 1 := by omega
    have hu00 : 0 ≤ (u : Int) := by omega
    have hp6 : (p : Int) ≤ 16 := by omega
    go_region
    have HB5 : Hid (Below w.heap.size w ((W4.setCell ⟨g2, p, none⟩ (.int .u64 y)).drew)) := (HB4.out.setCell (show w.heap.size ≤ g2 by omega) _).drew
    have HO6 : Hid ((W4.setCell ⟨g2, p, none⟩ (.int .u64 y)).drew.ownsRow (w.heap.size + 1 + 1) 30 1 (.slice (some ⟨g2, 0, none⟩) (p + 1) c2) (p + 1) (((xs.take (p + 1)).set p y).map fun x : Nat => Value.int .u64 x)) := by
      have h := HO5.out
      rw [← List.map_set] at h
      exact h.drew
    have HX7 : Hid (Box ((W4.setCell ⟨g2, p, none⟩ (.int .u64 y)).drew) w.heap.size (.int .i64 0) (.slice none 0 0)) := HX5.out.drew
    have HX8 : Hid (Box ((W4.setCell ⟨g2, p, none⟩ (.int .u64 y)).drew) (w.heap.size + 1) (.int .i64 N) (.slice (some ⟨g2, 0, none⟩) (p + 1) c2)) := HX6.out.drew
    obtain ⟨W5, hW5⟩ : ∃ W5, (W4.setCell ⟨g2, p, none⟩ (.int .u64 y)).drew = W5 := ⟨_, rfl⟩
    rw [hW5] at HB5 HO6 HX7 HX8 ⊢
    clear hW5 hcl hfr e0 e1 e2 e3 f0 f1 f2 f3
    obtain ⟨e0, e1, e2, e3⟩ := HX7.out.cells
    obtain ⟨f0, f1, f2, f3⟩ := HX8.out.cells
    obtain ⟨h0, h1, h2, h3⟩ := (HX7.out.set (.int .i64 N) (.slice (some ⟨g2, 0, none⟩) (p + 1) c2)).cells
    go_wp2
    refine bodyPost_ret (v := .agg #[.int .i64 N, .slice (some ⟨g2, 0, none⟩) (p + 1) c2]) (by simp [results, Tryd.results23, go_sem, h0, h1]) rfl ⟨_, c2, p + 1, _, rfl, HCR.out, ?_, ?_⟩
    · rw [HE.out]
      exact rebase (ownsRow_setCell_below (ownsRow_setCell_below HO6.out (show w.heap.size < w.heap.size + 1 + 1 by omega) _) (show w.heap.size < w.heap.size + 1 + 1 by omega) _) (by omega)
    · exact (HB5.out.setCell (Nat.le_refl _) _).setCell (Nat.le_refl _) _
end Go.Proofs.YtkochcolmkgkgaaDoor
