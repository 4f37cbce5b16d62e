/-
  grow.
-/
import Derived.Test.YtljodpdplmhdnaaRemS
namespace Go.Proofs.Ytljodpdplmhdnaa
namespace RS
open Go.RowKit
attribute [local go_sem] Oper.semAt_some
set_option linter.unusedVariables false

def zs (m : Nat) : List RV := List.replicate m (⟨#[]⟩, 0)
theorem zeros_flat (m : Nat) : (madeCells (Value.agg #[(.string ⟨#[]⟩), .int .i64 0]).cells (m * 2)).toList = flatR (zs m) := by
  have hc : (Value.agg #[(.string ⟨#[]⟩), .int .i64 0]).cells = #[(.string ⟨#[]⟩), .int .i64 0] := by kernel_rfl
  rw [hc]
  unfold madeCells zs
  apply List.ext_getElem?
  intro i
  by_cases hi : i < m * 2
  · have h1 : ((Array.range (m * 2)).map (#[(.string ⟨#[]⟩), .int .i64 0][· % #[(.string ⟨#[]⟩), Value.int .i64 0].size]!)).toList[i]? = some (#[(.string ⟨#[]⟩), Value.int .i64 0][i % 2]!) := by
      simp [hi]
    rw [h1]
    rcases Nat.mod_two_eq_zero_or_one i with h | h
    · have e : i = i / 2 * 2 := by omega
      have h2 := flatR_fst (List.replicate m (⟨#[]⟩, 0)) (i / 2) (⟨#[]⟩, 0) (by rw [List.getElem?_replicate, if_pos (by omega)])
      rw [← e] at h2
      rw [h2, h]
      rfl
    · have e : i = i / 2 * 2 + 1 := by omega
      have h2 := flatR_snd (List.replicate m (⟨#[]⟩, 0)) (i / 2) (⟨#[]⟩, 0) (by rw [List.getElem?_replicate, if_pos (by omega)])
      rw [← e] at h2
      rw [h2, h]
      rfl
  · rw [List.getElem?_eq_none (by simp; omega), List.getElem?_eq_none (by rw [flatR_len, List.length_replicate]; omega)]
theorem pat_own {B : Nat} {t : TypeId} {g m : Nat} {F : List Nat → Nat → RV} : OwnFrom B (fun (pre : List Nat) W => PAt W t g m (F pre)) := fun s W W' row hs hg hr => by
  obtain ⟨cur, h1, h2⟩ := hs
  refine ⟨cur, (hg.block g (Array.getElem?_eq_some_iff.1 h1).1 fun e => ?_).trans h1, h2⟩
  obtain ⟨_, o, ho, hc⟩ := hr g e.symm
  rw [h1] at ho
  cases ho
  cases hc
theorem upd_getD (l : List RV) (y z : RV) : Rg.upd (fun i => l.getD i z) l.length y = fun i => (l ++ [y]).getD i z := by
  funext i
  unfold Rg.upd
  by_cases h : i = l.length
  · subst h; simp
  · rw [if_neg h]
    simp only [List.getD_eq_getElem?_getD]
    by_cases h2 : i < l.length
    · rw [List.getElem?_append_left h2]
    · rw [List.getElem?_eq_none (by omega), List.getElem?_eq_none (by simp; omega)]
theorem size_own {B n : Nat} : OwnFrom B (fun (_ : List Nat) W => n ≤ W.heap.size) := fun _ W W' row hs hg _ => Nat.le_trans hs hg.size
section
variable (w : World) (B : Nat) (a : Option Addr) (L : Nat) (ps : Nat → RV) (cap f op ac rf : Nat) (hA : At w B a L ps cap f L op ac rf) (hLc : L < cap) (m : Nat) (hm : min cap (max 8 (2 * L)) = m)
include hA hLc hm
set_option maxRecDepth 100000 in
set_option maxHeartbeats 4000000 in
theorem grow_in : CallsIn Fence.wide 9 Try.prog 57 #[.pointer (some ⟨B, 0, none⟩)] w fun e w' => e = .returned (.tuple #[]) ∧ ∃ P, w.heap.size ≤ P ∧ At w' B (some ⟨P, 0, none⟩) m (fun i => (Rg.sl ps L f L).getD i (⟨#[]⟩, 0)) cap 0 L op ac rf ∧ Chg (RS B a) w w' := by
  refine callsIn_of_wp_marks Try.func57 rfl trivial ?_ rfl
  simp only [Try.ntmps57, List.size_toArray, List.length_cons, List.length_nil, Nat.reduceAdd, Nat.reduceSub, Array.replicate_succ, Array.replicate_zero, List.push_toArray, List.append_toArray, List.nil_append, List.cons_append]
  obtain ⟨i0, hi, hz0, hz1, hz2⟩ := info_parts infoR
  obtain ⟨c0, c1, c2, c3, c4, c5, c6⟩ := hA.box.cells
  have hcb := hA.capM
  obtain ⟨x, hx⟩ : ∃ x, max 8 (2 * L) = x := ⟨_, rfl⟩
  have hxi : (if (8 : Int) < 2 * (L : Int) then 2 * (L : Int) else 8) = (x : Int) := by split <;> omega
  have hmi : (if (x : Int) < (cap : Int) then (x : Int) else (cap : Int)) = (m : Int) := by split <;> omega
  have hmi2 : (if x < cap then (x : Int) else (cap : Int)) = (m : Int) := by split <;> omega
  have hm2 : IntKind.i64.wrap (2 * (L : Int)) = 2 * (L : Int) := by rw [IntKind.wrap_i64]; omega
  have HMI : Hid ((m : Int) ≤ 65536) := by show _ ≤ _; omega
  have HMC : Hid (m ≤ cap) := by show _ ≤ _; omega
  have HLM : Hid (L < m) := by show _ < _; omega
  have HA := Lib.hid hA
  obtain ⟨WA, hrA, hoA, hgA⟩ := run_make_full (P := Try.prog) w.drew w.heap.size 73 77 i0 (.agg #[(.string ⟨#[]⟩), .int .i64 0]) 2 Try.underlying73 hi hz0 hz1 .i64 .i64 m (by rw [hz2]; have := HMI.out; omega) (by unfold maxLen; have := HMI.out; omega) (Nat.le_refl _)
  obtain ⟨WB, hrB, hoB, hgB⟩ := run_make_full (P := Try.prog) (w.alloc (.cells #[.slice none 0 0] 73)).drew (w.heap.size + 1) 73 77 i0 (.agg #[(.string ⟨#[]⟩), .int .i64 0]) 2 Try.underlying73 hi hz0 hz1 .i64 .i64 m (by rw [hz2]; have := HMI.out; omega) (by unfold maxLen; have := HMI.out; omega) (by show _ ≤ (w.alloc _).heap.size; simp)
  have hbB' : Below (w.heap.size + 1) (w.alloc (.cells #[.slice none 0 0] 73)) WB := by
    have t := below_own hgB (base := w.heap.size + 1) (fun g e => by cases e) (by show _ ≤ (w.alloc _).heap.size; simp)
    exact ⟨t.os, t.tape, t.output, t.size, t.block⟩
  have hXB : Boxed WB w.heap.size 73 (.slice none 0 0) := (hbB'.block w.heap.size (Nat.lt_succ_self _)).trans (Boxed.new w _ _)
  have xc := hXB.cell
  have xf := hXB.frozen
  have HKC : Hid (∀ W : World, Below w.heap.size w W → W.cell? ⟨B, 0, none⟩ = some (.int .i64 cap) ∧ W.cell? ⟨B, 1, none⟩ = some (.slice a L L)) := fun W hW => ⟨(hW.cell (p := ⟨B, 0, none⟩) HA.out.box.lt).trans c0, (hW.cell (p := ⟨B, 1, none⟩) HA.out.box.lt).trans c1⟩
  have HB0 : Hid (Below w.heap.size w (w.alloc (.cells #[.slice none 0 0] 73)).drew) := (show Below w.heap.size w (w.alloc _).drew from Below.drew ((Below.refl _ w).alloc (Nat.le_refl _) _))
  have HBA : Hid (Below w.heap.size w WA) := below_of_drew (below_own hgA (base := w.heap.size) (fun g e => by cases e) (Nat.le_refl _))
  have HBA1 : Hid (Below w.heap.size w (WA.alloc (.cells #[.slice none 0 0] 73))) := HBA.out.alloc HBA.out.size _
  have HBA2 : Hid (Below w.heap.size w (WA.alloc (.cells #[.slice (some ⟨w.heap.size, 0, none⟩) m m] 73))) := HBA.out.alloc HBA.out.size _
  have HBB : Hid (Below w.heap.size w WB) := ((Below.refl _ w).alloc (Nat.le_refl _) _).trans (hbB'.mono (Nat.le_succ _))
  have HBB2 : Hid (Below w.heap.size w (WB.setCell ⟨w.heap.size, 0, none⟩ (.slice (some ⟨w.heap.size + 1, 0, none⟩) m m))) := HBB.out.setCell (p := ⟨w.heap.size, 0, none⟩) (Nat.le_refl _) _
  have HOA := Lib.hid hoA
  have HOB : Hid (WB.ownsRow (w.heap.size + 1) 77 2 (.slice (some ⟨w.heap.size + 1, 0, none⟩) m m) m (madeCells (Value.agg #[(.string ⟨#[]⟩), .int .i64 0]).cells (m * 2)).toList) := by
    have t := hoB
    rw [show (w.alloc (.cells #[.slice none 0 0] 73)).drew.heap.size = w.heap.size + 1 by show (w.alloc _).heap.size = _; simp] at t
    exact t
  have HXB := Lib.hid hXB
  clear hA hcb hx hLc hm hgA hgB hoA hoB hbB' hXB
  refine wpIn_wide.2 ?_
  go_wp2
  go_cut [2, 17] from 2 to 17 (fun s2 s17 wx => ∃ b g : Nat, s2 = .pointer (some ⟨b, 0, none⟩) ∧ Hid (Boxed wx b 73 (.slice (some ⟨g, 0, none⟩) m m)) ∧ Hid (wx.ownsRow w.heap.size 77 2 (.slice (some ⟨g, 0, none⟩) m m) m (madeCells (Value.agg #[(.string ⟨#[]⟩), .int .i64 0]).cells (m * 2)).toList) ∧ Hid (w.heap.size ≤ b) ∧ Hid (w.heap.size ≤ g) ∧ Hid (Below w.heap.size w wx))
  case first =>
    go_region_held3 (fun W => W.cell? ⟨B, 0, none⟩ = some (.int .i64 cap) ∧ W.cell? ⟨B, 1, none⟩ = some (.slice a L L)) (first
      | exact ⟨c0, c1⟩
      | with_reducible exact HKC.out _ HB0.out
      | with_reducible exact HKC.out _ HBA.out
      | with_reducible exact HKC.out _ HBA1.out
      | with_reducible exact HKC.out _ HBA2.out
      | with_reducible exact HKC.out _ HBB.out
      | with_reducible exact HKC.out _ HBB2.out) (first
      | fail)
    all_goals
      go_wp2
      go_meet
      first
        | exact ⟨_, _, rfl, Lib.hid (Boxed.new WA _ _), Lib.hid (HOA.out.alloc _), HBA.out.size, Nat.le_refl _, HBA2⟩
        | exact ⟨_, _, rfl, Lib.hid (HXB.out.set _), Lib.hid (rebase (ownsRow_setCell_below HOB.out (a := ⟨w.heap.size, 0, none⟩) (Nat.lt_succ_self _) _) (Nat.le_succ _)), Nat.le_refl _, Nat.le_succ _, HBB2⟩
  case rest =>
    obtain ⟨b, g, rfl, HXb, HRg, HbL, HgL, HBx⟩ := hcut
    have HAx := Lib.hid (HA.out.below HBx.out)
    clear c0 c1 c2 c3 c4 c5 c6 xc xf
    have hXi := Boxed.new wc 3 (.int .i64 0)
    have HBi : Hid (Below w.heap.size w (wc.alloc (.cells #[.int .i64 0] 3))) := HBx.out.alloc HBx.out.size _
    have HAi := Lib.hid (HA.out.below HBi.out)
    obtain ⟨c0, c1, c2, c3, c4, c5, c6⟩ := HAi.out.box.cells
    have HXbi := Lib.hid (HXb.out.alloc (.cells #[.int .i64 0] 3))
    have HRgi := Lib.hid (HRg.out.alloc (.cells #[.int .i64 0] 3))
    have HXi := Lib.hid hXi
    clear hXi
    go_wp2_with (go_at_call 64; (with_reducible refine (slots_boxes B L _).mono ?_); rintro e w1 ⟨rfl, h1, h2, h3⟩; simp only [World.size_alloc] at h1 h2; have HBR1 := Lib.hid h1; have HBN1 := Lib.hid h2; have HB1 := Lib.hid (HBi.out.trans (h3.mono HBi.out.size)); have HA1 := Lib.hid (HAi.out.below h3); have HXb1 : Hid (Boxed w1 b 73 (.slice (some ⟨g, 0, none⟩) m m)) := (h3.block b HXbi.out.lt).trans HXbi.out; have HXi1 : Hid (Boxed w1 wc.heap.size 3 (.int .i64 0)) := (h3.block wc.heap.size HXi.out.lt).trans HXi.out; have HRg1 := Lib.hid (row_keep HRgi.out (Chg.of_below (fun _ => False) h3) (fun _ h => h.elim)); have HW1 : Hid (wc.heap.size + 1 ≤ w1.heap.size) := (by have t := h3.size; rw [World.size_alloc] at t; exact t); clear h1 h2 h3 c0 c1 c2 c3 c4 c5 c6)
    have HST := Lib.hid (slots_stops w1 B a L ps cap f L op ac rf HA1.out L (Nat.le_refl _) (wc.heap.size + 1) (wc.heap.size + 1 + 1) HBR1.out HBN1.out)
    have hgc : g < wc.heap.size := by
      rcases HRg.out.2 with ⟨h, _⟩ | ⟨g', cap', cur, hv, _, hh, _⟩
      · cases h
      · cases hv; exact (Array.getElem?_eq_some_iff.1 hh).1
    have hSS : ∀ k, SS B a (wc.heap.size + 1) (wc.heap.size + 1 + 1) k → k < w1.heap.size ∧ k ≠ g ∧ k ≠ wc.heap.size := by
      have hwc := HBx.out.size
      have hg0 := HgL.out
      rintro k (h | rfl | rfl)
      · have := HA.out.size k h
        exact ⟨HA1.out.size k h, by omega, by omega⟩
      · exact ⟨HBR1.out.lt, by omega, by omega⟩
      · exact ⟨HBN1.out.lt, by omega, by omega⟩
    have hP0 : PAt w1 77 g m (fun i => ((([] : List Nat).map (pl ps L f))).getD i (⟨#[]⟩, 0)) := by
      have t := HRg1.out
      rw [zeros_flat] at t
      have t2 := PAt.of_own t (by simp [zs]) (⟨#[]⟩, 0)
      have e : (fun i => (zs m).getD i (⟨#[]⟩, 0)) = (fun i => ((([] : List Nat).map (pl ps L f))).getD i (⟨#[]⟩, 0)) := by
        funext i
        simp only [zs, List.getD_eq_getElem?_getD, List.getElem?_replicate, List.map_nil, List.getElem?_nil]
        split <;> rfl
      rw [e] at t2
      exact t2
    have hbg : b ≠ g := fun e => HXb.out.not_row (by decide) HRg.out (by rw [e]; rfl)
    have hbc := HXb.out.lt
    have HBG := Lib.hid hbg
    have HBC : Hid (b < wc.heap.size) := hbc
    have HSS := Lib.hid hSS
    clear hbg hbc
    refine (wpIn_wide (n := 9)).1 ?_
    refine wpIn_rangeFunc_ownH rfl (by decide) (gf := 68) (lb := #[.pointer (some ⟨wc.heap.size + 1 + 1, 0, none⟩), .pointer (some ⟨wc.heap.size + 1, 0, none⟩)]) rfl trivial (enters_of Try.func68 (by kernel_rfl) rfl)
      HST.out (fun h k => h.trans k) (fun W l o o' hl _ _ _ => KS.put fun k hk => by have := (hSS k hk).1; omega) (Below.refl _ _) (fun _ => rfl)
      (fun pre W => (Boxed W b 73 (.slice (some ⟨g, 0, none⟩) m m) ∧ Boxed W wc.heap.size 3 (.int .i64 pre.length)) ∧ PAt W 77 g m (fun i => (pre.map (pl ps L f)).getD i (⟨#[]⟩, 0)) ∧ Below w.heap.size w W ∧ w1.heap.size ≤ W.heap.size)
      (fun _ _ _ => False)
      (OwnFrom.and (OwnFrom.and (Own.from (boxed_own b _ (fun _ : List Nat => .slice (some ⟨g, 0, none⟩) m m)) _) (Own.from (boxed_own wc.heap.size _ (fun pre : List Nat => .int .i64 pre.length)) _)) (OwnFrom.and (pat_own (F := fun pre i => (pre.map (pl ps L f)).getD i (⟨#[]⟩, 0))) (OwnFrom.and (ownFrom_below (Nat.le_refl _) HB1.out.size) size_own)))
      (fun _ _ _ _ _ hs _ _ => hs)
      ⟨⟨HXb1.out, HXi1.out⟩, hP0, HB1.out, Nat.le_refl _⟩
      (fun x a' W => ∃ q, a' = { tmps := #[.pointer (some ⟨B, 0, none⟩), undef, .pointer (some ⟨b, 0, none⟩), .pointer (some ⟨wc.heap.size, 0, none⟩), .pointer (some ⟨q, 0, none⟩), u5, u6, u7, u8, u9, u10, u11, u12, u13, u14, u15, u16, u17, .pointer (some ⟨B, 0, none⟩), .pointer (some ⟨B, 0, none⟩), .pointer (some ⟨B, 0, none⟩), .pointer (some ⟨B, 3, none⟩), .int .i64 L, .func (.func 68) #[] #[.pointer (some ⟨wc.heap.size + 1 + 1, 0, none⟩), .pointer (some ⟨wc.heap.size + 1, 0, none⟩)], .agg #[.string ((pl ps L f x).1), .int .i64 (pl ps L f x).2], undef, undef, undef, undef, undef, undef, undef, undef, undef, undef, undef, undef, undef], defers := [] } ∧ VarAt W q (pl ps L f x))
      (fun x a' s W W' row hs hg hr => by
        obtain ⟨q, h1, h2⟩ := hs
        refine ⟨q, h1, (hg.block q (Array.getElem?_eq_some_iff.1 h2).1 fun e => ?_).trans h2⟩
        obtain ⟨_, o, ho, hc⟩ := hr q e.symm
        rw [show W.heap[q]? = _ from h2] at ho
        cases ho
        cases hc)
      ?assign ?body ?done ?stop
    case assign =>
      intro l pre x W K hI hK
      have he : encR ps L f x = #[.agg #[.string ((pl ps L f x).1), .int .i64 (pl ps L f x).2]] := rfl
      rw [he]
      obtain ⟨y, hy⟩ : ∃ y, pl ps L f x = y := ⟨_, rfl⟩
      rw [hy] at hK ⊢
      gi_wp2
      have hbk : Below W.heap.size W (W.alloc (.cells #[.string y.1, .int .i64 y.2] 77)) := (Below.refl _ W).alloc (Nat.le_refl _) _
      obtain ⟨⟨hX1, hX2⟩, hP, hB', hS'⟩ := hI
      exact hK _ _ ((KeepsOthers.alloc W _).from _) (KS.below hbk fun k hk => Nat.lt_of_lt_of_le (HSS.out k hk).1 hS') ⟨⟨hX1.alloc _, hX2.alloc _⟩, hP.same (hbk.block g hP.lt), hB'.alloc hB'.size _, Nat.le_trans hS' hbk.size⟩ ⟨W.heap.size, rfl, VarAt.new W y⟩
    case body =>
      rintro l pre x a' W _ _ ⟨⟨hX1, hX2⟩, hP, hB', hS'⟩ ⟨q, rfl, hva⟩ hlt
      have hpm : pre.length < m := by have := HLM.out; omega
      have hx2 := hX2.cell
      have x1 := hX1.cell
      have x3 := hX2.frozen
      obtain ⟨e0, e1⟩ := hva.cells
      obtain ⟨r0, r1, r2, r3⟩ := hP.at hpm
      have HPu := Lib.hid (hP.put hpm (pl ps L f x))
      have HL1 := Lib.hid hlt
      obtain ⟨y, hy⟩ : ∃ y, pl ps L f x = y := ⟨_, rfl⟩
      have HY := Lib.hid hy
      rw [hy] at e0 e1 HPu
      rw [hy]
      obtain ⟨k, hkk⟩ : ∃ k, pre.length = k := ⟨_, rfl⟩
      have HKK := Lib.hid hkk
      rw [hkk] at hx2 r0 r1 r2 r3 HPu hpm HL1
      have hpm2 : (k : Int) < (m : Int) := by omega
      have hpm0 : (0 : Int) ≤ (k : Int) := by omega
      have hw1 : IntKind.i64.wrap ((k : Int) + 1) = (k : Int) + 1 := by rw [IntKind.wrap_i64]; have := HMI.out; omega
      have HX1 := Lib.hid hX1
      have HX2 := Lib.hid hX2
      have HP := Lib.hid hP
      have HB' := Lib.hid hB'
      have HGC := Lib.hid hgc
      have hne : ¬ g = wc.heap.size := by omega
      have hne2 : ¬ wc.heap.size = g := by omega
      clear hva hkk hy hlt hX1 hX2 hP hB' hgc
      gi_wp2
      have hfn : Rg.upd (fun i => (pre.map (pl ps L f)).getD i (⟨#[]⟩, 0)) k y = fun i => ((pre ++ [x]).map (pl ps L f)).getD i (⟨#[]⟩, 0) := by
        have t := upd_getD (pre.map (pl ps L f)) y (⟨#[]⟩, 0)
        rw [List.length_map, HKK.out] at t
        rw [t, List.map_append, ← HY.out]
        rfl
      have hPn := HPu.out
      rw [hfn] at hPn
      refine ⟨(((KeepsOthers.setCell _ _ _).trans (KeepsOthers.setCell _ _ _)).trans (KeepsOthers.setCell _ _ _)).from _, fun j hj => ?_, ⟨?_, ?_⟩, hPn.same (set_other (fun e => hne e)), ?_, ?_⟩
      · obtain ⟨_, h1, h2⟩ := HSS.out j hj
        exact (set_other h2).trans ((set_other h1).trans (set_other h1))
      · exact ((set_other (by have := HBC.out; show b ≠ wc.heap.size; omega)).trans ((set_other HBG.out).trans (set_other HBG.out))).trans HX1.out
      · have t : Boxed ((W.setCell ⟨g, k * 2, none⟩ (.string y.1)).setCell ⟨g, k * 2 + 1, none⟩ (.int .i64 y.2)) wc.heap.size 3 (.int .i64 pre.length) := ((set_other hne2).trans (set_other hne2)).trans HX2.out
        have t2 := t.set (.int .i64 ((k : Int) + 1))
        rw [show (((pre ++ [x]).length : Nat) : Int) = (k : Int) + 1 by rw [List.length_append, HKK.out]; rfl]
        exact t2
      · exact ((HB'.out.setCell (p := ⟨g, k * 2, none⟩) HgL.out _).setCell (p := ⟨g, k * 2 + 1, none⟩) HgL.out _).setCell (p := ⟨wc.heap.size, 0, none⟩) HBx.out.size _
      · simpa [World.setCell] using hS'
    case done =>
      rintro D ys W hD rfl ⟨⟨hX1, hX2⟩, hP, hB', hS'⟩ hK
      have x1 := hX1.cell
      have HAW := Lib.hid (HA.out.below hB')
      obtain ⟨c0, c1, c2, c3, c4, c5, c6⟩ := HAW.out.box.cells
      have f1 := HAW.out.box.free 1
      have f2 := HAW.out.box.free 2
      go_wp2
      have hDB : D ≠ B := by have := HA1.out.box.lt; omega
      have hKf := ((set_other (w := W.setCell ⟨B, 1, none⟩ (.slice (some ⟨g, 0, none⟩) m m)) (p := ⟨B, 2, none⟩) (v := .int .i64 0) hDB).trans (set_other (w := W) (p := ⟨B, 1, none⟩) (v := .slice (some ⟨g, 0, none⟩) m m) hDB)).trans hK
      refine ⟨by simp, .inl ⟨_, _, rfl, run_takeDeferred hKf, ?_⟩⟩
      refine ⟨_, results_none rfl _ _ _, rfl, g, HgL.out, ?_, ?_⟩
      · have hgB : g ≠ B := by have := HA.out.box.lt; have := HgL.out; omega
        have hgD : g ≠ D := by have := HW1.out; omega
        refine ⟨?_, .inr ⟨by have := HLM.out; omega, g, rfl, hgB, ?_⟩, HA.out.cap0, HA.out.capM, ?_, Nat.zero_le _, Nat.le_of_lt HLM.out, HA.out.ho⟩
        · exact ((HAW.out.box.set1 (.slice (some ⟨g, 0, none⟩) m m)).set2 0).same (World.putObj_heap_other (fun e => hDB e.symm))
        · exact hP.same ((World.putObj_heap_other hgD).trans ((set_other hgB).trans (set_other hgB)))
        · exact HMC.out
      · have t := ((Chg.of_below (RS B a) (hB'.mono (Nat.le_refl _))).setCell (p := ⟨B, 1, none⟩) (.inl rfl) (.slice (some ⟨g, 0, none⟩) m m)).setCell (p := ⟨B, 2, none⟩) (.inl rfl) (.int .i64 0)
        exact t.belowN (belowK_b (w := w) (Nat.le_refl _) _ D _ _ (by have := HB1.out.size; omega) hKf rfl rfl)
    case stop =>
      rintro D c pre W _ _ h _
      exact h.elim
theorem grow_any : Calls Try.prog 57 #[.pointer (some ⟨B, 0, none⟩)] w fun e w' => e = .returned (.tuple #[]) ∧ ∃ P, w.heap.size ≤ P ∧ At w' B (some ⟨P, 0, none⟩) m (fun i => (Rg.sl ps L f L).getD i (⟨#[]⟩, 0)) cap 0 L op ac rf ∧ Chg (RS B a) w w' :=
  (callsIn_wide (n := 9)).1 (grow_in w B a L ps cap f op ac rf hA hLc m hm)
end
end RS
end Go.Proofs.Ytljodpdplmhdnaa
