/-
  What borders yields.
-/
import Derived.Test.YthamilolacfeoaaBordQ
namespace Go.Proofs.Ythamilolacfeoaa
open Go.RowKit Sq
attribute [local go_sem] Oper.semAt_some
set_option linter.unusedVariables false

theorem st_in {a b : Rs} (ha : Rt a) (hb : Rt b) {K n m x y : Nat} (hN : ∀ i, i < K → ¬ Sq.Fin a b i) (t : Nat) (h : t < K) (hn : a.length = n) (hm : b.length = m) (hs : st a b (t + 1) = (x, y)) : x ≤ 2 * n ∧ y ≤ 2 * m := by
  obtain ⟨⟨p, hw⟩, _⟩ := walk_all ha.2 hb.2 (t + 1) fun i hi => hN i (by omega)
  have h1 := hw.la
  have h2 := hw.lb
  rw [hs] at h1 h2
  exact ⟨by rw [← hn]; exact h1, by rw [← hm]; exact h2⟩
section
variable (a1 a2 : Option Addr) (n m c1 c2 : Nat) (a b : Rs) (hn : a.length = n) (hm : b.length = m) (ha : Rt a) (hb : Rt b) (w : World) (B : Nat) (hS1 : SeenR w B a1 a) (hS2 : SeenR w B a2 b) (p1 p2 : Nat) (hp1 : Boxed w p1 22 (.slice a1 n c1)) (hp2 : Boxed w p2 22 (.slice a2 m c2)) (hB : B ≤ w.heap.size) (K : Nat) (hK : Sq.Fin a b K) (hN : ∀ i, i < K → ¬ Sq.Fin a b i)
include hn hm ha hb hS1 hS2 hp1 hp2 hB hK hN

set_option maxRecDepth 100000 in
set_option maxHeartbeats 8000000 in
theorem borders_stops :
    SeqStopsK Fence.wide 8 Try.prog 71 #[.pointer (some ⟨p1, 0, none⟩), .pointer (some ⟨p2, 0, none⟩)] (encB a b) (KS (SS B p1 p2)) (fun l => l = List.range K) (fun _ => True) K w := fun l J Jx W hW hJ hJx hY h0 => by
  have HNA := Lib.hid hn
  have HNB := Lib.hid hm
  have HA : Hid (Rt a) := ha
  have HB' : Hid (Rt b) := hb
  have HS1 : Hid (SeenR W B a1 a) := hS1.below (hW.mono hB)
  have HS2 : Hid (SeenR W B a2 b) := hS2.below (hW.mono hB)
  have HP1 : Hid (Boxed W p1 22 (.slice a1 n c1)) := (hW.block p1 hp1.lt).trans hp1
  have HP2 : Hid (Boxed W p2 22 (.slice a2 m c2)) := (hW.block p2 hp2.lt).trans hp2
  have HB : Hid (B ≤ W.heap.size) := Nat.le_trans hB hW.size
  have HK : Hid (Sq.Fin a b K) := hK
  have HN : Hid (∀ i, i < K → ¬ Sq.Fin a b i) := hN
  have H0 := Lib.hid h0
  have hn6 : (n : Int) ≤ 65536 := by have := ha.1; omega
  have hm6 : (m : Int) ≤ 65536 := by have := hb.1; omega
  have hw1 : IntKind.i64.wrap (2 * (n : Int)) = 2 * (n : Int) := wrap_i (by omega) (by omega)
  have hw2 : IntKind.i64.wrap (2 * (m : Int)) = 2 * (m : Int) := wrap_i (by omega) (by omega)
  clear hn hm ha hb hS1 hS2 hp1 hp2 hB hK hN h0
  refine callsIn_of_wp Try.func71 rfl trivial ?_ rfl
  simp only [Try.ntmps71, List.size_toArray, List.length_cons, List.length_nil, Nat.reduceAdd, Nat.reduceSub, Array.replicate_succ, Array.replicate_zero, List.push_toArray, List.append_toArray, List.nil_append, List.cons_append]
  gi_wp2
  gi_loopw [4, 5] (fun iv jv wr => ∃ t x y : Nat, t ≤ K ∧ iv = .int .i64 x ∧ jv = .int .i64 y ∧ Hid (st a b t = (x, y)) ∧ Hid (J (List.range t) wr) ∧ Hid (KS (SS B p1 p2) W wr)) (fun i j _ => 2 * n + 2 * m - ((intOf i).toNat + (intOf j).toNat))
  case atStart => exact ⟨0, 0, 0, Nat.zero_le _, rfl, rfl, rfl, H0, KS.refl _ _⟩
  case round =>
    obtain ⟨t, x, y, ht, rfl, rfl, HST, HJt, HKS⟩ := hrel
    obtain ⟨⟨p, hwalk⟩, _⟩ := walk_all HA.out.2 HB'.out.2 t fun i hi => HN.out i (by omega)
    have hx2 : x ≤ 2 * n := by have := hwalk.la; rw [HST.out, HNA.out] at this; exact this
    have hy2 : y ≤ 2 * m := by have := hwalk.lb; rw [HST.out, HNB.out] at this; exact this
    have HX2 := Lib.hid hx2
    have HY2 := Lib.hid hy2
    have HP1r : Hid (Boxed wr p1 22 (.slice a1 n c1)) := (HKS.out p1 (.inr (.inl rfl))).trans HP1.out
    have HP2r : Hid (Boxed wr p2 22 (.slice a2 m c2)) := (HKS.out p2 (.inr (.inr rfl))).trans HP2.out
    have HS1r : Hid (SeenR wr B a1 a) := HKS.out.seen HS1.out
    have HS2r : Hid (SeenR wr B a2 b) := HKS.out.seen HS2.out
    have cp1 := HP1r.out.cell
    have cp2 := HP2r.out.cell
    have hlt1 := HP1r.out.lt
    have hlt2 := HP2r.out.lt
    have HBr : Hid (B ≤ wr.heap.size) := HKS.out.size HB.out
    have HS1d : Hid (SeenR wr.drew B a1 a) := HS1r.out
    have HS2d : Hid (SeenR wr.drew B a2 b) := HS2r.out
    by_cases htK : t < K
    · have hnf := HN.out t htK
      obtain ⟨hws, hpq⟩ := walk_s HA.out.2 HB'.out.2 hwalk hnf
      have hin := at_in HA.out.2 HB'.out.2 hwalk hnf
      obtain ⟨q, hq⟩ : ∃ q, at_ a b t = q := ⟨_, rfl⟩
      obtain ⟨u, hu⟩ : ∃ u, bd a x = u := ⟨_, rfl⟩
      obtain ⟨v, hv⟩ : ∃ v, bd b y = v := ⟨_, rfl⟩
      have hquv : min u v = q := by rw [← hq, ← hu, ← hv]; unfold at_; rw [HST.out]
      have HS1T : Hid (st a b (t + 1) = (if u = q then x + 1 else x, if v = q then y + 1 else y)) := by
        show _ = _
        rw [← hquv, ← hu, ← hv]
        show (if bd a (st a b t).1 = min (bd a (st a b t).1) (bd b (st a b t).2) then (st a b t).1 + 1 else (st a b t).1, if bd b (st a b t).2 = min (bd a (st a b t).1) (bd b (st a b t).2) then (st a b t).2 + 1 else (st a b t).2) = _
        rw [HST.out]
      have HAT : Hid (at_ a b t = q) := hq
      have HBA : Hid (bd a x = u) := hu
      have HBB : Hid (bd b y = v) := hv
      have HLE : Hid ((List.range t).length < K) := by show _ < _; rw [List.length_range]; exact htK
      have HSN : Hid (List.range (t + 1) = List.range t ++ [t]) := List.range_succ
      have HTK := Lib.hid htK
      have hor : x < 2 * n ∨ (2 * n ≤ x ∧ y < 2 * m) := by
        rcases Nat.lt_or_ge x (2 * n) with h | h
        · exact .inl h
        · refine .inr ⟨h, ?_⟩
          rcases Nat.lt_or_ge y (2 * m) with h2 | h2
          · exact h2
          · exact absurd ⟨by rw [HST.out, HNA.out]; exact h, by rw [HST.out, HNB.out]; exact h2⟩ hnf
      have hcs : (u = q ∧ v = q) ∨ (u = q ∧ v ≠ q) ∨ (u ≠ q ∧ v = q) := by omega
      have hm1 : (if u < v then u else v) = q := by rw [← hquv]; split <;> omega
      have hm2 : (if v < u then v else u) = q := by rw [← hquv]; split <;> omega
      have hm3 : (if u ≤ v then u else v) = q := by rw [← hquv]; split <;> omega
      have hxi : (x : Int) ≤ 131072 := by omega
      have hyi : (y : Int) ≤ 131072 := by omega
      clear hnf hws hpq hin hq hu hv hwalk htK
      rcases hor with hx | ⟨hx, hy⟩
      · have g1 : decide ((x : Int) < 2 * (n : Int)) = true := by simp; omega
        have g3 : (x : Int) < 2 * (n : Int) := by omega
        clear hx hx2 hy2
        gi_wp2
        gi_region_with (first
          | (refine ⟨trivial, ?_⟩; gi_at_call 72; (with_reducible refine (callsIn_wide.2 (borderAt_any a1 n c1 a HNA.out _ B HS1d.out HA.out x HX2.out)).mono ?_); rintro e w4 ⟨rfl, hb4⟩; rw [HBA.out]; have HB4 : Hid (Below wr.heap.size wr w4) := below_of_drew hb4; have HS14 : Hid (SeenR w4 B a1 a) := HS1r.out.below (HB4.out.mono HBr.out); have HS24 : Hid (SeenR w4 B a2 b) := HS2r.out.below (HB4.out.mono HBr.out); have cp14 : w4.cell? ⟨p1, 0, none⟩ = some (.slice a1 n c1) := (HB4.out.cell (p := ⟨p1, 0, none⟩) hlt1).trans cp1; have cp24 : w4.cell? ⟨p2, 0, none⟩ = some (.slice a2 m c2) := (HB4.out.cell (p := ⟨p2, 0, none⟩) hlt2).trans cp2; clear hb4)
          | (refine ⟨trivial, ?_⟩; gi_at_call 72; (with_reducible refine (callsIn_wide.2 (borderAt_any a2 m c2 b HNB.out _ B HS2d.out HB'.out y HY2.out)).mono ?_); rintro e w4 ⟨rfl, hb4⟩; rw [HBB.out]; have HB4 : Hid (Below wr.heap.size wr w4) := below_of_drew hb4; have HS14 : Hid (SeenR w4 B a1 a) := HS1r.out.below (HB4.out.mono HBr.out); have HS24 : Hid (SeenR w4 B a2 b) := HS2r.out.below (HB4.out.mono HBr.out); have cp14 : w4.cell? ⟨p1, 0, none⟩ = some (.slice a1 n c1) := (HB4.out.cell (p := ⟨p1, 0, none⟩) hlt1).trans cp1; have cp24 : w4.cell? ⟨p2, 0, none⟩ = some (.slice a2 m c2) := (HB4.out.cell (p := ⟨p2, 0, none⟩) hlt2).trans cp2; clear hb4)
          | (refine ⟨trivial, ?_⟩; gi_at_call 72; (with_reducible refine (callsIn_wide.2 (borderAt_any a1 n c1 a HNA.out _ B HS14.out HA.out x HX2.out)).mono ?_); rintro e w5 ⟨rfl, hb5⟩; rw [HBA.out]; have HB5 : Hid (Below wr.heap.size wr w5) := HB4.out.trans (hb5.mono HB4.out.size); clear hb5)
          | (refine ⟨trivial, ?_⟩; gi_at_call 72; (with_reducible refine (callsIn_wide.2 (borderAt_any a2 m c2 b HNB.out _ B HS24.out HB'.out y HY2.out)).mono ?_); rintro e w5 ⟨rfl, hb5⟩; rw [HBB.out]; have HB5 : Hid (Below wr.heap.size wr w5) := HB4.out.trans (hb5.mono HB4.out.size); clear hb5))
        all_goals
          have HJ5 : Hid (J (List.range t) w5) := hJ (List.range t) wr w5 none HJt.out (grown_of_below HB5.out) (fun r e => by cases e)
          have HK5 : Hid (KS (SS B p1 p2) wr w5) := KS.below HB5.out (fun k hk => by rcases hk with hk | rfl | rfl; exact Nat.lt_of_lt_of_le hk HBr.out; exact HP1r.out.lt; exact HP2r.out.lt)
          obtain ⟨fn, tmps, assign, body, hyl, hRR⟩ := hY _ t w5 HJ5.out HLE.out
          dsimp only [encB] at hyl
          clear cp1 cp2 cp14 cp24 hlt1 hlt2
          rcases hcs with ⟨h1, h2⟩ | ⟨h1, h2⟩ | ⟨h1, h2⟩
          · have e1 : (u == q) = true := by simp; omega
            have e2 : (v == q) = true := by simp; omega
            have HST' : Hid (st a b (t + 1) = (x + 1, y + 1)) := by show _ = _; rw [HS1T.out, if_pos h1, if_pos h2]
            obtain ⟨ox, hox⟩ : ∃ ox, odd (x + 1) = ox := ⟨_, rfl⟩
            obtain ⟨oy, hoy⟩ : ∃ oy, odd (y + 1) = oy := ⟨_, rfl⟩
            have hI : item a b t = (q, ox, oy) := by
              show (at_ a b t, odd (st a b (t + 1)).1, odd (st a b (t + 1)).2) = _
              rw [HAT.out, HST'.out, ← hox, ← hoy]
            rw [hI] at hyl
            have o1 : (((x : Int) + 1) % 2 == 1) = ox := by rw [← hox]; unfold odd; rw [Bool.eq_iff_iff]; simp; omega
            have o2 : (((y : Int) + 1) % 2 == 1) = oy := by rw [← hoy]; unfold odd; rw [Bool.eq_iff_iff]; simp; omega
            clear h1 h2 hox hoy hI hm1 hm3
            gi_wp2
            refine hRR.mono ?_
            rintro e W3 (⟨rfl, hJ3, hk3⟩ | ⟨rfl, hJx3⟩)
            · gi_wp2
              have HG : Hid (x + y < (x + 1) + (y + 1)) := by show _ < _; omega
              have HX3 := st_in HA.out HB'.out HN.out t HTK.out HNA.out HNB.out HST'.out
              exact ⟨⟨t + 1, x + 1, y + 1, HTK.out, rfl, rfl, HST', by show J _ _; rw [HSN.out]; exact hJ3, (HKS.out.trans HK5.out).trans hk3⟩, by have := HG.out; have := HX2.out; have := HY2.out; simp [intOf]; omega⟩
            · gi_wp2
              refine bodyPost_ret (results_none rfl _ _ _) rfl ?_
              exact ⟨⟨_, rfl⟩, .inr ⟨_, trivial, hJx3⟩⟩
          · have e1 : (u == q) = true := by simp; omega
            have e2 : (v == q) = false := by simp; omega
            have HST' : Hid (st a b (t + 1) = (x + 1, y)) := by show _ = _; rw [HS1T.out, if_pos h1, if_neg h2]
            obtain ⟨ox, hox⟩ : ∃ ox, odd (x + 1) = ox := ⟨_, rfl⟩
            obtain ⟨oy, hoy⟩ : ∃ oy, odd (y) = oy := ⟨_, rfl⟩
            have hI : item a b t = (q, ox, oy) := by
              show (at_ a b t, odd (st a b (t + 1)).1, odd (st a b (t + 1)).2) = _
              rw [HAT.out, HST'.out, ← hox, ← hoy]
            rw [hI] at hyl
            have o1 : (((x : Int) + 1) % 2 == 1) = ox := by rw [← hox]; unfold odd; rw [Bool.eq_iff_iff]; simp; omega
            have o2 : (((y : Int)) % 2 == 1) = oy := by rw [← hoy]; unfold odd; rw [Bool.eq_iff_iff]; simp; omega
            clear h1 h2 hox hoy hI hm1 hm3
            gi_wp2
            refine hRR.mono ?_
            rintro e W3 (⟨rfl, hJ3, hk3⟩ | ⟨rfl, hJx3⟩)
            · gi_wp2
              have HG : Hid (x + y < (x + 1) + (y)) := by show _ < _; omega
              have HX3 := st_in HA.out HB'.out HN.out t HTK.out HNA.out HNB.out HST'.out
              exact ⟨⟨t + 1, x + 1, y, HTK.out, rfl, rfl, HST', by show J _ _; rw [HSN.out]; exact hJ3, (HKS.out.trans HK5.out).trans hk3⟩, by have := HG.out; have := HX2.out; have := HY2.out; simp [intOf]; omega⟩
            · gi_wp2
              refine bodyPost_ret (results_none rfl _ _ _) rfl ?_
              exact ⟨⟨_, rfl⟩, .inr ⟨_, trivial, hJx3⟩⟩
          · have e1 : (u == q) = false := by simp; omega
            have e2 : (v == q) = true := by simp; omega
            have HST' : Hid (st a b (t + 1) = (x, y + 1)) := by show _ = _; rw [HS1T.out, if_neg h1, if_pos h2]
            obtain ⟨ox, hox⟩ : ∃ ox, odd (x) = ox := ⟨_, rfl⟩
            obtain ⟨oy, hoy⟩ : ∃ oy, odd (y + 1) = oy := ⟨_, rfl⟩
            have hI : item a b t = (q, ox, oy) := by
              show (at_ a b t, odd (st a b (t + 1)).1, odd (st a b (t + 1)).2) = _
              rw [HAT.out, HST'.out, ← hox, ← hoy]
            rw [hI] at hyl
            have o1 : (((x : Int)) % 2 == 1) = ox := by rw [← hox]; unfold odd; rw [Bool.eq_iff_iff]; simp; omega
            have o2 : (((y : Int) + 1) % 2 == 1) = oy := by rw [← hoy]; unfold odd; rw [Bool.eq_iff_iff]; simp; omega
            clear h1 h2 hox hoy hI hm1 hm3
            gi_wp2
            refine hRR.mono ?_
            rintro e W3 (⟨rfl, hJ3, hk3⟩ | ⟨rfl, hJx3⟩)
            · gi_wp2
              have HG : Hid (x + y < (x) + (y + 1)) := by show _ < _; omega
              have HX3 := st_in HA.out HB'.out HN.out t HTK.out HNA.out HNB.out HST'.out
              exact ⟨⟨t + 1, x, y + 1, HTK.out, rfl, rfl, HST', by show J _ _; rw [HSN.out]; exact hJ3, (HKS.out.trans HK5.out).trans hk3⟩, by have := HG.out; have := HX2.out; have := HY2.out; simp [intOf]; omega⟩
            · gi_wp2
              refine bodyPost_ret (results_none rfl _ _ _) rfl ?_
              exact ⟨⟨_, rfl⟩, .inr ⟨_, trivial, hJx3⟩⟩
      · have g1 : decide ((x : Int) < 2 * (n : Int)) = false := by simp; omega
        have g3 : ¬ (x : Int) < 2 * (n : Int) := by omega
        have g2 : decide ((y : Int) < 2 * (m : Int)) = true := by simp; omega
        have g4 : (y : Int) < 2 * (m : Int) := by omega
        clear hx hy hx2 hy2
        gi_wp2
        gi_region_with (first
          | (refine ⟨trivial, ?_⟩; gi_at_call 72; (with_reducible refine (callsIn_wide.2 (borderAt_any a1 n c1 a HNA.out _ B HS1d.out HA.out x HX2.out)).mono ?_); rintro e w4 ⟨rfl, hb4⟩; rw [HBA.out]; have HB4 : Hid (Below wr.heap.size wr w4) := below_of_drew hb4; have HS14 : Hid (SeenR w4 B a1 a) := HS1r.out.below (HB4.out.mono HBr.out); have HS24 : Hid (SeenR w4 B a2 b) := HS2r.out.below (HB4.out.mono HBr.out); have cp14 : w4.cell? ⟨p1, 0, none⟩ = some (.slice a1 n c1) := (HB4.out.cell (p := ⟨p1, 0, none⟩) hlt1).trans cp1; have cp24 : w4.cell? ⟨p2, 0, none⟩ = some (.slice a2 m c2) := (HB4.out.cell (p := ⟨p2, 0, none⟩) hlt2).trans cp2; clear hb4)
          | (refine ⟨trivial, ?_⟩; gi_at_call 72; (with_reducible refine (callsIn_wide.2 (borderAt_any a2 m c2 b HNB.out _ B HS2d.out HB'.out y HY2.out)).mono ?_); rintro e w4 ⟨rfl, hb4⟩; rw [HBB.out]; have HB4 : Hid (Below wr.heap.size wr w4) := below_of_drew hb4; have HS14 : Hid (SeenR w4 B a1 a) := HS1r.out.below (HB4.out.mono HBr.out); have HS24 : Hid (SeenR w4 B a2 b) := HS2r.out.below (HB4.out.mono HBr.out); have cp14 : w4.cell? ⟨p1, 0, none⟩ = some (.slice a1 n c1) := (HB4.out.cell (p := ⟨p1, 0, none⟩) hlt1).trans cp1; have cp24 : w4.cell? ⟨p2, 0, none⟩ = some (.slice a2 m c2) := (HB4.out.cell (p := ⟨p2, 0, none⟩) hlt2).trans cp2; clear hb4)
          | (refine ⟨trivial, ?_⟩; gi_at_call 72; (with_reducible refine (callsIn_wide.2 (borderAt_any a1 n c1 a HNA.out _ B HS14.out HA.out x HX2.out)).mono ?_); rintro e w5 ⟨rfl, hb5⟩; rw [HBA.out]; have HB5 : Hid (Below wr.heap.size wr w5) := HB4.out.trans (hb5.mono HB4.out.size); clear hb5)
          | (refine ⟨trivial, ?_⟩; gi_at_call 72; (with_reducible refine (callsIn_wide.2 (borderAt_any a2 m c2 b HNB.out _ B HS24.out HB'.out y HY2.out)).mono ?_); rintro e w5 ⟨rfl, hb5⟩; rw [HBB.out]; have HB5 : Hid (Below wr.heap.size wr w5) := HB4.out.trans (hb5.mono HB4.out.size); clear hb5))
        all_goals
          have HJ5 : Hid (J (List.range t) w5) := hJ (List.range t) wr w5 none HJt.out (grown_of_below HB5.out) (fun r e => by cases e)
          have HK5 : Hid (KS (SS B p1 p2) wr w5) := KS.below HB5.out (fun k hk => by rcases hk with hk | rfl | rfl; exact Nat.lt_of_lt_of_le hk HBr.out; exact HP1r.out.lt; exact HP2r.out.lt)
          obtain ⟨fn, tmps, assign, body, hyl, hRR⟩ := hY _ t w5 HJ5.out HLE.out
          dsimp only [encB] at hyl
          clear cp1 cp2 cp14 cp24 hlt1 hlt2
          rcases hcs with ⟨h1, h2⟩ | ⟨h1, h2⟩ | ⟨h1, h2⟩
          · have e1 : (u == q) = true := by simp; omega
            have e2 : (v == q) = true := by simp; omega
            have HST' : Hid (st a b (t + 1) = (x + 1, y + 1)) := by show _ = _; rw [HS1T.out, if_pos h1, if_pos h2]
            obtain ⟨ox, hox⟩ : ∃ ox, odd (x + 1) = ox := ⟨_, rfl⟩
            obtain ⟨oy, hoy⟩ : ∃ oy, odd (y + 1) = oy := ⟨_, rfl⟩
            have hI : item a b t = (q, ox, oy) := by
              show (at_ a b t, odd (st a b (t + 1)).1, odd (st a b (t + 1)).2) = _
              rw [HAT.out, HST'.out, ← hox, ← hoy]
            rw [hI] at hyl
            have o1 : (((x : Int) + 1) % 2 == 1) = ox := by rw [← hox]; unfold odd; rw [Bool.eq_iff_iff]; simp; omega
            have o2 : (((y : Int) + 1) % 2 == 1) = oy := by rw [← hoy]; unfold odd; rw [Bool.eq_iff_iff]; simp; omega
            clear h1 h2 hox hoy hI hm1 hm3
            gi_wp2
            refine hRR.mono ?_
            rintro e W3 (⟨rfl, hJ3, hk3⟩ | ⟨rfl, hJx3⟩)
            · gi_wp2
              have HG : Hid (x + y < (x + 1) + (y + 1)) := by show _ < _; omega
              have HX3 := st_in HA.out HB'.out HN.out t HTK.out HNA.out HNB.out HST'.out
              exact ⟨⟨t + 1, x + 1, y + 1, HTK.out, rfl, rfl, HST', by show J _ _; rw [HSN.out]; exact hJ3, (HKS.out.trans HK5.out).trans hk3⟩, by have := HG.out; have := HX2.out; have := HY2.out; simp [intOf]; omega⟩
            · gi_wp2
              refine bodyPost_ret (results_none rfl _ _ _) rfl ?_
              exact ⟨⟨_, rfl⟩, .inr ⟨_, trivial, hJx3⟩⟩
          · have e1 : (u == q) = true := by simp; omega
            have e2 : (v == q) = false := by simp; omega
            have HST' : Hid (st a b (t + 1) = (x + 1, y)) := by show _ = _; rw [HS1T.out, if_pos h1, if_neg h2]
            obtain ⟨ox, hox⟩ : ∃ ox, odd (x + 1) = ox := ⟨_, rfl⟩
            obtain ⟨oy, hoy⟩ : ∃ oy, odd (y) = oy := ⟨_, rfl⟩
            have hI : item a b t = (q, ox, oy) := by
              show (at_ a b t, odd (st a b (t + 1)).1, odd (st a b (t + 1)).2) = _
              rw [HAT.out, HST'.out, ← hox, ← hoy]
            rw [hI] at hyl
            have o1 : (((x : Int) + 1) % 2 == 1) = ox := by rw [← hox]; unfold odd; rw [Bool.eq_iff_iff]; simp; omega
            have o2 : (((y : Int)) % 2 == 1) = oy := by rw [← hoy]; unfold odd; rw [Bool.eq_iff_iff]; simp; omega
            clear h1 h2 hox hoy hI hm1 hm3
            gi_wp2
            refine hRR.mono ?_
            rintro e W3 (⟨rfl, hJ3, hk3⟩ | ⟨rfl, hJx3⟩)
            · gi_wp2
              have HG : Hid (x + y < (x + 1) + (y)) := by show _ < _; omega
              have HX3 := st_in HA.out HB'.out HN.out t HTK.out HNA.out HNB.out HST'.out
              exact ⟨⟨t + 1, x + 1, y, HTK.out, rfl, rfl, HST', by show J _ _; rw [HSN.out]; exact hJ3, (HKS.out.trans HK5.out).trans hk3⟩, by have := HG.out; have := HX2.out; have := HY2.out; simp [intOf]; omega⟩
            · gi_wp2
              refine bodyPost_ret (results_none rfl _ _ _) rfl ?_
              exact ⟨⟨_, rfl⟩, .inr ⟨_, trivial, hJx3⟩⟩
          · have e1 : (u == q) = false := by simp; omega
            have e2 : (v == q) = true := by simp; omega
            have HST' : Hid (st a b (t + 1) = (x, y + 1)) := by show _ = _; rw [HS1T.out, if_neg h1, if_pos h2]
            obtain ⟨ox, hox⟩ : ∃ ox, odd (x) = ox := ⟨_, rfl⟩
            obtain ⟨oy, hoy⟩ : ∃ oy, odd (y + 1) = oy := ⟨_, rfl⟩
            have hI : item a b t = (q, ox, oy) := by
              show (at_ a b t, odd (st a b (t + 1)).1, odd (st a b (t + 1)).2) = _
              rw [HAT.out, HST'.out, ← hox, ← hoy]
            rw [hI] at hyl
            have o1 : (((x : Int)) % 2 == 1) = ox := by rw [← hox]; unfold odd; rw [Bool.eq_iff_iff]; simp; omega
            have o2 : (((y : Int) + 1) % 2 == 1) = oy := by rw [← hoy]; unfold odd; rw [Bool.eq_iff_iff]; simp; omega
            clear h1 h2 hox hoy hI hm1 hm3
            gi_wp2
            refine hRR.mono ?_
            rintro e W3 (⟨rfl, hJ3, hk3⟩ | ⟨rfl, hJx3⟩)
            · gi_wp2
              have HG : Hid (x + y < (x) + (y + 1)) := by show _ < _; omega
              have HX3 := st_in HA.out HB'.out HN.out t HTK.out HNA.out HNB.out HST'.out
              exact ⟨⟨t + 1, x, y + 1, HTK.out, rfl, rfl, HST', by show J _ _; rw [HSN.out]; exact hJ3, (HKS.out.trans HK5.out).trans hk3⟩, by have := HG.out; have := HX2.out; have := HY2.out; simp [intOf]; omega⟩
            · gi_wp2
              refine bodyPost_ret (results_none rfl _ _ _) rfl ?_
              exact ⟨⟨_, rfl⟩, .inr ⟨_, trivial, hJx3⟩⟩
    · obtain rfl : K = t := by omega
      have hf := HK.out
      have g1 : decide ((x : Int) < 2 * (n : Int)) = false := by
        have := hf.1; rw [HST.out, HNA.out] at this; simp; omega
      have g2 : decide ((y : Int) < 2 * (m : Int)) = false := by
        have := hf.2; rw [HST.out, HNB.out] at this; simp; omega
      have g3 : ¬ (x : Int) < 2 * (n : Int) := by simpa using g1
      have g4 : ¬ (y : Int) < 2 * (m : Int) := by simpa using g2
      clear htK hf hwalk
      gi_wp2
      go_end0
      first | exact ⟨⟨_, rfl⟩, .inl ⟨_, rfl, HJt.out⟩⟩ | exact ⟨⟨_, rfl⟩, .inl HJt.out⟩
end
end Go.Proofs.Ythamilolacfeoaa
