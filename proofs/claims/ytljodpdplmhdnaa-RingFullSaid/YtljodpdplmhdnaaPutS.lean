/-
  Put.
-/
import Derived.Test.YtljodpdplmhdnaaGrowS
namespace Go.Proofs.Ytljodpdplmhdnaa
namespace RS
open Go.RowKit
set_option linter.unusedVariables false

set_option maxRecDepth 100000 in
set_option maxHeartbeats 4000000 in
theorem put_room (w : World) (B : Nat) (a : Option Addr) (L : Nat) (ps : Nat → RV) (cap f n op ac rf : Nat) (hA : At w B a L ps cap f n op ac rf) (hn : n < L) (hac : ac ≤ 1000000) (x : ByteArray) : Calls Try.prog 33 #[.pointer (some ⟨B, 0, none⟩), .string x] w fun e w' => e = .returned (.int .i64 0) ∧ ∃ a' L' ps' f', At w' B a' L' ps' cap f' (n + 1) 0 (ac + 1) rf ∧ Rg.sl ps' L' f' (n + 1) = Rg.sl ps L f n ++ [(x, op)] ∧ Chg (RS B a) w w' ∧ ∀ k, RS B a' k → RS B a k ∨ w.heap.size ≤ k := by
  have HA : Hid (At w B a L ps cap f n op ac rf) := hA
  have HAC := Lib.hid hac
  have hcb : ¬ n = cap := by have := hA.hL; omega
  have hcb2 : ((n : Int) == (cap : Int)) = false := by simp; have := hA.hL; omega
  obtain ⟨n1, hn1⟩ : ∃ n1, n + 1 = n1 := ⟨_, rfl⟩
  obtain ⟨a1, ha1⟩ : ∃ a1, ac + 1 = a1 := ⟨_, rfl⟩
  have HN1 := Lib.hid hn1
  have HA1 := Lib.hid ha1
  have hw1 : IntKind.i64.wrap ((n : Int) + 1) = (n1 : Int) := by rw [IntKind.wrap_i64]; have := hA.hn; have := hA.hL; have := hA.capM; omega
  have hw2 : IntKind.i64.wrap ((ac : Int) + 1) = (a1 : Int) := by rw [IntKind.wrap_i64]; omega
  obtain ⟨c0, c1, c2, c3, c4, c5, c6⟩ := hA.box.cells
  have HC0 : Hid (0 < cap) := hA.cap0
  have hcl : ((n : Int) == (L : Int)) = false := by simp; omega
  have hcl2 : ¬ n = L := by omega
  obtain ⟨P, hP⟩ : ∃ P, a = some ⟨P, 0, none⟩ := by
    rcases hA.pl with ⟨h, _⟩ | ⟨_, P, h, _⟩
    · omega
    · exact ⟨P, h⟩
  subst hP
  have HNL := Lib.hid hn
  clear hA hac hn1 ha1 hn
  go_enter Try.func33, Try.ntmps33
  go_upto_region 3 with (go_at_call 56; (with_reducible refine (none_any w B cap HC0.out c0).mono ?_); rintro e w1 ⟨rfl, hw⟩; obtain rfl : w = w1 := hw.symm)
  go_quiet (fail)
  revert nq
  intro qa
  go_upto_region 7 with fail
  go_quiet (fail)
  go_upto_region 9 with fail
  obtain ⟨Lq, hLq⟩ : ∃ Lq, L = Lq := ⟨_, rfl⟩
  obtain ⟨pq, hpq⟩ : ∃ pq, ps = pq := ⟨_, rfl⟩
  obtain ⟨fq, hfq⟩ : ∃ fq, f = fq := ⟨_, rfl⟩
  have HQ : Hid (At ((w.drewN qa).drewN nq) B (some ⟨P, 0, none⟩) Lq pq cap fq n op ac rf) := by
    show At _ _ _ _ _ _ _ _ _ _ _
    rw [← hLq, ← hpq, ← hfq]
    exact HA.out.below (below_drewN (below_drewN (Below.refl _ _) qa) nq)
  have HBQ : Hid (Chg (RS B (some ⟨P, 0, none⟩)) w ((w.drewN qa).drewN nq)) := Chg.of_below _ (below_drewN (below_drewN (Below.refl _ _) qa) nq)
  have HNq : Hid (n < Lq) := by show _ < _; rw [← hLq]; exact HNL.out
  have HPQ : Hid (Rg.sl pq Lq fq n = Rg.sl ps L f n) := by show _ = _; rw [hLq, hpq, hfq]
  have HRS : Hid (∀ k, RS B (some ⟨P, 0, none⟩) k → RS B (some ⟨P, 0, none⟩) k ∨ w.heap.size ≤ k) := fun k h => .inl h
  generalize ((w.drewN qa).drewN nq) = wq at HQ HBQ ⊢
  have HLq0 : Hid (0 < Lq) := by show _ < _; have := HNq.out; omega
  clear c0 c1 c2 c3 c4 c5 c6 hLq hpq hfq
  obtain ⟨j, hj⟩ : ∃ j, (fq + n) % Lq = j := ⟨_, rfl⟩
  have HJ : Hid ((fq + n) % Lq = j) := hj
  have HJL : Hid (j < Lq) := by show _ < _; rw [← hj]; exact Nat.mod_lt _ HLq0.out
  have hjI : (j : Int) < (Lq : Int) := by have := HJL.out; omega
  have hjI0 : (0 : Int) ≤ (j : Int) := by omega
  have HNI : Hid ((n : Int) ≤ 65536) := by show _ ≤ _; have := HQ.out.hn; have := HQ.out.hL; have := HQ.out.capM; omega
  have HLqI : Hid ((Lq : Int) ≤ 65536) := by show _ ≤ _; have := HQ.out.hL; have := HQ.out.capM; omega
  have HFqI : Hid ((fq : Int) ≤ 65536) := by show _ ≤ _; have := HQ.out.hf; have := HLqI.out; omega
  obtain ⟨q0, q1, q2, q3, q4, q5, q6⟩ := HQ.out.box.cells
  have d1 : wq.drew.cell? ⟨B, 1, none⟩ = some (.slice (some ⟨P, 0, none⟩) Lq Lq) := q1
  have d2 : wq.drew.cell? ⟨B, 2, none⟩ = some (.int .i64 fq) := q2
  have HD : Hid (wq.drew.cell? ⟨B, 1, none⟩ = some (.slice (some ⟨P, 0, none⟩) Lq Lq) ∧ wq.drew.cell? ⟨B, 3, none⟩ = some (.int .i64 n) ∧ wq.drew.cell? ⟨B, 4, none⟩ = some (.int .i64 op)) := ⟨q1, q3, q4⟩
  clear hj q0 q2 q5 q6
  go_wp2
  go_region_held3 (fun W => W.cell? ⟨B, 1, none⟩ = some (.slice (some ⟨P, 0, none⟩) Lq Lq) ∧ W.cell? ⟨B, 3, none⟩ = some (.int .i64 n) ∧ W.cell? ⟨B, 4, none⟩ = some (.int .i64 op)) (first
    | with_reducible exact HD.out
    | with_reducible exact HS4.out
    | with_reducible exact HS5.out) (first
    | (go_at_call 58; (with_reducible refine (place_any wq.drew B _ Lq fq HLq0.out HLqI.out HFqI.out d1 d2 n HNI.out j HJ.out).mono ?_); rintro e w4 ⟨rfl, hb4'⟩; have hb4 := below_of_drew hb4'; have HB4 := Lib.hid hb4; have HQ4 := Lib.hid (HQ.out.below hb4); obtain ⟨_, h1, _, h3, h4, _, _⟩ := HQ4.out.box.cells; have HS4 : Hid (w4.cell? ⟨B, 1, none⟩ = some (.slice (some ⟨P, 0, none⟩) Lq Lq) ∧ w4.cell? ⟨B, 3, none⟩ = some (.int .i64 n) ∧ w4.cell? ⟨B, 4, none⟩ = some (.int .i64 op)) := ⟨h1, h3, h4⟩; have HQ5 : Hid (At ((w4.setCell ⟨P, j * 2, none⟩ (.string x)).setCell ⟨P, j * 2 + 1, none⟩ (.int .i64 op)) B (some ⟨P, 0, none⟩) Lq (Rg.upd pq j (x, op)) cap fq n op ac rf) := HQ4.out.put rfl HJL.out (x, op); obtain ⟨_, h1, _, h3, h4, _, _⟩ := HQ5.out.box.cells; have HS5 : Hid (((w4.setCell ⟨P, j * 2, none⟩ (.string x)).setCell ⟨P, j * 2 + 1, none⟩ (.int .i64 op)).cell? ⟨B, 1, none⟩ = some (.slice (some ⟨P, 0, none⟩) Lq Lq) ∧ ((w4.setCell ⟨P, j * 2, none⟩ (.string x)).setCell ⟨P, j * 2 + 1, none⟩ (.int .i64 op)).cell? ⟨B, 3, none⟩ = some (.int .i64 n) ∧ ((w4.setCell ⟨P, j * 2, none⟩ (.string x)).setCell ⟨P, j * 2 + 1, none⟩ (.int .i64 op)).cell? ⟨B, 4, none⟩ = some (.int .i64 op)) := ⟨h1, h3, h4⟩; have HP4 := (HQ4.out.pl.resolve_left (fun h => by cases h.2)); obtain ⟨_, P', hP', _, hP4⟩ := HP4; cases hP'; obtain ⟨r0, r1, r2, r3⟩ := hP4.at HJL.out; clear hb4' hb4 h1 h3 h4 hP4))
  clear q1 q3 q4 d1 d2
  have HC5 : Hid (Chg (RS B (some ⟨P, 0, none⟩)) wq ((w4.setCell ⟨P, j * 2, none⟩ (.string x)).setCell ⟨P, j * 2 + 1, none⟩ (.int .i64 op))) := ((Chg.of_below _ HB4.out).setCell (p := ⟨P, j * 2, none⟩) (.inr ⟨P, rfl, rfl⟩) _).setCell (p := ⟨P, j * 2 + 1, none⟩) (.inr ⟨P, rfl, rfl⟩) _
  clear r0 r1 r2 r3
  generalize ((w4.setCell ⟨P, j * 2, none⟩ (.string x)).setCell ⟨P, j * 2 + 1, none⟩ (.int .i64 op)) = w5 at HQ5 HS5 HC5 ⊢
  obtain ⟨q0, q1, q2, q3, q4, q5, q6⟩ := HQ5.out.box.cells
  have f3 := HQ5.out.box.free 3
  have f4 := HQ5.out.box.free 4
  have f5 := HQ5.out.box.free 5
  go_wp2
  go_ret
  have hbox := ((HQ5.out.box.set3 n1).set5 a1).set4 0
  refine ⟨rfl, some ⟨P, 0, none⟩, Lq, Rg.upd pq j (x, op), fq, ?_, ?_, ?_, HRS.out⟩
  · rw [HN1.out, HA1.out]
    exact HQ5.out.turn hbox (fun Q hQ => (set_other hQ).trans ((set_other hQ).trans (set_other hQ))) HQ5.out.hf (by have := HN1.out; have := HNq.out; omega) (Nat.zero_le _)
  · rw [← HJ.out, Rg.sl_put pq (x, op) HNq.out, HPQ.out]
  · exact HBQ.out.then (((HC5.out.setCell (p := ⟨B, 3, none⟩) (.inl rfl) _).setCell (p := ⟨B, 5, none⟩) (.inl rfl) _).setCell (p := ⟨B, 4, none⟩) (.inl rfl) _) HRS.out
set_option maxRecDepth 100000 in
set_option maxHeartbeats 4000000 in
theorem put_grow (w : World) (B : Nat) (a : Option Addr) (ps : Nat → RV) (cap f n op ac rf : Nat) (hA : At w B a n ps cap f n op ac rf) (hn : n < cap) (hac : ac ≤ 1000000) (x : ByteArray) : Calls Try.prog 33 #[.pointer (some ⟨B, 0, none⟩), .string x] w fun e w' => e = .returned (.int .i64 0) ∧ ∃ a' L' ps' f', At w' B a' L' ps' cap f' (n + 1) 0 (ac + 1) rf ∧ Rg.sl ps' L' f' (n + 1) = Rg.sl ps n f n ++ [(x, op)] ∧ Chg (RS B a) w w' ∧ ∀ k, RS B a' k → RS B a k ∨ w.heap.size ≤ k := by
  have HA : Hid (At w B a n ps cap f n op ac rf) := hA
  have HAC := Lib.hid hac
  have hcb : ¬ n = cap := by omega
  have hcb2 : ((n : Int) == (cap : Int)) = false := by simp; omega
  obtain ⟨n1, hn1⟩ : ∃ n1, n + 1 = n1 := ⟨_, rfl⟩
  obtain ⟨a1, ha1⟩ : ∃ a1, ac + 1 = a1 := ⟨_, rfl⟩
  have HN1 := Lib.hid hn1
  have HA1 := Lib.hid ha1
  have hw1 : IntKind.i64.wrap ((n : Int) + 1) = (n1 : Int) := by rw [IntKind.wrap_i64]; have := hA.hn; have := hA.hL; have := hA.capM; omega
  have hw2 : IntKind.i64.wrap ((ac : Int) + 1) = (a1 : Int) := by rw [IntKind.wrap_i64]; omega
  obtain ⟨c0, c1, c2, c3, c4, c5, c6⟩ := hA.box.cells
  have HC0 : Hid (0 < cap) := hA.cap0
  have HNL := Lib.hid hn
  clear hA hac hn1 ha1 hn
  go_enter Try.func33, Try.ntmps33
  go_upto_region 3 with (go_at_call 56; (with_reducible refine (none_any w B cap HC0.out c0).mono ?_); rintro e w1 ⟨rfl, hw⟩; obtain rfl : w = w1 := hw.symm)
  go_quiet (fail)
  revert nq
  intro qa
  go_upto_region 7 with fail
  go_quiet (fail)
  have HA2 : Hid (At ((w.drewN qa).drewN nq) B a n ps cap f n op ac rf) := HA.out.below (below_drewN (below_drewN (Below.refl _ _) qa) nq)
  have HB2 : Hid (Chg (RS B a) w ((w.drewN qa).drewN nq)) := Chg.of_below _ (below_drewN (below_drewN (Below.refl _ _) qa) nq)
  have HS2 : Hid (w.heap.size ≤ ((w.drewN qa).drewN nq).heap.size) := Nat.le_refl _
  generalize ((w.drewN qa).drewN nq) = w2 at HA2 HB2 HS2 ⊢
  obtain ⟨Lq, hLq⟩ : ∃ Lq, min cap (max 8 (2 * n)) = Lq := ⟨_, rfl⟩
  have HLQ := Lib.hid hLq
  clear c0 c1 c2 c3 c4 c5 c6 hLq
  go_upto_region 9 with (go_at_call 57; (with_reducible refine (grow_any w2 B a n ps cap f op ac rf HA2.out HNL.out Lq HLQ.out).mono ?_); rintro e wq ⟨rfl, P, h1, h2, h3⟩; have HG1 := Lib.hid h1; have HG2 := Lib.hid h2; have HG3 := Lib.hid h3; clear h1 h2 h3)
  obtain ⟨pq, hpq⟩ : ∃ pq, (fun i => (Rg.sl ps n f n).getD i (⟨#[]⟩, 0)) = pq := ⟨_, rfl⟩
  obtain ⟨fq, hfq⟩ : ∃ fq, 0 = fq := ⟨_, rfl⟩
  have HNq : Hid (n < Lq) := by show _ < _; have := HLQ.out; have := HNL.out; omega
  have HPQ : Hid (Rg.sl pq Lq fq n = Rg.sl ps n f n) := by
    show _ = _
    rw [← hpq, ← hfq, Rg.sl_line _ (Nat.le_of_lt HNq.out)]
    apply List.ext_getElem?
    intro i
    by_cases hi : i < n
    · rw [List.getElem?_map, List.getElem?_range hi, Rg.sl_get _ _ _ _ _ hi]
      simp only [Option.map_some, List.getD_eq_getElem?_getD, Rg.sl_get _ _ _ _ _ hi, Option.getD_some]
    · rw [List.getElem?_eq_none (by simp; omega), List.getElem?_eq_none (by rw [Rg.sl_len]; omega)]
  have HQ : Hid (At wq B (some ⟨P, 0, none⟩) Lq pq cap fq n op ac rf) := by
    show At _ _ _ _ _ _ _ _ _ _ _
    rw [← hpq, ← hfq]
    exact HG2.out
  have HBQ : Hid (Chg (RS B a) w wq) := HB2.out.trans HG3.out
  have HRS : Hid (∀ k, RS B (some ⟨P, 0, none⟩) k → RS B a k ∨ w.heap.size ≤ k) := fun k h => by
    rcases h with h | ⟨P', h1, h2⟩
    · exact .inl (.inl h)
    · cases h1
      exact .inr (by have := HG1.out; have := HS2.out; omega)
  have HLq0 : Hid (0 < Lq) := by show _ < _; have := HNq.out; omega
  clear hpq hfq
  obtain ⟨j, hj⟩ : ∃ j, (fq + n) % Lq = j := ⟨_, rfl⟩
  have HJ : Hid ((fq + n) % Lq = j) := hj
  have HJL : Hid (j < Lq) := by show _ < _; rw [← hj]; exact Nat.mod_lt _ HLq0.out
  have hjI : (j : Int) < (Lq : Int) := by have := HJL.out; omega
  have hjI0 : (0 : Int) ≤ (j : Int) := by omega
  have HNI : Hid ((n : Int) ≤ 65536) := by show _ ≤ _; have := HQ.out.hn; have := HQ.out.hL; have := HQ.out.capM; omega
  have HLqI : Hid ((Lq : Int) ≤ 65536) := by show _ ≤ _; have := HQ.out.hL; have := HQ.out.capM; omega
  have HFqI : Hid ((fq : Int) ≤ 65536) := by show _ ≤ _; have := HQ.out.hf; have := HLqI.out; omega
  obtain ⟨q0, q1, q2, q3, q4, q5, q6⟩ := HQ.out.box.cells
  have d1 : wq.drew.cell? ⟨B, 1, none⟩ = some (.slice (some ⟨P, 0, none⟩) Lq Lq) := q1
  have d2 : wq.drew.cell? ⟨B, 2, none⟩ = some (.int .i64 fq) := q2
  have HD : Hid (wq.drew.cell? ⟨B, 1, none⟩ = some (.slice (some ⟨P, 0, none⟩) Lq Lq) ∧ wq.drew.cell? ⟨B, 3, none⟩ = some (.int .i64 n) ∧ wq.drew.cell? ⟨B, 4, none⟩ = some (.int .i64 op)) := ⟨q1, q3, q4⟩
  clear hj q0 q2 q5 q6
  go_wp2
  go_region_held3 (fun W => W.cell? ⟨B, 1, none⟩ = some (.slice (some ⟨P, 0, none⟩) Lq Lq) ∧ W.cell? ⟨B, 3, none⟩ = some (.int .i64 n) ∧ W.cell? ⟨B, 4, none⟩ = some (.int .i64 op)) (first
    | with_reducible exact HD.out
    | with_reducible exact HS4.out
    | with_reducible exact HS5.out) (first
    | (go_at_call 58; (with_reducible refine (place_any wq.drew B _ Lq fq HLq0.out HLqI.out HFqI.out d1 d2 n HNI.out j HJ.out).mono ?_); rintro e w4 ⟨rfl, hb4'⟩; have hb4 := below_of_drew hb4'; have HB4 := Lib.hid hb4; have HQ4 := Lib.hid (HQ.out.below hb4); obtain ⟨_, h1, _, h3, h4, _, _⟩ := HQ4.out.box.cells; have HS4 : Hid (w4.cell? ⟨B, 1, none⟩ = some (.slice (some ⟨P, 0, none⟩) Lq Lq) ∧ w4.cell? ⟨B, 3, none⟩ = some (.int .i64 n) ∧ w4.cell? ⟨B, 4, none⟩ = some (.int .i64 op)) := ⟨h1, h3, h4⟩; have HQ5 : Hid (At ((w4.setCell ⟨P, j * 2, none⟩ (.string x)).setCell ⟨P, j * 2 + 1, none⟩ (.int .i64 op)) B (some ⟨P, 0, none⟩) Lq (Rg.upd pq j (x, op)) cap fq n op ac rf) := HQ4.out.put rfl HJL.out (x, op); obtain ⟨_, h1, _, h3, h4, _, _⟩ := HQ5.out.box.cells; have HS5 : Hid (((w4.setCell ⟨P, j * 2, none⟩ (.string x)).setCell ⟨P, j * 2 + 1, none⟩ (.int .i64 op)).cell? ⟨B, 1, none⟩ = some (.slice (some ⟨P, 0, none⟩) Lq Lq) ∧ ((w4.setCell ⟨P, j * 2, none⟩ (.string x)).setCell ⟨P, j * 2 + 1, none⟩ (.int .i64 op)).cell? ⟨B, 3, none⟩ = some (.int .i64 n) ∧ ((w4.setCell ⟨P, j * 2, none⟩ (.string x)).setCell ⟨P, j * 2 + 1, none⟩ (.int .i64 op)).cell? ⟨B, 4, none⟩ = some (.int .i64 op)) := ⟨h1, h3, h4⟩; have HP4 := (HQ4.out.pl.resolve_left (fun h => by cases h.2)); obtain ⟨_, P', hP', _, hP4⟩ := HP4; cases hP'; obtain ⟨r0, r1, r2, r3⟩ := hP4.at HJL.out; clear hb4' hb4 h1 h3 h4 hP4))
  clear q1 q3 q4 d1 d2
  have HC5 : Hid (Chg (RS B (some ⟨P, 0, none⟩)) wq ((w4.setCell ⟨P, j * 2, none⟩ (.string x)).setCell ⟨P, j * 2 + 1, none⟩ (.int .i64 op))) := ((Chg.of_below _ HB4.out).setCell (p := ⟨P, j * 2, none⟩) (.inr ⟨P, rfl, rfl⟩) _).setCell (p := ⟨P, j * 2 + 1, none⟩) (.inr ⟨P, rfl, rfl⟩) _
  clear r0 r1 r2 r3
  generalize ((w4.setCell ⟨P, j * 2, none⟩ (.string x)).setCell ⟨P, j * 2 + 1, none⟩ (.int .i64 op)) = w5 at HQ5 HS5 HC5 ⊢
  obtain ⟨q0, q1, q2, q3, q4, q5, q6⟩ := HQ5.out.box.cells
  have f3 := HQ5.out.box.free 3
  have f4 := HQ5.out.box.free 4
  have f5 := HQ5.out.box.free 5
  go_wp2
  go_ret
  have hbox := ((HQ5.out.box.set3 n1).set5 a1).set4 0
  refine ⟨rfl, some ⟨P, 0, none⟩, Lq, Rg.upd pq j (x, op), fq, ?_, ?_, ?_, HRS.out⟩
  · rw [HN1.out, HA1.out]
    exact HQ5.out.turn hbox (fun Q hQ => (set_other hQ).trans ((set_other hQ).trans (set_other hQ))) HQ5.out.hf (by have := HN1.out; have := HNq.out; omega) (Nat.zero_le _)
  · rw [← HJ.out, Rg.sl_put pq (x, op) HNq.out, HPQ.out]
  · exact HBQ.out.then (((HC5.out.setCell (p := ⟨B, 3, none⟩) (.inl rfl) _).setCell (p := ⟨B, 5, none⟩) (.inl rfl) _).setCell (p := ⟨B, 4, none⟩) (.inl rfl) _) HRS.out
set_option maxRecDepth 100000 in
set_option maxHeartbeats 4000000 in
theorem put_full (w : World) (B : Nat) (a : Option Addr) (L : Nat) (ps : Nat → RV) (cap f op ac rf : Nat) (hA : At w B a L ps cap f cap op ac rf) (hrf : rf ≤ 1000000) (x : ByteArray) : Calls Try.prog 33 #[.pointer (some ⟨B, 0, none⟩), .string x] w fun e w' => e = .returned (.int .i64 4) ∧ At w' B a L ps cap f cap (op + 1) ac (rf + 1) ∧ Chg (RS B a) w w' := by
  have HA : Hid (At w B a L ps cap f cap op ac rf) := hA
  have hcb2 : ((cap : Int) == (cap : Int)) = true := by simp
  obtain ⟨o1, ho1⟩ : ∃ o1, op + 1 = o1 := ⟨_, rfl⟩
  obtain ⟨r1, hr1⟩ : ∃ r1, rf + 1 = r1 := ⟨_, rfl⟩
  have HO1 := Lib.hid ho1
  have HR1 := Lib.hid hr1
  have hw1 : IntKind.i64.wrap ((op : Int) + 1) = (o1 : Int) := by rw [IntKind.wrap_i64]; have := hA.ho; omega
  have hw2 : IntKind.i64.wrap ((rf : Int) + 1) = (r1 : Int) := by rw [IntKind.wrap_i64]; omega
  obtain ⟨c0, c1, c2, c3, c4, c5, c6⟩ := hA.box.cells
  have HC0 : Hid (0 < cap) := hA.cap0
  clear hA hrf ho1 hr1
  go_enter Try.func33, Try.ntmps33
  go_upto_region 3 with (go_at_call 56; (with_reducible refine (none_any w B cap HC0.out c0).mono ?_); rintro e w1 ⟨rfl, hw⟩; obtain rfl : w = w1 := hw.symm)
  go_quiet (fail)
  have HQ : Hid (At (w.drewN nq) B a L ps cap f cap op ac rf) := HA.out.below (below_drewN (Below.refl _ _) nq)
  have HBQ : Hid (Chg (RS B a) w (w.drewN nq)) := Chg.of_below _ (below_drewN (Below.refl _ _) nq)
  generalize (w.drewN nq) = wq at HQ HBQ ⊢
  clear c0 c1 c2 c3 c4 c5 c6
  obtain ⟨q0, q1, q2, q3, q4, q5, q6⟩ := HQ.out.box.cells
  have f6 := HQ.out.box.free 6
  have f4 := HQ.out.box.free 4
  go_wp2
  go_ret
  have hbox := (HQ.out.box.set6 r1).set4 o1
  refine ⟨rfl, ?_, ?_⟩
  · rw [HO1.out, HR1.out]
    exact HQ.out.turn hbox (fun Q hQ => (set_other hQ).trans (set_other hQ)) HQ.out.hf HQ.out.hn (by have := HQ.out.ho; have := HO1.out; have := HR1.out; omega)
  · exact (HBQ.out.setCell (p := ⟨B, 6, none⟩) (.inl rfl) _).setCell (p := ⟨B, 4, none⟩) (.inl rfl) _
/-- Put, where there is room. -/
theorem put_ok (w : World) (B : Nat) (S : Nat → Prop) (cap : Nat) (l : List RV) (op ac rf : Nat) (h : Rng w B S cap l op ac rf) (hl : l.length < cap) (hac : ac ≤ 1000000) (x : ByteArray) : Calls Try.prog 33 #[.pointer (some ⟨B, 0, none⟩), .string x] w fun e w' => e = .returned (.int .i64 0) ∧ ∃ S', Rng w' B S' cap (l ++ [(x, op)]) 0 (ac + 1) rf ∧ Chg S w w' ∧ ∀ k, S' k → S k ∨ w.heap.size ≤ k := by
  obtain ⟨a, L, ps, f, hA, hs, rfl⟩ := h
  have key : Calls Try.prog 33 #[.pointer (some ⟨B, 0, none⟩), .string x] w fun e w' => e = .returned (.int .i64 0) ∧ ∃ a' L' ps' f', At w' B a' L' ps' cap f' (l.length + 1) 0 (ac + 1) rf ∧ Rg.sl ps' L' f' (l.length + 1) = Rg.sl ps L f l.length ++ [(x, op)] ∧ Chg (RS B a) w w' ∧ ∀ k, RS B a' k → RS B a k ∨ w.heap.size ≤ k := by
    by_cases hL : l.length < L
    · exact put_room w B a L ps cap f _ op ac rf hA hL hac x
    · have e : L = l.length := by have := hA.hn; omega
      subst e
      exact put_grow w B a ps cap f _ op ac rf hA hl hac x
  refine key.mono ?_
  rintro e w' ⟨rfl, a', L', ps', f', h1, h2, h3, h4⟩
  rw [hs] at h2
  exact ⟨rfl, RS B a', ⟨a', L', ps', f', by rw [List.length_append]; exact h1, by rw [List.length_append]; exact h2, rfl⟩, h3, h4⟩
/-- Put, where there is none. -/
theorem put_no (w : World) (B : Nat) (S : Nat → Prop) (cap : Nat) (l : List RV) (op ac rf : Nat) (h : Rng w B S cap l op ac rf) (hl : l.length = cap) (hrf : rf ≤ 1000000) (x : ByteArray) : Calls Try.prog 33 #[.pointer (some ⟨B, 0, none⟩), .string x] w fun e w' => e = .returned (.int .i64 4) ∧ Rng w' B S cap l (op + 1) ac (rf + 1) ∧ Chg S w w' := by
  obtain ⟨a, L, ps, f, hA, hs, rfl⟩ := h
  have hA' : At w B a L ps cap f cap op ac rf := by rw [← hl]; rw [hl] at hA ⊢; exact hA
  refine (put_full w B a L ps cap f op ac rf hA' hrf x).mono ?_
  rintro e w' ⟨rfl, h1, h2⟩
  exact ⟨rfl, ⟨a, L, ps, f, by rw [hl]; exact h1, hs, rfl⟩, h2⟩
end RS
end Go.Proofs.Ytljodpdplmhdnaa
