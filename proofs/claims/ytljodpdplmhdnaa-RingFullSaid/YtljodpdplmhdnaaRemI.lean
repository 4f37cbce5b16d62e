/-
  remove.
-/
import Derived.Test.YtljodpdplmhdnaaAppI
namespace Go.Proofs.Ytljodpdplmhdnaa
namespace RI
open Go.RowKit
set_option linter.unusedVariables false

theorem slots_boxes (B n : Nat) (w : World) :
    Calls Try.prog 46 #[.pointer (some ⟨B, 0, none⟩), .int .i64 n] w fun e w' => e = .returned (.func (.func 61) #[] #[.pointer (some ⟨w.heap.size + 1, 0, none⟩), .pointer (some ⟨w.heap.size, 0, none⟩)]) ∧ Boxed w' w.heap.size 29 (.pointer (some ⟨B, 0, none⟩)) ∧ Boxed w' (w.heap.size + 1) 3 (.int .i64 n) ∧ Below w.heap.size w w' := by
  refine (slots_any B n w).mono ?_
  rintro e w' ⟨rfl, rfl⟩
  refine ⟨rfl, (Boxed.new w _ _).alloc _, ?_, ((Below.refl _ w).alloc (Nat.le_refl _) _).alloc (by simp) _⟩
  have h := Boxed.new (w.alloc (.cells #[.pointer (some ⟨B, 0, none⟩)] 29)) 3 (.int .i64 n)
  rw [World.size_alloc] at h
  exact h
theorem At.put {w : World} {B : Nat} {a : Option Addr} {L : Nat} {ps : Nat → RV} {cap f n op ac rf P : Nat} (h : At w B a L ps cap f n op ac rf) (ha : a = some ⟨P, 0, none⟩) {j : Nat} (hj : j < L) (x : RV) : At ((w.setCell ⟨P, j * 2, none⟩ (.int .i64 x.1)).setCell ⟨P, j * 2 + 1, none⟩ (.int .i64 x.2)) B a L (Rg.upd ps j x) cap f n op ac rf := by
  subst ha
  rcases h.pl with ⟨_, h2⟩ | ⟨h0, P', h1, h2, h3⟩
  · cases h2
  · cases h1
    exact ⟨(h.box.other (p := ⟨P, j * 2, none⟩) (fun e => h2 e.symm) _).other (p := ⟨P, j * 2 + 1, none⟩) (fun e => h2 e.symm) _, .inr ⟨h0, P, rfl, h2, h3.put hj x⟩, h.cap0, h.capM, h.hL, h.hf, h.hn, h.ho⟩
theorem row_keep {w w' : World} {base : Nat} {e : TypeId} {size : Nat} {v : Value} {k : Nat} {xs : List Value} {S : Nat → Prop} (h : w.ownsRow base e size v k xs) (hk : Chg S w w') (hS : ∀ i, S i → i < base) : w'.ownsRow base e size v k xs := by
  refine ⟨h.1, ?_⟩
  rcases h.2 with h2 | ⟨g, cap, cur, hv, hg, hh, h3⟩
  · exact .inl h2
  · exact .inr ⟨g, cap, cur, hv, hg, hk.at_block hh (fun hs => by have := hS g hs; omega), h3⟩

set_option maxRecDepth 100000 in
set_option maxHeartbeats 4000000 in
theorem remove_any (w : World) (B : Nat) (a : Option Addr) (L : Nat) (ps : Nat → RV) (cap f n0 op ac rf : Nat) (hA : At w B a L ps cap f n0 op ac rf) (n : Nat) (hn : n ≤ n0) : Calls Try.prog 44 #[.pointer (some ⟨B, 0, none⟩), .int .i64 n] w fun e w' => ∃ v, e = .returned v ∧ w'.ownsRow w.heap.size 34 2 v n (flatR (Rg.sl ps L f n)) ∧ (∃ ps' f', At w' B a L ps' cap f' (n0 - n) op ac rf ∧ Rg.sl ps' L f' (n0 - n) = (Rg.sl ps L f n0).drop n) ∧ Chg (RS B a) w w' := by
  by_cases hz : n = 0
  · subst hz
    clear hn
    go_enter Try.func44, Try.ntmps44
    go_wp2
    go_ret
    exact ⟨_, rfl, World.ownsRow_nil _ _ _ _, ⟨ps, f, hA, rfl⟩, Chg.refl _ _⟩
  · obtain ⟨P, rfl, hPB, hL0⟩ : ∃ P, a = some ⟨P, 0, none⟩ ∧ P ≠ B ∧ 0 < L := by
      rcases hA.pl with ⟨h, _⟩ | ⟨h0, P, h1, h2, h3⟩
      · have := hA.hn; omega
      · exact ⟨P, h1, h2, h0⟩
    have hnb : ((n : Int) == 0) = false := by simp; omega
    have hni : (n : Int) ≤ 65536 := by have := hA.hn; have := hA.hL; have := hA.capM; omega
    have HA : Hid (At w B (some ⟨P, 0, none⟩) L ps cap f n0 op ac rf) := hA
    have HN := Lib.hid hn
    have HL0 := Lib.hid hL0
    have HLI : Hid ((L : Int) ≤ 65536) := by show _ ≤ _; have := hA.hL; have := hA.capM; omega
    have HFI : Hid ((f : Int) ≤ 65536) := by show _ ≤ _; have := hA.hf; have := HLI.out; omega
    have HNZ := Lib.hid hz
    clear hA hn hL0 hz
    go_enter Try.func44, Try.ntmps44
    go_wp2_with (first
      | (go_at_call 46; (with_reducible refine (slots_boxes B n w).mono ?_); rintro e w1 ⟨rfl, h1, h2, h3⟩; have HBR1 := Lib.hid h1; have HBN1 := Lib.hid h2; have HB1 := Lib.hid h3; have HA1 := Lib.hid (HA.out.below h3); clear h1 h2 h3)
      | (go_at_call 45; (with_reducible refine (collect_any w1 B (some ⟨P, 0, none⟩) L ps cap f n0 op ac rf HA1.out n HN.out w.heap.size (w.heap.size + 1) HBR1.out HBN1.out).mono ?_); rintro e w2 ⟨⟨v, rfl, h1⟩, h2⟩; have HR2 : Hid (w2.ownsRow w.heap.size 34 2 v n (flatR (Rg.sl ps L f n))) := rebase h1 HB1.out.size; have HB2 : Hid (Below w.heap.size w w2) := HB1.out.trans (h2.mono HB1.out.size); have HA2 := Lib.hid (HA1.out.below h2); clear h1 h2))
    go_loopw [14] (fun iv wr => ∃ t : Nat, t ≤ n ∧ iv = .int .i64 t ∧ ∃ qs, Hid (At wr B (some ⟨P, 0, none⟩) L qs cap f n0 op ac rf) ∧ Hid (∀ j, t ≤ j → j < n0 → qs ((f + j) % L) = ps ((f + j) % L)) ∧ Hid (Chg (RS B (some ⟨P, 0, none⟩)) w wr) ∧ Hid (wr.ownsRow w.heap.size 34 2 v n (flatR (Rg.sl ps L f n)))) (fun i _ => n - (intOf i).toNat)
    case atStart => exact ⟨0, Nat.zero_le _, rfl, ps, HA2, fun _ _ _ => rfl, Chg.of_below _ HB2.out, HR2⟩
    case round =>
      obtain ⟨t, ht, rfl, qs, HQ, HE, HC, HR⟩ := hrel
      by_cases htn : t < n
      · have HTI : Hid ((t : Int) ≤ 65536) := by show _ ≤ _; omega
        obtain ⟨j, hj⟩ : ∃ j, (f + t) % L = j := ⟨_, rfl⟩
        have HJ : Hid ((f + t) % L = j) := hj
        have hjL : j < L := by rw [← hj]; exact Nat.mod_lt _ HL0.out
        have hjI : (j : Int) < (L : Int) := by omega
        have hjI0 : (0 : Int) ≤ (j : Int) := by omega
        have HJL := Lib.hid hjL
        obtain ⟨c0, c1, c2, c3, c4, c5, c6⟩ := HQ.out.box.cells
        have d1 : wr.drew.cell? ⟨B, 1, none⟩ = some (.slice (some ⟨P, 0, none⟩) L L) := c1
        have d2 : wr.drew.cell? ⟨B, 2, none⟩ = some (.int .i64 f) := c2
        clear hj c0 c2 c3 c4 c5 c6
        go_wp2
        go_region_held3 (fun W => W.cell? ⟨B, 1, none⟩ = some (.slice (some ⟨P, 0, none⟩) L L)) (first
          | with_reducible exact d1
          | with_reducible exact HS4.out
          | with_reducible exact HS5.out) (first
          | (go_at_call 43; (with_reducible refine (place_any wr.drew B _ L f HL0.out HLI.out HFI.out d1 d2 t HTI.out j HJ.out).mono ?_); rintro e w4 ⟨rfl, hb4'⟩; have hb4 := below_of_drew hb4'; have HB4 := Lib.hid hb4; have HQ4 := Lib.hid (HQ.out.below hb4); obtain ⟨_, h1, _⟩ := HQ4.out.box.cells; have HS4 := Lib.hid h1; have HQ5 := Lib.hid (HQ4.out.put rfl HJL.out (0, 0)); obtain ⟨_, h5, _⟩ := HQ5.out.box.cells; have HS5 : Hid (((w4.setCell ⟨P, j * 2, none⟩ (.int .i64 0)).setCell ⟨P, j * 2 + 1, none⟩ (.int .i64 0)).cell? ⟨B, 1, none⟩ = some (.slice (some ⟨P, 0, none⟩) L L)) := h5; have HP4 := (HQ4.out.pl.resolve_left (fun h => by cases h.2)); obtain ⟨_, P', hP', _, hP4⟩ := HP4; cases hP'; obtain ⟨r0, r1, r2, r3⟩ := hP4.at HJL.out; clear hb4' hb4 h1 h5 hP4))
        go_wp2
        refine ⟨⟨t + 1, htn, rfl, _, HQ5, fun j' h1 h2 => ?_, ?_, ?_⟩, by simp [intOf]; omega⟩
        · have hne : (f + j') % L ≠ j := fun e => by
            have := HQ.out.hn
            exact Rg.place_inj (f := f) (L := L) (i := t) (n := j') (by omega) (by omega) (HJ.out.trans e.symm)
          rw [Rg.upd_other _ _ hne]
          exact HE.out j' (by omega) h2
        · exact ((HC.out.trans (Chg.of_below _ HB4.out)).setCell (p := ⟨P, j * 2, none⟩) (.inr ⟨P, rfl, rfl⟩) _).setCell (p := ⟨P, j * 2 + 1, none⟩) (.inr ⟨P, rfl, rfl⟩) _
        · exact row_keep HR.out (((Chg.of_below _ HB4.out).setCell (p := ⟨P, j * 2, none⟩) (.inr ⟨P, rfl, rfl⟩) _).setCell (p := ⟨P, j * 2 + 1, none⟩) (.inr ⟨P, rfl, rfl⟩) _) HA.out.size
      · obtain rfl : n = t := by omega
        clear htn
        obtain ⟨j, hj⟩ : ∃ j, (f + n) % L = j := ⟨_, rfl⟩
        have HJ : Hid ((f + n) % L = j) := hj
        obtain ⟨m, hm⟩ : ∃ m, n0 - n = m := ⟨_, rfl⟩
        have HM := Lib.hid hm
        have hsub : (n0 : Int) - (n : Int) = (m : Int) := by have := HN.out; omega
        have hmb : (m : Int) ≤ 65536 := by have := HQ.out.hn; have := HLI.out; omega
        have HNI : Hid ((n : Int) ≤ 65536) := hni
        obtain ⟨c0, c1, c2, c3, c4, c5, c6⟩ := HQ.out.box.cells
        clear hj hm
        go_wp2_with (go_at_call 43; (with_reducible refine (place_any wr B _ L f HL0.out HLI.out HFI.out c1 c2 n HNI.out j HJ.out).mono ?_); rintro e w4 ⟨rfl, hb4⟩; have HB4 := Lib.hid hb4; have HQ4 := Lib.hid (HQ.out.below hb4); obtain ⟨q0, q1, q2, q3, q4, q5, q6⟩ := HQ4.out.box.cells; have f2 := HQ4.out.box.free 2; have f3 := HQ4.out.box.free 3; clear hb4 c0 c1 c2 c3 c4 c5 c6)
        go_ret
        have hbox := (HQ4.out.box.set2 j).set3 m
        refine ⟨v, rfl, ?_, ⟨qs, j, ?_, ?_⟩, ?_⟩
        · exact row_keep HR.out (((Chg.of_below _ HB4.out).setCell (p := ⟨B, 2, none⟩) (.inl rfl) _).setCell (p := ⟨B, 3, none⟩) (.inl rfl) _) HA.out.size
        · rw [HM.out]
          exact HQ4.out.turn hbox (fun Q hQ => (set_other hQ).trans (set_other hQ)) (by rw [← HJ.out]; exact Nat.le_of_lt (Nat.mod_lt _ HL0.out)) (by have := HQ4.out.hn; have := HM.out; omega) HQ4.out.ho
        · rw [← Rg.sl_drop ps HN.out, HJ.out]
          refine Rg.sl_congr fun i hi => ?_
          rw [← HJ.out, Nat.mod_add_mod, Nat.add_assoc]
          exact HE.out (n + i) (by omega) (by omega)
        · exact ((HC.out.trans (Chg.of_below _ HB4.out)).setCell (p := ⟨B, 2, none⟩) (.inl rfl) _).setCell (p := ⟨B, 3, none⟩) (.inl rfl) _
end RI
end Go.Proofs.Ytljodpdplmhdnaa
