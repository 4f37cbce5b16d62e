/-
  EventWrong's walk.
-/
import Derived.Test.YtainjicbmjfnkaaDoorArgE
import Derived.Deep.DeepCutAuto
namespace Go.Proofs.YtainjicbmjfnkaaDoor
open Go.RowKit
set_option linter.unusedVariables false
theorem check_60 {sq tm : Int} {cp kd : Nat} {tk gr to_ wg tc : Int} {mk : Nat} {gt : Int} (h : ¬ (1 ≤ kd ∧ kd ≤ 10)) : Ev.check sq tm cp kd tk gr to_ wg tc mk gt = 60 := by unfold Ev.check; rw [if_neg h]
set_option maxRecDepth 100000 in
set_option maxHeartbeats 4000000 in
theorem wrong_y (sq tm : Int) (cp kd : Nat) (tk gr to_ wg tc : Int) (mk : Nat) (gt : Int) (hw : Ev.WF sq tm cp kd tk gr to_ wg tc mk gt) (hk1 : 1 ≤ kd) (hk2 : kd ≤ 10) (a : Option Addr) (ln cap : Nat) (ha : (ln = 0 ∧ cap = 0) ∨ ∃ b off, a = some (⟨b, off, none⟩ : Addr)) (hlc : ln ≤ cap) (hcm : cap ≤ maxLen) (w : World) (h : A6 w) : Calls Tryd.prog 10 #[.agg #[.int .i64 sq, .int .i64 tm, .int .u8 cp, .int .u8 kd, .int .i64 tk, .int .i64 gr, .int .i64 to_, .int .i64 wg, .int .i64 tc, .int .u64 mk, .int .i64 gt], .slice a ln cap] w fun e w' => e = .returned (.bool true) ∧ Below w.heap.size w w' := by
  obtain ⟨k2, hk⟩ : ∃ k2, kd + 10 = k2 := ⟨_, rfl⟩
  have hkw : IntKind.u8.wrap ((kd : Int) + 10) = (k2 : Int) := by rw [IntKind.wrap_u8]; omega
  have hW2 : Ev.WF sq tm cp k2 tk gr to_ wg tc mk gt := ⟨hw.1, hw.2.1, hw.2.2.1, by omega, hw.2.2.2.2⟩
  have hn2 : ¬ (1 ≤ k2 ∧ k2 ≤ 10) := by omega
  have g1 : decide ((1 : Int) ≤ (kd : Int)) = true := by rw [decide_eq_true_eq]; omega
  have g2 : (1 : Int) ≤ (kd : Int) := by omega
  have g3 : decide ((kd : Int) ≤ 10) = true := by rw [decide_eq_true_eq]; omega
  have g4 : (kd : Int) ≤ 10 := by omega
  have HWF : Hid (Ev.WF sq tm cp k2 tk gr to_ wg tc mk gt) := hW2
  have HN2 : Hid (¬ (1 ≤ k2 ∧ k2 ≤ 10)) := hn2
  have HCK : Hid (Ev.check sq tm cp k2 tk gr to_ wg tc mk gt = 60) := check_60 hn2
  have HK2 : Hid (k2 < 256) := hW2.2.2.2.1
  have HA := Lib.hid h
  have HX := Lib.hid (EBox.new w sq tm cp kd tk gr to_ wg tc mk gt)
  have HBW : Hid (Below w.heap.size w (w.alloc (.cells #[.int .i64 sq, .int .i64 tm, .int .u8 cp, .int .u8 kd, .int .i64 tk, .int .i64 gr, .int .i64 to_, .int .i64 wg, .int .i64 tc, .int .u64 mk, .int .i64 gt] 24))) := (Below.refl _ w).alloc (Nat.le_refl _) _
  have HAW : Hid (A6 (w.alloc (.cells #[.int .i64 sq, .int .i64 tm, .int .u8 cp, .int .u8 kd, .int .i64 tk, .int .i64 gr, .int .i64 to_, .int .i64 wg, .int .i64 tc, .int .u64 mk, .int .i64 gt] 24))) := h.below HBW.out
  obtain ⟨mn, hmn⟩ : ∃ mn : Nat, min ln 20 = mn := ⟨_, rfl⟩
  have hmn' := hmn
  have hmi : min (ln : Int) 20 = (mn : Int) := by omega
  have hmc : (mn : Int) ≤ (cap : Int) := by omega
  have hm0 : (0 : Int) ≤ (mn : Int) := by omega
  have hmw : IntKind.i64.wrap (mn : Int) = (mn : Int) := by rw [IntKind.wrap_i64]; omega
  have heqz : ∀ W : World, (Op.equalIn 10000 24 (.agg #[.int .i64 0, .int .i64 0, .int .u8 0, .int .u8 0, .int .i64 0, .int .i64 0, .int .i64 0, .int .i64 0, .int .i64 0, .int .u64 0, .int .i64 0]) (.agg #[.int .i64 0, .int .i64 0, .int .u8 0, .int .u8 0, .int .i64 0, .int .i64 0, .int .i64 0, .int .i64 0, .int .i64 0, .int .u64 0, .int .i64 0])).run Tryd.prog W = .ok true W := fun W => by simpa using run_eq_ev 0 0 0 0 0 0 0 0 0 0 0 0 0 0 0 0 0 0 0 0 0 0 W
  have hcm' : (cap : Int) ≤ 9223372036854775807 := by unfold maxLen at hcm; omega
  clear hw hk1 hk2 hk hW2 hn2 h hlc hcm hmn
  obtain ⟨W0, hW0⟩ : ∃ W, w.alloc (.cells #[.int .i64 sq, .int .i64 tm, .int .u8 cp, .int .u8 kd, .int .i64 tk, .int .i64 gr, .int .i64 to_, .int .i64 wg, .int .i64 tc, .int .u64 mk, .int .i64 gt] 24) = W := ⟨_, rfl⟩
  rw [hW0] at HX HBW HAW
  obtain ⟨x0, x1, x2, x3, x4, x5, x6, x7, x8, x9, x10⟩ := HX.out.cells
  clear hmn' ha
  rcases a with _ | ⟨ba, oa, sa⟩
  all_goals
    go_enter Tryd.func10, Tryd.ntmps10
    go_upto_region 5 with (first
      | (go_at_call 12; ((with_reducible refine (awake_any _ HAW.out).mono ?_); rintro e w1 ⟨rfl, hb⟩; have HB1 := Lib.hid (HBW.out.trans (hb.mono HBW.out.size)); have HA1 := Lib.hid (HAW.out.below hb); have HX1 := Lib.hid (HX.out.keep hb); clear hb; obtain ⟨y0, y1, y2, y3, y4, y5, y6, y7, y8, y9, y10⟩ := HX1.out.cells; have f3 := HX1.out.free 3)))
    clear x0 x1 x2 x3 x4 x5 x6 x7 x8 x9 x10 y0 y1 y2 y3 y4 y5 y6 y7 y8 y9 y10 f3
    have HB2 : Hid (Below w.heap.size w (w1.setCell ⟨w.heap.size, 3, none⟩ (.int .u8 k2))) := HB1.out.setCell (p := ⟨w.heap.size, 3, none⟩) (Nat.le_refl _) _
    have HX2 : Hid (EBox (w1.setCell ⟨w.heap.size, 3, none⟩ (.int .u8 k2)) w.heap.size sq tm cp k2 tk gr to_ wg tc mk gt) := by
      have t := EBox.one HX1.out 3 (.int .u8 k2)
      exact t
    have HE2 : Hid (Ev.HE (w1.setCell ⟨w.heap.size, 3, none⟩ (.int .u8 k2))) := HA.out.1.below HB2.out
    generalize w1.setCell ⟨w.heap.size, 3, none⟩ (.int .u8 k2) = w2 at HB2 HX2 HE2 ⊢
    obtain ⟨z0, z1, z2, z3, z4, z5, z6, z7, z8, z9, z10⟩ := HX2.out.cells
    go_upto_region 6 with (go_at_call 18; ((with_reducible refine (values_no sq tm cp k2 tk gr to_ wg tc mk gt HWF.out 60 HCK.out (by decide) _ HE2.out).mono ?_); rintro e w3 ⟨rfl, hb⟩; have HB3 := Lib.hid (HB2.out.trans (hb.mono HB2.out.size)); have HX3 := Lib.hid (HX2.out.keep hb); have HE3 := Lib.hid (HE2.out.below hb); clear hb))
    clear z0 z1 z2 z3 z4 z5 z6 z7 z8 z9 z10
    have HA5 : Hid (Below w3.heap.size w3 w3.drew) := (Below.refl _ w3).drew
    have HA6 : Hid (Below w3.heap.size w3 (w3.alloc (.cells #[.int .i64 0, .int .i64 0, .int .u8 0, .int .u8 0, .int .i64 0, .int .i64 0, .int .i64 0, .int .i64 0, .int .i64 0, .int .u64 0, .int .i64 0] 24)).drew) := HA5.out.alloc (Nat.le_refl _) _
    have HD6_ : Hid (EBox (w3.alloc (.cells #[.int .i64 0, .int .i64 0, .int .u8 0, .int .u8 0, .int .i64 0, .int .i64 0, .int .i64 0, .int .i64 0, .int .i64 0, .int .u64 0, .int .i64 0] 24)).drew w3.heap.size 0 0 0 0 0 0 0 0 0 0 0) := (EBox.new w3 0 0 0 0 0 0 0 0 0 0 0).keep (Below.refl _ _).drew
    obtain ⟨D, hD⟩ : ∃ D, (w3.alloc (.cells #[.int .i64 0, .int .i64 0, .int .u8 0, .int .u8 0, .int .i64 0, .int .i64 0, .int .i64 0, .int .i64 0, .int .i64 0, .int .u64 0, .int .i64 0] 24)) = D := ⟨_, rfl⟩
    rw [hD] at HA6 HD6_
    have HKC : Hid (∀ W : World, Below w3.heap.size w3 W → W.cell? ⟨w.heap.size, 0, none⟩ = some (.int .i64 sq) ∧ W.cell? ⟨w.heap.size, 1, none⟩ = some (.int .i64 tm) ∧ W.cell? ⟨w.heap.size, 2, none⟩ = some (.int .u8 cp) ∧ W.cell? ⟨w.heap.size, 3, none⟩ = some (.int .u8 k2) ∧ W.cell? ⟨w.heap.size, 4, none⟩ = some (.int .i64 tk) ∧ W.cell? ⟨w.heap.size, 5, none⟩ = some (.int .i64 gr) ∧ W.cell? ⟨w.heap.size, 6, none⟩ = some (.int .i64 to_) ∧ W.cell? ⟨w.heap.size, 7, none⟩ = some (.int .i64 wg) ∧ W.cell? ⟨w.heap.size, 8, none⟩ = some (.int .i64 tc) ∧ W.cell? ⟨w.heap.size, 9, none⟩ = some (.int .u64 mk) ∧ W.cell? ⟨w.heap.size, 10, none⟩ = some (.int .i64 gt)) := fun W hW => (HX3.out.keep hW).cells
    obtain ⟨z0, z1, z2, z3, z4, z5, z6, z7, z8, z9, z10⟩ := HX3.out.cells
    go_cut [7, 8] (fun s7 s8 wx => ∃ B : Nat, s7 = .pointer (some ⟨B, 0, none⟩) ∧ s8 = .int .i64 60 ∧ Hid (EBox wx B 0 0 0 0 0 0 0 0 0 0 0) ∧ Hid (Below w3.heap.size w3 wx))
    case first =>
      go_region_held3 (fun W => W.cell? ⟨w.heap.size, 0, none⟩ = some (.int .i64 sq) ∧ W.cell? ⟨w.heap.size, 1, none⟩ = some (.int .i64 tm) ∧ W.cell? ⟨w.heap.size, 2, none⟩ = some (.int .u8 cp) ∧ W.cell? ⟨w.heap.size, 3, none⟩ = some (.int .u8 k2) ∧ W.cell? ⟨w.heap.size, 4, none⟩ = some (.int .i64 tk) ∧ W.cell? ⟨w.heap.size, 5, none⟩ = some (.int .i64 gr) ∧ W.cell? ⟨w.heap.size, 6, none⟩ = some (.int .i64 to_) ∧ W.cell? ⟨w.heap.size, 7, none⟩ = some (.int .i64 wg) ∧ W.cell? ⟨w.heap.size, 8, none⟩ = some (.int .i64 tc) ∧ W.cell? ⟨w.heap.size, 9, none⟩ = some (.int .u64 mk) ∧ W.cell? ⟨w.heap.size, 10, none⟩ = some (.int .i64 gt)) (first
        | with_reducible exact HKC.out _ HA5.out
        | with_reducible exact HKC.out _ HA6.out
        | with_reducible exact HKC.out _ HB6.out
        | with_reducible exact HKC.out _ (HB6.out.alloc HB6.out.size _)
        | (have t2 : Below w3.heap.size w3 (((((((((((w6.setCell ⟨w3.heap.size, 0, none⟩ (.int .i64 0)).setCell ⟨w3.heap.size, 1, none⟩ (.int .i64 0)).setCell ⟨w3.heap.size, 2, none⟩ (.int .u8 0)).setCell ⟨w3.heap.size, 3, none⟩ (.int .u8 0)).setCell ⟨w3.heap.size, 4, none⟩ (.int .i64 0)).setCell ⟨w3.heap.size, 5, none⟩ (.int .i64 0)).setCell ⟨w3.heap.size, 6, none⟩ (.int .i64 0)).setCell ⟨w3.heap.size, 7, none⟩ (.int .i64 0)).setCell ⟨w3.heap.size, 8, none⟩ (.int .i64 0)).setCell ⟨w3.heap.size, 9, none⟩ (.int .u64 0)).setCell ⟨w3.heap.size, 10, none⟩ (.int .i64 0)) := below_setAll HB6.out (Nat.le_refl w3.heap.size) 0 0 0 0 0 0 0 0 0 0 0; with_reducible exact HKC.out _ t2)) (first
        | (go_at_call 19; ((with_reducible refine (with_kind sq tm cp k2 tk gr to_ wg tc mk gt HK2.out HN2.out _ _ _ w3.drew).mono ?_); rintro e w6 ⟨rfl, hb'⟩; have HB6 := Lib.hid (HA5.out.trans (hb'.mono HA5.out.size)); have HN6 := Lib.hid (EBox.new w6 0 0 0 0 0 0 0 0 0 0 0); clear hb'))
        | (go_at_call 19; ((with_reducible refine (with_kind sq tm cp k2 tk gr to_ wg tc mk gt HK2.out HN2.out _ _ _ D.drew).mono ?_); rintro e w6 ⟨rfl, hb'⟩; have HB6 := Lib.hid (HA6.out.trans (hb'.mono HA6.out.size)); have HD6 := Lib.hid (HD6_.out.keep hb'); clear hb'; obtain ⟨q0, q1, q2, q3, q4, q5, q6, q7, q8, q9, q10⟩ := HD6.out.cells; have f0 := HD6.out.free 0; have f1 := HD6.out.free 1; have f2 := HD6.out.free 2; have f3 := HD6.out.free 3; have f4 := HD6.out.free 4; have f5 := HD6.out.free 5; have f6 := HD6.out.free 6; have f7 := HD6.out.free 7; have f8 := HD6.out.free 8; have f9 := HD6.out.free 9; have f10 := HD6.out.free 10)))
      all_goals
        go_wp2
        go_meet
        first
          | exact ⟨_, rfl, rfl, HN6, Lib.hid (HB6.out.alloc HB6.out.size _)⟩
          | (have t1 := EBox.setAll HD6.out 0 0 0 0 0 0 0 0 0 0 0
             have t2 := below_setAll HB6.out (Nat.le_refl _) 0 0 0 0 0 0 0 0 0 0 0
             exact ⟨_, rfl, rfl, Lib.hid t1, Lib.hid t2⟩)
    case rest =>
      obtain ⟨B, rfl, rfl, HO7, HBX⟩ := hcut
      have HB7 := Lib.hid (HB3.out.trans (HBX.out.mono HB3.out.size))
      have HX7 := Lib.hid (HX3.out.keep HBX.out)
      have HE7 := Lib.hid (HE3.out.below HBX.out)
      clear z0 z1 z2 z3 z4 z5 z6 z7 z8 z9 z10
      obtain ⟨z0, z1, z2, z3, z4, z5, z6, z7, z8, z9, z10⟩ := HX7.out.cells
      go_wp2_with (first
        | (go_at_call 15; ((with_reducible refine (text_no sq tm cp k2 tk gr to_ wg tc mk gt HWF.out 60 HCK.out (by decide) _ HE7.out).mono ?_); rintro e w8 ⟨rfl, hb⟩; have HB8 := Lib.hid (HB7.out.trans (hb.mono HB7.out.size)); have HX8 := Lib.hid (HX7.out.keep hb); have HO8 := Lib.hid (HO7.out.keep hb); have HE8 := Lib.hid (HE7.out.below hb); obtain ⟨u0, u1, u2, u3, u4, u5, u6, u7, u8, u9, u10⟩ := HX8.out.cells; clear hb))
        | (go_at_call 17; ((with_reducible refine (check_any sq tm cp k2 tk gr to_ wg tc mk gt HWF.out 60 HCK.out _ HE8.out).mono ?_); rintro e w9 ⟨rfl, hb⟩; have HB9 := Lib.hid (HB8.out.trans (hb.mono HB8.out.size)); have HO9 := Lib.hid (HO8.out.keep hb); obtain ⟨o0, o1, o2, o3, o4, o5, o6, o7, o8, o9, o10⟩ := HO9.out.cells; clear hb)))
      go_ret
      exact ⟨rfl, HB9.out⟩
set_option maxRecDepth 100000 in
set_option maxHeartbeats 4000000 in
theorem wrong_n (sq tm : Int) (cp kd : Nat) (tk gr to_ wg tc : Int) (mk : Nat) (gt : Int) (hw : Ev.WF sq tm cp kd tk gr to_ wg tc mk gt) (hn : ¬ (1 ≤ kd ∧ kd ≤ 10)) (a : Option Addr) (ln cap : Nat) (ha : (ln = 0 ∧ cap = 0) ∨ ∃ b off, a = some (⟨b, off, none⟩ : Addr)) (hlc : ln ≤ cap) (hcm : cap ≤ maxLen) (w : World) (h : A6 w) : Calls Tryd.prog 10 #[.agg #[.int .i64 sq, .int .i64 tm, .int .u8 cp, .int .u8 kd, .int .i64 tk, .int .i64 gr, .int .i64 to_, .int .i64 wg, .int .i64 tc, .int .u64 mk, .int .i64 gt], .slice a ln cap] w fun e w' => e = .returned (.bool true) ∧ Below w.heap.size w w' := by
  obtain ⟨k2, hk⟩ : ∃ k2, kd = k2 := ⟨_, rfl⟩
  subst hk
  have hW2 : Ev.WF sq tm cp kd tk gr to_ wg tc mk gt := hw
  have hn2 : ¬ (1 ≤ kd ∧ kd ≤ 10) := hn
  have g : (decide ((1 : Int) ≤ (kd : Int)) = false ∧ ¬ (1 : Int) ≤ (kd : Int)) ∨ ((decide ((1 : Int) ≤ (kd : Int)) = true ∧ (1 : Int) ≤ (kd : Int)) ∧ decide ((kd : Int) ≤ 10) = false ∧ ¬ (kd : Int) ≤ 10) := by
    by_cases h1 : 1 ≤ kd
    · exact .inr ⟨⟨by rw [decide_eq_true_eq]; omega, by omega⟩, by rw [decide_eq_false_iff_not]; omega, by omega⟩
    · exact .inl ⟨by rw [decide_eq_false_iff_not]; omega, by omega⟩
  have HWF : Hid (Ev.WF sq tm cp kd tk gr to_ wg tc mk gt) := hW2
  have HN2 : Hid (¬ (1 ≤ kd ∧ kd ≤ 10)) := hn2
  have HCK : Hid (Ev.check sq tm cp kd tk gr to_ wg tc mk gt = 60) := check_60 hn2
  have HK2 : Hid (kd < 256) := hW2.2.2.2.1
  have HA := Lib.hid h
  have HX := Lib.hid (EBox.new w sq tm cp kd tk gr to_ wg tc mk gt)
  have HBW : Hid (Below w.heap.size w (w.alloc (.cells #[.int .i64 sq, .int .i64 tm, .int .u8 cp, .int .u8 kd, .int .i64 tk, .int .i64 gr, .int .i64 to_, .int .i64 wg, .int .i64 tc, .int .u64 mk, .int .i64 gt] 24))) := (Below.refl _ w).alloc (Nat.le_refl _) _
  have HAW : Hid (A6 (w.alloc (.cells #[.int .i64 sq, .int .i64 tm, .int .u8 cp, .int .u8 kd, .int .i64 tk, .int .i64 gr, .int .i64 to_, .int .i64 wg, .int .i64 tc, .int .u64 mk, .int .i64 gt] 24))) := h.below HBW.out
  obtain ⟨mn, hmn⟩ : ∃ mn : Nat, min ln 20 = mn := ⟨_, rfl⟩
  have hmn' := hmn
  have hmi : min (ln : Int) 20 = (mn : Int) := by omega
  have hmc : (mn : Int) ≤ (cap : Int) := by omega
  have hm0 : (0 : Int) ≤ (mn : Int) := by omega
  have hmw : IntKind.i64.wrap (mn : Int) = (mn : Int) := by rw [IntKind.wrap_i64]; omega
  have heqz : ∀ W : World, (Op.equalIn 10000 24 (.agg #[.int .i64 0, .int .i64 0, .int .u8 0, .int .u8 0, .int .i64 0, .int .i64 0, .int .i64 0, .int .i64 0, .int .i64 0, .int .u64 0, .int .i64 0]) (.agg #[.int .i64 0, .int .i64 0, .int .u8 0, .int .u8 0, .int .i64 0, .int .i64 0, .int .i64 0, .int .i64 0, .int .i64 0, .int .u64 0, .int .i64 0])).run Tryd.prog W = .ok true W := fun W => by simpa using run_eq_ev 0 0 0 0 0 0 0 0 0 0 0 0 0 0 0 0 0 0 0 0 0 0 W
  have hcm' : (cap : Int) ≤ 9223372036854775807 := by unfold maxLen at hcm; omega
  clear hw hn hW2 hn2 h hlc hcm hmn
  obtain ⟨W0, hW0⟩ : ∃ W, w.alloc (.cells #[.int .i64 sq, .int .i64 tm, .int .u8 cp, .int .u8 kd, .int .i64 tk, .int .i64 gr, .int .i64 to_, .int .i64 wg, .int .i64 tc, .int .u64 mk, .int .i64 gt] 24) = W := ⟨_, rfl⟩
  rw [hW0] at HX HBW HAW
  obtain ⟨x0, x1, x2, x3, x4, x5, x6, x7, x8, x9, x10⟩ := HX.out.cells
  clear hmn' ha
  rcases a with _ | ⟨ba, oa, sa⟩
  all_goals rcases g with ⟨g1, g2⟩ | ⟨⟨g1, g2⟩, g3, g4⟩
  all_goals
    go_enter Tryd.func10, Tryd.ntmps10
    go_upto_region 5 with (first
      | (go_at_call 12; ((with_reducible refine (awake_any _ HAW.out).mono ?_); rintro e w1 ⟨rfl, hb⟩; have HB1 := Lib.hid (HBW.out.trans (hb.mono HBW.out.size)); have HA1 := Lib.hid (HAW.out.below hb); have HX1 := Lib.hid (HX.out.keep hb); clear hb; obtain ⟨y0, y1, y2, y3, y4, y5, y6, y7, y8, y9, y10⟩ := HX1.out.cells; have f3 := HX1.out.free 3)))
    clear x0 x1 x2 x3 x4 x5 x6 x7 x8 x9 x10 y0 y1 y2 y3 y4 y5 y6 y7 y8 y9 y10 f3
    have HB2 := HB1
    have HX2 := HX1
    have HE2 : Hid (Ev.HE w1) := HA.out.1.below HB1.out
    generalize w1 = w2 at HB2 HX2 HE2 ⊢
    obtain ⟨z0, z1, z2, z3, z4, z5, z6, z7, z8, z9, z10⟩ := HX2.out.cells
    go_upto_region 6 with (go_at_call 18; ((with_reducible refine (values_no sq tm cp kd tk gr to_ wg tc mk gt HWF.out 60 HCK.out (by decide) _ HE2.out).mono ?_); rintro e w3 ⟨rfl, hb⟩; have HB3 := Lib.hid (HB2.out.trans (hb.mono HB2.out.size)); have HX3 := Lib.hid (HX2.out.keep hb); have HE3 := Lib.hid (HE2.out.below hb); clear hb))
    clear z0 z1 z2 z3 z4 z5 z6 z7 z8 z9 z10
    have HA5 : Hid (Below w3.heap.size w3 w3.drew) := (Below.refl _ w3).drew
    have HA6 : Hid (Below w3.heap.size w3 (w3.alloc (.cells #[.int .i64 0, .int .i64 0, .int .u8 0, .int .u8 0, .int .i64 0, .int .i64 0, .int .i64 0, .int .i64 0, .int .i64 0, .int .u64 0, .int .i64 0] 24)).drew) := HA5.out.alloc (Nat.le_refl _) _
    have HD6_ : Hid (EBox (w3.alloc (.cells #[.int .i64 0, .int .i64 0, .int .u8 0, .int .u8 0, .int .i64 0, .int .i64 0, .int .i64 0, .int .i64 0, .int .i64 0, .int .u64 0, .int .i64 0] 24)).drew w3.heap.size 0 0 0 0 0 0 0 0 0 0 0) := (EBox.new w3 0 0 0 0 0 0 0 0 0 0 0).keep (Below.refl _ _).drew
    obtain ⟨D, hD⟩ : ∃ D, (w3.alloc (.cells #[.int .i64 0, .int .i64 0, .int .u8 0, .int .u8 0, .int .i64 0, .int .i64 0, .int .i64 0, .int .i64 0, .int .i64 0, .int .u64 0, .int .i64 0] 24)) = D := ⟨_, rfl⟩
    rw [hD] at HA6 HD6_
    have HKC : Hid (∀ W : World, Below w3.heap.size w3 W → W.cell? ⟨w.heap.size, 0, none⟩ = some (.int .i64 sq) ∧ W.cell? ⟨w.heap.size, 1, none⟩ = some (.int .i64 tm) ∧ W.cell? ⟨w.heap.size, 2, none⟩ = some (.int .u8 cp) ∧ W.cell? ⟨w.heap.size, 3, none⟩ = some (.int .u8 kd) ∧ W.cell? ⟨w.heap.size, 4, none⟩ = some (.int .i64 tk) ∧ W.cell? ⟨w.heap.size, 5, none⟩ = some (.int .i64 gr) ∧ W.cell? ⟨w.heap.size, 6, none⟩ = some (.int .i64 to_) ∧ W.cell? ⟨w.heap.size, 7, none⟩ = some (.int .i64 wg) ∧ W.cell? ⟨w.heap.size, 8, none⟩ = some (.int .i64 tc) ∧ W.cell? ⟨w.heap.size, 9, none⟩ = some (.int .u64 mk) ∧ W.cell? ⟨w.heap.size, 10, none⟩ = some (.int .i64 gt)) := fun W hW => (HX3.out.keep hW).cells
    obtain ⟨z0, z1, z2, z3, z4, z5, z6, z7, z8, z9, z10⟩ := HX3.out.cells
    go_cut [7, 8] (fun s7 s8 wx => ∃ B : Nat, s7 = .pointer (some ⟨B, 0, none⟩) ∧ s8 = .int .i64 60 ∧ Hid (EBox wx B 0 0 0 0 0 0 0 0 0 0 0) ∧ Hid (Below w3.heap.size w3 wx))
    case first =>
      go_region_held3 (fun W => W.cell? ⟨w.heap.size, 0, none⟩ = some (.int .i64 sq) ∧ W.cell? ⟨w.heap.size, 1, none⟩ = some (.int .i64 tm) ∧ W.cell? ⟨w.heap.size, 2, none⟩ = some (.int .u8 cp) ∧ W.cell? ⟨w.heap.size, 3, none⟩ = some (.int .u8 kd) ∧ W.cell? ⟨w.heap.size, 4, none⟩ = some (.int .i64 tk) ∧ W.cell? ⟨w.heap.size, 5, none⟩ = some (.int .i64 gr) ∧ W.cell? ⟨w.heap.size, 6, none⟩ = some (.int .i64 to_) ∧ W.cell? ⟨w.heap.size, 7, none⟩ = some (.int .i64 wg) ∧ W.cell? ⟨w.heap.size, 8, none⟩ = some (.int .i64 tc) ∧ W.cell? ⟨w.heap.size, 9, none⟩ = some (.int .u64 mk) ∧ W.cell? ⟨w.heap.size, 10, none⟩ = some (.int .i64 gt)) (first
        | with_reducible exact HKC.out _ HA5.out
        | with_reducible exact HKC.out _ HA6.out
        | with_reducible exact HKC.out _ HB6.out
        | with_reducible exact HKC.out _ (HB6.out.alloc HB6.out.size _)
        | (have t2 : Below w3.heap.size w3 (((((((((((w6.setCell ⟨w3.heap.size, 0, none⟩ (.int .i64 0)).setCell ⟨w3.heap.size, 1, none⟩ (.int .i64 0)).setCell ⟨w3.heap.size, 2, none⟩ (.int .u8 0)).setCell ⟨w3.heap.size, 3, none⟩ (.int .u8 0)).setCell ⟨w3.heap.size, 4, none⟩ (.int .i64 0)).setCell ⟨w3.heap.size, 5, none⟩ (.int .i64 0)).setCell ⟨w3.heap.size, 6, none⟩ (.int .i64 0)).setCell ⟨w3.heap.size, 7, none⟩ (.int .i64 0)).setCell ⟨w3.heap.size, 8, none⟩ (.int .i64 0)).setCell ⟨w3.heap.size, 9, none⟩ (.int .u64 0)).setCell ⟨w3.heap.size, 10, none⟩ (.int .i64 0)) := below_setAll HB6.out (Nat.le_refl w3.heap.size) 0 0 0 0 0 0 0 0 0 0 0; with_reducible exact HKC.out _ t2)) (first
        | (go_at_call 19; ((with_reducible refine (with_kind sq tm cp kd tk gr to_ wg tc mk gt HK2.out HN2.out _ _ _ w3.drew).mono ?_); rintro e w6 ⟨rfl, hb'⟩; have HB6 := Lib.hid (HA5.out.trans (hb'.mono HA5.out.size)); have HN6 := Lib.hid (EBox.new w6 0 0 0 0 0 0 0 0 0 0 0); clear hb'))
        | (go_at_call 19; ((with_reducible refine (with_kind sq tm cp kd tk gr to_ wg tc mk gt HK2.out HN2.out _ _ _ D.drew).mono ?_); rintro e w6 ⟨rfl, hb'⟩; have HB6 := Lib.hid (HA6.out.trans (hb'.mono HA6.out.size)); have HD6 := Lib.hid (HD6_.out.keep hb'); clear hb'; obtain ⟨q0, q1, q2, q3, q4, q5, q6, q7, q8, q9, q10⟩ := HD6.out.cells; have f0 := HD6.out.free 0; have f1 := HD6.out.free 1; have f2 := HD6.out.free 2; have f3 := HD6.out.free 3; have f4 := HD6.out.free 4; have f5 := HD6.out.free 5; have f6 := HD6.out.free 6; have f7 := HD6.out.free 7; have f8 := HD6.out.free 8; have f9 := HD6.out.free 9; have f10 := HD6.out.free 10)))
      all_goals
        go_wp2
        go_meet
        first
          | exact ⟨_, rfl, rfl, HN6, Lib.hid (HB6.out.alloc HB6.out.size _)⟩
          | (have t1 := EBox.setAll HD6.out 0 0 0 0 0 0 0 0 0 0 0
             have t2 := below_setAll HB6.out (Nat.le_refl _) 0 0 0 0 0 0 0 0 0 0 0
             exact ⟨_, rfl, rfl, Lib.hid t1, Lib.hid t2⟩)
    case rest =>
      obtain ⟨B, rfl, rfl, HO7, HBX⟩ := hcut
      have HB7 := Lib.hid (HB3.out.trans (HBX.out.mono HB3.out.size))
      have HX7 := Lib.hid (HX3.out.keep HBX.out)
      have HE7 := Lib.hid (HE3.out.below HBX.out)
      clear z0 z1 z2 z3 z4 z5 z6 z7 z8 z9 z10
      obtain ⟨z0, z1, z2, z3, z4, z5, z6, z7, z8, z9, z10⟩ := HX7.out.cells
      go_wp2_with (first
        | (go_at_call 15; ((with_reducible refine (text_no sq tm cp kd tk gr to_ wg tc mk gt HWF.out 60 HCK.out (by decide) _ HE7.out).mono ?_); rintro e w8 ⟨rfl, hb⟩; have HB8 := Lib.hid (HB7.out.trans (hb.mono HB7.out.size)); have HX8 := Lib.hid (HX7.out.keep hb); have HO8 := Lib.hid (HO7.out.keep hb); have HE8 := Lib.hid (HE7.out.below hb); obtain ⟨u0, u1, u2, u3, u4, u5, u6, u7, u8, u9, u10⟩ := HX8.out.cells; clear hb))
        | (go_at_call 17; ((with_reducible refine (check_any sq tm cp kd tk gr to_ wg tc mk gt HWF.out 60 HCK.out _ HE8.out).mono ?_); rintro e w9 ⟨rfl, hb⟩; have HB9 := Lib.hid (HB8.out.trans (hb.mono HB8.out.size)); have HO9 := Lib.hid (HO8.out.keep hb); obtain ⟨o0, o1, o2, o3, o4, o5, o6, o7, o8, o9, o10⟩ := HO9.out.cells; clear hb)))
      go_ret
      exact ⟨rfl, HB9.out⟩
theorem wrong_walk (e0 : Ev.E) (a1 : Option Addr) (len1 cap1 : Nat) (z1 : List Int) (w : World) (w0 : e0.wf) (w1 : IsRow .u64 w a1 len1 cap1 z1) (wx : A6 w) : Calls Tryd.prog 10 #[e0.v, .slice a1 len1 cap1] w fun e w' => e = .returned (.bool true) ∧ Below w.heap.size w w' := by
  have hr : ((len1 = 0 ∧ cap1 = 0) ∨ ∃ b off, a1 = some (⟨b, off, none⟩ : Addr)) ∧ len1 ≤ cap1 ∧ cap1 ≤ maxLen := by
    rcases w1 with ⟨h1, h2, h3, _⟩ | ⟨x, h1, h2, h3, h4, h5, _⟩
    · exact ⟨.inl ⟨h2, h3⟩, by omega, by unfold maxLen; omega⟩
    · by_cases hc : cap1 = 0
      · exact ⟨.inl ⟨by omega, hc⟩, h2, h3⟩
      · obtain ⟨b, off, spot⟩ := x
        have hs : spot = none := by simpa [Addr.add] using World.cell?_spot (h5 0 (by omega))
        subst hs
        exact ⟨.inr ⟨b, off, h1⟩, h2, h3⟩
  by_cases h : 1 ≤ e0.kd ∧ e0.kd ≤ 10
  · exact wrong_y _ _ _ _ _ _ _ _ _ _ _ w0 h.1 h.2 a1 len1 cap1 hr.1 hr.2.1 hr.2.2 w wx
  · exact wrong_n _ _ _ _ _ _ _ _ _ _ _ w0 h a1 len1 cap1 hr.1 hr.2.1 hr.2.2 w wx
end Go.Proofs.YtainjicbmjfnkaaDoor
