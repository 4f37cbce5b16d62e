/-
  likely: what With makes.
-/
import Derived.Test.YtainjicbmjfnkaaDoorRightE
import Derived.Deep.DeepCutAuto
namespace Go.Proofs.YtainjicbmjfnkaaDoor
open Go.RowKit
set_option linter.unusedVariables false
namespace Ev
theorem kname_four : ∀ k : Fin 11, 1 ≤ k.val → 4 ≤ (kname k.val).length := by decide
theorem find_four {x : List UInt8} {kd : Nat} (h : FindOut (str x) kd true) : 4 ≤ x.length := by
  rcases h with ⟨_, h1, h2, h3⟩ | ⟨h, _⟩
  · rw [str_inj h3]; exact kname_four ⟨kd, by omega⟩ h1
  · exact absurd h (by decide)
end Ev
set_option maxRecDepth 100000 in
set_option maxHeartbeats 4000000 in
theorem likely_made (s : List UInt8) (hs : s.length ≤ 1000000) (L : Nat) (hL : (Ev.wordsOf s).length = L) (h3 : 3 < L) (x : List UInt8) (hx : (Ev.wordsOf s)[3]? = some x) (kd : Nat) (hf : Ev.FindOut (Ev.str x) kd true) (bs : List Nat) (hbs : bs.length = 3) (hbn : ∀ (j : Nat) (y : List UInt8) (u : Nat), ((Ev.wordsOf s).take 3)[j]? = some y → bs[j]? = some u → Ev.num y = some u) (m : Nat) (hm : L = m + 4) (us : List Nat) (hus : us.length = m) (hyes : ∀ (j : Nat) (y : List UInt8) (u : Nat), ((Ev.wordsOf s).drop 4)[j]? = some y → us[j]? = some u → Ev.num y = some u) (hk1 : 1 ≤ kd) (hk2 : kd ≤ 10) (b0 b1 b2 : Nat) (hb0 : bs = [b0, b1, b2]) (sq tm : Int) (cp : Nat) (hsq : IntKind.i64.wrap (b0 : Int) = sq) (htm : IntKind.i64.wrap (b1 : Int) = tm) (hcpi : IntKind.u8.wrap (b2 : Int) = (cp : Int)) (hcp : cp < 256) (hmf : m = (Ev.kfs kd).length) (hlt : ∀ x ∈ us, x < 2 ^ 64) (l : List (Nat × Nat)) (hl : (Ev.kfs kd).zip us = l) (hr : Ev.within sq tm cp kd (Ev.geti l 0) (Ev.geti l 1) (Ev.geti l 2) (Ev.geti l 3) (Ev.geti l 4) (Ev.getn l 5) (Ev.geti l 6) = true) (w : World) (hM : Ml w) (hE : Ev.HE w) (hR : Er w) : Calls Tryd.prog 42 #[.string (Ev.str s)] w fun e w' => e = .returned (.tuple #[.agg #[.int .i64 sq, .int .i64 tm, .int .u8 cp, .int .u8 kd, .int .i64 (Ev.geti l 0), .int .i64 (Ev.geti l 1), .int .i64 (Ev.geti l 2), .int .i64 (Ev.geti l 3), .int .i64 (Ev.geti l 4), .int .u64 ((Ev.getn l 5 : Nat) : Int), .int .i64 (Ev.geti l 6)], .bool true]) ∧ Below w.heap.size w w' := by
  have HL := Lib.hid hL
  have hL' := hL
  have HS := Lib.hid hs
  have HB1 : Hid (Below w.heap.size w (w.alloc (.cells #[.int .i64 0, .int .i64 0, .int .u8 0, .int .u8 0, .int .i64 0, .int .i64 0, .int .i64 0, .int .i64 0, .int .i64 0, .int .u64 0, .int .i64 0] 24))) := (Below.refl _ w).alloc (Nat.le_refl _) _
  have HXB := Lib.hid (EBox.new w 0 0 0 0 0 0 0 0 0 0 0)
  have HM := Lib.hid (hM.below HB1.out)
  have HE := Lib.hid (hE.below HB1.out)
  have HX := Lib.hid hx
  have HF := Lib.hid hf
  have HR := Lib.hid (hR.below HB1.out)
  have HT3 : Hid (((Ev.wordsOf s).take 3).length = 3) := by show _ = _; rw [List.length_take, hL']; omega
  have HTL : Hid (∀ y ∈ (Ev.wordsOf s).take 3, y.length ≤ 1000000) := fun y hy => Nat.le_trans ((Ev.splitK_le [32] _ s).2.2 y (List.mem_of_mem_take hy)) hs
  have hL9 : L ≤ 9 := by rw [← hL']; have h1 := (Ev.splitK_le [32] (min 9 (s.length + 1) - 1) s).1; have h2 : (Ev.wordsOf s).length ≤ min 9 (s.length + 1) - 1 + 1 := h1; omega
  have HS4 : Hid (4 ≤ s.length) := by
    show _ ≤ _
    have h := (Ev.splitK_le [32] (min 9 (s.length + 1) - 1) s).2.2 x (List.mem_of_getElem? hx)
    have hk4 := Ev.find_four hf
    omega
  have HM9 : Hid (m ≤ 9) := by show _ ≤ _; omega
  have HT4 : Hid (((Ev.wordsOf s).drop 4).length = m) := by show _ = _; rw [List.length_drop, hL']; omega
  have HTD : Hid (∀ y ∈ (Ev.wordsOf s).drop 4, y.length ≤ 1000000) := fun y hy => Nat.le_trans ((Ev.splitK_le [32] _ s).2.2 y (List.mem_of_mem_drop hy)) hs
  have HBS := Lib.hid hbs
  have HBN := Lib.hid hbn
  have hm4 : (4 : Int) ≤ (L : Int) := by omega
  have hm4n : 4 ≤ L := by omega
  have hmm : (L : Int) - 4 = (m : Int) := by omega
  have hmn : L - 4 = m := by omega
  have HYE := Lib.hid hyes
  have HUS := Lib.hid hus
  have h3i : (3 : Int) < (L : Int) := by omega
  have HK1 := Lib.hid hk1
  have HK2 := Lib.hid hk2
  have HCP := Lib.hid hcp
  have HKD : Hid (kd < 256) := by show _ < _; omega
  have HMF := Lib.hid hmf
  have HMD : Hid (m = 0 → (Ev.wordsOf s).drop 4 = []) := fun h => List.eq_nil_of_length_eq_zero (by rw [HT4.out]; exact h)
  have HLT := Lib.hid hlt
  have HLL := Lib.hid hl
  have HWI := Lib.hid hr
  clear hlt hl hr
  subst hb0
  clear hL hs hM hE hx hf hL' hyes hus hR hbs hbn hL9 hm hk1 hk2 hcp hmf
  go_enter Tryd.func42, Tryd.ntmps42
  go_upto_region 13 with (first
    | (go_at_call 61; ((with_reducible refine (split_five s HS.out L HL.out HS4.out _ HM.out).mono ?_); rintro e w2 ⟨c, rfl, hc, h5, hw, hb⟩; simp only [World.size_alloc] at hw; have HSW := Lib.hid (hw.take 3); have HC := Lib.hid h5; have HSD := Lib.hid (hw.drop 4); have HR2 := Lib.hid (HR.out.below hb); obtain ⟨b, off, hbo, hlt, hcx⟩ := hw 3 x HX.out; have hcL : (L : Int) ≤ (c : Int) := (Int.ofNat_le.2 hc); cases hbo; simp only [Nat.zero_add] at hcx; have HB := Lib.hid (HB1.out.trans (hb.mono HB1.out.size)); have HY2 := Lib.hid (HXB.out.keep hb); have HE2 := Lib.hid (HE.out.below hb); clear hb hw hlt h5))
    | (go_at_call 24; ((with_reducible refine (find_any (Ev.str x) kd true HF.out _ HE2.out).mono ?_); rintro e w3 ⟨rfl, rfl⟩))
    | (go_at_call 62; ((with_reducible refine (numbers_yes _ 3 _ _ HT3.out (by decide) HTL.out [b0, b1, b2] HBS.out HBN.out _ HR2.out HSW.out).mono ?_); rintro e w4 ⟨ba, bc, rfl, hbo, hb⟩; have HB4 := Lib.hid (HB.out.trans (hb.mono HB.out.size)); have HY4 := Lib.hid (HY2.out.keep hb); have HSD4 := Lib.hid ((HSD.out.below hb).wide hb.size); have HR4 := Lib.hid (HR2.out.below hb); have HE4 := Lib.hid (HE2.out.below hb); obtain ⟨_, _, hva, hvs2, _⟩ := own_slice hbo; cases hva; have HSB := Lib.hid hvs2; clear hbo hb hvs2))
    | (go_at_call 62; ((with_reducible refine (numbers_yes _ m _ _ HT4.out HM9.out HTD.out us HUS.out HYE.out _ HR4.out HSD4.out).mono ?_); rintro e w5 ⟨va, vc, rfl, hvo, hb⟩; have HB5 := Lib.hid (HB4.out.trans (hb.mono HB4.out.size)); have HY5 := Lib.hid (HY4.out.keep hb); have HE5 := Lib.hid (HE4.out.below hb); obtain ⟨_, _, hva, hvs5, _⟩ := own_slice hvo; cases hva; have HSV := Lib.hid hvs5; obtain ⟨bb, ob, hba, hbl, hc0⟩ := HSB.out.below hb 0 b0 rfl; cases hba; replace hbl := Nat.lt_of_lt_of_le hbl hb.size; obtain ⟨_, _, hba, _, hc1⟩ := HSB.out.below hb 1 b1 rfl; cases hba; obtain ⟨_, _, hba, _, hc2⟩ := HSB.out.below hb 2 b2 rfl; cases hba; simp only [Nat.add_zero] at hc0; clear hvo hb hvs5)))
  case inl => have h5 := HC.out; omega
  clear hcx
  have HA5 : Hid (Below w5.heap.size w5 w5.drew) := (Below.refl _ w5).drew
  have HA6 : Hid (Below w5.heap.size w5 (w5.alloc (.cells #[.int .i64 0, .int .i64 0, .int .u8 0, .int .u8 0, .int .i64 0, .int .i64 0, .int .i64 0, .int .i64 0, .int .i64 0, .int .u64 0, .int .i64 0] 24)).drew) := HA5.out.alloc (Nat.le_refl _) _
  have HD5 := Lib.hid (EBox.new w5 0 0 0 0 0 0 0 0 0 0 0)
  have HD6_ : Hid (EBox (w5.alloc (.cells #[.int .i64 0, .int .i64 0, .int .u8 0, .int .u8 0, .int .i64 0, .int .i64 0, .int .i64 0, .int .i64 0, .int .i64 0, .int .u64 0, .int .i64 0] 24)).drew w5.heap.size 0 0 0 0 0 0 0 0 0 0 0) := HD5.out.keep (Below.refl _ _).drew
  obtain ⟨D, hD⟩ : ∃ D, (w5.alloc (.cells #[.int .i64 0, .int .i64 0, .int .u8 0, .int .u8 0, .int .i64 0, .int .i64 0, .int .i64 0, .int .i64 0, .int .i64 0, .int .u64 0, .int .i64 0] 24)) = D := ⟨_, rfl⟩
  rw [hD] at HA6 HD6_
  clear HD5
  have HKC : Hid (∀ W : World, Below w5.heap.size w5 W → W.cell? ⟨bb, ob, none⟩ = some (.int .u64 b0) ∧ W.cell? ⟨bb, ob + 1, none⟩ = some (.int .u64 b1) ∧ W.cell? ⟨bb, ob + 2, none⟩ = some (.int .u64 b2)) := fun W hW => ⟨(hW.cell (p := ⟨bb, ob, none⟩) hbl).trans hc0, (hW.cell (p := ⟨bb, ob + 1, none⟩) hbl).trans hc1, (hW.cell (p := ⟨bb, ob + 2, none⟩) hbl).trans hc2⟩
  have HNE : Hid (∀ W : World, Below w5.heap.size w5 W → (((((((((((((W.setCell ⟨w5.heap.size, 0, none⟩ (.int .i64 sq)).setCell ⟨w5.heap.size, 1, none⟩ (.int .i64 tm)).setCell ⟨w5.heap.size, 2, none⟩ (.int .u8 cp)).setCell ⟨w5.heap.size, 3, none⟩ (.int .u8 kd)).setCell ⟨w5.heap.size, 4, none⟩ (.int .i64 (Ev.geti l 0))).setCell ⟨w5.heap.size, 5, none⟩ (.int .i64 (Ev.geti l 1))).setCell ⟨w5.heap.size, 6, none⟩ (.int .i64 (Ev.geti l 2))).setCell ⟨w5.heap.size, 7, none⟩ (.int .i64 (Ev.geti l 3))).setCell ⟨w5.heap.size, 8, none⟩ (.int .i64 (Ev.geti l 4))).setCell ⟨w5.heap.size, 9, none⟩ (.int .u64 (Ev.getn l 5))).setCell ⟨w5.heap.size, 10, none⟩ (.int .i64 (Ev.geti l 6)))).cell? ⟨bb, ob, none⟩ = some (.int .u64 b0) ∧ ((((((((((((W.setCell ⟨w5.heap.size, 0, none⟩ (.int .i64 sq)).setCell ⟨w5.heap.size, 1, none⟩ (.int .i64 tm)).setCell ⟨w5.heap.size, 2, none⟩ (.int .u8 cp)).setCell ⟨w5.heap.size, 3, none⟩ (.int .u8 kd)).setCell ⟨w5.heap.size, 4, none⟩ (.int .i64 (Ev.geti l 0))).setCell ⟨w5.heap.size, 5, none⟩ (.int .i64 (Ev.geti l 1))).setCell ⟨w5.heap.size, 6, none⟩ (.int .i64 (Ev.geti l 2))).setCell ⟨w5.heap.size, 7, none⟩ (.int .i64 (Ev.geti l 3))).setCell ⟨w5.heap.size, 8, none⟩ (.int .i64 (Ev.geti l 4))).setCell ⟨w5.heap.size, 9, none⟩ (.int .u64 (Ev.getn l 5))).setCell ⟨w5.heap.size, 10, none⟩ (.int .i64 (Ev.geti l 6)))).cell? ⟨bb, ob + 1, none⟩ = some (.int .u64 b1) ∧ ((((((((((((W.setCell ⟨w5.heap.size, 0, none⟩ (.int .i64 sq)).setCell ⟨w5.heap.size, 1, none⟩ (.int .i64 tm)).setCell ⟨w5.heap.size, 2, none⟩ (.int .u8 cp)).setCell ⟨w5.heap.size, 3, none⟩ (.int .u8 kd)).setCell ⟨w5.heap.size, 4, none⟩ (.int .i64 (Ev.geti l 0))).setCell ⟨w5.heap.size, 5, none⟩ (.int .i64 (Ev.geti l 1))).setCell ⟨w5.heap.size, 6, none⟩ (.int .i64 (Ev.geti l 2))).setCell ⟨w5.heap.size, 7, none⟩ (.int .i64 (Ev.geti l 3))).setCell ⟨w5.heap.size, 8, none⟩ (.int .i64 (Ev.geti l 4))).setCell ⟨w5.heap.size, 9, none⟩ (.int .u64 (Ev.getn l 5))).setCell ⟨w5.heap.size, 10, none⟩ (.int .i64 (Ev.geti l 6)))).cell? ⟨bb, ob + 2, none⟩ = some (.int .u64 b2))) := fun W hW => HKC.out _ (below_setAll hW (Nat.le_refl _) sq tm cp kd (Ev.geti l 0) (Ev.geti l 1) (Ev.geti l 2) (Ev.geti l 3) (Ev.geti l 4) (Ev.getn l 5) (Ev.geti l 6))
  clear hbl
  go_cut [9, 10] (fun s9 s10 wx => ∃ B : Nat, s9 = .pointer (some ⟨B, 0, none⟩) ∧ s10 = .int .i64 0 ∧ Hid (EBox wx B sq tm cp kd (Ev.geti l 0) (Ev.geti l 1) (Ev.geti l 2) (Ev.geti l 3) (Ev.geti l 4) (Ev.getn l 5) (Ev.geti l 6)) ∧ Hid (Below w5.heap.size w5 wx))
  case first =>
    go_region_held3 (fun W => W.cell? ⟨bb, ob, none⟩ = some (.int .u64 b0) ∧ W.cell? ⟨bb, ob + 1, none⟩ = some (.int .u64 b1) ∧ W.cell? ⟨bb, ob + 2, none⟩ = some (.int .u64 b2)) (first
      | with_reducible exact HKC.out _ HA5.out
      | with_reducible exact HKC.out _ HA6.out
      | with_reducible exact HKC.out _ HB6.out
      | with_reducible exact HKC.out _ (HB6.out.alloc HB6.out.size _)
      | with_reducible exact HNE.out _ HB6.out) (first
      | (go_at_call 19; ((with_reducible refine (with_made0 sq tm cp kd HCP.out HKD.out HK1.out HK2.out _ m _ us HLT.out HUS.out HMF.out l HLL.out true HWI.out w5.drew (seen_wide HSV.out HA5.out) (HE5.out.below HA5.out)).mono ?_); rintro e w6 ⟨rfl, hb'⟩; simp only [if_true]; have HB6 := Lib.hid (HA5.out.trans (hb'.mono HA5.out.size)); have HN6 := Lib.hid (EBox.new w6 sq tm cp kd (Ev.geti l 0) (Ev.geti l 1) (Ev.geti l 2) (Ev.geti l 3) (Ev.geti l 4) (Ev.getn l 5) (Ev.geti l 6)); clear hb'))
      | (go_at_call 19; ((with_reducible refine (with_made0 sq tm cp kd HCP.out HKD.out HK1.out HK2.out _ m _ us HLT.out HUS.out HMF.out l HLL.out true HWI.out D.drew (seen_wide HSV.out HA6.out) (HE5.out.below HA6.out)).mono ?_); rintro e w6 ⟨rfl, hb'⟩; simp only [if_true]; have HB6 := Lib.hid (HA6.out.trans (hb'.mono HA6.out.size)); have HD6 := Lib.hid (HD6_.out.keep hb'); clear hb'; obtain ⟨q0, q1, q2, q3, q4, q5, q6, q7, q8, q9, q10⟩ := HD6.out.cells; have f0 := HD6.out.free 0; have f1 := HD6.out.free 1; have f2 := HD6.out.free 2; have f3 := HD6.out.free 3; have f4 := HD6.out.free 4; have f5 := HD6.out.free 5; have f6 := HD6.out.free 6; have f7 := HD6.out.free 7; have f8 := HD6.out.free 8; have f9 := HD6.out.free 9; have f10 := HD6.out.free 10)))
    all_goals
      go_wp2
      go_meet
      first
        | exact ⟨_, rfl, rfl, HN6, Lib.hid (HB6.out.alloc HB6.out.size _)⟩
        | (have t1 := EBox.setAll HD6.out sq tm cp kd (Ev.geti l 0) (Ev.geti l 1) (Ev.geti l 2) (Ev.geti l 3) (Ev.geti l 4) (Ev.getn l 5) (Ev.geti l 6)
           have t2 := below_setAll HB6.out (Nat.le_refl _) sq tm cp kd (Ev.geti l 0) (Ev.geti l 1) (Ev.geti l 2) (Ev.geti l 3) (Ev.geti l 4) (Ev.getn l 5) (Ev.geti l 6)
           exact ⟨_, rfl, rfl, Lib.hid t1, Lib.hid t2⟩)
  case rest =>
  obtain ⟨B, rfl, rfl, HO7, HBX⟩ := hcut
  have HB7 := Lib.hid (HB5.out.trans (HBX.out.mono HB5.out.size))
  have HY7 := Lib.hid (HY5.out.keep HBX.out)
  clear hc0 hc1 hc2
  obtain ⟨z0, z1, z2, z3, z4, z5, z6, z7, z8, z9, z10⟩ := HY7.out.cells
  obtain ⟨o0, o1, o2, o3, o4, o5, o6, o7, o8, o9, o10⟩ := HO7.out.cells
  have f0 := HY7.out.free 0; have f1 := HY7.out.free 1; have f2 := HY7.out.free 2; have f3 := HY7.out.free 3; have f4 := HY7.out.free 4; have f5 := HY7.out.free 5; have f6 := HY7.out.free 6; have f7 := HY7.out.free 7; have f8 := HY7.out.free 8; have f9 := HY7.out.free 9; have f10 := HY7.out.free 10
  go_wp2
  have hg := EBox.setAll HY7.out sq tm cp kd (Ev.geti l 0) (Ev.geti l 1) (Ev.geti l 2) (Ev.geti l 3) (Ev.geti l 4) (Ev.getn l 5) (Ev.geti l 6)
  have hbz := below_setAll HB7.out (Nat.le_refl _) sq tm cp kd (Ev.geti l 0) (Ev.geti l 1) (Ev.geti l 2) (Ev.geti l 3) (Ev.geti l 4) (Ev.getn l 5) (Ev.geti l 6)
  generalize (((((((((((wc.setCell ⟨w.heap.size, 0, none⟩ (.int .i64 sq)).setCell ⟨w.heap.size, 1, none⟩ (.int .i64 tm)).setCell ⟨w.heap.size, 2, none⟩ (.int .u8 cp)).setCell ⟨w.heap.size, 3, none⟩ (.int .u8 kd)).setCell ⟨w.heap.size, 4, none⟩ (.int .i64 (Ev.geti l 0))).setCell ⟨w.heap.size, 5, none⟩ (.int .i64 (Ev.geti l 1))).setCell ⟨w.heap.size, 6, none⟩ (.int .i64 (Ev.geti l 2))).setCell ⟨w.heap.size, 7, none⟩ (.int .i64 (Ev.geti l 3))).setCell ⟨w.heap.size, 8, none⟩ (.int .i64 (Ev.geti l 4))).setCell ⟨w.heap.size, 9, none⟩ (.int .u64 (Ev.getn l 5))).setCell ⟨w.heap.size, 10, none⟩ (.int .i64 (Ev.geti l 6))) = Wz at hg hbz ⊢
  obtain ⟨g0, g1, g2, g3, g4, g5, g6, g7, g8, g9, g10⟩ := hg.cells
  refine bodyPost_ret (v := .tuple #[.agg #[.int .i64 sq, .int .i64 tm, .int .u8 cp, .int .u8 kd, .int .i64 (Ev.geti l 0), .int .i64 (Ev.geti l 1), .int .i64 (Ev.geti l 2), .int .i64 (Ev.geti l 3), .int .i64 (Ev.geti l 4), .int .u64 ((Ev.getn l 5 : Nat) : Int), .int .i64 (Ev.geti l 6)], .bool true]) ?_ rfl ⟨rfl, hbz⟩
  simp [results, Tryd.results42, go_sem, g0, g1, g2, g3, g4, g5, g6, g7, g8, g9, g10]
set_option maxRecDepth 100000 in
set_option maxHeartbeats 4000000 in
theorem likely_wrong (s : List UInt8) (hs : s.length ≤ 1000000) (L : Nat) (hL : (Ev.wordsOf s).length = L) (h3 : 3 < L) (x : List UInt8) (hx : (Ev.wordsOf s)[3]? = some x) (kd : Nat) (hf : Ev.FindOut (Ev.str x) kd true) (bs : List Nat) (hbs : bs.length = 3) (hbn : ∀ (j : Nat) (y : List UInt8) (u : Nat), ((Ev.wordsOf s).take 3)[j]? = some y → bs[j]? = some u → Ev.num y = some u) (m : Nat) (hm : L = m + 4) (us : List Nat) (hus : us.length = m) (hyes : ∀ (j : Nat) (y : List UInt8) (u : Nat), ((Ev.wordsOf s).drop 4)[j]? = some y → us[j]? = some u → Ev.num y = some u) (hk1 : 1 ≤ kd) (hk2 : kd ≤ 10) (b0 b1 b2 : Nat) (hb0 : bs = [b0, b1, b2]) (sq tm : Int) (cp : Nat) (hsq : IntKind.i64.wrap (b0 : Int) = sq) (htm : IntKind.i64.wrap (b1 : Int) = tm) (hcpi : IntKind.u8.wrap (b2 : Int) = (cp : Int)) (hcp : cp < 256) (hmf : m = (Ev.kfs kd).length) (hlt : ∀ x ∈ us, x < 2 ^ 64) (l : List (Nat × Nat)) (hl : (Ev.kfs kd).zip us = l) (hr : Ev.within sq tm cp kd (Ev.geti l 0) (Ev.geti l 1) (Ev.geti l 2) (Ev.geti l 3) (Ev.geti l 4) (Ev.getn l 5) (Ev.geti l 6) = false) (w : World) (hM : Ml w) (hE : Ev.HE w) (hR : Er w) : Calls Tryd.prog 42 #[.string (Ev.str s)] w fun e w' => e = .returned (.tuple #[zeroE, .bool false]) ∧ Below w.heap.size w w' := by
  have HL := Lib.hid hL
  have hL' := hL
  have HS := Lib.hid hs
  have HB1 : Hid (Below w.heap.size w (w.alloc (.cells #[.int .i64 0, .int .i64 0, .int .u8 0, .int .u8 0, .int .i64 0, .int .i64 0, .int .i64 0, .int .i64 0, .int .i64 0, .int .u64 0, .int .i64 0] 24))) := (Below.refl _ w).alloc (Nat.le_refl _) _
  have HXB := Lib.hid (EBox.new w 0 0 0 0 0 0 0 0 0 0 0)
  have HM := Lib.hid (hM.below HB1.out)
  have HE := Lib.hid (hE.below HB1.out)
  have HX := Lib.hid hx
  have HF := Lib.hid hf
  have HR := Lib.hid (hR.below HB1.out)
  have HT3 : Hid (((Ev.wordsOf s).take 3).length = 3) := by show _ = _; rw [List.length_take, hL']; omega
  have HTL : Hid (∀ y ∈ (Ev.wordsOf s).take 3, y.length ≤ 1000000) := fun y hy => Nat.le_trans ((Ev.splitK_le [32] _ s).2.2 y (List.mem_of_mem_take hy)) hs
  have hL9 : L ≤ 9 := by rw [← hL']; have h1 := (Ev.splitK_le [32] (min 9 (s.length + 1) - 1) s).1; have h2 : (Ev.wordsOf s).length ≤ min 9 (s.length + 1) - 1 + 1 := h1; omega
  have HS4 : Hid (4 ≤ s.length) := by
    show _ ≤ _
    have h := (Ev.splitK_le [32] (min 9 (s.length + 1) - 1) s).2.2 x (List.mem_of_getElem? hx)
    have hk4 := Ev.find_four hf
    omega
  have HM9 : Hid (m ≤ 9) := by show _ ≤ _; omega
  have HT4 : Hid (((Ev.wordsOf s).drop 4).length = m) := by show _ = _; rw [List.length_drop, hL']; omega
  have HTD : Hid (∀ y ∈ (Ev.wordsOf s).drop 4, y.length ≤ 1000000) := fun y hy => Nat.le_trans ((Ev.splitK_le [32] _ s).2.2 y (List.mem_of_mem_drop hy)) hs
  have HBS := Lib.hid hbs
  have HBN := Lib.hid hbn
  have hm4 : (4 : Int) ≤ (L : Int) := by omega
  have hm4n : 4 ≤ L := by omega
  have hmm : (L : Int) - 4 = (m : Int) := by omega
  have hmn : L - 4 = m := by omega
  have HYE := Lib.hid hyes
  have HUS := Lib.hid hus
  have h3i : (3 : Int) < (L : Int) := by omega
  have HK1 := Lib.hid hk1
  have HK2 := Lib.hid hk2
  have HCP := Lib.hid hcp
  have HKD : Hid (kd < 256) := by show _ < _; omega
  have HMF := Lib.hid hmf
  have HMD : Hid (m = 0 → (Ev.wordsOf s).drop 4 = []) := fun h => List.eq_nil_of_length_eq_zero (by rw [HT4.out]; exact h)
  have HLT := Lib.hid hlt
  have HLL := Lib.hid hl
  have HWI := Lib.hid hr
  clear hlt hl hr
  subst hb0
  clear hL hs hM hE hx hf hL' hyes hus hR hbs hbn hL9 hm hk1 hk2 hcp hmf
  go_enter Tryd.func42, Tryd.ntmps42
  go_upto_region 13 with (first
    | (go_at_call 61; ((with_reducible refine (split_five s HS.out L HL.out HS4.out _ HM.out).mono ?_); rintro e w2 ⟨c, rfl, hc, h5, hw, hb⟩; simp only [World.size_alloc] at hw; have HSW := Lib.hid (hw.take 3); have HC := Lib.hid h5; have HSD := Lib.hid (hw.drop 4); have HR2 := Lib.hid (HR.out.below hb); obtain ⟨b, off, hbo, hlt, hcx⟩ := hw 3 x HX.out; have hcL : (L : Int) ≤ (c : Int) := (Int.ofNat_le.2 hc); cases hbo; simp only [Nat.zero_add] at hcx; have HB := Lib.hid (HB1.out.trans (hb.mono HB1.out.size)); have HY2 := Lib.hid (HXB.out.keep hb); have HE2 := Lib.hid (HE.out.below hb); clear hb hw hlt h5))
    | (go_at_call 24; ((with_reducible refine (find_any (Ev.str x) kd true HF.out _ HE2.out).mono ?_); rintro e w3 ⟨rfl, rfl⟩))
    | (go_at_call 62; ((with_reducible refine (numbers_yes _ 3 _ _ HT3.out (by decide) HTL.out [b0, b1, b2] HBS.out HBN.out _ HR2.out HSW.out).mono ?_); rintro e w4 ⟨ba, bc, rfl, hbo, hb⟩; have HB4 := Lib.hid (HB.out.trans (hb.mono HB.out.size)); have HY4 := Lib.hid (HY2.out.keep hb); have HSD4 := Lib.hid ((HSD.out.below hb).wide hb.size); have HR4 := Lib.hid (HR2.out.below hb); have HE4 := Lib.hid (HE2.out.below hb); obtain ⟨_, _, hva, hvs2, _⟩ := own_slice hbo; cases hva; have HSB := Lib.hid hvs2; clear hbo hb hvs2))
    | (go_at_call 62; ((with_reducible refine (numbers_yes _ m _ _ HT4.out HM9.out HTD.out us HUS.out HYE.out _ HR4.out HSD4.out).mono ?_); rintro e w5 ⟨va, vc, rfl, hvo, hb⟩; have HB5 := Lib.hid (HB4.out.trans (hb.mono HB4.out.size)); have HY5 := Lib.hid (HY4.out.keep hb); have HE5 := Lib.hid (HE4.out.below hb); obtain ⟨_, _, hva, hvs5, _⟩ := own_slice hvo; cases hva; have HSV := Lib.hid hvs5; obtain ⟨bb, ob, hba, hbl, hc0⟩ := HSB.out.below hb 0 b0 rfl; cases hba; replace hbl := Nat.lt_of_lt_of_le hbl hb.size; obtain ⟨_, _, hba, _, hc1⟩ := HSB.out.below hb 1 b1 rfl; cases hba; obtain ⟨_, _, hba, _, hc2⟩ := HSB.out.below hb 2 b2 rfl; cases hba; simp only [Nat.add_zero] at hc0; clear hvo hb hvs5)))
  case inl => have h5 := HC.out; omega
  clear hcx
  have HA5 : Hid (Below w5.heap.size w5 w5.drew) := (Below.refl _ w5).drew
  have HA6 : Hid (Below w5.heap.size w5 (w5.alloc (.cells #[.int .i64 0, .int .i64 0, .int .u8 0, .int .u8 0, .int .i64 0, .int .i64 0, .int .i64 0, .int .i64 0, .int .i64 0, .int .u64 0, .int .i64 0] 24)).drew) := HA5.out.alloc (Nat.le_refl _) _
  have HD5 := Lib.hid (EBox.new w5 0 0 0 0 0 0 0 0 0 0 0)
  have HD6_ : Hid (EBox (w5.alloc (.cells #[.int .i64 0, .int .i64 0, .int .u8 0, .int .u8 0, .int .i64 0, .int .i64 0, .int .i64 0, .int .i64 0, .int .i64 0, .int .u64 0, .int .i64 0] 24)).drew w5.heap.size 0 0 0 0 0 0 0 0 0 0 0) := HD5.out.keep (Below.refl _ _).drew
  obtain ⟨D, hD⟩ : ∃ D, (w5.alloc (.cells #[.int .i64 0, .int .i64 0, .int .u8 0, .int .u8 0, .int .i64 0, .int .i64 0, .int .i64 0, .int .i64 0, .int .i64 0, .int .u64 0, .int .i64 0] 24)) = D := ⟨_, rfl⟩
  rw [hD] at HA6 HD6_
  clear HD5
  have HKC : Hid (∀ W : World, Below w5.heap.size w5 W → W.cell? ⟨bb, ob, none⟩ = some (.int .u64 b0) ∧ W.cell? ⟨bb, ob + 1, none⟩ = some (.int .u64 b1) ∧ W.cell? ⟨bb, ob + 2, none⟩ = some (.int .u64 b2)) := fun W hW => ⟨(hW.cell (p := ⟨bb, ob, none⟩) hbl).trans hc0, (hW.cell (p := ⟨bb, ob + 1, none⟩) hbl).trans hc1, (hW.cell (p := ⟨bb, ob + 2, none⟩) hbl).trans hc2⟩
  have HNE : Hid (∀ W : World, Below w5.heap.size w5 W → (((((((((((((W.setCell ⟨w5.heap.size, 0, none⟩ (.int .i64 0)).setCell ⟨w5.heap.size, 1, none⟩ (.int .i64 0)).setCell ⟨w5.heap.size, 2, none⟩ (.int .u8 0)).setCell ⟨w5.heap.size, 3, none⟩ (.int .u8 0)).setCell ⟨w5.heap.size, 4, none⟩ (.int .i64 0)).setCell ⟨w5.heap.size, 5, none⟩ (.int .i64 0)).setCell ⟨w5.heap.size, 6, none⟩ (.int .i64 0)).setCell ⟨w5.heap.size, 7, none⟩ (.int .i64 0)).setCell ⟨w5.heap.size, 8, none⟩ (.int .i64 0)).setCell ⟨w5.heap.size, 9, none⟩ (.int .u64 0)).setCell ⟨w5.heap.size, 10, none⟩ (.int .i64 0))).cell? ⟨bb, ob, none⟩ = some (.int .u64 b0) ∧ ((((((((((((W.setCell ⟨w5.heap.size, 0, none⟩ (.int .i64 0)).setCell ⟨w5.heap.size, 1, none⟩ (.int .i64 0)).setCell ⟨w5.heap.size, 2, none⟩ (.int .u8 0)).setCell ⟨w5.heap.size, 3, none⟩ (.int .u8 0)).setCell ⟨w5.heap.size, 4, none⟩ (.int .i64 0)).setCell ⟨w5.heap.size, 5, none⟩ (.int .i64 0)).setCell ⟨w5.heap.size, 6, none⟩ (.int .i64 0)).setCell ⟨w5.heap.size, 7, none⟩ (.int .i64 0)).setCell ⟨w5.heap.size, 8, none⟩ (.int .i64 0)).setCell ⟨w5.heap.size, 9, none⟩ (.int .u64 0)).setCell ⟨w5.heap.size, 10, none⟩ (.int .i64 0))).cell? ⟨bb, ob + 1, none⟩ = some (.int .u64 b1) ∧ ((((((((((((W.setCell ⟨w5.heap.size, 0, none⟩ (.int .i64 0)).setCell ⟨w5.heap.size, 1, none⟩ (.int .i64 0)).setCell ⟨w5.heap.size, 2, none⟩ (.int .u8 0)).setCell ⟨w5.heap.size, 3, none⟩ (.int .u8 0)).setCell ⟨w5.heap.size, 4, none⟩ (.int .i64 0)).setCell ⟨w5.heap.size, 5, none⟩ (.int .i64 0)).setCell ⟨w5.heap.size, 6, none⟩ (.int .i64 0)).setCell ⟨w5.heap.size, 7, none⟩ (.int .i64 0)).setCell ⟨w5.heap.size, 8, none⟩ (.int .i64 0)).setCell ⟨w5.heap.size, 9, none⟩ (.int .u64 0)).setCell ⟨w5.heap.size, 10, none⟩ (.int .i64 0))).cell? ⟨bb, ob + 2, none⟩ = some (.int .u64 b2))) := fun W hW => HKC.out _ (below_setAll hW (Nat.le_refl _) 0 0 0 0 0 0 0 0 0 0 0)
  clear hbl
  go_cut [9, 10] (fun s9 s10 wx => ∃ B : Nat, s9 = .pointer (some ⟨B, 0, none⟩) ∧ s10 = .int .i64 61 ∧ Hid (EBox wx B 0 0 0 0 0 0 0 0 0 0 0) ∧ Hid (Below w5.heap.size w5 wx))
  case first =>
    go_region_held3 (fun W => W.cell? ⟨bb, ob, none⟩ = some (.int .u64 b0) ∧ W.cell? ⟨bb, ob + 1, none⟩ = some (.int .u64 b1) ∧ W.cell? ⟨bb, ob + 2, none⟩ = some (.int .u64 b2)) (first
      | with_reducible exact HKC.out _ HA5.out
      | with_reducible exact HKC.out _ HA6.out
      | with_reducible exact HKC.out _ HB6.out
      | with_reducible exact HKC.out _ (HB6.out.alloc HB6.out.size _)
      | with_reducible exact HNE.out _ HB6.out) (first
      | (go_at_call 19; ((with_reducible refine (with_made0 sq tm cp kd HCP.out HKD.out HK1.out HK2.out _ m _ us HLT.out HUS.out HMF.out l HLL.out false HWI.out w5.drew (seen_wide HSV.out HA5.out) (HE5.out.below HA5.out)).mono ?_); rintro e w6 ⟨rfl, hb'⟩; simp only [Bool.false_eq_true, if_false]; have HB6 := Lib.hid (HA5.out.trans (hb'.mono HA5.out.size)); have HN6 := Lib.hid (EBox.new w6 0 0 0 0 0 0 0 0 0 0 0); clear hb'))
      | (go_at_call 19; ((with_reducible refine (with_made0 sq tm cp kd HCP.out HKD.out HK1.out HK2.out _ m _ us HLT.out HUS.out HMF.out l HLL.out false HWI.out D.drew (seen_wide HSV.out HA6.out) (HE5.out.below HA6.out)).mono ?_); rintro e w6 ⟨rfl, hb'⟩; simp only [Bool.false_eq_true, if_false]; have HB6 := Lib.hid (HA6.out.trans (hb'.mono HA6.out.size)); have HD6 := Lib.hid (HD6_.out.keep hb'); clear hb'; obtain ⟨q0, q1, q2, q3, q4, q5, q6, q7, q8, q9, q10⟩ := HD6.out.cells; have f0 := HD6.out.free 0; have f1 := HD6.out.free 1; have f2 := HD6.out.free 2; have f3 := HD6.out.free 3; have f4 := HD6.out.free 4; have f5 := HD6.out.free 5; have f6 := HD6.out.free 6; have f7 := HD6.out.free 7; have f8 := HD6.out.free 8; have f9 := HD6.out.free 9; have f10 := HD6.out.free 10)))
    all_goals
      go_wp2
      go_meet
      first
        | exact ⟨_, rfl, rfl, HN6, Lib.hid (HB6.out.alloc HB6.out.size _)⟩
        | (have t1 := EBox.setAll HD6.out 0 0 0 0 0 0 0 0 0 0 0
           have t2 := below_setAll HB6.out (Nat.le_refl _) 0 0 0 0 0 0 0 0 0 0 0
           exact ⟨_, rfl, rfl, Lib.hid t1, Lib.hid t2⟩)
  case rest =>
  obtain ⟨B, rfl, rfl, HO7, HBX⟩ := hcut
  have HB7 := Lib.hid (HB5.out.trans (HBX.out.mono HB5.out.size))
  have HY7 := Lib.hid (HY5.out.keep HBX.out)
  clear hc0 hc1 hc2
  obtain ⟨z0, z1, z2, z3, z4, z5, z6, z7, z8, z9, z10⟩ := HY7.out.cells
  obtain ⟨o0, o1, o2, o3, o4, o5, o6, o7, o8, o9, o10⟩ := HO7.out.cells
  have f0 := HY7.out.free 0; have f1 := HY7.out.free 1; have f2 := HY7.out.free 2; have f3 := HY7.out.free 3; have f4 := HY7.out.free 4; have f5 := HY7.out.free 5; have f6 := HY7.out.free 6; have f7 := HY7.out.free 7; have f8 := HY7.out.free 8; have f9 := HY7.out.free 9; have f10 := HY7.out.free 10
  go_wp2
  have hg := EBox.setAll HY7.out 0 0 0 0 0 0 0 0 0 0 0
  have hbz := below_setAll HB7.out (Nat.le_refl _) 0 0 0 0 0 0 0 0 0 0 0
  generalize (((((((((((wc.setCell ⟨w.heap.size, 0, none⟩ (.int .i64 0)).setCell ⟨w.heap.size, 1, none⟩ (.int .i64 0)).setCell ⟨w.heap.size, 2, none⟩ (.int .u8 0)).setCell ⟨w.heap.size, 3, none⟩ (.int .u8 0)).setCell ⟨w.heap.size, 4, none⟩ (.int .i64 0)).setCell ⟨w.heap.size, 5, none⟩ (.int .i64 0)).setCell ⟨w.heap.size, 6, none⟩ (.int .i64 0)).setCell ⟨w.heap.size, 7, none⟩ (.int .i64 0)).setCell ⟨w.heap.size, 8, none⟩ (.int .i64 0)).setCell ⟨w.heap.size, 9, none⟩ (.int .u64 0)).setCell ⟨w.heap.size, 10, none⟩ (.int .i64 0)) = Wz at hg hbz ⊢
  obtain ⟨g0, g1, g2, g3, g4, g5, g6, g7, g8, g9, g10⟩ := hg.cells
  refine bodyPost_ret (v := .tuple #[zeroE, .bool false]) ?_ rfl ⟨rfl, hbz⟩
  simp [results, Tryd.results42, go_sem, zeroE, g0, g1, g2, g3, g4, g5, g6, g7, g8, g9, g10]
set_option maxRecDepth 100000 in
set_option maxHeartbeats 4000000 in
theorem likely_len (s : List UInt8) (hs : s.length ≤ 1000000) (L : Nat) (hL : (Ev.wordsOf s).length = L) (h3 : 3 < L) (x : List UInt8) (hx : (Ev.wordsOf s)[3]? = some x) (kd : Nat) (hf : Ev.FindOut (Ev.str x) kd true) (bs : List Nat) (hbs : bs.length = 3) (hbn : ∀ (j : Nat) (y : List UInt8) (u : Nat), ((Ev.wordsOf s).take 3)[j]? = some y → bs[j]? = some u → Ev.num y = some u) (m : Nat) (hm : L = m + 4) (us : List Nat) (hus : us.length = m) (hyes : ∀ (j : Nat) (y : List UInt8) (u : Nat), ((Ev.wordsOf s).drop 4)[j]? = some y → us[j]? = some u → Ev.num y = some u) (hk1 : 1 ≤ kd) (hk2 : kd ≤ 10) (b0 b1 b2 : Nat) (hb0 : bs = [b0, b1, b2]) (sq tm : Int) (cp : Nat) (hsq : IntKind.i64.wrap (b0 : Int) = sq) (htm : IntKind.i64.wrap (b1 : Int) = tm) (hcpi : IntKind.u8.wrap (b2 : Int) = (cp : Int)) (hcp : cp < 256) (hmf : m ≠ (Ev.kfs kd).length) (w : World) (hM : Ml w) (hE : Ev.HE w) (hR : Er w) : Calls Tryd.prog 42 #[.string (Ev.str s)] w fun e w' => e = .returned (.tuple #[zeroE, .bool false]) ∧ Below w.heap.size w w' := by
  have HL := Lib.hid hL
  have hL' := hL
  have HS := Lib.hid hs
  have HB1 : Hid (Below w.heap.size w (w.alloc (.cells #[.int .i64 0, .int .i64 0, .int .u8 0, .int .u8 0, .int .i64 0, .int .i64 0, .int .i64 0, .int .i64 0, .int .i64 0, .int .u64 0, .int .i64 0] 24))) := (Below.refl _ w).alloc (Nat.le_refl _) _
  have HXB := Lib.hid (EBox.new w 0 0 0 0 0 0 0 0 0 0 0)
  have HM := Lib.hid (hM.below HB1.out)
  have HE := Lib.hid (hE.below HB1.out)
  have HX := Lib.hid hx
  have HF := Lib.hid hf
  have HR := Lib.hid (hR.below HB1.out)
  have HT3 : Hid (((Ev.wordsOf s).take 3).length = 3) := by show _ = _; rw [List.length_take, hL']; omega
  have HTL : Hid (∀ y ∈ (Ev.wordsOf s).take 3, y.length ≤ 1000000) := fun y hy => Nat.le_trans ((Ev.splitK_le [32] _ s).2.2 y (List.mem_of_mem_take hy)) hs
  have hL9 : L ≤ 9 := by rw [← hL']; have h1 := (Ev.splitK_le [32] (min 9 (s.length + 1) - 1) s).1; have h2 : (Ev.wordsOf s).length ≤ min 9 (s.length + 1) - 1 + 1 := h1; omega
  have HS4 : Hid (4 ≤ s.length) := by
    show _ ≤ _
    have h := (Ev.splitK_le [32] (min 9 (s.length + 1) - 1) s).2.2 x (List.mem_of_getElem? hx)
    have hk4 := Ev.find_four hf
    omega
  have HM9 : Hid (m ≤ 9) := by show _ ≤ _; omega
  have HT4 : Hid (((Ev.wordsOf s).drop 4).length = m) := by show _ = _; rw [List.length_drop, hL']; omega
  have HTD : Hid (∀ y ∈ (Ev.wordsOf s).drop 4, y.length ≤ 1000000) := fun y hy => Nat.le_trans ((Ev.splitK_le [32] _ s).2.2 y (List.mem_of_mem_drop hy)) hs
  have HBS := Lib.hid hbs
  have HBN := Lib.hid hbn
  have hm4 : (4 : Int) ≤ (L : Int) := by omega
  have hm4n : 4 ≤ L := by omega
  have hmm : (L : Int) - 4 = (m : Int) := by omega
  have hmn : L - 4 = m := by omega
  have HYE := Lib.hid hyes
  have HUS := Lib.hid hus
  have h3i : (3 : Int) < (L : Int) := by omega
  have HK1 := Lib.hid hk1
  have HK2 := Lib.hid hk2
  have HCP := Lib.hid hcp
  have HKD : Hid (kd < 256) := by show _ < _; omega
  have HMF := Lib.hid hmf
  have HMD : Hid (m = 0 → (Ev.wordsOf s).drop 4 = []) := fun h => List.eq_nil_of_length_eq_zero (by rw [HT4.out]; exact h)
  subst hb0
  clear hL hs hM hE hx hf hL' hyes hus hR hbs hbn hL9 hm hk1 hk2 hcp hmf
  go_enter Tryd.func42, Tryd.ntmps42
  go_upto_region 13 with (first
    | (go_at_call 61; ((with_reducible refine (split_five s HS.out L HL.out HS4.out _ HM.out).mono ?_); rintro e w2 ⟨c, rfl, hc, h5, hw, hb⟩; simp only [World.size_alloc] at hw; have HSW := Lib.hid (hw.take 3); have HC := Lib.hid h5; have HSD := Lib.hid (hw.drop 4); have HR2 := Lib.hid (HR.out.below hb); obtain ⟨b, off, hbo, hlt, hcx⟩ := hw 3 x HX.out; have hcL : (L : Int) ≤ (c : Int) := (Int.ofNat_le.2 hc); cases hbo; simp only [Nat.zero_add] at hcx; have HB := Lib.hid (HB1.out.trans (hb.mono HB1.out.size)); have HY2 := Lib.hid (HXB.out.keep hb); have HE2 := Lib.hid (HE.out.below hb); clear hb hw hlt h5))
    | (go_at_call 24; ((with_reducible refine (find_any (Ev.str x) kd true HF.out _ HE2.out).mono ?_); rintro e w3 ⟨rfl, rfl⟩))
    | (go_at_call 62; ((with_reducible refine (numbers_yes _ 3 _ _ HT3.out (by decide) HTL.out [b0, b1, b2] HBS.out HBN.out _ HR2.out HSW.out).mono ?_); rintro e w4 ⟨ba, bc, rfl, hbo, hb⟩; have HB4 := Lib.hid (HB.out.trans (hb.mono HB.out.size)); have HY4 := Lib.hid (HY2.out.keep hb); have HSD4 := Lib.hid ((HSD.out.below hb).wide hb.size); have HR4 := Lib.hid (HR2.out.below hb); have HE4 := Lib.hid (HE2.out.below hb); obtain ⟨_, _, hva, hvs2, _⟩ := own_slice hbo; cases hva; have HSB := Lib.hid hvs2; clear hbo hb hvs2))
    | (go_at_call 62; ((with_reducible refine (numbers_yes _ m _ _ HT4.out HM9.out HTD.out us HUS.out HYE.out _ HR4.out HSD4.out).mono ?_); rintro e w5 ⟨va, vc, rfl, hvo, hb⟩; have HB5 := Lib.hid (HB4.out.trans (hb.mono HB4.out.size)); have HY5 := Lib.hid (HY4.out.keep hb); have HE5 := Lib.hid (HE4.out.below hb); obtain ⟨_, _, hva, hvs5, _⟩ := own_slice hvo; cases hva; have HSV := Lib.hid hvs5; obtain ⟨bb, ob, hba, hbl, hc0⟩ := HSB.out.below hb 0 b0 rfl; cases hba; replace hbl := Nat.lt_of_lt_of_le hbl hb.size; obtain ⟨_, _, hba, _, hc1⟩ := HSB.out.below hb 1 b1 rfl; cases hba; obtain ⟨_, _, hba, _, hc2⟩ := HSB.out.below hb 2 b2 rfl; cases hba; simp only [Nat.add_zero] at hc0; clear hvo hb hvs5)))
  case inl => have h5 := HC.out; omega
  clear hcx
  have HA5 : Hid (Below w5.heap.size w5 w5.drew) := (Below.refl _ w5).drew
  have HA6 : Hid (Below w5.heap.size w5 (w5.alloc (.cells #[.int .i64 0, .int .i64 0, .int .u8 0, .int .u8 0, .int .i64 0, .int .i64 0, .int .i64 0, .int .i64 0, .int .i64 0, .int .u64 0, .int .i64 0] 24)).drew) := HA5.out.alloc (Nat.le_refl _) _
  have HD5 := Lib.hid (EBox.new w5 0 0 0 0 0 0 0 0 0 0 0)
  have HD6_ : Hid (EBox (w5.alloc (.cells #[.int .i64 0, .int .i64 0, .int .u8 0, .int .u8 0, .int .i64 0, .int .i64 0, .int .i64 0, .int .i64 0, .int .i64 0, .int .u64 0, .int .i64 0] 24)).drew w5.heap.size 0 0 0 0 0 0 0 0 0 0 0) := HD5.out.keep (Below.refl _ _).drew
  obtain ⟨D, hD⟩ : ∃ D, (w5.alloc (.cells #[.int .i64 0, .int .i64 0, .int .u8 0, .int .u8 0, .int .i64 0, .int .i64 0, .int .i64 0, .int .i64 0, .int .i64 0, .int .u64 0, .int .i64 0] 24)) = D := ⟨_, rfl⟩
  rw [hD] at HA6 HD6_
  clear HD5
  have HKC : Hid (∀ W : World, Below w5.heap.size w5 W → W.cell? ⟨bb, ob, none⟩ = some (.int .u64 b0) ∧ W.cell? ⟨bb, ob + 1, none⟩ = some (.int .u64 b1) ∧ W.cell? ⟨bb, ob + 2, none⟩ = some (.int .u64 b2)) := fun W hW => ⟨(hW.cell (p := ⟨bb, ob, none⟩) hbl).trans hc0, (hW.cell (p := ⟨bb, ob + 1, none⟩) hbl).trans hc1, (hW.cell (p := ⟨bb, ob + 2, none⟩) hbl).trans hc2⟩
  have HNE : Hid (∀ W : World, Below w5.heap.size w5 W → (((((((((((((W.setCell ⟨w5.heap.size, 0, none⟩ (.int .i64 0)).setCell ⟨w5.heap.size, 1, none⟩ (.int .i64 0)).setCell ⟨w5.heap.size, 2, none⟩ (.int .u8 0)).setCell ⟨w5.heap.size, 3, none⟩ (.int .u8 0)).setCell ⟨w5.heap.size, 4, none⟩ (.int .i64 0)).setCell ⟨w5.heap.size, 5, none⟩ (.int .i64 0)).setCell ⟨w5.heap.size, 6, none⟩ (.int .i64 0)).setCell ⟨w5.heap.size, 7, none⟩ (.int .i64 0)).setCell ⟨w5.heap.size, 8, none⟩ (.int .i64 0)).setCell ⟨w5.heap.size, 9, none⟩ (.int .u64 0)).setCell ⟨w5.heap.size, 10, none⟩ (.int .i64 0))).cell? ⟨bb, ob, none⟩ = some (.int .u64 b0) ∧ ((((((((((((W.setCell ⟨w5.heap.size, 0, none⟩ (.int .i64 0)).setCell ⟨w5.heap.size, 1, none⟩ (.int .i64 0)).setCell ⟨w5.heap.size, 2, none⟩ (.int .u8 0)).setCell ⟨w5.heap.size, 3, none⟩ (.int .u8 0)).setCell ⟨w5.heap.size, 4, none⟩ (.int .i64 0)).setCell ⟨w5.heap.size, 5, none⟩ (.int .i64 0)).setCell ⟨w5.heap.size, 6, none⟩ (.int .i64 0)).setCell ⟨w5.heap.size, 7, none⟩ (.int .i64 0)).setCell ⟨w5.heap.size, 8, none⟩ (.int .i64 0)).setCell ⟨w5.heap.size, 9, none⟩ (.int .u64 0)).setCell ⟨w5.heap.size, 10, none⟩ (.int .i64 0))).cell? ⟨bb, ob + 1, none⟩ = some (.int .u64 b1) ∧ ((((((((((((W.setCell ⟨w5.heap.size, 0, none⟩ (.int .i64 0)).setCell ⟨w5.heap.size, 1, none⟩ (.int .i64 0)).setCell ⟨w5.heap.size, 2, none⟩ (.int .u8 0)).setCell ⟨w5.heap.size, 3, none⟩ (.int .u8 0)).setCell ⟨w5.heap.size, 4, none⟩ (.int .i64 0)).setCell ⟨w5.heap.size, 5, none⟩ (.int .i64 0)).setCell ⟨w5.heap.size, 6, none⟩ (.int .i64 0)).setCell ⟨w5.heap.size, 7, none⟩ (.int .i64 0)).setCell ⟨w5.heap.size, 8, none⟩ (.int .i64 0)).setCell ⟨w5.heap.size, 9, none⟩ (.int .u64 0)).setCell ⟨w5.heap.size, 10, none⟩ (.int .i64 0))).cell? ⟨bb, ob + 2, none⟩ = some (.int .u64 b2))) := fun W hW => HKC.out _ (below_setAll hW (Nat.le_refl _) 0 0 0 0 0 0 0 0 0 0 0)
  clear hbl
  go_cut [9, 10] (fun s9 s10 wx => ∃ B : Nat, s9 = .pointer (some ⟨B, 0, none⟩) ∧ s10 = .int .i64 2 ∧ Hid (EBox wx B 0 0 0 0 0 0 0 0 0 0 0) ∧ Hid (Below w5.heap.size w5 wx))
  case first =>
    go_region_held3 (fun W => W.cell? ⟨bb, ob, none⟩ = some (.int .u64 b0) ∧ W.cell? ⟨bb, ob + 1, none⟩ = some (.int .u64 b1) ∧ W.cell? ⟨bb, ob + 2, none⟩ = some (.int .u64 b2)) (first
      | with_reducible exact HKC.out _ HA5.out
      | with_reducible exact HKC.out _ HA6.out
      | with_reducible exact HKC.out _ HB6.out
      | with_reducible exact HKC.out _ (HB6.out.alloc HB6.out.size _)
      | with_reducible exact HNE.out _ HB6.out) (first
      | (go_at_call 19; ((with_reducible refine (with_len0 sq tm cp kd HKD.out HK1.out HK2.out _ m _ HMF.out w5.drew (HE5.out.below HA5.out)).mono ?_); rintro e w6 ⟨rfl, hb'⟩; have HB6 := Lib.hid (HA5.out.trans (hb'.mono HA5.out.size)); have HN6 := Lib.hid (EBox.new w6 0 0 0 0 0 0 0 0 0 0 0); clear hb'))
      | (go_at_call 19; ((with_reducible refine (with_len0 sq tm cp kd HKD.out HK1.out HK2.out _ m _ HMF.out D.drew (HE5.out.below HA6.out)).mono ?_); rintro e w6 ⟨rfl, hb'⟩; have HB6 := Lib.hid (HA6.out.trans (hb'.mono HA6.out.size)); have HD6 := Lib.hid (HD6_.out.keep hb'); clear hb'; obtain ⟨q0, q1, q2, q3, q4, q5, q6, q7, q8, q9, q10⟩ := HD6.out.cells; have f0 := HD6.out.free 0; have f1 := HD6.out.free 1; have f2 := HD6.out.free 2; have f3 := HD6.out.free 3; have f4 := HD6.out.free 4; have f5 := HD6.out.free 5; have f6 := HD6.out.free 6; have f7 := HD6.out.free 7; have f8 := HD6.out.free 8; have f9 := HD6.out.free 9; have f10 := HD6.out.free 10)))
    all_goals
      go_wp2
      go_meet
      first
        | exact ⟨_, rfl, rfl, HN6, Lib.hid (HB6.out.alloc HB6.out.size _)⟩
        | (have t1 := EBox.setAll HD6.out 0 0 0 0 0 0 0 0 0 0 0
           have t2 := below_setAll HB6.out (Nat.le_refl _) 0 0 0 0 0 0 0 0 0 0 0
           exact ⟨_, rfl, rfl, Lib.hid t1, Lib.hid t2⟩)
  case rest =>
  obtain ⟨B, rfl, rfl, HO7, HBX⟩ := hcut
  have HB7 := Lib.hid (HB5.out.trans (HBX.out.mono HB5.out.size))
  have HY7 := Lib.hid (HY5.out.keep HBX.out)
  clear hc0 hc1 hc2
  obtain ⟨z0, z1, z2, z3, z4, z5, z6, z7, z8, z9, z10⟩ := HY7.out.cells
  obtain ⟨o0, o1, o2, o3, o4, o5, o6, o7, o8, o9, o10⟩ := HO7.out.cells
  have f0 := HY7.out.free 0; have f1 := HY7.out.free 1; have f2 := HY7.out.free 2; have f3 := HY7.out.free 3; have f4 := HY7.out.free 4; have f5 := HY7.out.free 5; have f6 := HY7.out.free 6; have f7 := HY7.out.free 7; have f8 := HY7.out.free 8; have f9 := HY7.out.free 9; have f10 := HY7.out.free 10
  go_wp2
  have hg := EBox.setAll HY7.out 0 0 0 0 0 0 0 0 0 0 0
  have hbz := below_setAll HB7.out (Nat.le_refl _) 0 0 0 0 0 0 0 0 0 0 0
  generalize (((((((((((wc.setCell ⟨w.heap.size, 0, none⟩ (.int .i64 0)).setCell ⟨w.heap.size, 1, none⟩ (.int .i64 0)).setCell ⟨w.heap.size, 2, none⟩ (.int .u8 0)).setCell ⟨w.heap.size, 3, none⟩ (.int .u8 0)).setCell ⟨w.heap.size, 4, none⟩ (.int .i64 0)).setCell ⟨w.heap.size, 5, none⟩ (.int .i64 0)).setCell ⟨w.heap.size, 6, none⟩ (.int .i64 0)).setCell ⟨w.heap.size, 7, none⟩ (.int .i64 0)).setCell ⟨w.heap.size, 8, none⟩ (.int .i64 0)).setCell ⟨w.heap.size, 9, none⟩ (.int .u64 0)).setCell ⟨w.heap.size, 10, none⟩ (.int .i64 0)) = Wz at hg hbz ⊢
  obtain ⟨g0, g1, g2, g3, g4, g5, g6, g7, g8, g9, g10⟩ := hg.cells
  refine bodyPost_ret (v := .tuple #[zeroE, .bool false]) ?_ rfl ⟨rfl, hbz⟩
  simp [results, Tryd.results42, go_sem, zeroE, g0, g1, g2, g3, g4, g5, g6, g7, g8, g9, g10]
end Go.Proofs.YtainjicbmjfnkaaDoor
