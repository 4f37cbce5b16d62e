/-
  The law SeqSets.
-/
import Derived.Test.YthamilolacfeoaaEnds9
namespace Go.Proofs.Ythamilolacfeoaa
open Go.RowKit Sq
set_option linter.unusedVariables false

set_option maxRecDepth 100000 in
set_option maxHeartbeats 16000000 in
theorem sets_law (a : Option Addr) (n c : Nat) (xs : List Nat) (a' : Option Addr) (n' c' : Nat) (ys : List Nat) (hn : xs.length = n) (hx : ∀ x ∈ xs, x < 256) (hnc : n ≤ c) (hcm : c ≤ maxLen) (hn' : ys.length = n') (hx' : ∀ x ∈ ys, x < 256) (hnc' : n' ≤ c') (hcm' : c' ≤ maxLen) (q : Int) (w : World) (hS : Seen w w.heap.size .u8 a xs) (hS' : Seen w w.heap.size .u8 a' ys) :
    Calls Try.prog 7 #[.slice a n c, .slice a' n' c', .int .i64 q] w fun e w' => e = .returned (.bool true) ∧ Below w.heap.size w w' := by
  obtain ⟨i0, hi, hz0, hz1, hz2⟩ := info_parts infoI
  have HM1 := Lib.hid (fun (v : World) (hv : Below w.heap.size w v) => made_at a n c xs hn hx hnc hcm v w.heap.size (hS.below hv) hv.size)
  have HM2 := Lib.hid (fun (v : World) (hv : Below w.heap.size w v) => made_at a' n' c' ys hn' hx' hnc' hcm' v w.heap.size (hS'.below hv) hv.size)
  clear hn hx hnc hcm hS hn' hx' hnc' hcm' hS'
  go_enter Try.func7, Try.ntmps7
  go_upto_region 9 with (first
    | (go_at_call 13; (with_reducible refine (awake_any _).mono ?_); rintro e w1 ⟨rfl, hb1⟩; have HB1 := Lib.hid hb1; clear hb1)
    | (go_at_call 18; (with_reducible refine (HM1.out w1 HB1.out).mono ?_); rintro e w2 ⟨⟨aA, nA, cA, A, rfl, hs, hn⟩, hb⟩; have HNA := Lib.hid hn; have HSA := Lib.hid hs; have HB2 : Hid (Below w.heap.size w w2) := HB1.out.trans (hb.mono HB1.out.size); clear hs hn hb)
    | (go_at_call 18; (with_reducible refine (HM2.out w2 HB2.out).mono ?_); rintro e w3 ⟨⟨aB, nB, cB, B, rfl, hs, hn⟩, hb⟩; have HNB := Lib.hid hn; have HSB := Lib.hid hs; have HSA3 := Lib.hid (HSA.out.keep hb); have HB3 : Hid (Below w.heap.size w w3) := HB2.out.trans (hb.mono HB2.out.size); have H60 : Hid (nA + nB ≤ 30000) := (by show _ ≤ _; have := HNA.out; have := HNB.out; omega); clear hs hn hb)
    | (go_at_call 19; (with_reducible refine (union_at HSA3.out HSB.out H60.out).mono ?_); rintro e w4 ⟨⟨aU, nU, cU, U, rfl, hs, hm⟩, hb⟩; have hlU : nU ≤ 120 := (by rw [← hs.len]; have h1 := hm.len; have h2 := HSA.out.len; have h3 := HSB.out.len; have h4 := HNA.out; have h5 := HNB.out; omega); have HLU := Lib.hid hlU; have HSU := Lib.hid hs; have HMU := Lib.hid hm; have HBWU := Lib.hid hb; clear hs hm hb hlU)
    | (go_at_call 20; (with_reducible refine (common_at (HSA3.out.keep HBWU.out) (HSB.out.keep HBWU.out) H60.out).mono ?_); rintro e w5 ⟨⟨aC, nC, cC, C, rfl, hs, hm⟩, hb⟩; have hlC : nC ≤ 120 := (by rw [← hs.len]; have h1 := hm.len; have h2 := HSA.out.len; have h3 := HSB.out.len; have h4 := HNA.out; have h5 := HNB.out; omega); have HLC := Lib.hid hlC; have HSC := Lib.hid hs; have HMC := Lib.hid hm; have HB35 : Hid (Below w3.heap.size w3 w5) := HBWU.out.trans (hb.mono HBWU.out.size); have HBWC := Lib.hid hb; clear hs hm hb hlC)
    | (go_at_call 21; (with_reducible refine (without_at (HSA3.out.keep HB35.out) (HSB.out.keep HB35.out) H60.out).mono ?_); rintro e w6 ⟨⟨aD, nD, cD, D, rfl, hs, hm⟩, hb⟩; have hlD : nD ≤ 120 := (by rw [← hs.len]; have h1 := hm.len; have h2 := HSA.out.len; have h3 := HSB.out.len; have h4 := HNA.out; have h5 := HNB.out; omega); have HLD := Lib.hid hlD; have HSD := Lib.hid hs; have HMD := Lib.hid hm; have HB36 : Hid (Below w3.heap.size w3 w6) := HB35.out.trans (hb.mono HB35.out.size); have HB46 : Hid (Below w4.heap.size w4 w6) := HBWC.out.trans (hb.mono HBWC.out.size); have HBWD := Lib.hid hb; clear hs hm hb hlD)
    | (go_at_call 22; (with_reducible show Calls _ _ #[.slice aU nU cU] _ _); (with_reducible refine (right_at (HSU.out.keep HB46.out)).mono ?_); rintro e w7 ⟨rfl, hb⟩; have HB37 : Hid (Below w3.heap.size w3 w7) := HB36.out.trans (hb.mono HB36.out.size); have HB47 : Hid (Below w4.heap.size w4 w7) := HB46.out.trans (hb.mono HB46.out.size); have HB57 : Hid (Below w5.heap.size w5 w7) := HBWD.out.trans (hb.mono HBWD.out.size); have HB67 := Lib.hid hb; clear hb)
    | (go_at_call 22; (with_reducible show Calls _ _ #[.slice aC nC cC] _ _); (with_reducible refine (right_at (HSC.out.keep HB57.out)).mono ?_); rintro e w72 ⟨rfl, hb⟩; have HB372 : Hid (Below w3.heap.size w3 w72) := HB37.out.trans (hb.mono HB37.out.size); have HB472 : Hid (Below w4.heap.size w4 w72) := HB47.out.trans (hb.mono HB47.out.size); have HB572 : Hid (Below w5.heap.size w5 w72) := HB57.out.trans (hb.mono HB57.out.size); have HB672 : Hid (Below w6.heap.size w6 w72) := HB67.out.trans (hb.mono HB67.out.size); clear hb)
    | (go_at_call 22; (with_reducible show Calls _ _ #[.slice aD nD cD] _ _); (with_reducible refine (right_at (HSD.out.keep HB672.out)).mono ?_); rintro e w8 ⟨rfl, hb⟩; have GA : Hid (SetIn w8 aA nA cA A) := (HSA3.out.keep HB372.out).keep hb; have GB : Hid (SetIn w8 aB nB cB B) := (HSB.out.keep HB372.out).keep hb; have GU : Hid (SetIn w8 aU nU cU U) := (HSU.out.keep HB472.out).keep hb; have GC : Hid (SetIn w8 aC nC cC C) := (HSC.out.keep HB572.out).keep hb; have GD : Hid (SetIn w8 aD nD cD D) := (HSD.out.keep HB672.out).keep hb; have HB8 : Hid (Below w.heap.size w w8) := HB3.out.trans ((HB372.out.trans (hb.mono HB372.out.size)).mono HB3.out.size); have HTB := Lib.hid (tabS_2 GA.out GB.out (Nat.le_trans HNA.out (by decide)) (Nat.le_trans HNB.out (by decide)) 22); clear hb HB37 HB47 HB57 HB67 HB372 HB472 HB572 HB672))
  clear HB36 HB46 HSA3 HSA HSB HSU HSC HSD HM1 HM2 HBWU HBWC HBWD
  have HNU : Hid (nU ≤ 1000 ∧ nC ≤ 1000 ∧ nD ≤ 1000 ∧ nA ≤ 1000 ∧ nB ≤ 1000) := by show _ ∧ _; have := HLU.out; have := HLC.out; have := HLD.out; have := HNA.out; have := HNB.out; omega
  go_wp2_with (first
    | (go_at_call 23; (with_reducible refine (ends_any w8.heap.size _ HTB.out).mono ?_); rintro e w10 ⟨⟨ae, ce, ze, rfl, hown, hlen⟩, hb⟩; have HLE := Lib.hid hlen; have HOE : Hid (w10.ownsRow w8.heap.size 3 1 (.slice ae ze.length ce) ze.length (zv ze)) := rebase hown (by simp); have HB810 := Lib.hid (below_alloc hb); clear hown hlen hb)
    | (at_builtin; refine wpList_append_own _ rfl _ _ 26 rfl w8.heap.size 3 i0 (.int .i64 0) 1 8 Try.underlying26 hi hz0 hz1 hz2 rfl (by decide) _ _ _ rfl (HOE.out.alloc _) ⟨w10.heap.size, 0, none⟩ 1 1 [.int .i64 q] rfl rfl (cell_one_new _ _ _) (by simp [Value.oneCell']) (by have := HLE.out; unfold maxLen; omega) (by have := HLE.out; omega) (by have := HB810.out.size; simp; omega) ?_; intro v11 w11 hown11 hgrow11 _; have HG11 : Hid ((w10.alloc (.cells #[.int .i64 q] 3)).grownBy w11 _) := ⟨hgrow11.os, hgrow11.tape, hgrow11.output, hgrow11.size, hgrow11.block⟩; have HB811 : Hid (Below w8.heap.size w8 w11) := (HB810.out.alloc HB810.out.size _).grown HG11.out (by have := HB810.out.size; simp; omega) (own_ge HOE.out); have hown12 : w11.ownsRow w8.heap.size 3 1 v11 (ze.length + 1) (zv (ze ++ [q])) := (by rw [zv, List.map_append]; exact hown11); obtain ⟨a11, c11, hv11, hs11, hl11, _, _⟩ := own_ints hown12; subst hv11; obtain ⟨m11, hm11⟩ : ∃ m, ze.length + 1 = m := ⟨_, rfl⟩; rw [hm11] at hl11; rw [hm11]; have HS11 : Hid (SeenZ w11 w11.heap.size a11 (ze ++ [q])) := hs11; have HL11 := Lib.hid hl11; have HM11 : Hid (m11 ≤ 13000) := (by show _ ≤ _; have := HLE.out; omega); clear hown11 hgrow11 HG11 hown12 hs11 hl11 hm11))
  have HB11 : Hid (Below w.heap.size w w11) := HB8.out.trans (HB811.out.mono HB8.out.size)
  have KA := Lib.hid (GA.out.keep HB811.out)
  have KB' := Lib.hid (GB.out.keep HB811.out)
  have KU := Lib.hid (GU.out.keep HB811.out)
  have KC := Lib.hid (GC.out.keep HB811.out)
  have KD := Lib.hid (GD.out.keep HB811.out)
  clear GA GB GU GC GD HTB HB810 HOE HLE
  go_loopw [76] (fun iv wr => ∃ (k : Nat), k ≤ m11 ∧ iv = .int .i64 k ∧ Hid (Below w11.heap.size w11 wr)) (fun iv _ => m11 - (intOf iv).toNat)
  case atStart => exact ⟨0, Nat.zero_le _, rfl, Below.refl _ _⟩
  case round =>
    obtain ⟨k, hk, rfl, HW⟩ := hrel
    by_cases hkm : k < m11
    · obtain ⟨z, hz⟩ : ∃ z, (ze ++ [q])[k]? = some z := ⟨_, List.getElem?_eq_getElem (by rw [HL11.out]; exact hkm)⟩
      obtain ⟨b, off, rfl, hb, hc⟩ := (HS11.out.below HW.out) k z hz
      have hki : (k : Int) < 13000 := by have := HM11.out; omega
      obtain ⟨x, hx⟩ : ∃ x, hs A z = x := ⟨_, rfl⟩
      obtain ⟨y, hy⟩ : ∃ y, hs B z = y := ⟨_, rfl⟩
      have HA := Lib.hid hx
      have HB := Lib.hid hy
      have HU : Hid (hs U z = (x || y)) := by show _ = _; rw [HMU.out.has, hx, hy]; rfl
      have HC : Hid (hs C z = (x && y)) := by show _ = _; rw [HMC.out.has, hx, hy]; rfl
      have HD : Hid (hs D z = (x && !y)) := by show _ = _; rw [HMD.out.has, hx, hy]; rfl
      obtain ⟨wo, rfl⟩ : ∃ wo, wo = wr := ⟨_, rfl⟩
      clear hz hb hx hy
      have gu : (x || y) = (x || y) := rfl
      cases x <;> cases y
      all_goals
        simp at HU HC HD
        clear gu
        go_wp2_with (first
          | (go_at_call 24; (with_reducible show Calls _ _ #[.slice aA nA cA, _] _ _); (with_reducible refine (lhas_at (KA.out.keep HW.out) z HA.out).mono ?_); rintro e v1 ⟨rfl, hb⟩; have HW1 : Hid (Below w11.heap.size w11 v1) := HW.out.trans (hb.mono HW.out.size); clear hb)
          | (go_at_call 24; (with_reducible show Calls _ _ #[.slice aB nB cB, _] _ _); (with_reducible refine (lhas_at (KB'.out.keep HW1.out) z HB.out).mono ?_); rintro e v2 ⟨rfl, hb⟩; have HW2 : Hid (Below w11.heap.size w11 v2) := HW1.out.trans (hb.mono HW1.out.size); clear hb)
          | (go_at_call 24; (with_reducible show Calls _ _ #[.slice aU nU cU, _] _ _); (with_reducible refine (lhas_at (KU.out.keep HW2.out) z HU.out).mono ?_); rintro e v3 ⟨rfl, hb⟩; have HW3 : Hid (Below w11.heap.size w11 v3) := HW2.out.trans (hb.mono HW2.out.size); clear hb)
          | (go_at_call 24; (with_reducible show Calls _ _ #[.slice aC nC cC, _] _ _); (with_reducible refine (lhas_at (KC.out.keep HW3.out) z HC.out).mono ?_); rintro e v4 ⟨rfl, hb⟩; have HW4 : Hid (Below w11.heap.size w11 v4) := HW3.out.trans (hb.mono HW3.out.size); clear hb)
          | (go_at_call 24; (with_reducible show Calls _ _ #[.slice aD nD cD, _] _ _); (with_reducible refine (lhas_at (KD.out.keep HW4.out) z HD.out).mono ?_); rintro e v5 ⟨rfl, hb⟩; have HW5 : Hid (Below w11.heap.size w11 v5) := HW4.out.trans (hb.mono HW4.out.size); clear hb))
        have HTT := Lib.hid (tabS_4 (KA.out.keep HW5.out) (KU.out.keep HW5.out) (KC.out.keep HW5.out) (KD.out.keep HW5.out) HNU.out.2.2.2.1 HNU.out.1 HNU.out.2.1 HNU.out.2.2.1 22)
        have HW6 : Hid (Below w11.heap.size w11 (v5.alloc (.cells #[.slice aA nA cA, .slice aU nU cU, .slice aC nC cC, .slice aD nD cD] 22))) := HW5.out.alloc HW5.out.size _
        generalize hG : v5.alloc (.cells #[.slice aA nA cA, .slice aU nU cU, .slice aC nC cC, .slice aD nD cD] 22) = W6 at HTT HW6 ⊢
        go_loopw [121] (fun iv wq => ∃ (j : Nat), j ≤ 4 ∧ iv = .int .i64 j ∧ Hid (Below W6.heap.size W6 wq)) (fun iv _ => 4 - (intOf iv).toNat)
        case atStart => exact ⟨0, Nat.zero_le _, rfl, Below.refl _ _⟩
        case round =>
          obtain ⟨j, hj, rfl, HJ⟩ := hrel
          by_cases hj4 : j < 4
          · obtain ⟨a1, n1, c1, L, hc1, hs1, hn1⟩ := (HTT.out.keep HJ.out).2 j hj4
            have HS1 := Lib.hid hs1
            obtain ⟨rr, hrr⟩ : ∃ r, hs L z = r := ⟨_, rfl⟩
            have HR := Lib.hid hrr
            have hji : (j : Int) < 4 := by omega
            clear hs1 hn1 hrr
            go_wp2_with (first
              | (go_at_call 25; (with_reducible refine (has_at HS1.out z HR.out).mono ?_); rintro e u1 ⟨rfl, hb⟩; have HJ1 : Hid (Below W6.heap.size W6 u1) := HJ.out.trans (hb.mono HJ.out.size); have HS2 := Lib.hid (HS1.out.keep hb); clear hb)
              | (go_at_call 24; (with_reducible refine (lhas_at HS2.out z HR.out).mono ?_); rintro e u2 ⟨rfl, hb⟩; have HJ2 : Hid (Below W6.heap.size W6 u2) := HJ1.out.trans (hb.mono HJ1.out.size); clear hb))
            exact ⟨⟨j + 1, hj4, rfl, HJ2⟩, by simp [intOf]; omega⟩
          · obtain rfl : 4 = j := by omega
            have HWJ : Hid (Below w11.heap.size w11 wr) := HW6.out.trans (HJ.out.mono HW6.out.size)
            clear hj4
            go_wp2
            first
              | exact ⟨⟨k + 1, hkm, rfl, HWJ⟩, by simp [intOf]; omega⟩
              | (refine ⟨?_, by simp [intOf]; omega⟩; repeat apply Exists.intro; refine ⟨⟨k + 1, hkm, rfl, HWJ⟩, ?_⟩; simp; repeat' (first | exact rfl | omega | apply And.intro))
    · obtain rfl : m11 = k := by omega
      clear hkm
      go_wp2
      go_ret
      exact ⟨rfl, HB11.out.trans (HW.out.mono HB11.out.size)⟩
theorem sets_walk (a0 : Option Addr) (len0 cap0 : Nat) (z0 : List Int) (a1 : Option Addr) (len1 cap1 : Nat) (z1 : List Int) (a2 : Int) (w : World) (w0 : IsRow .u8 w a0 len0 cap0 z0) (w1 : IsRow .u8 w a1 len1 cap1 z1) (w2 : (Lit.int .i64 a2).wf = true) : Calls Try.prog 7 #[.slice a0 len0 cap0, .slice a1 len1 cap1, .int .i64 a2] w fun e w' => e = .returned (.bool true) ∧ Below w.heap.size w w' := by
  obtain ⟨xs, h1, h2, h3, h4, h5⟩ := row_u8 w0
  obtain ⟨ys, g1, g2, g3, g4, g5⟩ := row_u8 w1
  exact sets_law a0 len0 cap0 xs a1 len1 cap1 ys h1 h3 h4 h5 g1 g3 g4 g5 a2 w h2 g2
end Go.Proofs.Ythamilolacfeoaa
