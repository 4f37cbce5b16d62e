/-
  The walk of BitsRanks.
-/
import Derived.Test.YtkochcolmkgkgaaDoorMade
import Derived.Test.YtkochcolmkgkgaaDoorAwakeW
import Derived.Test.YtkochcolmkgkgaaDoorTabZ
namespace Go.Proofs.YtkochcolmkgkgaaDoor
open Go.RowKit
set_option linter.unusedVariables false

theorem Seen.cell {w : World} {B b off i x : Nat} {k : IntKind} {xs : List Nat} (h : Seen w B k (some ⟨b, off, none⟩) xs) (hx : xs[i]? = some x) : w.cell? ⟨b, off + i, none⟩ = some (.int k x) := by
  obtain ⟨b', o', e, _, hc⟩ := h i x hx
  injection e with e
  injection e with e1 e2
  subst e1; subst e2
  exact hc

set_option maxRecDepth 100000 in
set_option maxHeartbeats 4000000 in
theorem ranks_law (n : Nat) (hn : n < 65536) (a : Option Addr) (m c : Nat) (xs : List Nat) (hm : xs.length = m) (hmc : m ≤ c) (hcm : c ≤ maxLen) (hx : ∀ x ∈ xs, x < 2 ^ 64) (i : Int) (h1 : -9223372036854775808 ≤ i) (h2 : i ≤ 9223372036854775807) (w : World) (hS : Seen w w.heap.size .u64 a xs) (hT : HT w) :
    Calls Tryd.prog 7 #[.int .u16 n, .slice a m c, .int .i64 i] w fun e w' => e = .returned (.bool true) ∧ Below w.heap.size w w' := by
  have HTT : Hid (HT w) := hT
  have HPW : Hid (0 < w.heap.size) := hT.pos
  have HS : Hid (Seen w w.heap.size .u64 a xs) := hS
  have HNN := Lib.hid hn
  have HM := Lib.hid hm
  have HMC := Lib.hid hmc
  have HCM : Hid (c ≤ maxLen) := hcm
  have HX : Hid (∀ x ∈ xs, x < 2 ^ 64) := hx
  obtain ⟨N, hN⟩ : ∃ N, n % (64 * min m 16 + 1) = N := ⟨_, rfl⟩
  have HNE := Lib.hid hN
  clear hT hS hm hmc hcm hx hn hN
  obtain ⟨m0, hm0⟩ : ∃ m0, min i 0 = m0 := ⟨_, rfl⟩
  have HM0 : Hid (m0.toNat = 0) := by show _ = _; omega
  obtain ⟨m1, hm1⟩ : ∃ m1, max i (N : Int) = m1 := ⟨_, rfl⟩
  have HM1 : Hid (N ≤ m1.toNat) := by show _ ≤ _; omega
  obtain ⟨m3, hm3⟩ : ∃ m3, min i (-1) = m3 := ⟨_, rfl⟩
  have HM3 : Hid (m3 < 0 ∧ m3 ≤ 9223372036854775807) := ⟨by omega, by omega⟩
  have HI : Hid (-9223372036854775808 ≤ i ∧ i ≤ 9223372036854775807) := ⟨h1, h2⟩
  clear h1 h2
  go_enter Tryd.func7, Tryd.ntmps7
  go_wp2_with (first
    | (go_at_call 13; ((with_reducible refine (awake_any w HTT.out).mono ?_); rintro e w1 ⟨rfl, hb1⟩; have HB1 := Lib.hid hb1; clear hb1))
    | (go_at_call 23; ((with_reducible refine (made_any n HNN.out a m c xs HM.out HMC.out HCM.out HX.out w1 w.heap.size (HS.out.below HB1.out) HB1.out.size N HNE.out).mono ?_); rintro e w2 ⟨sa, cs, q, ys, rfl, hR, hown, hb2⟩; have HB2 := Lib.hid (HB1.out.trans (hb2.mono HB1.out.size)); have HR : Hid (Bm.Rt N ys) := hR; have HOW := Lib.hid hown; clear hb2 hown hR)))
  obtain ⟨sa', cs', hv, hseen, hlen, hle1, hle2⟩ := own_slice HOW.out
  injection hv with hv1 _ hv2
  subst hv1
  subst hv2
  have HL := Lib.hid hlen
  have HLC := Lib.hid hle1
  have HCX : Hid (cs ≤ maxLen) := hle2
  have hN6 : (N : Int) ≤ 1024 := by have h1 := HNE.out; have h2 := Nat.mod_lt n (show 0 < 64 * min m 16 + 1 by omega); omega
  have HBX : Hid (Box (w2.alloc (.cells #[.int .i64 N, .slice sa q cs] 24)) w2.heap.size (.int .i64 N) (.slice sa q cs)) := Box.new _ _ _
  have HSA : Hid (Seen (w2.alloc (.cells #[.int .i64 N, .slice sa q cs] 24)) (w2.alloc (.cells #[.int .i64 N, .slice sa q cs] 24)).heap.size .u64 sa ys) := (hseen.alloc (Nat.le_refl _) _).more (by simp)
  have HBA : Hid (Below w.heap.size w (w2.alloc (.cells #[.int .i64 N, .slice sa q cs] 24))) := HB2.out.alloc HB2.out.size _
  clear hseen hlen hle1 hle2
  obtain ⟨A, hA⟩ : ∃ A, w2.alloc (.cells #[.int .i64 N, .slice sa q cs] 24) = A := ⟨_, rfl⟩
  rw [hA] at HBX HSA HBA ⊢
  have HTA : Hid (HT A) := HTT.out.below HBA.out HPW.out
  have HPA : Hid (0 < A.heap.size) := HTA.out.pos
  clear hA
  obtain ⟨b, hb⟩ : ∃ b, w2.heap.size = b := ⟨_, rfl⟩
  rw [hb] at HBX ⊢
  clear hb HOW HB1 HB2
  obtain ⟨a0, a1, a2, a3⟩ := HBX.out.cells
  obtain ⟨r, hr⟩ : ∃ r, Bm.cnt (Bm.val ys) N = r := ⟨_, rfl⟩
  have HRR := Lib.hid hr
  have HR1 : Hid (Bm.cnt (Bm.val ys) ((N : Int)).toNat = r) := by show _ = _; rw [Int.toNat_natCast]; exact hr
  have HR0 : Hid (Bm.cnt (Bm.val ys) m0.toNat = 0) := by show _ = _; rw [HM0.out]; rfl
  have HR2 : Hid (Bm.cnt (Bm.val ys) m1.toNat = r) := by show _ = _; rw [Bm.cnt_past HR.out.2.2.2 HM1.out]; exact hr
  have HLL : Hid ((Bm.ml (Bm.val ys) N).length = r) := (Bm.ml_length _ _).trans hr
  have hr6 : (r : Int) ≤ 1024 := by have := Bm.cnt_le (Bm.val ys) N; omega
  clear hr
  go_wp2_with (first
    | (go_at_call 24; ((with_reducible refine (membersL_any N sa q cs ys HL.out HLC.out HCX.out HR.out A A.heap.size HSA.out HTA.out HPA.out (Nat.le_refl _) r HRR.out).mono ?_); rintro e w3 ⟨⟨v3, rfl, hown3⟩, hb⟩; obtain ⟨al, cl, rfl, hsl, _, _, _⟩ := own_slice hown3; have HSL := Lib.hid hsl; have HAw3 := Lib.hid hb; obtain ⟨xw30, xw31, xw32, xw33⟩ := (HBX.out.keep hb).cells; clear hb hown3 hsl))
    | (go_at_call 21; ((with_reducible refine (count_any N sa q cs ys HL.out HLC.out HCX.out HR.out w3 A.heap.size (HSA.out.below HAw3.out) HAw3.out.size r HRR.out).mono ?_); rintro e w4 ⟨rfl, hb⟩; have HAw4 := Lib.hid (HAw3.out.trans (hb.mono HAw3.out.size)); have HBw4 := Lib.hid (hb); obtain ⟨xw40, xw41, xw42, xw43⟩ := (HBX.out.keep HAw4.out).cells; clear hb))
    | (go_at_call 25; ((with_reducible refine (rank_any N sa q cs ys HL.out HLC.out HCX.out HR.out w4 A.heap.size (HSA.out.below HAw4.out) HAw4.out.size (N : Int) r HR1.out).mono ?_); rintro e w5 ⟨rfl, hb⟩; have HAw5 := Lib.hid (HAw4.out.trans (hb.mono HAw4.out.size)); have HBw5 := Lib.hid (HBw4.out.trans (hb.mono HBw4.out.size)); obtain ⟨xw50, xw51, xw52, xw53⟩ := (HBX.out.keep HAw5.out).cells; clear hb))
    | (go_at_call 25; ((with_reducible refine (rank_any N sa q cs ys HL.out HLC.out HCX.out HR.out w5 A.heap.size (HSA.out.below HAw5.out) HAw5.out.size m0 0 HR0.out).mono ?_); rintro e w6 ⟨rfl, hb⟩; have HAw6 := Lib.hid (HAw5.out.trans (hb.mono HAw5.out.size)); have HBw6 := Lib.hid (HBw5.out.trans (hb.mono HBw5.out.size)); obtain ⟨xw60, xw61, xw62, xw63⟩ := (HBX.out.keep HAw6.out).cells; clear hb))
    | (go_at_call 25; ((with_reducible refine (rank_any N sa q cs ys HL.out HLC.out HCX.out HR.out w6 A.heap.size (HSA.out.below HAw6.out) HAw6.out.size m1 r HR2.out).mono ?_); rintro e w7 ⟨rfl, hb⟩; have HAw7 := Lib.hid (HAw6.out.trans (hb.mono HAw6.out.size)); have HBw7 := Lib.hid (HBw6.out.trans (hb.mono HBw6.out.size)); obtain ⟨xw70, xw71, xw72, xw73⟩ := (HBX.out.keep HAw7.out).cells; clear hb)))
  have HZ3 : Hid (Below w3.heap.size w3 w7) := HBw7
  clear a0 a1 a2 a3 xw30 xw31 xw32 xw33 xw40 xw41 xw42 xw43 xw50 xw51 xw52 xw53 xw60 xw61 xw62 xw63 xw70 xw71 xw72 xw73
  go_loopw [66] (fun iv wr => ∃ k : Nat, k ≤ r ∧ iv = .int .i64 k ∧ Hid (Below w3.heap.size w3 wr)) (fun i _ => r - (intOf i).toNat)
  case atStart => exact ⟨0, Nat.zero_le _, rfl, HZ3⟩
  case round =>
    obtain ⟨k, hk, rfl, HBK⟩ := hrel
    have HAwr : Hid (Below A.heap.size A wr) := HAw3.out.trans (HBK.out.mono HAw3.out.size)
    obtain ⟨d0, d1, d2, d3⟩ := (HBX.out.keep HAwr.out).cells
    by_cases hkr : k < r
    · obtain ⟨m', hm'⟩ : ∃ m', (Bm.ml (Bm.val ys) N)[k]? = some m' := ⟨_, List.getElem?_eq_getElem (by rw [HLL.out]; exact hkr)⟩
      obtain ⟨bl, off, rfl, hbl, hcl⟩ := (HSL.out.below HBK.out) k m' hm'
      obtain ⟨hmN, hmb, hmk⟩ := Bm.ml_at.1 hm'
      have hmi : (m' : Int) < 1024 := by omega
      have HMC' : Hid (Bm.cnt (Bm.val ys) ((m' : Int)).toNat = k) := by show _ = _; rw [Int.toNat_natCast]; exact hmk
      have HMC1 : Hid (Bm.cnt (Bm.val ys) ((m' : Int) + 1).toNat = k + 1) := by
        show _ = _
        rw [show ((m' : Int) + 1).toNat = m' + 1 by omega, Bm.cnt_succ, hmk, hmb]; rfl
      have HSK : Hid (SelOut (Bm.val ys) N (k : Int) m' true) := .inl ⟨rfl, by omega, by rw [Int.toNat_natCast]; exact hm'⟩
      have HKB : Hid ((k : Int) ≤ 9223372036854775807) := by show _ ≤ _; omega
      have HSN : Hid (SelOut (Bm.val ys) N (Bm.cnt (Bm.val ys) (m' : Int).toNat : Nat) m' true) := by show SelOut _ _ _ _ _; rw [HMC'.out]; exact HSK.out
      have HHM : Hid ((decide (0 ≤ (m' : Int)) && (Bm.val ys).testBit (m' : Int).toNat) = true) := by show _ = _; rw [Int.toNat_natCast, hmb]; simp
      clear hm' hmN hmb hmk hbl
      by_cases hk0 : k = 0
      · have HSB : Hid (SelOut (Bm.val ys) N ((Bm.cnt (Bm.val ys) (m' : Int).toNat : Nat) - 1 : Int) 0 false) := .inr ⟨rfl, rfl, .inl (by rw [HMC'.out]; omega)⟩
        have hk1 : decide (0 < k) = false := by simp; omega
        have hk2 : ¬ 0 < k := by omega
        clear hk0
        go_wp2_with (first
          | (go_at_call 20; ((with_reducible refine (select_any N sa q cs ys HL.out HLC.out HCX.out HR.out wr A.heap.size (HSA.out.below HAwr.out) HAwr.out.size (HTA.out.below HAwr.out HPA.out) HPA.out (k : Int) HKB.out m' true HSK.out).mono ?_); rintro e wa ⟨rfl, hb⟩; have HAwa := Lib.hid (HAwr.out.trans (hb.mono HAwr.out.size)); have HBwa := Lib.hid (HBK.out.trans (hb.mono HBK.out.size)); obtain ⟨xwa0, xwa1, xwa2, xwa3⟩ := (HBX.out.keep HAwa.out).cells; clear hb))
          | (go_at_call 26; ((with_reducible refine (next_any N sa q cs ys HL.out HLC.out HCX.out HR.out wa A.heap.size (HSA.out.below HAwa.out) HAwa.out.size (HTA.out.below HAwa.out HPA.out) HPA.out (m' : Int) m' true HSN.out).mono ?_); rintro e wb ⟨rfl, hb⟩; have HAwb := Lib.hid (HAwa.out.trans (hb.mono HAwa.out.size)); have HBwb := Lib.hid (HBwa.out.trans (hb.mono HBwa.out.size)); obtain ⟨xwb0, xwb1, xwb2, xwb3⟩ := (HBX.out.keep HAwb.out).cells; clear hb))
          | (go_at_call 27; ((with_reducible refine (before_any N sa q cs ys HL.out HLC.out HCX.out HR.out wb A.heap.size (HSA.out.below HAwb.out) HAwb.out.size (HTA.out.below HAwb.out HPA.out) HPA.out (m' : Int) 0 false HSB.out).mono ?_); rintro e wc ⟨rfl, hb⟩; have HAwc := Lib.hid (HAwb.out.trans (hb.mono HAwb.out.size)); have HBwc := Lib.hid (HBwb.out.trans (hb.mono HBwb.out.size)); obtain ⟨xwc0, xwc1, xwc2, xwc3⟩ := (HBX.out.keep HAwc.out).cells; clear hb))
          | (go_at_call 28; ((with_reducible refine (has_any N sa q cs ys HL.out HR.out wc A.heap.size (HSA.out.below HAwc.out) HAwc.out.size (m' : Int) true HHM.out).mono ?_); rintro e wd ⟨rfl, hb⟩; have HAwd := Lib.hid (HAwc.out.trans (hb.mono HAwc.out.size)); have HBwd := Lib.hid (HBwc.out.trans (hb.mono HBwc.out.size)); obtain ⟨xwd0, xwd1, xwd2, xwd3⟩ := (HBX.out.keep HAwd.out).cells; clear hb))
          | (go_at_call 25; ((with_reducible refine (rank_any N sa q cs ys HL.out HLC.out HCX.out HR.out wd A.heap.size (HSA.out.below HAwd.out) HAwd.out.size (m' : Int) k HMC'.out).mono ?_); rintro e we ⟨rfl, hb⟩; have HAwe := Lib.hid (HAwd.out.trans (hb.mono HAwd.out.size)); have HBwe := Lib.hid (HBwd.out.trans (hb.mono HBwd.out.size)); obtain ⟨xwe0, xwe1, xwe2, xwe3⟩ := (HBX.out.keep HAwe.out).cells; clear hb))
          | (go_at_call 25; ((with_reducible refine (rank_any N sa q cs ys HL.out HLC.out HCX.out HR.out we A.heap.size (HSA.out.below HAwe.out) HAwe.out.size ((m' : Int) + 1) (k + 1) HMC1.out).mono ?_); rintro e wf ⟨rfl, hb⟩; have HAwf := Lib.hid (HAwe.out.trans (hb.mono HAwe.out.size)); have HBwf := Lib.hid (HBwe.out.trans (hb.mono HBwe.out.size)); obtain ⟨xwf0, xwf1, xwf2, xwf3⟩ := (HBX.out.keep HAwf.out).cells; clear hb)))
        exact ⟨⟨k + 1, hkr, rfl, HBwf⟩, by simp [intOf]; omega⟩
      · obtain ⟨j, hj⟩ : ∃ j, k = j + 1 := ⟨k - 1, by omega⟩
        obtain ⟨mp, hmp⟩ : ∃ mp, (Bm.ml (Bm.val ys) N)[j]? = some mp := ⟨_, List.getElem?_eq_getElem (by rw [HLL.out]; omega)⟩
        have HMP := Lib.hid hmp
        have HSB : Hid (SelOut (Bm.val ys) N ((Bm.cnt (Bm.val ys) (m' : Int).toNat : Nat) - 1 : Int) mp true) := .inl ⟨rfl, by rw [HMC'.out]; omega, by rw [HMC'.out, show ((k : Int) - 1).toNat = j by omega]; exact hmp⟩
        have hji : (k : Int) - 1 = (j : Int) := by omega
        have hjr : (j : Int) < (r : Int) := by omega
        have hk1 : decide (0 < k) = true := by simp; omega
        have hk2 : 0 < k := by omega
        clear hmp hj hk0
        go_wp2_with (first
          | (go_at_call 20; ((with_reducible refine (select_any N sa q cs ys HL.out HLC.out HCX.out HR.out wr A.heap.size (HSA.out.below HAwr.out) HAwr.out.size (HTA.out.below HAwr.out HPA.out) HPA.out (k : Int) HKB.out m' true HSK.out).mono ?_); rintro e wa ⟨rfl, hb⟩; have HAwa := Lib.hid (HAwr.out.trans (hb.mono HAwr.out.size)); have HBwa := Lib.hid (HBK.out.trans (hb.mono HBK.out.size)); obtain ⟨xwa0, xwa1, xwa2, xwa3⟩ := (HBX.out.keep HAwa.out).cells; clear hb))
          | (go_at_call 26; ((with_reducible refine (next_any N sa q cs ys HL.out HLC.out HCX.out HR.out wa A.heap.size (HSA.out.below HAwa.out) HAwa.out.size (HTA.out.below HAwa.out HPA.out) HPA.out (m' : Int) m' true HSN.out).mono ?_); rintro e wb ⟨rfl, hb⟩; have HAwb := Lib.hid (HAwa.out.trans (hb.mono HAwa.out.size)); have HBwb := Lib.hid (HBwa.out.trans (hb.mono HBwa.out.size)); obtain ⟨xwb0, xwb1, xwb2, xwb3⟩ := (HBX.out.keep HAwb.out).cells; clear hb))
          | (go_at_call 27; ((with_reducible refine (before_any N sa q cs ys HL.out HLC.out HCX.out HR.out wb A.heap.size (HSA.out.below HAwb.out) HAwb.out.size (HTA.out.below HAwb.out HPA.out) HPA.out (m' : Int) mp true HSB.out).mono ?_); rintro e wc ⟨rfl, hb⟩; have HAwc := Lib.hid (HAwb.out.trans (hb.mono HAwb.out.size)); have HBwc := Lib.hid (HBwb.out.trans (hb.mono HBwb.out.size)); obtain ⟨xwc0, xwc1, xwc2, xwc3⟩ := (HBX.out.keep HAwc.out).cells; clear hb))
          | (go_at_call 28; ((with_reducible refine (has_any N sa q cs ys HL.out HR.out wc A.heap.size (HSA.out.below HAwc.out) HAwc.out.size (m' : Int) true HHM.out).mono ?_); rintro e wd ⟨rfl, hb⟩; have HAwd := Lib.hid (HAwc.out.trans (hb.mono HAwc.out.size)); have HBwd := Lib.hid (HBwc.out.trans (hb.mono HBwc.out.size)); obtain ⟨xwd0, xwd1, xwd2, xwd3⟩ := (HBX.out.keep HAwd.out).cells; clear hb))
          | (go_at_call 25; ((with_reducible refine (rank_any N sa q cs ys HL.out HLC.out HCX.out HR.out wd A.heap.size (HSA.out.below HAwd.out) HAwd.out.size (m' : Int) k HMC'.out).mono ?_); rintro e we ⟨rfl, hb⟩; have HAwe := Lib.hid (HAwd.out.trans (hb.mono HAwd.out.size)); have HBwe := Lib.hid (HBwd.out.trans (hb.mono HBwd.out.size)); obtain ⟨xwe0, xwe1, xwe2, xwe3⟩ := (HBX.out.keep HAwe.out).cells; clear hb))
          | (go_at_call 25; ((with_reducible refine (rank_any N sa q cs ys HL.out HLC.out HCX.out HR.out we A.heap.size (HSA.out.below HAwe.out) HAwe.out.size ((m' : Int) + 1) (k + 1) HMC1.out).mono ?_); rintro e wf ⟨rfl, hb⟩; have HAwf := Lib.hid (HAwe.out.trans (hb.mono HAwe.out.size)); have HBwf := Lib.hid (HBwe.out.trans (hb.mono HBwe.out.size)); obtain ⟨xwf0, xwf1, xwf2, xwf3⟩ := (HBX.out.keep HAwf.out).cells; have hcj := (HSL.out.below HBwf.out).cell HMP.out; clear hb)))
        exact ⟨⟨k + 1, hkr, rfl, HBwf⟩, by simp [intOf]; omega⟩
    · obtain ⟨m2, hm2⟩ : ∃ m2, max i (r : Int) = m2 := ⟨_, rfl⟩
      have HS2 : Hid (SelOut (Bm.val ys) N m2 0 false) := .inr ⟨rfl, rfl, .inr (by rw [HRR.out]; omega)⟩
      have HK2 : Hid (m2 ≤ 9223372036854775807) := by have := HI.out; show _ ≤ _; omega
      have HS3 : Hid (SelOut (Bm.val ys) N m3 0 false) := .inr ⟨rfl, rfl, .inl HM3.out.1⟩
      have HN1 : Hid (0 < N + 1 ∧ N + 1 ≤ 1000000) := ⟨by omega, by omega⟩
      have hNN : (N : Int) + 1 = ((N + 1 : Nat) : Int) := by omega
      have hkr2 : ¬ k < r := hkr
      clear hk hkr hNN
      go_wp2_with (first
          | (go_at_call 20; ((with_reducible refine (select_any N sa q cs ys HL.out HLC.out HCX.out HR.out wr A.heap.size (HSA.out.below HAwr.out) HAwr.out.size (HTA.out.below HAwr.out HPA.out) HPA.out m2 HK2.out 0 false HS2.out).mono ?_); rintro e wa ⟨rfl, hb⟩; have HAwa := Lib.hid (HAwr.out.trans (hb.mono HAwr.out.size)); have HBwa := Lib.hid (HBK.out.trans (hb.mono HBK.out.size)); obtain ⟨xwa0, xwa1, xwa2, xwa3⟩ := (HBX.out.keep HAwa.out).cells; clear hb))
          | (go_at_call 20; ((with_reducible refine (select_any N sa q cs ys HL.out HLC.out HCX.out HR.out wa A.heap.size (HSA.out.below HAwa.out) HAwa.out.size (HTA.out.below HAwa.out HPA.out) HPA.out m3 HM3.out.2 0 false HS3.out).mono ?_); rintro e wb ⟨rfl, hb⟩; have HAwb := Lib.hid (HAwa.out.trans (hb.mono HAwa.out.size)); have HBwb := Lib.hid (HBwa.out.trans (hb.mono HBwa.out.size)); obtain ⟨xwb0, xwb1, xwb2, xwb3⟩ := (HBX.out.keep HAwb.out).cells; clear hb))
          | (go_at_call 29; refine (pick_any i (N + 1) HN1.out.1 HN1.out.2 HI.out.1 HI.out.2 _).mono ?_; rintro e w' ⟨⟨at_, hat, rfl⟩, rfl⟩))
      obtain ⟨t, ht⟩ : ∃ t, Bm.cnt (Bm.val ys) at_ = t := ⟨_, rfl⟩
      have HTI : Hid (Bm.cnt (Bm.val ys) ((at_ : Int)).toNat = t) := by show _ = _; rw [Int.toNat_natCast]; exact ht
      have HVN : Hid (Bm.val ys < 2 ^ N) := HR.out.2.2.2
      by_cases htr : t < r
      · obtain ⟨mm, hmm⟩ : ∃ mm, (Bm.ml (Bm.val ys) N)[t]? = some mm := ⟨_, List.getElem?_eq_getElem (by rw [HLL.out]; exact htr)⟩
        obtain ⟨bl, off, rfl, _, hcl⟩ := HSL.out t mm hmm
        have HMM := Lib.hid hmm
        have hmm3 := Bm.ml_at.1 hmm
        have hmN : (mm : Int) < 1024 := by omega
        have HSN : Hid (SelOut (Bm.val ys) N (Bm.cnt (Bm.val ys) (at_ : Int).toNat : Nat) mm true) := .inl ⟨rfl, by omega, by rw [Int.toNat_natCast, Int.toNat_natCast, ht]; exact hmm⟩
        have htr1 : decide (t < r) = true := by simp; omega
        have htri : (t : Int) < (r : Int) := by omega
        by_cases hbit : (Bm.val ys).testBit at_ = true
        · have hatN : at_ < N := by
            rcases Nat.lt_or_ge at_ N with h | h
            · exact h
            · rw [Nat.testBit_lt_two_pow (Nat.lt_of_lt_of_le HVN.out (Nat.pow_le_pow_right (by decide) h))] at hbit; cases hbit
          have e1 : (Bm.ml (Bm.val ys) N)[t]? = some at_ := Bm.ml_at.2 ⟨hatN, hbit, ht⟩
          obtain rfl : mm = at_ := by rw [hmm] at e1; exact Option.some.inj e1
          have HHS : Hid ((decide (0 ≤ (mm : Int)) && (Bm.val ys).testBit (mm : Int).toNat) = true) := by show _ = _; rw [Int.toNat_natCast, hbit]; simp
          clear hmm hmm3 hbit e1 hat ht hatN
          go_wp2_with (first
            | (go_at_call 26; ((with_reducible refine (next_any N sa q cs ys HL.out HLC.out HCX.out HR.out wb A.heap.size (HSA.out.below HAwb.out) HAwb.out.size (HTA.out.below HAwb.out HPA.out) HPA.out (mm : Int) mm true HSN.out).mono ?_); rintro e wc ⟨rfl, hb⟩; have HAwc := Lib.hid (HAwb.out.trans (hb.mono HAwb.out.size)); have HBwc := Lib.hid (HBwb.out.trans (hb.mono HBwb.out.size)); obtain ⟨xwc0, xwc1, xwc2, xwc3⟩ := (HBX.out.keep HAwc.out).cells; clear hb))
            | (go_at_call 25; ((with_reducible refine (rank_any N sa q cs ys HL.out HLC.out HCX.out HR.out wc A.heap.size (HSA.out.below HAwc.out) HAwc.out.size (mm : Int) t HTI.out).mono ?_); rintro e wd ⟨rfl, hb⟩; have HAwd := Lib.hid (HAwc.out.trans (hb.mono HAwc.out.size)); have HBwd := Lib.hid (HBwc.out.trans (hb.mono HBwc.out.size)); obtain ⟨xwd0, xwd1, xwd2, xwd3⟩ := (HBX.out.keep HAwd.out).cells; have hcj := (HSL.out.below HBwd.out).cell HMM.out; clear hb))
            | (go_at_call 28; ((with_reducible refine (has_any N sa q cs ys HL.out HR.out wd A.heap.size (HSA.out.below HAwd.out) HAwd.out.size (mm : Int) true HHS.out).mono ?_); rintro e we ⟨rfl, hb⟩; have HAwe := Lib.hid (HAwd.out.trans (hb.mono HAwd.out.size)); have HBwe := Lib.hid (HBwd.out.trans (hb.mono HBwd.out.size)); obtain ⟨xwe0, xwe1, xwe2, xwe3⟩ := (HBX.out.keep HAwe.out).cells; clear hb)))
          go_ret
          exact ⟨rfl, HBA.out.trans (HAwe.out.mono HBA.out.size)⟩
        · have hbf : (Bm.val ys).testBit at_ = false := by simpa using hbit
          have hne : ¬ mm = at_ := fun e => by rw [e] at hmm3; exact hbit hmm3.2.1
          have hne1 : ((mm : Int) == (at_ : Int)) = false := by simp; omega
          have hne2 : (mm == at_) = false := by simp; omega
          have HHS : Hid ((decide (0 ≤ (at_ : Int)) && (Bm.val ys).testBit (at_ : Int).toNat) = false) := by show _ = _; rw [Int.toNat_natCast, hbf]; simp
          have hat2 : (at_ : Int) ≤ 1024 := by omega
          clear hmm hmm3 hbit hbf hat ht
          go_wp2_with (first
            | (go_at_call 26; ((with_reducible refine (next_any N sa q cs ys HL.out HLC.out HCX.out HR.out wb A.heap.size (HSA.out.below HAwb.out) HAwb.out.size (HTA.out.below HAwb.out HPA.out) HPA.out (at_ : Int) mm true HSN.out).mono ?_); rintro e wc ⟨rfl, hb⟩; have HAwc := Lib.hid (HAwb.out.trans (hb.mono HAwb.out.size)); have HBwc := Lib.hid (HBwb.out.trans (hb.mono HBwb.out.size)); obtain ⟨xwc0, xwc1, xwc2, xwc3⟩ := (HBX.out.keep HAwc.out).cells; clear hb))
            | (go_at_call 25; ((with_reducible refine (rank_any N sa q cs ys HL.out HLC.out HCX.out HR.out wc A.heap.size (HSA.out.below HAwc.out) HAwc.out.size (at_ : Int) t HTI.out).mono ?_); rintro e wd ⟨rfl, hb⟩; have HAwd := Lib.hid (HAwc.out.trans (hb.mono HAwc.out.size)); have HBwd := Lib.hid (HBwc.out.trans (hb.mono HBwc.out.size)); obtain ⟨xwd0, xwd1, xwd2, xwd3⟩ := (HBX.out.keep HAwd.out).cells; have hcj := (HSL.out.below HBwd.out).cell HMM.out; clear hb))
            | (go_at_call 28; ((with_reducible refine (has_any N sa q cs ys HL.out HR.out wd A.heap.size (HSA.out.below HAwd.out) HAwd.out.size (at_ : Int) false HHS.out).mono ?_); rintro e we ⟨rfl, hb⟩; have HAwe := Lib.hid (HAwd.out.trans (hb.mono HAwd.out.size)); have HBwe := Lib.hid (HBwd.out.trans (hb.mono HBwd.out.size)); obtain ⟨xwe0, xwe1, xwe2, xwe3⟩ := (HBX.out.keep HAwe.out).cells; clear hb)))
          go_ret
          exact ⟨rfl, HBA.out.trans (HAwe.out.mono HBA.out.size)⟩
      · have HSN : Hid (SelOut (Bm.val ys) N (Bm.cnt (Bm.val ys) (at_ : Int).toNat : Nat) 0 false) := .inr ⟨rfl, rfl, .inr (by rw [HRR.out, Int.toNat_natCast, Int.toNat_natCast, ht]; omega)⟩
        have hbf : (Bm.val ys).testBit at_ = false := by
          apply Decidable.byContradiction
          intro hb
          have hb' : (Bm.val ys).testBit at_ = true := by simpa using hb
          rcases Nat.lt_or_ge at_ N with h | h
          · have := Bm.cnt_strict h hb'
            rw [HRR.out] at this
            omega
          · rw [Nat.testBit_lt_two_pow (Nat.lt_of_lt_of_le HVN.out (Nat.pow_le_pow_right (by decide) h))] at hb'; cases hb'
        have HHS : Hid ((decide (0 ≤ (at_ : Int)) && (Bm.val ys).testBit (at_ : Int).toNat) = false) := by show _ = _; rw [Int.toNat_natCast, hbf]; simp
        have htr1 : decide (t < r) = false := by simp; omega
        have hat2 : (at_ : Int) ≤ 1024 := by omega
        clear hbf hat ht
        go_wp2_with (first
          | (go_at_call 26; ((with_reducible refine (next_any N sa q cs ys HL.out HLC.out HCX.out HR.out wb A.heap.size (HSA.out.below HAwb.out) HAwb.out.size (HTA.out.below HAwb.out HPA.out) HPA.out (at_ : Int) 0 false HSN.out).mono ?_); rintro e wc ⟨rfl, hb⟩; have HAwc := Lib.hid (HAwb.out.trans (hb.mono HAwb.out.size)); have HBwc := Lib.hid (HBwb.out.trans (hb.mono HBwb.out.size)); obtain ⟨xwc0, xwc1, xwc2, xwc3⟩ := (HBX.out.keep HAwc.out).cells; clear hb))
          | (go_at_call 25; ((with_reducible refine (rank_any N sa q cs ys HL.out HLC.out HCX.out HR.out wc A.heap.size (HSA.out.below HAwc.out) HAwc.out.size (at_ : Int) t HTI.out).mono ?_); rintro e wd ⟨rfl, hb⟩; have HAwd := Lib.hid (HAwc.out.trans (hb.mono HAwc.out.size)); have HBwd := Lib.hid (HBwc.out.trans (hb.mono HBwc.out.size)); obtain ⟨xwd0, xwd1, xwd2, xwd3⟩ := (HBX.out.keep HAwd.out).cells; clear hb))
          | (go_at_call 28; ((with_reducible refine (has_any N sa q cs ys HL.out HR.out wd A.heap.size (HSA.out.below HAwd.out) HAwd.out.size (at_ : Int) false HHS.out).mono ?_); rintro e we ⟨rfl, hb⟩; have HAwe := Lib.hid (HAwd.out.trans (hb.mono HAwd.out.size)); have HBwe := Lib.hid (HBwd.out.trans (hb.mono HBwd.out.size)); obtain ⟨xwe0, xwe1, xwe2, xwe3⟩ := (HBX.out.keep HAwe.out).cells; clear hb)))
        go_ret
        exact ⟨rfl, HBA.out.trans (HAwe.out.mono HBA.out.size)⟩

theorem ranks_walk (a0 : Int) (a1 : Option Addr) (len1 cap1 : Nat) (z1 : List Int) (a2 : Int) (w : World) (w0 : (Lit.int .u16 a0).wf = true) (w1 : IsRow .u64 w a1 len1 cap1 z1) (w2 : (Lit.int .i64 a2).wf = true) (wx : HT w) :
    Calls Tryd.prog 7 #[.int .u16 a0, .slice a1 len1 cap1, .int .i64 a2] w fun e w' => e = .returned (.bool true) ∧ Below w.heap.size w w' := by
  obtain ⟨xs, hn, hS, hx, h1, h2⟩ := row_u64 w1
  have b0 := bounds_u16 w0
  have b2 := bounds_i64 w2
  obtain ⟨x0, rfl⟩ : ∃ x : Nat, a0 = (x : Int) := ⟨a0.toNat, by omega⟩
  exact ranks_law x0 (by omega) a1 len1 cap1 xs hn h1 h2 hx a2 (by omega) (by omega) w hS wx

end Go.Proofs.YtkochcolmkgkgaaDoor
