/-
  The walk of BitsOne.
-/
import Derived.Test.YtkochcolmkgkgaaDoorOneI
import Derived.Test.YtkochcolmkgkgaaDoorAwakeW
import Derived.Test.YtkochcolmkgkgaaDoorTabZ
import Derived.Laws.Cover1
import Derived.Deep.RegionHeld3
import Derived.Deep.CutBlock
import Derived.Deep.DeepCutAuto
namespace Go.Proofs.YtkochcolmkgkgaaDoor
open Go.RowKit
set_option linter.unusedVariables false

set_option maxRecDepth 100000 in
set_option maxHeartbeats 8000000 in
theorem one_law (n : Nat) (hn : n < 65536) (a : Option Addr) (m c : Nat) (xs : List Nat) (hm : xs.length = m) (hmc : m ≤ c) (hcm : c ≤ maxLen) (hx : ∀ x ∈ xs, x < 2 ^ 64) (i : Int) (h1 : -9223372036854775808 ≤ i) (h2 : i ≤ 9223372036854775807) (t : Nat) (ht : t < 256) (w : World) (hS : Seen w w.heap.size .u64 a xs) (hT : HT w) :
    Calls Tryd.prog 10 #[.int .u16 n, .slice a m c, .int .i64 i, .int .u8 t] w fun e w' => e = .returned (.bool true) ∧ Below w.heap.size w w' := by
  have HTT : Hid (HT w) := hT
  have HPW : Hid (0 < w.heap.size) := hT.pos
  have HS : Hid (Seen w w.heap.size .u64 a xs) := hS
  have HNN := Lib.hid hn
  have HM := Lib.hid hm
  have HMC := Lib.hid hmc
  have HCM : Hid (c ≤ maxLen) := hcm
  have HX : Hid (∀ x ∈ xs, x < 2 ^ 64) := hx
  obtain ⟨N, hN⟩ : ∃ N, n % (64 * min m 16 + 1) = N := ⟨_, rfl⟩
  have HNE := Lib.hid hN
  clear hT hS hm hmc hcm hx hn hN
  have HI : Hid (-9223372036854775808 ≤ i ∧ i ≤ 9223372036854775807) := ⟨h1, h2⟩
  have HTU := Lib.hid ht
  clear h1 h2 ht
  go_enter Tryd.func10, Tryd.ntmps10
  go_wp2_with (first
    | (go_at_call 13; ((with_reducible refine (awake_any w HTT.out).mono ?_); rintro e w1 ⟨rfl, hb1⟩; have HB1 := Lib.hid hb1; clear hb1))
    | (go_at_call 23; ((with_reducible refine (made_any n HNN.out a m c xs HM.out HMC.out HCM.out HX.out w1 w.heap.size (HS.out.below HB1.out) HB1.out.size N HNE.out).mono ?_); rintro e w2 ⟨sa, cs, q, ys, rfl, hR, hown, hb2⟩; have HB2 := Lib.hid (HB1.out.trans (hb2.mono HB1.out.size)); have HR : Hid (Bm.Rt N ys) := hR; have HOW := Lib.hid hown; clear hb2 hown hR)))
  obtain ⟨sa', cs', hv, hseen, hlen, hle1, hle2⟩ := own_slice HOW.out
  injection hv with hv1 _ hv2
  subst hv1
  subst hv2
  have HL := Lib.hid hlen
  have HLC := Lib.hid hle1
  have HCX : Hid (cs ≤ maxLen) := hle2
  have hN6 : (N : Int) ≤ 1024 := by have h1 := HNE.out; have h2 := Nat.mod_lt n (show 0 < 64 * min m 16 + 1 by omega); omega
  have HBX : Hid (Box (w2.alloc (.cells #[.int .i64 N, .slice sa q cs] 24)) w2.heap.size (.int .i64 N) (.slice sa q cs)) := Box.new _ _ _
  have HSA : Hid (Seen (w2.alloc (.cells #[.int .i64 N, .slice sa q cs] 24)) (w2.alloc (.cells #[.int .i64 N, .slice sa q cs] 24)).heap.size .u64 sa ys) := (hseen.alloc (Nat.le_refl _) _).more (by simp)
  have HBA : Hid (Below w.heap.size w (w2.alloc (.cells #[.int .i64 N, .slice sa q cs] 24))) := HB2.out.alloc HB2.out.size _
  clear hseen hlen hle1 hle2
  have HGA : Hid (∀ g off, sa = some (⟨g, off, none⟩ : Addr) → g < (w2.alloc (.cells #[.int .i64 N, .slice sa q cs] 24)).heap.size) := fun g off h => by have := ((own_row HOW.out HR.out).2 g off h).2; simp; omega
  obtain ⟨A, hA⟩ : ∃ A, w2.alloc (.cells #[.int .i64 N, .slice sa q cs] 24) = A := ⟨_, rfl⟩
  rw [hA] at HBX HSA HBA HGA ⊢
  have HTA : Hid (HT A) := HTT.out.below HBA.out HPW.out
  have HPA : Hid (0 < A.heap.size) := HTA.out.pos
  clear hA
  obtain ⟨b, hb⟩ : ∃ b, w2.heap.size = b := ⟨_, rfl⟩
  rw [hb] at HBX ⊢
  clear hb HOW HB1 HB2
  obtain ⟨a0, a1, a2, a3⟩ := HBX.out.cells
  have HSS : Hid (SetAt A b N q sa cs ys) := ⟨HBX.out, HSA.out, HL.out, HLC.out, HCX.out, HR.out⟩
  obtain ⟨r, hr⟩ : ∃ r, Bm.cnt (Bm.val ys) N = r := ⟨_, rfl⟩
  have HRR := Lib.hid hr
  have HLL : Hid ((Bm.ml (Bm.val ys) N).length = r) := (Bm.ml_length _ _).trans hr
  have hr6 : (r : Int) ≤ 1024 := by have := Bm.cnt_le (Bm.val ys) N; omega
  clear hr
  go_wp2_with (first
    | (go_at_call 24; ((with_reducible refine (membersL_any N sa q cs ys HL.out HLC.out HCX.out HR.out A A.heap.size HSA.out HTA.out HPA.out (Nat.le_refl _) r HRR.out).mono ?_); rintro e w3 ⟨⟨v3, rfl, hown3⟩, hb⟩; obtain ⟨al, cl, rfl, hsl, _, _, _⟩ := own_slice hown3; have HOI : Hid (OwnI w3 A.heap.size (.slice al r cl) r (Bm.ml (Bm.val ys) N)) := hown3; have HAw3 := Lib.hid hb; clear hb hown3 hsl)))
  clear a0 a1 a2 a3
  go_loopw [32] (fun iv wr => ∃ (k : Nat) (L : List Nat), k ≤ r ∧ iv = .int .i64 k ∧ Hid (OwnI wr A.heap.size (.slice al r cl) r L) ∧ Hid (∀ x, x ∈ L ↔ x ∈ Bm.ml (Bm.val ys) N) ∧ Hid (Below A.heap.size A wr)) (fun i _ => r - (intOf i).toNat)
  case atStart => exact ⟨0, _, Nat.zero_le _, rfl, HOI, Lib.hid (fun x => Iff.rfl), HAw3⟩
  case round =>
    obtain ⟨k, L, hk, rfl, HO, HM2, HBK⟩ := hrel
    by_cases hkr : k < r
    · as_aux_lemma =>
      obtain ⟨g, rfl, hg1, hg2⟩ := HO.out.row (by omega)
      obtain ⟨x, hx⟩ : ∃ x, L[k]? = some x := ⟨_, List.getElem?_eq_getElem (by rw [HO.out.len]; exact hkr)⟩
      obtain ⟨mm, hmm⟩ : ∃ mm, k * t = mm := ⟨_, rfl⟩
      have hmmb : (mm : Int) ≤ 1000000 := by
        have h1 := HTU.out
        have h2 : k * t ≤ 1024 * 256 := Nat.mul_le_mul (by omega) (by omega)
        omega
      have hmi : (k : Int) * (t : Int) = (mm : Int) := by rw [← hmm, Int.natCast_mul]
      have hmw : IntKind.i64.wrap (mm : Int) = (mm : Int) := by rw [IntKind.wrap_i64]; omega
      have htw : IntKind.i64.wrap (t : Int) = (t : Int) := by have := HTU.out; rw [IntKind.wrap_i64]; omega
      obtain ⟨j, hj⟩ : ∃ j, mm % r = j := ⟨_, rfl⟩
      have hjr : j < r := by rw [← hj]; exact Nat.mod_lt _ (by omega)
      have hmt : (mm : Int).tmod (r : Int) = (j : Int) := by rw [Int.tmod_eq_emod_of_nonneg (by omega)]; omega
      have hme : (mm : Int) % (r : Int) = (j : Int) := by omega
      have hr0 : ¬ (r : Int) = 0 := by omega
      have hr1 : ¬ r = 0 := by omega
      have hki : (k : Int) < (r : Int) := by omega
      have hji : (j : Int) < (r : Int) := by omega
      obtain ⟨y, hy⟩ : ∃ y, L[j]? = some y := ⟨_, List.getElem?_eq_getElem (by rw [HO.out.len]; exact hjr)⟩
      obtain ⟨c0, c1⟩ := HO.out.at hx
      obtain ⟨d0, d1⟩ := HO.out.at hy
      have hy2 : (L.set k y)[j]? = some y := by
        rw [List.getElem?_set]
        split
        · rename_i e
          rw [if_pos (by rw [HO.out.len]; exact hkr)]
        · exact hy
      obtain ⟨e0, e1⟩ := (HO.out.store k y).at hy2
      have HO2 := Lib.hid ((HO.out.store k y).store j x)
      have HM3 : Hid (∀ z, z ∈ (L.set k y).set j x ↔ z ∈ Bm.ml (Bm.val ys) N) := fun z => (Bm.mem_swap hx hy z).trans (HM2.out z)
      have HBK2 := Lib.hid ((HBK.out.setCell (p := ⟨g, k, none⟩) hg1 (.int .i64 y)).setCell (p := ⟨g, j, none⟩) hg1 (.int .i64 x))
      have HE : Hid (k + 1 ≤ r) := hkr
      clear hx hy hy2 hmm hj hjr hmmb hg1 hg2 hk
      go_wp2
      go_region
      all_goals
        go_wp2
        exact ⟨⟨k + 1, _, HE.out, rfl, Lib.hid HO2.out.drew, HM3, Lib.hid HBK2.out.drew⟩, by have := HE.out; simp [intOf]; omega⟩
    · obtain rfl : r = k := by omega
      clear hk hkr
      have HSB := Lib.hid (HSS.out.keep HBK.out)
      have HBW := Lib.hid (HBA.out.trans (HBK.out.mono HBA.out.size))
      have HLM : Hid (∀ x, x ∈ L ++ L ↔ x ∈ Bm.ml (Bm.val ys) N) := fun x => by rw [List.mem_append, or_self]; exact HM2.out x
      have HR5 : Hid (r ≤ 100000) := by show _ ≤ _; omega
      go_upto_region 10 with fail
      go_cut [12, 13] (fun s12 s13 wx => ∃ (b12 g1 : Nat), s12 = .pointer (some ⟨b12, 0, none⟩) ∧ s13 = .int .i64 0 ∧ Hid (SetAt wx b12 N q (some ⟨g1, 0, none⟩) q ys) ∧ Hid (SetAt wx b N q sa cs ys) ∧ Hid (Below w.heap.size w wx))
      case first => as_aux_lemma =>
        obtain ⟨c0, c1, _, _⟩ := HSB.out.1.cells
        have HA0 : Hid (Below A.heap.size A wr.drew) := HBK.out.drew
        have HA1 : Hid (Below A.heap.size A (wr.alloc (.cells #[.int .i64 0, .slice none 0 0] 24)).drew) := (HBK.out.alloc HBK.out.size _).drew
        have HO1 : Hid (OwnI (wr.alloc (.cells #[.int .i64 0, .slice none 0 0] 24)).drew A.heap.size (.slice al r cl) r L) := HO.out.keep ((Below.refl _ wr).alloc (Nat.le_refl _) _).drew
        obtain ⟨y0, y1, _, _⟩ := (HSB.out.alloc (.cells #[.int .i64 0, .slice none 0 0] 24)).1.cells
        have HZP : Hid (Box (wr.alloc (.cells #[.int .i64 0, .slice none 0 0] 24)).drew wr.heap.size (.int .i64 0) (.slice none 0 0)) := Box.new _ _ _
        go_region_held3 (fun W => W.cell? ⟨b, 0, none⟩ = some (.int .i64 N)) (first | exact c0 | exact y0 | exact s50 | exact s40 | exact s60 | exact c04 | exact y04 | exact c05 | go_keep) (first
          | (refine step_append_self (w := wr.drew) rfl _ _ rfl A.heap.size (.slice al r cl) r L rfl rfl HA0.out.size HO.out.drew HR5.out ?_; intro v' w4 ho4 hb4 hg4; obtain ⟨va, vc, rfl, hs4, hl4, _, _⟩ := own_slice ho4; have HB4 := Lib.hid (HA0.out.trans (hb4.mono (Nat.le_refl _))); have c04 : w4.cell? ⟨b, 0, none⟩ = some (.int .i64 N) := (HSS.out.keep HB4.out).1.cells.1; have y04 : (w4.alloc (.cells #[.int .i64 0, .slice none 0 0] 24)).cell? ⟨b, 0, none⟩ = some (.int .i64 N) := ((HSS.out.keep HB4.out).alloc _).1.cells.1; have HZ4 : Hid (Box (w4.alloc (.cells #[.int .i64 0, .slice none 0 0] 24)) w4.heap.size (.int .i64 0) (.slice none 0 0)) := Box.new _ _ _)
          | (refine step_append_self (w := (wr.alloc (.cells #[.int .i64 0, .slice none 0 0] 24)).drew) rfl _ _ rfl A.heap.size (.slice al r cl) r L rfl rfl HA1.out.size HO1.out HR5.out ?_; intro v' w4 ho4 hb4 hg4; obtain ⟨va, vc, rfl, hs4, hl4, _, _⟩ := own_slice ho4; have HB4 := Lib.hid (HA1.out.trans (hb4.mono (Nat.le_refl _))); have c04 : w4.cell? ⟨b, 0, none⟩ = some (.int .i64 N) := (HSS.out.keep HB4.out).1.cells.1; have HZ5 : Hid (Box w4 wr.heap.size (.int .i64 0) (.slice none 0 0)) := HZP.out.grown HO.out (Nat.le_refl _) hg4)
          | (go_at_call 35; (with_reducible show Calls _ _ _ w4 _); refine (ofN_at HR.out HL.out w4 va (r + r) vc (L ++ L) ho4.len (by have := HR5.out; omega) _ hs4 (by first | exact Nat.le_refl _ | simp) HLM.out).mono ?_; rintro e w5 ⟨g5, rfl, ho5, hb5⟩; have HB5 := Lib.hid (HB4.out.trans (hb5.mono HB4.out.size)); have c05 : w5.cell? ⟨b, 0, none⟩ = some (.int .i64 N) := (HSS.out.keep HB5.out).1.cells.1; have T6 := Lib.hid (SetAt.new ho5 HR.out); have T7 := Lib.hid ((HSS.out.keep HB5.out).alloc (.cells #[.int .i64 N, .slice (some ⟨g5, 0, none⟩) q q] 24)); obtain ⟨s60, _, _, _⟩ := T7.out.1.cells; (try (have Z5' := Lib.hid (HZ5.out.keep hb5); obtain ⟨z50, z51, z52, z53⟩ := Z5'.out.cells; have lz5 := Z5'.out.lt; have T5 := Lib.hid (end_set (HBA.out.trans (HB5.out.mono HBA.out.size)) (Nat.le_trans HBA.out.size HBK.out.size) Z5'.out (HSS.out.keep HB5.out) (by have h1 := HBX.out.lt; have h2 := HBK.out.size; omega) (fun g off e => by have h1 := HGA.out g off e; have h2 := HBK.out.size; omega) ho5 (by have h1 := ho5.base.1; have h2 := hg4.size; simp at h2; omega)); obtain ⟨s50, _, _, _⟩ := T5.out.2.1.1.cells)))
          | (go_at_call 35; (with_reducible show Calls _ _ _ (w4.alloc (.cells #[.int .i64 0, .slice none 0 0] 24)) _); refine (ofN_at HR.out HL.out (w4.alloc (.cells #[.int .i64 0, .slice none 0 0] 24)) va (r + r) vc (L ++ L) ho4.len (by have := HR5.out; omega) _ (hs4.alloc (Nat.le_refl _) _) (by first | exact Nat.le_refl _ | simp) HLM.out).mono ?_; rintro e w5 ⟨g5, rfl, ho5, hb5⟩; have HB5 := Lib.hid ((HB4.out.alloc HB4.out.size _).trans (hb5.mono (HB4.out.alloc HB4.out.size _).size)); have c05 : w5.cell? ⟨b, 0, none⟩ = some (.int .i64 N) := (HSS.out.keep HB5.out).1.cells.1; have Z4' := Lib.hid (HZ4.out.keep hb5); obtain ⟨z40, z41, z42, z43⟩ := Z4'.out.cells; have lz4 := Z4'.out.lt; have T4 := Lib.hid (end_set (HBA.out.trans (HB5.out.mono HBA.out.size)) (Nat.le_trans HBA.out.size HB4.out.size) Z4'.out (HSS.out.keep HB5.out) (by have h1 := HBX.out.lt; have h2 := HB4.out.size; omega) (fun g off e => by have h1 := HGA.out g off e; have h2 := HB4.out.size; omega) ho5 (by have h1 := ho5.base.1; simp at h1; omega)); obtain ⟨s40, _, _, _⟩ := T4.out.2.1.1.cells))
        all_goals
          go_wp2
          go_meet
          first
            | (with_reducible exact ⟨_, _, rfl, rfl, Lib.hid T5.out.1, Lib.hid T5.out.2.1, Lib.hid T5.out.2.2⟩)
            | (with_reducible exact ⟨_, _, rfl, rfl, Lib.hid T4.out.1, Lib.hid T4.out.2.1, Lib.hid T4.out.2.2⟩)
            | (have T8 := (HBA.out.trans (HB5.out.mono HBA.out.size)).alloc (HBA.out.trans (HB5.out.mono HBA.out.size)).size (.cells #[.int .i64 N, .slice (some ⟨g5, 0, none⟩) q q] 24); with_reducible exact ⟨_, _, rfl, rfl, T6, T7, Lib.hid T8⟩)
      case rest => as_aux_lemma =>
        obtain ⟨b12, g12, rfl, rfl, HE0, HS0, HW0⟩ := hcut
        obtain ⟨e0, e1, e2, e3⟩ := HE0.out.1.cells
        obtain ⟨s0, s1, s2, s3⟩ := HS0.out.1.cells
        by_cases hN0 : N = 0
        · have n1 : ((N : Int) == 0) = true := by simp; exact hN0
          have n2 : (N == 0) = true := by simp; exact hN0
          clear hN0
          go_wp2_with (first
            | (go_at_call 33; ((with_reducible refine (same_at HE0.out HS0.out).mono ?_); rintro e v1 ⟨rfl, hb⟩; obtain ⟨f0, f1, f2, f3⟩ := (HS0.out.keep hb).1.cells; have HW1 := Lib.hid (HW0.out.trans (hb.mono HW0.out.size)); clear hb)))
          go_ret
          exact ⟨rfl, HW1.out⟩
        · have n1 : ((N : Int) == 0) = false := by simp; exact hN0
          have n2 : (N == 0) = false := by simp; exact hN0
          have HN1 : Hid (0 < N ∧ N ≤ 1000000) := ⟨by omega, by omega⟩
          clear hN0
          go_wp2_with (first
            | (go_at_call 33; ((with_reducible refine (same_at HE0.out HS0.out).mono ?_); rintro e v1 ⟨rfl, hb⟩; obtain ⟨xS10, xS11, xS12, xS13⟩ := (HS0.out.keep hb).1.cells; have HS1 := Lib.hid (HS0.out.keep hb); have HB1 := Lib.hid (HW0.out.trans (hb.mono HW0.out.size)); clear hb))
            | (go_at_call 29; refine (pick_any i N HN1.out.1 HN1.out.2 HI.out.1 HI.out.2 _).mono ?_; rintro e w' ⟨⟨k, hk, rfl⟩, rfl⟩; obtain ⟨lw, ll, r2, HLW, HLL2, HLB, HLM2, HRW, HRL, HBW2, HBL2, HC1, HC2, HY1, HY2⟩ := Bm.one_math HR.out HL.out hk; replace HLW := Lib.hid HLW; replace HLL2 := Lib.hid HLL2; replace HLB := Lib.hid HLB; replace HLM2 := Lib.hid HLM2; replace HRW := Lib.hid HRW; replace HRL := Lib.hid HRL; replace HBW2 := Lib.hid HBW2; replace HBL2 := Lib.hid HBL2; replace HC1 := Lib.hid HC1; replace HC2 := Lib.hid HC2; replace HY1 := Lib.hid HY1; replace HY2 := Lib.hid HY2; have HK : Hid (k < N) := hk; have hk6 : (k : Int) ≤ 1024 := (by omega); clear hk)
            | (go_at_call 36; ((with_reducible refine (with_atN HS1.out k HK.out HLW.out).mono ?_); rintro e v2 ⟨g2, rfl, ho, hb⟩; obtain ⟨D2, hD2⟩ : ∃ D, v2.alloc (.cells #[.int .i64 N, .slice (some ⟨g2, 0, none⟩) q q] 24) = D := ⟨_, rfl⟩; obtain ⟨p2, hp2⟩ : ∃ p, v2.heap.size = p := ⟨_, rfl⟩; have HS2 := Lib.hid ((HS1.out.keep hb).alloc (.cells #[.int .i64 N, .slice (some ⟨g2, 0, none⟩) q q] 24)); rw [hD2] at HS2; have HW_2 := Lib.hid (SetAt.new ho HRW.out); rw [hD2, hp2] at HW_2; have HB2 := Lib.hid (HB1.out.trans ((hb.alloc hb.size (.cells #[.int .i64 N, .slice (some ⟨g2, 0, none⟩) q q] 24)).mono HB1.out.size)); rw [hD2] at HB2; obtain ⟨xS20, xS21, xS22, xS23⟩ := HS2.out.1.cells; clear ho hb))
            | (go_at_call 37; ((with_reducible refine (without_atN HS2.out k HK.out HLL2.out).mono ?_); rintro e v3 ⟨g3, rfl, ho, hb⟩; obtain ⟨D3, hD3⟩ : ∃ D, v3.alloc (.cells #[.int .i64 N, .slice (some ⟨g3, 0, none⟩) q q] 24) = D := ⟨_, rfl⟩; obtain ⟨p3, hp3⟩ : ∃ p, v3.heap.size = p := ⟨_, rfl⟩; have HS3 := Lib.hid ((HS2.out.keep hb).alloc (.cells #[.int .i64 N, .slice (some ⟨g3, 0, none⟩) q q] 24)); rw [hD3] at HS3; have HW_3 := Lib.hid ((HW_2.out.keep hb).alloc (.cells #[.int .i64 N, .slice (some ⟨g3, 0, none⟩) q q] 24)); rw [hD3] at HW_3; have HL3 := Lib.hid (SetAt.new ho HRL.out); rw [hD3, hp3] at HL3; have HB3 := Lib.hid (HB2.out.trans ((hb.alloc hb.size (.cells #[.int .i64 N, .slice (some ⟨g3, 0, none⟩) q q] 24)).mono HB2.out.size)); rw [hD3] at HB3; obtain ⟨xW30, xW31, xW32, xW33⟩ := HW_3.out.1.cells; clear ho hb))
            | (go_at_call 37; ((with_reducible refine (without_atN HW_3.out k HK.out HLB.out).mono ?_); rintro e v4 ⟨g4, rfl, ho, hb⟩; obtain ⟨D4, hD4⟩ : ∃ D, v4.alloc (.cells #[.int .i64 N, .slice (some ⟨g4, 0, none⟩) q q] 24) = D := ⟨_, rfl⟩; obtain ⟨p4, hp4⟩ : ∃ p, v4.heap.size = p := ⟨_, rfl⟩; have HS4 := Lib.hid ((HS3.out.keep hb).alloc (.cells #[.int .i64 N, .slice (some ⟨g4, 0, none⟩) q q] 24)); rw [hD4] at HS4; have HW_4 := Lib.hid ((HW_3.out.keep hb).alloc (.cells #[.int .i64 N, .slice (some ⟨g4, 0, none⟩) q q] 24)); rw [hD4] at HW_4; have HL4 := Lib.hid ((HL3.out.keep hb).alloc (.cells #[.int .i64 N, .slice (some ⟨g4, 0, none⟩) q q] 24)); rw [hD4] at HL4; have HBK4 := Lib.hid (SetAt.new ho HRL.out); rw [hD4, hp4] at HBK4; have HB4 := Lib.hid (HB3.out.trans ((hb.alloc hb.size (.cells #[.int .i64 N, .slice (some ⟨g4, 0, none⟩) q q] 24)).mono HB3.out.size)); rw [hD4] at HB4; obtain ⟨xL40, xL41, xL42, xL43⟩ := HL4.out.1.cells; clear ho hb))
            | (go_at_call 36; ((with_reducible refine (with_atN HL4.out k HK.out HLM2.out).mono ?_); rintro e v5 ⟨g5, rfl, ho, hb⟩; obtain ⟨D5, hD5⟩ : ∃ D, v5.alloc (.cells #[.int .i64 N, .slice (some ⟨g5, 0, none⟩) q q] 24) = D := ⟨_, rfl⟩; obtain ⟨p5, hp5⟩ : ∃ p, v5.heap.size = p := ⟨_, rfl⟩; have HS5 := Lib.hid ((HS4.out.keep hb).alloc (.cells #[.int .i64 N, .slice (some ⟨g5, 0, none⟩) q q] 24)); rw [hD5] at HS5; have HW_5 := Lib.hid ((HW_4.out.keep hb).alloc (.cells #[.int .i64 N, .slice (some ⟨g5, 0, none⟩) q q] 24)); rw [hD5] at HW_5; have HL5 := Lib.hid ((HL4.out.keep hb).alloc (.cells #[.int .i64 N, .slice (some ⟨g5, 0, none⟩) q q] 24)); rw [hD5] at HL5; have HBK5 := Lib.hid ((HBK4.out.keep hb).alloc (.cells #[.int .i64 N, .slice (some ⟨g5, 0, none⟩) q q] 24)); rw [hD5] at HBK5; have HMO5 := Lib.hid (SetAt.new ho HRW.out); rw [hD5, hp5] at HMO5; have HB5 := Lib.hid (HB4.out.trans ((hb.alloc hb.size (.cells #[.int .i64 N, .slice (some ⟨g5, 0, none⟩) q q] 24)).mono HB4.out.size)); rw [hD5] at HB5; clear ho hb)))
          clear hD2 hD3 hD4 hD5 hp2 hp3 hp4 hp5 e0 e1 e2 e3 s0 s1 s2 s3
          obtain ⟨c1, hc1⟩ : ∃ c1, r2 + 1 = c1 := ⟨_, rfl⟩
          have HC3 : Hid (Bm.cnt (Bm.val lw) N = c1) := by show _ = _; rw [← hc1]; exact HC1.out
          have hci : (r2 : Int) + 1 = (c1 : Int) := by omega
          have hc9 : (c1 : Int) ≤ 1024 := by have h1 := Bm.cnt_le (Bm.val lw) N; have h2 := HC3.out; omega
          have hcw : IntKind.i64.wrap (c1 : Int) = (c1 : Int) := by rw [IntKind.wrap_i64]; omega
          have HHW : Hid ((decide (0 ≤ (k : Int)) && (Bm.val lw).testBit (k : Int).toNat) = true) := by show _ = _; rw [Int.toNat_natCast, HBW2.out]; simp
          have HHL : Hid ((decide (0 ≤ (k : Int)) && (Bm.val ll).testBit (k : Int).toNat) = false) := by show _ = _; rw [Int.toNat_natCast, HBL2.out]; simp
          clear hc1
          have hw0 : IntKind.i64.wrap 0 = 0 := rfl
          obtain ⟨zW0, zW1, zW2, zW3⟩ := HW_5.out.1.cells
          obtain ⟨zL0, zL1, zL2, zL3⟩ := HL5.out.1.cells
          obtain ⟨zBK0, zBK1, zBK2, zBK3⟩ := HBK5.out.1.cells
          obtain ⟨zMO0, zMO1, zMO2, zMO3⟩ := HMO5.out.1.cells
          go_region_held3 (fun W => (W.cell? ⟨p2, 0, none⟩ = some (.int .i64 N) ∧ W.cell? ⟨p2, 1, none⟩ = some (.slice (some ⟨g2, 0, none⟩) q q)) ∧ (W.cell? ⟨p3, 0, none⟩ = some (.int .i64 N) ∧ W.cell? ⟨p3, 1, none⟩ = some (.slice (some ⟨g3, 0, none⟩) q q)) ∧ (W.cell? ⟨p4, 0, none⟩ = some (.int .i64 N) ∧ W.cell? ⟨p4, 1, none⟩ = some (.slice (some ⟨g4, 0, none⟩) q q)) ∧ (W.cell? ⟨p5, 0, none⟩ = some (.int .i64 N) ∧ W.cell? ⟨p5, 1, none⟩ = some (.slice (some ⟨g5, 0, none⟩) q q))) (first | go_keep | exact ⟨⟨zW0, zW1⟩, ⟨zL0, zL1⟩, ⟨zBK0, zBK1⟩, ⟨zMO0, zMO1⟩⟩ | exact ⟨⟨(HW_5.out.keep hb1).1.cells.1, (HW_5.out.keep hb1).1.cells.2.1⟩, ⟨(HL5.out.keep hb1).1.cells.1, (HL5.out.keep hb1).1.cells.2.1⟩, ⟨(HBK5.out.keep hb1).1.cells.1, (HBK5.out.keep hb1).1.cells.2.1⟩, ⟨(HMO5.out.keep hb1).1.cells.1, (HMO5.out.keep hb1).1.cells.2.1⟩⟩ | exact ⟨⟨(HW_5.out.keep hb2).1.cells.1, (HW_5.out.keep hb2).1.cells.2.1⟩, ⟨(HL5.out.keep hb2).1.cells.1, (HL5.out.keep hb2).1.cells.2.1⟩, ⟨(HBK5.out.keep hb2).1.cells.1, (HBK5.out.keep hb2).1.cells.2.1⟩, ⟨(HMO5.out.keep hb2).1.cells.1, (HMO5.out.keep hb2).1.cells.2.1⟩⟩ | exact ⟨⟨(HW_5.out.keep hb3).1.cells.1, (HW_5.out.keep hb3).1.cells.2.1⟩, ⟨(HL5.out.keep hb3).1.cells.1, (HL5.out.keep hb3).1.cells.2.1⟩, ⟨(HBK5.out.keep hb3).1.cells.1, (HBK5.out.keep hb3).1.cells.2.1⟩, ⟨(HMO5.out.keep hb3).1.cells.1, (HMO5.out.keep hb3).1.cells.2.1⟩⟩ | exact ⟨⟨(HW_5.out.keep hb4).1.cells.1, (HW_5.out.keep hb4).1.cells.2.1⟩, ⟨(HL5.out.keep hb4).1.cells.1, (HL5.out.keep hb4).1.cells.2.1⟩, ⟨(HBK5.out.keep hb4).1.cells.1, (HBK5.out.keep hb4).1.cells.2.1⟩, ⟨(HMO5.out.keep hb4).1.cells.1, (HMO5.out.keep hb4).1.cells.2.1⟩⟩ | exact ⟨⟨(HW_5.out.keep hb5).1.cells.1, (HW_5.out.keep hb5).1.cells.2.1⟩, ⟨(HL5.out.keep hb5).1.cells.1, (HL5.out.keep hb5).1.cells.2.1⟩, ⟨(HBK5.out.keep hb5).1.cells.1, (HBK5.out.keep hb5).1.cells.2.1⟩, ⟨(HMO5.out.keep hb5).1.cells.1, (HMO5.out.keep hb5).1.cells.2.1⟩⟩ | exact ⟨⟨(HW_5.out.keep hb6).1.cells.1, (HW_5.out.keep hb6).1.cells.2.1⟩, ⟨(HL5.out.keep hb6).1.cells.1, (HL5.out.keep hb6).1.cells.2.1⟩, ⟨(HBK5.out.keep hb6).1.cells.1, (HBK5.out.keep hb6).1.cells.2.1⟩, ⟨(HMO5.out.keep hb6).1.cells.1, (HMO5.out.keep hb6).1.cells.2.1⟩⟩) (first
            | (go_at_call 28; (with_reducible show Calls _ _ #[.agg #[.int .i64 N, .slice (some ⟨g2, 0, none⟩) q q], _] _ _); refine (has_at (by exact HW_5.out) (k : Int) true HHW.out).mono ?_; rintro e u1 ⟨rfl, hb1'⟩; have hb1 : Below D5.heap.size D5 u1 := (Below.refl _ D5).drew.trans hb1'; clear hb1')
            | (go_at_call 28; (with_reducible show Calls _ _ #[.agg #[.int .i64 N, .slice (some ⟨g3, 0, none⟩) q q], _] u1 _); refine (has_at (by exact HL5.out.keep hb1) (k : Int) false HHL.out).mono ?_; rintro e u2 ⟨rfl, hb2'⟩; have hb2 : Below D5.heap.size D5 u2 := hb1.trans (hb2'.mono hb1.size); clear hb2')
            | (go_at_call 33; (with_reducible show Calls _ _ #[.slice (some ⟨g4, 0, none⟩) q q, .slice (some ⟨g3, 0, none⟩) q q] u2 _); refine (same_at (by exact HBK5.out.keep hb2) (by exact HL5.out.keep hb2)).mono ?_; rintro e u3 ⟨rfl, hb3'⟩; have hb3 : Below D5.heap.size D5 u3 := hb2.trans (hb3'.mono hb2.size); clear hb3')
            | (go_at_call 33; (with_reducible show Calls _ _ #[.slice (some ⟨g5, 0, none⟩) q q, .slice (some ⟨g2, 0, none⟩) q q] u3 _); refine (same_at (by exact HMO5.out.keep hb3) (by exact HW_5.out.keep hb3)).mono ?_; rintro e u4 ⟨rfl, hb4'⟩; have hb4 : Below D5.heap.size D5 u4 := hb3.trans (hb4'.mono hb3.size); clear hb4')
            | (go_at_call 21; (with_reducible show Calls _ _ #[.agg #[.int .i64 N, .slice (some ⟨g2, 0, none⟩) q q]] u4 _); refine (count_at (by exact HW_5.out.keep hb4) c1 HC3.out).mono ?_; rintro e u5 ⟨rfl, hb5'⟩; have hb5 : Below D5.heap.size D5 u5 := hb4.trans (hb5'.mono hb4.size); clear hb5')
            | (go_at_call 21; (with_reducible show Calls _ _ #[.agg #[.int .i64 N, .slice (some ⟨g3, 0, none⟩) q q]] u5 _); refine (count_at (by exact HL5.out.keep hb5) r2 HC2.out).mono ?_; rintro e u6 ⟨rfl, hb6'⟩; have hb6 : Below D5.heap.size D5 u6 := hb5.trans (hb6'.mono hb5.size); clear hb6'))
          rename_i hcont hheld
          refine hcont _ _ ?_
          have HB6 := Lib.hid (HB5.out.trans (hb6.mono HB5.out.size))
          have HS6 := Lib.hid (HS5.out.keep hb6)
          have HW6 := Lib.hid (HW_5.out.keep hb6)
          have HL6 := Lib.hid (HL5.out.keep hb6)
          obtain ⟨s0, s1, s2, s3⟩ := HS6.out.1.cells
          clear hb1 hb2 hb3 hb4 hb5 hb6 hheld zW0 zW1 zW2 zW3 zL0 zL1 zL2 zL3 zBK0 zBK1 zBK2 zBK3 zMO0 zMO1 zMO2 zMO3
          cases hbit : (Bm.val ys).testBit k with
          | true =>
            have HH : Hid ((decide (0 ≤ (k : Int)) && (Bm.val ys).testBit (k : Int).toNat) = true) := by show _ = _; rw [Int.toNat_natCast, hbit]; simp
            have hx := HY1.out hbit
            have HX : Hid (SetAt u6 p2 N q (some ⟨g2, 0, none⟩) q ys) := by have h := HW6.out; rw [hx] at h; exact h
            clear hbit hx
            go_wp2_with (first
              | (go_at_call 28; ((with_reducible refine (has_at HS6.out (k : Int) true HH.out).mono ?_); rintro e u7 ⟨rfl, hb⟩; have HX7 := Lib.hid (HX.out.keep hb); have HS7 := Lib.hid (HS6.out.keep hb); have HB7 := Lib.hid (HB6.out.trans (hb.mono HB6.out.size)); obtain ⟨q0, q1, q2, q3⟩ := HX7.out.1.cells; obtain ⟨o0, o1, o2, o3⟩ := HS7.out.1.cells; clear hb))
              | (go_at_call 33; ((with_reducible refine (same_at HX7.out HS7.out).mono ?_); rintro e u8 ⟨rfl, hb⟩; have HB8 := Lib.hid (HB7.out.trans (hb.mono HB7.out.size)); clear hb)))
            go_ret
            exact ⟨rfl, HB8.out⟩
          | false =>
            have HH : Hid ((decide (0 ≤ (k : Int)) && (Bm.val ys).testBit (k : Int).toNat) = false) := by show _ = _; rw [Int.toNat_natCast, hbit]; simp
            have hx := HY2.out hbit
            have HX : Hid (SetAt u6 p3 N q (some ⟨g3, 0, none⟩) q ys) := by have h := HL6.out; rw [hx] at h; exact h
            clear hbit hx
            go_wp2_with (first
              | (go_at_call 28; ((with_reducible refine (has_at HS6.out (k : Int) false HH.out).mono ?_); rintro e u7 ⟨rfl, hb⟩; have HX7 := Lib.hid (HX.out.keep hb); have HS7 := Lib.hid (HS6.out.keep hb); have HB7 := Lib.hid (HB6.out.trans (hb.mono HB6.out.size)); obtain ⟨q0, q1, q2, q3⟩ := HX7.out.1.cells; obtain ⟨o0, o1, o2, o3⟩ := HS7.out.1.cells; clear hb))
              | (go_at_call 33; ((with_reducible refine (same_at HX7.out HS7.out).mono ?_); rintro e u8 ⟨rfl, hb⟩; have HB8 := Lib.hid (HB7.out.trans (hb.mono HB7.out.size)); clear hb)))
            go_ret
            exact ⟨rfl, HB8.out⟩

theorem one_walk (a0 : Int) (a1 : Option Addr) (len1 cap1 : Nat) (z1 : List Int) (a2 : Int) (a3 : Int) (w : World) (w0 : (Lit.int .u16 a0).wf = true) (w1 : IsRow .u64 w a1 len1 cap1 z1) (w2 : (Lit.int .i64 a2).wf = true) (w3 : (Lit.int .u8 a3).wf = true) (wx : HT w) :
    Calls Tryd.prog 10 #[.int .u16 a0, .slice a1 len1 cap1, .int .i64 a2, .int .u8 a3] w fun e w' => e = .returned (.bool true) ∧ Below w.heap.size w w' := by
  obtain ⟨xs, hn, hS, hx, h1, h2⟩ := row_u64 w1
  have b0 := bounds_u16 w0
  have b2 := bounds_i64 w2
  have b3 := bounds_u8 w3
  obtain ⟨x0, rfl⟩ : ∃ x : Nat, a0 = (x : Int) := ⟨a0.toNat, by omega⟩
  obtain ⟨x3, rfl⟩ : ∃ x : Nat, a3 = (x : Int) := ⟨a3.toNat, by omega⟩
  exact one_law x0 (by omega) a1 len1 cap1 xs hn h1 h2 hx a2 (by omega) (by omega) x3 (by omega) w hS wx
end Go.Proofs.YtkochcolmkgkgaaDoor
