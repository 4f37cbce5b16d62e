/-
  The walk of BitsWrong.
-/
import Derived.Test.YtkochcolmkgkgaaDoorBadAt
import Derived.Test.YtkochcolmkgkgaaDoorAwakeW
import Derived.Test.YtkochcolmkgkgaaDoorTabZ
import Derived.Laws.Cover1
import Derived.Deep.RegionHeld3
import Derived.Deep.CutBlock
import Derived.Deep.DeepCutAuto
namespace Go.Proofs.YtkochcolmkgkgaaDoor
open Go.RowKit
set_option linter.unusedVariables false

set_option maxRecDepth 100000 in
set_option maxHeartbeats 16000000 in
theorem wrong_law (n : Nat) (hn : n < 65536) (a : Option Addr) (m c : Nat) (xs : List Nat) (hm : xs.length = m) (hmc : m ≤ c) (hcm : c ≤ maxLen) (hx : ∀ x ∈ xs, x < 2 ^ 64) (wy : Nat) (hwy : wy < 256) (i : Int) (h1 : -9223372036854775808 ≤ i) (h2 : i ≤ 9223372036854775807) (w : World) (hS : Seen w w.heap.size .u64 a xs) (hT : HT w) :
    Calls Tryd.prog 11 #[.int .u16 n, .slice a m c, .int .u8 wy, .int .i64 i] w fun e w' => e = .returned (.bool true) ∧ Below w.heap.size w w' := by
  have HTT : Hid (HT w) := hT
  have HPW : Hid (0 < w.heap.size) := hT.pos
  have HS : Hid (Seen w w.heap.size .u64 a xs) := hS
  have HNN := Lib.hid hn
  have HM := Lib.hid hm
  have HMC := Lib.hid hmc
  have HCM : Hid (c ≤ maxLen) := hcm
  have HX : Hid (∀ x ∈ xs, x < 2 ^ 64) := hx
  obtain ⟨N, hN⟩ : ∃ N, n % (64 * min m 16 + 1) = N := ⟨_, rfl⟩
  have HNE := Lib.hid hN
  clear hT hS hm hmc hcm hx hn hN
  obtain ⟨m0, hm0⟩ : ∃ m0, min i (-1) = m0 := ⟨_, rfl⟩
  have HM0 : Hid (m0 < 0 ∧ -9223372036854775808 ≤ m0) := ⟨by omega, by omega⟩
  obtain ⟨m1, hm1⟩ : ∃ m1, max i (N : Int) = m1 := ⟨_, rfl⟩
  have HM1 : Hid ((N : Int) ≤ m1) := by show _ ≤ _; omega
  obtain ⟨m2, hm2⟩ : ∃ m2, max i 65537 = m2 := ⟨_, rfl⟩
  have HM2 : Hid (65536 < m2 ∧ m2 ≤ 9223372036854775807) := ⟨by omega, by omega⟩
  obtain ⟨tg, htg⟩ : ∃ tg, wy % 4 = tg := ⟨_, rfl⟩
  have HTG : Hid (tg < 4) := by show _ < _; omega
  have ht1 : (wy : Int) % 4 = (tg : Int) := by omega
  have ht2 : (wy : Int).tmod 4 = (tg : Int) := by rw [Int.tmod_eq_emod_of_nonneg (by omega)]; omega
  have HWY := Lib.hid hwy
  clear h1 h2 hwy htg
  go_enter Tryd.func11, Tryd.ntmps11
  go_wp2_with (first
    | (go_at_call 13; ((with_reducible refine (awake_any w HTT.out).mono ?_); rintro e w1 ⟨rfl, hb1⟩; have HB1 := Lib.hid hb1; clear hb1))
    | (go_at_call 23; ((with_reducible refine (made_any n HNN.out a m c xs HM.out HMC.out HCM.out HX.out w1 w.heap.size (HS.out.below HB1.out) HB1.out.size N HNE.out).mono ?_); rintro e w2 ⟨sa, cs, q, ys, rfl, hR, hown, hb2⟩; have HB2 := Lib.hid (HB1.out.trans (hb2.mono HB1.out.size)); have HR : Hid (Bm.Rt N ys) := hR; have HOW := Lib.hid hown; clear hb2 hown hR)))
  obtain ⟨sa', cs', hv, hseen, hlen, hle1, hle2⟩ := own_slice HOW.out
  injection hv with hv1 _ hv2
  subst hv1
  subst hv2
  have HL := Lib.hid hlen
  have HLC := Lib.hid hle1
  have HCX : Hid (cs ≤ maxLen) := hle2
  have hN6 : (N : Int) ≤ 1024 := by have h1 := HNE.out; have h2 := Nat.mod_lt n (show 0 < 64 * min m 16 + 1 by omega); omega
  have HBX : Hid (Box (w2.alloc (.cells #[.int .i64 N, .slice sa q cs] 24)) w2.heap.size (.int .i64 N) (.slice sa q cs)) := Box.new _ _ _
  have HSA : Hid (Seen (w2.alloc (.cells #[.int .i64 N, .slice sa q cs] 24)) (w2.alloc (.cells #[.int .i64 N, .slice sa q cs] 24)).heap.size .u64 sa ys) := (hseen.alloc (Nat.le_refl _) _).more (by simp)
  have HBA : Hid (Below w.heap.size w (w2.alloc (.cells #[.int .i64 N, .slice sa q cs] 24))) := HB2.out.alloc HB2.out.size _
  clear hseen hlen hle1 hle2
  have HGA : Hid (∀ g off, sa = some (⟨g, off, none⟩ : Addr) → g < (w2.alloc (.cells #[.int .i64 N, .slice sa q cs] 24)).heap.size) := fun g off h => by have := ((own_row HOW.out HR.out).2 g off h).2; simp; omega
  obtain ⟨A, hA⟩ : ∃ A, w2.alloc (.cells #[.int .i64 N, .slice sa q cs] 24) = A := ⟨_, rfl⟩
  have HAZ : Hid ((w2.alloc (.cells #[.int .i64 N, .slice sa q cs] 24)).heap.size = w2.heap.size + 1) := by show _ = _; simp
  rw [hA] at HBX HSA HBA HGA HAZ ⊢
  have HTA : Hid (HT A) := HTT.out.below HBA.out HPW.out
  have HPA : Hid (0 < A.heap.size) := HTA.out.pos
  clear hA
  obtain ⟨b, hb⟩ : ∃ b, w2.heap.size = b := ⟨_, rfl⟩
  rw [hb] at HBX HAZ ⊢
  clear hb HOW HB1 HB2
  obtain ⟨a0, a1, a2, a3⟩ := HBX.out.cells
  have HSS : Hid (SetAt A b N q sa cs ys) := ⟨HBX.out, HSA.out, HL.out, HLC.out, HCX.out, HR.out⟩
  have HB0 : Hid (¬ (0 ≤ m0 ∧ m0 < (N : Int))) := fun h => by have := HM0.out.1; omega
  have HB1 : Hid (¬ (0 ≤ m1 ∧ m1 < (N : Int))) := fun h => by have := HM1.out; omega
  go_wp2_with fail
  clear a0 a1 a2 a3 hm1
  have HTC := Lib.hid (two_cells A (.int .i64 m0) (.int .i64 m1) 3)
  have HST := Lib.hid (HSS.out.alloc (.cells #[.int .i64 m0, .int .i64 m1] 3))
  have HAT : Hid (Below A.heap.size A (A.alloc (.cells #[.int .i64 m0, .int .i64 m1] 3))) := (Below.refl _ A).alloc (Nat.le_refl _) _
  have HTZ : Hid (A.heap.size < (A.alloc (.cells #[.int .i64 m0, .int .i64 m1] 3)).heap.size) := by show _ < _; simp
  obtain ⟨t0, ht0⟩ : ∃ t0, b + 1 = t0 := ⟨_, rfl⟩
  rw [ht0] at HAZ ⊢
  replace ht0 : A.heap.size = t0 := HAZ.out
  rw [ht0] at HTC HTZ
  have HT0 := Lib.hid ht0
  clear ht0
  generalize A.alloc (.cells #[.int .i64 m0, .int .i64 m1] 3) = T at HTC HST HAT HTZ ⊢
  have HZ1 : Hid (Below T.heap.size T T) := Below.refl _ _
  go_loopw [54] (fun iv wr => ∃ k : Int, 0 ≤ k ∧ k ≤ 2 ∧ iv = .int .i64 k ∧ Hid (Below T.heap.size T wr)) (fun i _ => (2 - intOf i).toNat)
  case atStart => exact ⟨0, by omega, by omega, rfl, HZ1⟩
  case round =>
    obtain ⟨k, hk0, hk2, rfl, HBK⟩ := hrel
    have HSR := Lib.hid (HST.out.keep HBK.out)
    obtain ⟨a0, a1, a2, a3⟩ := HSR.out.1.cells
    obtain ⟨c0, c1⟩ := HTC.out
    replace c0 := (HBK.out.cell (p := ⟨t0, 0, none⟩) HTZ.out).trans c0
    replace c1 := (HBK.out.cell (p := ⟨t0, 1, none⟩) HTZ.out).trans c1
    by_cases hk : k < 2
    · rcases (show k = 0 ∨ k = 1 by omega) with rfl | rfl
      · clear hk0 hk2
        go_wp2_with (first
          | (go_at_call 36; ((with_reducible refine (with_argat HSR.out m0 HB0.out).mono ?_); rintro e v1 ⟨rfl, hb⟩; have HS1 := Lib.hid ((HSR.out.keep hb).alloc (.cells #[.int .i64 0, .slice none 0 0] 24)); have HK1 := Lib.hid (HBK.out.trans ((hb.alloc hb.size (.cells #[.int .i64 0, .slice none 0 0] 24)).mono HBK.out.size)); obtain ⟨x10, x11, x12, x13⟩ := HS1.out.1.cells; clear hb))
          | (go_at_call 37; ((with_reducible refine (without_argat HS1.out m0 HB0.out).mono ?_); rintro e v2 ⟨rfl, hb⟩; have HS2 := Lib.hid ((HS1.out.keep hb).alloc (.cells #[.int .i64 0, .slice none 0 0] 24)); have HK2 := Lib.hid (HK1.out.trans ((hb.alloc hb.size (.cells #[.int .i64 0, .slice none 0 0] 24)).mono HK1.out.size)); obtain ⟨x20, x21, x22, x23⟩ := HS2.out.1.cells; have HQ2 : Hid ((v2.alloc (.cells #[.int .i64 0, .slice none 0 0] 24)).heap.size = v2.heap.size + 1) := (by show _ = _; simp); clear hb))
          | (go_at_call 35; ((with_reducible refine (of_argat' HS2.out m0 HB0.out 3 (v2.heap.size + 1) HQ2.out).mono ?_); rintro e v3 ⟨rfl, hb⟩; have HS3 := Lib.hid (((HS2.out.alloc (.cells #[.int .i64 m0] 3)).keep hb).alloc (.cells #[.int .i64 0, .slice none 0 0] 24)); have HK3 := Lib.hid ((HK2.out.alloc HK2.out.size (.cells #[.int .i64 m0] 3)).trans ((hb.alloc hb.size (.cells #[.int .i64 0, .slice none 0 0] 24)).mono (HK2.out.alloc HK2.out.size (.cells #[.int .i64 m0] 3)).size)); obtain ⟨x30, x31, x32, x33⟩ := HS3.out.1.cells; clear hb))
          | (go_at_call 28; ((with_reducible refine (has_argat HS3.out m0 HB0.out).mono ?_); rintro e v4 ⟨rfl, hb⟩; have HK4 := Lib.hid (HK3.out.trans (hb.mono HK3.out.size)); clear hb)))
        exact ⟨⟨1, by omega, by omega, rfl, HK4⟩, by simp [intOf]⟩
      · clear hk0 hk2
        go_wp2_with (first
          | (go_at_call 36; ((with_reducible refine (with_argat HSR.out m1 HB1.out).mono ?_); rintro e v1 ⟨rfl, hb⟩; have HS1 := Lib.hid ((HSR.out.keep hb).alloc (.cells #[.int .i64 0, .slice none 0 0] 24)); have HK1 := Lib.hid (HBK.out.trans ((hb.alloc hb.size (.cells #[.int .i64 0, .slice none 0 0] 24)).mono HBK.out.size)); obtain ⟨x10, x11, x12, x13⟩ := HS1.out.1.cells; clear hb))
          | (go_at_call 37; ((with_reducible refine (without_argat HS1.out m1 HB1.out).mono ?_); rintro e v2 ⟨rfl, hb⟩; have HS2 := Lib.hid ((HS1.out.keep hb).alloc (.cells #[.int .i64 0, .slice none 0 0] 24)); have HK2 := Lib.hid (HK1.out.trans ((hb.alloc hb.size (.cells #[.int .i64 0, .slice none 0 0] 24)).mono HK1.out.size)); obtain ⟨x20, x21, x22, x23⟩ := HS2.out.1.cells; have HQ2 : Hid ((v2.alloc (.cells #[.int .i64 0, .slice none 0 0] 24)).heap.size = v2.heap.size + 1) := (by show _ = _; simp); clear hb))
          | (go_at_call 35; ((with_reducible refine (of_argat' HS2.out m1 HB1.out 3 (v2.heap.size + 1) HQ2.out).mono ?_); rintro e v3 ⟨rfl, hb⟩; have HS3 := Lib.hid (((HS2.out.alloc (.cells #[.int .i64 m1] 3)).keep hb).alloc (.cells #[.int .i64 0, .slice none 0 0] 24)); have HK3 := Lib.hid ((HK2.out.alloc HK2.out.size (.cells #[.int .i64 m1] 3)).trans ((hb.alloc hb.size (.cells #[.int .i64 0, .slice none 0 0] 24)).mono (HK2.out.alloc HK2.out.size (.cells #[.int .i64 m1] 3)).size)); obtain ⟨x30, x31, x32, x33⟩ := HS3.out.1.cells; clear hb))
          | (go_at_call 28; ((with_reducible refine (has_argat HS3.out m1 HB1.out).mono ?_); rintro e v4 ⟨rfl, hb⟩; have HK4 := Lib.hid (HK3.out.trans (hb.mono HK3.out.size)); clear hb)))
        exact ⟨⟨2, by omega, by omega, rfl, HK4⟩, by simp [intOf]⟩
    · obtain rfl : k = 2 := by omega
      clear hk0 hk2 c0 c1
      have HZA : Hid (A.heap.size ≤ wr.heap.size) := by have h1 := HT0.out; have h2 := HTZ.out; have h3 := HBK.out.size; show _ ≤ _; omega
      have HBW := Lib.hid (HBA.out.trans ((HAT.out.trans (HBK.out.mono (by have h1 := HT0.out; have h2 := HTZ.out; omega))).mono HBA.out.size))
      have hE : ∃ E, wr.alloc (.cells #[.int .i64 N, .slice sa q cs] 24) = E := ⟨_, rfl⟩
      obtain ⟨E, hE⟩ := hE
      have HSE := Lib.hid (HSR.out.alloc (.cells #[.int .i64 N, .slice sa q cs] 24))
      have HCE := Lib.hid HSR.out.copy
      have HBE := Lib.hid (HBW.out.alloc HBW.out.size (.cells #[.int .i64 N, .slice sa q cs] 24))
      have HZE : Hid ((wr.alloc (.cells #[.int .i64 N, .slice sa q cs] 24)).heap.size = wr.heap.size + 1) := by show _ = _; simp
      rw [hE] at HSE HCE HBE HZE
      obtain ⟨b2, hb2⟩ : ∃ b2, wr.heap.size = b2 := ⟨_, rfl⟩
      rw [hb2] at HCE HZE HZA
      have HBB : Hid (b ≠ b2) := by have h1 := HBX.out.lt; have h2 := HZA.out; show _ ≠ _; omega
      have HGB : Hid (∀ g off, sa = some (⟨g, off, none⟩ : Addr) → g ≠ b2) := fun g off e => by have h1 := HGA.out g off e; have h2 := HZA.out; omega
      have HWB : Hid (w.heap.size ≤ b2) := by have h1 := HBW.out.size; show _ ≤ _; omega
      go_upto_block 2 with fail
      clear hE hb2 a0 a1 a2 a3
      go_cut [96] (fun s96 wx => ∃ (N' : Int) (a' : Option Addr) (q' c' : Nat) (ws : List Nat), s96 = .int .u8 tg ∧ Hid (BadAt wx b2 N' q' a' c' ws) ∧ Hid (SetAt wx b N q sa cs ys) ∧ Hid (Below w.heap.size w wx) ∧ Hid (N' = N ∨ (N' < 0 ∧ -9223372036854775808 ≤ N') ∨ (65536 < N' ∧ N' ≤ 9223372036854775807)))
      case first => as_aux_lemma =>
        obtain ⟨e0, e1, e2, e3⟩ := HCE.out.1.cells
        obtain ⟨s0, s1, s2, s3⟩ := HSE.out.1.cells
        have HE1 : Hid (Below E.heap.size E (E.alloc (.cells #[] 30))) := (Below.refl _ E).alloc (Nat.le_refl _) _
        rcases (show tg = 0 ∨ tg = 1 ∨ tg = 2 ∨ tg = 3 by have := HTG.out; omega) with rfl | rfl | rfl | rfl
        · obtain ⟨f0, f1, f2, f3⟩ := (HSE.out.keep HE1.out).1.cells
          go_wp2_with (first
            | (at_builtin; refine app_words _ rfl _ _ rfl E.heap.size 0 _ [] rfl (own_emptyW E) sa q cs ys HL.out rfl _ (HSE.out.keep HE1.out).2.1 (by have := HR.out.1; have := HR.out.2.1; have := HL.out; omega) (by simp) ?_; intro v4 w4 ho4 hb4; rw [Nat.zero_add, List.nil_append] at ho4; obtain ⟨a4, c4, rfl, ho4'⟩ := own_sliceW ho4; have HO4 := Lib.hid ho4'; have HB4 : Hid (Below E.heap.size E w4) := HE1.out.trans (hb4.mono (Nat.le_refl _)); clear ho4 ho4' hb4)
            | (at_builtin; refine app_words _ rfl _ _ rfl E.heap.size q _ ys rfl (HO4.out.alloc _) _ 1 1 [0] rfl rfl _ (seen_one w4 0 30) (by have := HR.out.1; have := HR.out.2.1; have := HL.out; omega) (HB4.out.alloc HB4.out.size _).size ?_; intro v5 w5 ho5 hb5; obtain ⟨a5, c5, rfl, ho5'⟩ := own_sliceW ho5; have HO5 := Lib.hid ho5'; have HB5 : Hid (Below E.heap.size E w5) := (HB4.out.alloc HB4.out.size _).trans (hb5.mono (Nat.le_refl _)); obtain ⟨g0, g1, g2, g3⟩ := (HCE.out.keep HB5.out).1.cells; clear ho5 ho5' hb5))
          go_meet
          have ho6 := ownsRow_setCell_below (a := ⟨b2, 1, none⟩) HO5.out (show b2 < E.heap.size by have := HZE.out; omega) (.slice a5 (q + 1) c5)
          have hl6 : (ys ++ [0]).length = q + 1 := by rw [List.length_append, HL.out]; rfl
          exact ⟨_, a5, q + 1, c5, ys ++ [0], rfl, ⟨(HCE.out.keep HB5.out).1.set1 _, Seen.of_own ho6, hl6, fun x hx => by
              rcases List.mem_append.1 hx with h | h
              · exact HR.out.2.2.1 x h
              · rw [List.mem_singleton.1 h]; decide, bad_more HR.out⟩, (HSE.out.keep HB5.out).other HBB.out (fun g off e => HGB.out g off e) _, (HBE.out.trans (HB5.out.mono HBE.out.size)).setCell (p := ⟨b2, 1, none⟩) HWB.out _, .inl rfl⟩
        · go_wp2_with fail
          go_meet
          have hs := HCE.out.2
          have hso := HSE.out.other (p := ⟨b2, 0, none⟩) HBB.out (fun g off e => HGB.out g off e) (.int .i64 m0)
          exact ⟨m0, sa, q, cs, ys, rfl, ⟨HCE.out.1.set0 _, hso.2.1, hs.2.1, HR.out.2.2.1, bad_less HM0.out.1⟩, hso, HBE.out.setCell (p := ⟨b2, 0, none⟩) HWB.out _, .inr (.inl HM0.out)⟩
        · go_wp2_with fail
          go_meet
          have hs := HCE.out.2
          have hso := HSE.out.other (p := ⟨b2, 0, none⟩) HBB.out (fun g off e => HGB.out g off e) (.int .i64 m2)
          exact ⟨m2, sa, q, cs, ys, rfl, ⟨HCE.out.1.set0 _, hso.2.1, hs.2.1, HR.out.2.2.1, bad_great HM2.out.1⟩, hso, HBE.out.setCell (p := ⟨b2, 0, none⟩) HWB.out _, .inr (.inr HM2.out)⟩
        · obtain ⟨u, hu⟩ : ∃ u, N % 64 = u := ⟨_, rfl⟩
          have hu1 : (N : Int) % 64 = (u : Int) := by omega
          have hu2 : (N : Int).tmod 64 = (u : Int) := by rw [Int.tmod_eq_emod_of_nonneg (by omega)]; omega
          by_cases hu0 : u = 0
          · subst hu0
            go_wp2_with fail
            go_ret
            exact ⟨rfl, HBE.out⟩
          · have hq0 : 0 < q := by have h1 := HR.out.2.1; have h2 := HL.out; omega
            have h01 : ((u : Int) == 0) = false := by simp; exact hu0
            have h02 : (u == 0) = false := by simp; exact hu0
            obtain ⟨f0, f1, f2, f3⟩ := (HSE.out.keep HE1.out).1.cells
            go_upto_region 18 with (first
              | (at_builtin; refine app_words _ rfl _ _ rfl E.heap.size 0 _ [] rfl (own_emptyW E) sa q cs ys HL.out rfl _ (HSE.out.keep HE1.out).2.1 (by have := HR.out.1; have := HR.out.2.1; have := HL.out; omega) (by simp) ?_; intro v4 w4 ho4 hb4; rw [Nat.zero_add, List.nil_append] at ho4; obtain ⟨a4, c4, rfl, ho4'⟩ := own_sliceW ho4; have HO4 := Lib.hid ho4'; have HB4 : Hid (Below E.heap.size E w4) := HE1.out.trans (hb4.mono (Nat.le_refl _)); obtain ⟨g0, g1, g2, g3⟩ := (HCE.out.keep HB4.out).1.cells; clear ho4 ho4' hb4))
            obtain ⟨g4, rfl, hg4, hg5⟩ := rowW HO4.out hq0
            have HO5 := Lib.hid (ownsRow_setCell_below (a := ⟨b2, 1, none⟩) HO4.out (show b2 < E.heap.size by have := HZE.out; omega) (.slice (some ⟨g4, 0, none⟩) q c4))
            have HX5 := Lib.hid ((HCE.out.keep HB4.out).1.set1 (.slice (some ⟨g4, 0, none⟩) q c4))
            have HS5 := Lib.hid ((HSE.out.keep HB4.out).other (p := ⟨b2, 1, none⟩) HBB.out (fun g off e => HGB.out g off e) (.slice (some ⟨g4, 0, none⟩) q c4))
            have HB5 := Lib.hid ((HBE.out.trans (HB4.out.mono HBE.out.size)).setCell (p := ⟨b2, 1, none⟩) HWB.out (.slice (some ⟨g4, 0, none⟩) q c4))
            generalize w4.setCell ⟨b2, 1, none⟩ (.slice (some ⟨g4, 0, none⟩) q c4) = W5 at HO5 HX5 HS5 HB5 ⊢
            clear g0 g1 g2 g3 f0 f1 f2 f3 e0 e1 e2 e3 s0 s1 s2 s3
            obtain ⟨g0, g1, g2, g3⟩ := HX5.out.cells
            obtain ⟨s0, s1, s2, s3⟩ := HS5.out.1.cells
            obtain ⟨kd, hkd⟩ : ∃ kd, q - 1 = kd := ⟨_, rfl⟩
            have hkdi : (q : Int) - 1 = (kd : Int) := by omega
            have hkq : (kd : Int) < (q : Int) := by omega
            have hqm : (q : Int) ≤ 1024 := by have := HR.out.1; have := HR.out.2.1; have := HL.out; omega
            obtain ⟨v, hv⟩ : ∃ v, 64 - u = v := ⟨_, rfl⟩
            have hvi : (64 : Int) - (u : Int) = (v : Int) := by omega
            have hv0 : ¬ (v : Int) = 0 := by omega
            have hv1 : ¬ v = 0 := by omega
            have hwy6 : (wy : Int) < 256 := by have := HWY.out; omega
            obtain ⟨j, hj⟩ : ∃ j, wy % v = j := ⟨_, rfl⟩
            have hjv : j < v := by rw [← hj]; exact Nat.mod_lt _ (by omega)
            have hj1 : (wy : Int) % (v : Int) = (j : Int) := by omega
            have hj2 : (wy : Int).tmod (v : Int) = (j : Int) := by rw [Int.tmod_eq_emod_of_nonneg (by omega)]; omega
            obtain ⟨ke, hke⟩ : ∃ ke, u + j = ke := ⟨_, rfl⟩
            have hkei : (u : Int) + (j : Int) = (ke : Int) := by omega
            have hke64 : (ke : Int) < 64 := by omega
            have hwy : IntKind.i64.wrap (wy : Int) = (wy : Int) := by rw [IntKind.wrap_i64]; omega
            have hNw : (N + j) / 64 = kd ∧ (N + j) % 64 = ke := by have h1 := HR.out.2.1; have h2 := HL.out; omega
            obtain ⟨x, hx⟩ : ∃ x, ys[kd]? = some x := ⟨_, List.getElem?_eq_getElem (by have := HL.out; omega)⟩
            have hxl : x < 2 ^ 64 := HR.out.2.2.1 x (List.mem_of_getElem? hx)
            have d0 : W5.cell? ⟨g4, kd, none⟩ = some (.int .u64 x) := by rw [HO5.out.cellAt kd (by omega), List.getElem?_map, hx]; rfl
            have d1 : W5.frozen? ⟨g4, kd, none⟩ = false := by have := World.ownsRow.frozenAt HO5.out kd; simpa using this
            obtain ⟨y, hy⟩ : ∃ y, x ||| 2 ^ ke = y := ⟨_, rfl⟩
            have hyi : bits .or .u64 (x : Int) (IntKind.u64.wrap ((2 : Int) ^ ke)) = (y : Int) := by
              have hp : 2 ^ ke < 18446744073709551616 := (Nat.pow_lt_pow_right (by decide : 1 < 2) (show ke < 64 by omega) : 2 ^ ke < 2 ^ 64)
              rw [shl1 (show ke < 64 by omega), u64_or_nat x _ hxl hp, hy]
            have hsy : Bm.setBit ys (N + j) = ys.set kd y := by
              unfold Bm.setBit
              rw [hNw.1, hNw.2, List.getD_eq_getElem?_getD, hx, Option.getD_some, hy]
            have HO6 := Lib.hid (World.ownsRow.stored HO5.out kd (.int .u64 y)).1
            have hgb : b2 ≠ g4 := by have := HZE.out; omega
            have hgs : b ≠ g4 := by have h1 := HBX.out.lt; have h2 := HZA.out; have := HZE.out; omega
            have HX6 := Lib.hid (HX5.out.other (p := ⟨g4, kd, none⟩) hgb (.int .u64 y))
            have HS6 := Lib.hid (HS5.out.other (p := ⟨g4, kd, none⟩) hgs (fun g off e => by show g ≠ g4; have h1 := HGA.out g off e; have h2 := HZA.out; have := HZE.out; omega) (.int .u64 y))
            have HB6 := Lib.hid (HB5.out.setCell (p := ⟨g4, kd, none⟩) (by show w.heap.size ≤ g4; have := HWB.out; have := HZE.out; omega) (.int .u64 y))
            have HND := Lib.hid (bad_bit (j := j) HR.out (by omega) (by omega))
            have HLT : Hid (∀ z ∈ ys.set kd y, z < 2 ^ 64) := by
              have h := Bm.setBit_lt (i := N + j) HR.out.2.2.1 (by have := HL.out; omega)
              rw [hsy] at h
              exact h
            rw [hsy] at HND
            clear hx hxl hy hsy hNw hke hj hjv hv hkd hu hu0 hq0 hg4 hg5 hgb hgs
            go_region
            all_goals
              go_wp2
              go_meet
              have ho7 := HO6.out
              rw [← List.map_set] at ho7
              exact ⟨_, some ⟨g4, 0, none⟩, q, c4, ys.set kd y, rfl, ⟨HX6.out, Seen.of_own ho7, by rw [List.length_set]; exact HL.out, HLT.out, HND.out⟩, HS6.out, HB6.out.drew, .inl rfl⟩
      case rest =>
        obtain ⟨N', a', q', c', ws, rfl, HD0, HS0, HW0, HCA⟩ := hcut
        obtain ⟨d0, d1, d2, d3⟩ := HD0.out.1.cells
        have hw0 : IntKind.i64.wrap 0 = 0 := rfl
        rcases HCA.out with hN | hN | hN
        · have hvar : True := trivial
          subst hN
          have g1 : decide ((N : Int) < 0) = false := by simp
          have g2 : ¬ (N : Int) < 0 := by omega
          have g3 : decide ((65536 : Int) < (N : Int)) = false := by rw [decide_eq_false_iff_not]; have := HR.out.1; omega
          have g4 : ¬ (65536 : Int) < (N : Int) := by have := HR.out.1; omega
          clear HCA
          have HNI : Hid ((N : Int) ≤ 65536) := by have := HR.out.1; show _ ≤ _; omega
          have HQQ : Hid ((N + 63) / 64 = q) := by show _ = _; rw [← HL.out]; exact HR.out.2.1.symm
          go_wp2_with (first
            | (go_at_call 36; ((with_reducible refine (with_badat HD0.out 0).mono ?_); rintro e v1 ⟨rfl, hb⟩; have HD1 := Lib.hid ((HD0.out.keep hb).alloc (.cells #[.int .i64 0, .slice none 0 0] 24)); have HS1 := Lib.hid ((HS0.out.keep hb).alloc (.cells #[.int .i64 0, .slice none 0 0] 24)); have HW1 := Lib.hid (HW0.out.trans ((hb.alloc hb.size (.cells #[.int .i64 0, .slice none 0 0] 24)).mono HW0.out.size)); obtain ⟨x10, x11, x12, x13⟩ := HD1.out.1.cells; clear hb))
            | (go_at_call 37; ((with_reducible refine (without_badat HD1.out (-1)).mono ?_); rintro e v2 ⟨rfl, hb⟩; have HD2 := Lib.hid ((HD1.out.keep hb).alloc (.cells #[.int .i64 0, .slice none 0 0] 24)); have HS2 := Lib.hid ((HS1.out.keep hb).alloc (.cells #[.int .i64 0, .slice none 0 0] 24)); have HW2 := Lib.hid (HW1.out.trans ((hb.alloc hb.size (.cells #[.int .i64 0, .slice none 0 0] 24)).mono HW1.out.size)); obtain ⟨x20, x21, x22, x23⟩ := HD2.out.1.cells; clear hb))
            | (go_at_call 19; ((with_reducible refine (not_badat HD2.out).mono ?_); rintro e v3 ⟨rfl, hb⟩; have HD3 := Lib.hid ((HD2.out.keep hb).alloc (.cells #[.int .i64 0, .slice none 0 0] 24)); have HS3 := Lib.hid ((HS2.out.keep hb).alloc (.cells #[.int .i64 0, .slice none 0 0] 24)); have HW3 := Lib.hid (HW2.out.trans ((hb.alloc hb.size (.cells #[.int .i64 0, .slice none 0 0] 24)).mono HW2.out.size)); obtain ⟨x30, x31, x32, x33⟩ := HD3.out.1.cells; obtain ⟨y30, y31, y32, y33⟩ := HS3.out.1.cells; clear hb))
            | (go_at_call 30; ((with_reducible refine (or_badat HD3.out N sa q cs).mono ?_); rintro e v4 ⟨rfl, hb⟩; have HD4 := Lib.hid ((HD3.out.keep hb).alloc (.cells #[.int .i64 0, .slice none 0 0] 24)); have HS4 := Lib.hid ((HS3.out.keep hb).alloc (.cells #[.int .i64 0, .slice none 0 0] 24)); have HW4 := Lib.hid (HW3.out.trans ((hb.alloc hb.size (.cells #[.int .i64 0, .slice none 0 0] 24)).mono HW3.out.size)); obtain ⟨x40, x41, x42, x43⟩ := HD4.out.1.cells; obtain ⟨y40, y41, y42, y43⟩ := HS4.out.1.cells; clear hb))
            | (go_at_call 31; ((with_reducible refine (and_badat HD4.out HS4.out).mono ?_); rintro e v5 ⟨rfl, hb⟩; have HD5 := Lib.hid ((HD4.out.keep hb).alloc (.cells #[.int .i64 0, .slice none 0 0] 24)); have HS5 := Lib.hid ((HS4.out.keep hb).alloc (.cells #[.int .i64 0, .slice none 0 0] 24)); have HW5 := Lib.hid (HW4.out.trans ((hb.alloc hb.size (.cells #[.int .i64 0, .slice none 0 0] 24)).mono HW4.out.size)); obtain ⟨x50, x51, x52, x53⟩ := HD5.out.1.cells; clear hb))
            | (go_at_call 32; ((with_reducible refine (minus_badat HD5.out N a' q' c').mono ?_); rintro e v6 ⟨rfl, hb⟩; have HD6 := Lib.hid ((HD5.out.keep hb).alloc (.cells #[.int .i64 0, .slice none 0 0] 24)); have HS6 := Lib.hid ((HS5.out.keep hb).alloc (.cells #[.int .i64 0, .slice none 0 0] 24)); have HW6 := Lib.hid (HW5.out.trans ((hb.alloc hb.size (.cells #[.int .i64 0, .slice none 0 0] 24)).mono HW5.out.size)); obtain ⟨x60, x61, x62, x63⟩ := HD6.out.1.cells; clear hb))
            | (go_at_call 20; ((with_reducible refine (select_badat HD6.out 0).mono ?_); rintro e v7 ⟨rfl, hb⟩; have HD7 := Lib.hid (HD6.out.keep hb); have HS7 := Lib.hid (HS6.out.keep hb); have HW7 := Lib.hid (HW6.out.trans (hb.mono HW6.out.size)); obtain ⟨x70, x71, x72, x73⟩ := HD7.out.1.cells; clear hb))
            | (go_at_call 26; ((with_reducible refine (next_badat HD7.out 0).mono ?_); rintro e v8 ⟨rfl, hb⟩; have HD8 := Lib.hid (HD7.out.keep hb); have HS8 := Lib.hid (HS7.out.keep hb); have HW8 := Lib.hid (HW7.out.trans (hb.mono HW7.out.size)); obtain ⟨x80, x81, x82, x83⟩ := HD8.out.1.cells; clear hb))
            | (go_at_call 27; ((with_reducible refine (before_badat HD8.out 1000).mono ?_); rintro e v9 ⟨rfl, hb⟩; have HD9 := Lib.hid (HD8.out.keep hb); have HS9 := Lib.hid (HS8.out.keep hb); have HW9 := Lib.hid (HW8.out.trans (hb.mono HW8.out.size)); obtain ⟨x90, x91, x92, x93⟩ := HD9.out.1.cells; clear hb))
            | (go_at_call 18; ((with_reducible refine (new_any N HNI.out q HQQ.out _).mono ?_); rintro e v10 ⟨g10, rfl, ho, hb⟩; have HD10 := Lib.hid ((HD9.out.keep hb).alloc (.cells #[.int .i64 N, .slice (some ⟨g10, 0, none⟩) q q] 24)); have HW10 := Lib.hid (HW9.out.trans ((hb.alloc hb.size (.cells #[.int .i64 N, .slice (some ⟨g10, 0, none⟩) q q] 24)).mono HW9.out.size)); clear ho hb)))
          clear d0 d1 d2 d3 x10 x11 x12 x13 x20 x21 x22 x23 x30 x31 x32 x33 x40 x41 x42 x43 x50 x51 x52 x53 x60 x61 x62 x63 x70 x71 x72 x73 x80 x81 x82 x83 x90 x91 x92 x93 y30 y31 y32 y33 y40 y41 y42 y43
          have HD11 := Lib.hid (HD10.out.alloc (.cells #[.int .i64 50, .int .i64 50, .int .i64 50, .int .i64 50, .int .i64 50, .int .i64 50] 35))
          have HW11 := Lib.hid (HW10.out.alloc HW10.out.size (.cells #[.int .i64 50, .int .i64 50, .int .i64 50, .int .i64 50, .int .i64 50, .int .i64 50] 35))
          have HSX := Lib.hid (six_cells (v10.alloc (.cells #[.int .i64 N, .slice (some ⟨g10, 0, none⟩) q q] 24)) (.int .i64 50) 35)
          have HSZ : Hid (((v10.alloc (.cells #[.int .i64 N, .slice (some ⟨g10, 0, none⟩) q q] 24)).alloc (.cells #[.int .i64 50, .int .i64 50, .int .i64 50, .int .i64 50, .int .i64 50, .int .i64 50] 35)).heap.size = (v10.alloc (.cells #[.int .i64 N, .slice (some ⟨g10, 0, none⟩) q q] 24)).heap.size + 1) := by show _ = _; simp
          have HTZ2 : Hid ((v10.alloc (.cells #[.int .i64 N, .slice (some ⟨g10, 0, none⟩) q q] 24)).heap.size = v10.heap.size + 1) := by show _ = _; simp
          rw [HTZ2.out] at HSX HSZ
          obtain ⟨t1, ht1'⟩ : ∃ t1, v10.heap.size + 1 = t1 := ⟨_, rfl⟩
          rw [ht1'] at HSX HSZ ⊢
          generalize (v10.alloc (.cells #[.int .i64 N, .slice (some ⟨g10, 0, none⟩) q q] 24)).alloc (.cells #[.int .i64 50, .int .i64 50, .int .i64 50, .int .i64 50, .int .i64 50, .int .i64 50] 35) = W2 at HD11 HW11 HSX HSZ ⊢
          clear ht1' HTZ2 HD0 HS0 HW0 HD1 HW1 HD2 HW2 HD3 HW3 HD4 HW4 HD5 HW5 HD6 HW6 HD7 HW7 HD8 HW8 HD9 HW9 HD10 HW10 HS1 HS2 HS3 HS4 HS5 HS6 HS7 HS8 HS9
          have HZ2 : Hid (Below W2.heap.size W2 W2) := Below.refl _ _
          go_loopw [209] (fun iv wr => ∃ k : Nat, k ≤ 6 ∧ iv = .int .i64 k ∧ Hid (Below W2.heap.size W2 wr)) (fun i _ => 6 - (intOf i).toNat)
          case atStart => exact ⟨0, by omega, rfl, HZ2⟩
          case round =>
            obtain ⟨k, hk6, rfl, HBL⟩ := hrel
            by_cases hk : k < 6
            · have c0 : wr.cell? ⟨t1, k, none⟩ = some (.int .i64 50) := (HBL.out.cell (p := ⟨t1, k, none⟩) (by rw [HSZ.out]; exact Nat.lt_succ_self _)).trans (HSX.out k hk)
              have hki : (k : Int) < 6 := by omega
              go_wp2_with fail
              exact ⟨⟨k + 1, hk, rfl, HBL⟩, by simp [intOf]; omega⟩
            · obtain rfl : k = 6 := by omega
              have hk7 : ¬ (6 : Int) < 6 := by omega
              go_wp2_with fail
              have HE0 := Lib.hid (HD11.out.keep HBL.out)
              have HWL := Lib.hid (HW11.out.trans (HBL.out.mono HW11.out.size))
              obtain ⟨z0, z1, z2, z3⟩ := HE0.out.1.cells
              first | (go_region_held3 (fun W => W.cell? ⟨b2, 0, none⟩ = some (.int .i64 N) ∧ W.cell? ⟨b2, 1, none⟩ = some (.slice a' q' c')) (first | exact ⟨z0, z1⟩ | exact ⟨(HE0.out.keep hb1).1.cells.1, (HE0.out.keep hb1).1.cells.2.1⟩ | exact ⟨(HE0.out.keep hb2).1.cells.1, (HE0.out.keep hb2).1.cells.2.1⟩ | exact ⟨(HE0.out.keep hb3).1.cells.1, (HE0.out.keep hb3).1.cells.2.1⟩ | exact ⟨(HE0.out.keep hb4).1.cells.1, (HE0.out.keep hb4).1.cells.2.1⟩ | exact ⟨(HE0.out.keep hb5).1.cells.1, (HE0.out.keep hb5).1.cells.2.1⟩ | exact ⟨(HE0.out.keep hb6).1.cells.1, (HE0.out.keep hb6).1.cells.2.1⟩ | go_keep) (first
                | (go_at_call 34; refine (right_badat (by exact HE0.out)).mono ?_; rintro e u1 ⟨rfl, hb1'⟩; have hb1 : Below wr.heap.size wr u1 := (Below.refl _ wr).drew.trans hb1'; clear hb1')
                | (go_at_call 28; refine (has_badat (by exact HE0.out.keep hb1) 0).mono ?_; rintro e u2 ⟨rfl, hb2'⟩; have hb2 : Below wr.heap.size wr u2 := hb1.trans (hb2'.mono hb1.size); clear hb2')
                | (go_at_call 21; refine (count_badat (by exact HE0.out.keep hb2)).mono ?_; rintro e u3 ⟨rfl, hb3'⟩; have hb3 : Below wr.heap.size wr u3 := hb2.trans (hb3'.mono hb2.size); clear hb3')
                | (go_at_call 25; refine (rank_badat (by exact HE0.out.keep hb3) 5).mono ?_; rintro e u4 ⟨rfl, hb4'⟩; have hb4 : Below wr.heap.size wr u4 := hb3.trans (hb4'.mono hb3.size); clear hb4')
                | (go_at_call 24; refine (members_badat (by exact HE0.out.keep hb4)).mono ?_; rintro e u5 ⟨⟨A1, d1, rfl⟩, hb5'⟩; have hb5 : Below wr.heap.size wr u5 := hb4.trans (hb5'.mono hb4.size); clear hb5')
                | (go_at_call 22; refine (runs_badat (by exact HE0.out.keep hb5)).mono ?_; rintro e u6 ⟨⟨A2, d2, rfl⟩, hb6'⟩; have hb6 : Below wr.heap.size wr u6 := hb5.trans (hb6'.mono hb5.size); clear hb6'))) | fail
              rename_i hcont7 hheld7
              refine hcont7 _ _ ?_
              go_wp2_with fail
              go_ret
              exact ⟨rfl, HWL.out.trans (hb6.mono HWL.out.size)⟩
        · have hvar : True := trivial
          have g1 : decide (N' < 0) = true := by rw [decide_eq_true_eq]; omega
          have g2 : N' < 0 := hN.1
          have HNB := Lib.hid hN.2
          clear hN
          clear HCA
          have HNN2 : Hid (N' < 0 ∨ 65536 < N') := by first | exact .inl g2 | exact .inr g4
          go_wp2_with (first
            | (go_at_call 36; ((with_reducible refine (with_badat HD0.out 0).mono ?_); rintro e v1 ⟨rfl, hb⟩; have HD1 := Lib.hid ((HD0.out.keep hb).alloc (.cells #[.int .i64 0, .slice none 0 0] 24)); have HS1 := Lib.hid ((HS0.out.keep hb).alloc (.cells #[.int .i64 0, .slice none 0 0] 24)); have HW1 := Lib.hid (HW0.out.trans ((hb.alloc hb.size (.cells #[.int .i64 0, .slice none 0 0] 24)).mono HW0.out.size)); obtain ⟨x10, x11, x12, x13⟩ := HD1.out.1.cells; clear hb))
            | (go_at_call 37; ((with_reducible refine (without_badat HD1.out (-1)).mono ?_); rintro e v2 ⟨rfl, hb⟩; have HD2 := Lib.hid ((HD1.out.keep hb).alloc (.cells #[.int .i64 0, .slice none 0 0] 24)); have HS2 := Lib.hid ((HS1.out.keep hb).alloc (.cells #[.int .i64 0, .slice none 0 0] 24)); have HW2 := Lib.hid (HW1.out.trans ((hb.alloc hb.size (.cells #[.int .i64 0, .slice none 0 0] 24)).mono HW1.out.size)); obtain ⟨x20, x21, x22, x23⟩ := HD2.out.1.cells; clear hb))
            | (go_at_call 19; ((with_reducible refine (not_badat HD2.out).mono ?_); rintro e v3 ⟨rfl, hb⟩; have HD3 := Lib.hid ((HD2.out.keep hb).alloc (.cells #[.int .i64 0, .slice none 0 0] 24)); have HS3 := Lib.hid ((HS2.out.keep hb).alloc (.cells #[.int .i64 0, .slice none 0 0] 24)); have HW3 := Lib.hid (HW2.out.trans ((hb.alloc hb.size (.cells #[.int .i64 0, .slice none 0 0] 24)).mono HW2.out.size)); obtain ⟨x30, x31, x32, x33⟩ := HD3.out.1.cells; obtain ⟨y30, y31, y32, y33⟩ := HS3.out.1.cells; clear hb))
            | (go_at_call 30; ((with_reducible refine (or_badat HD3.out N sa q cs).mono ?_); rintro e v4 ⟨rfl, hb⟩; have HD4 := Lib.hid ((HD3.out.keep hb).alloc (.cells #[.int .i64 0, .slice none 0 0] 24)); have HS4 := Lib.hid ((HS3.out.keep hb).alloc (.cells #[.int .i64 0, .slice none 0 0] 24)); have HW4 := Lib.hid (HW3.out.trans ((hb.alloc hb.size (.cells #[.int .i64 0, .slice none 0 0] 24)).mono HW3.out.size)); obtain ⟨x40, x41, x42, x43⟩ := HD4.out.1.cells; obtain ⟨y40, y41, y42, y43⟩ := HS4.out.1.cells; clear hb))
            | (go_at_call 31; ((with_reducible refine (and_badat HD4.out HS4.out).mono ?_); rintro e v5 ⟨rfl, hb⟩; have HD5 := Lib.hid ((HD4.out.keep hb).alloc (.cells #[.int .i64 0, .slice none 0 0] 24)); have HS5 := Lib.hid ((HS4.out.keep hb).alloc (.cells #[.int .i64 0, .slice none 0 0] 24)); have HW5 := Lib.hid (HW4.out.trans ((hb.alloc hb.size (.cells #[.int .i64 0, .slice none 0 0] 24)).mono HW4.out.size)); obtain ⟨x50, x51, x52, x53⟩ := HD5.out.1.cells; clear hb))
            | (go_at_call 32; ((with_reducible refine (minus_badat HD5.out N' a' q' c').mono ?_); rintro e v6 ⟨rfl, hb⟩; have HD6 := Lib.hid ((HD5.out.keep hb).alloc (.cells #[.int .i64 0, .slice none 0 0] 24)); have HS6 := Lib.hid ((HS5.out.keep hb).alloc (.cells #[.int .i64 0, .slice none 0 0] 24)); have HW6 := Lib.hid (HW5.out.trans ((hb.alloc hb.size (.cells #[.int .i64 0, .slice none 0 0] 24)).mono HW5.out.size)); obtain ⟨x60, x61, x62, x63⟩ := HD6.out.1.cells; clear hb))
            | (go_at_call 20; ((with_reducible refine (select_badat HD6.out 0).mono ?_); rintro e v7 ⟨rfl, hb⟩; have HD7 := Lib.hid (HD6.out.keep hb); have HS7 := Lib.hid (HS6.out.keep hb); have HW7 := Lib.hid (HW6.out.trans (hb.mono HW6.out.size)); obtain ⟨x70, x71, x72, x73⟩ := HD7.out.1.cells; clear hb))
            | (go_at_call 26; ((with_reducible refine (next_badat HD7.out 0).mono ?_); rintro e v8 ⟨rfl, hb⟩; have HD8 := Lib.hid (HD7.out.keep hb); have HS8 := Lib.hid (HS7.out.keep hb); have HW8 := Lib.hid (HW7.out.trans (hb.mono HW7.out.size)); obtain ⟨x80, x81, x82, x83⟩ := HD8.out.1.cells; clear hb))
            | (go_at_call 27; ((with_reducible refine (before_badat HD8.out 1000).mono ?_); rintro e v9 ⟨rfl, hb⟩; have HD9 := Lib.hid (HD8.out.keep hb); have HS9 := Lib.hid (HS8.out.keep hb); have HW9 := Lib.hid (HW8.out.trans (hb.mono HW8.out.size)); obtain ⟨x90, x91, x92, x93⟩ := HD9.out.1.cells; clear hb))
            | (go_at_call 18; ((with_reducible refine (new_no N' HNN2.out _).mono ?_); rintro e v10 ⟨rfl, hb⟩; have HD10 := Lib.hid ((HD9.out.keep hb).alloc (.cells #[.int .i64 0, .slice none 0 0] 24)); have HW10 := Lib.hid (HW9.out.trans ((hb.alloc hb.size (.cells #[.int .i64 0, .slice none 0 0] 24)).mono HW9.out.size)); clear hb)))
          clear d0 d1 d2 d3 x10 x11 x12 x13 x20 x21 x22 x23 x30 x31 x32 x33 x40 x41 x42 x43 x50 x51 x52 x53 x60 x61 x62 x63 x70 x71 x72 x73 x80 x81 x82 x83 x90 x91 x92 x93 y30 y31 y32 y33 y40 y41 y42 y43
          have HD11 := Lib.hid (HD10.out.alloc (.cells #[.int .i64 50, .int .i64 50, .int .i64 50, .int .i64 50, .int .i64 50, .int .i64 50] 35))
          have HW11 := Lib.hid (HW10.out.alloc HW10.out.size (.cells #[.int .i64 50, .int .i64 50, .int .i64 50, .int .i64 50, .int .i64 50, .int .i64 50] 35))
          have HSX := Lib.hid (six_cells (v10.alloc (.cells #[.int .i64 0, .slice none 0 0] 24)) (.int .i64 50) 35)
          have HSZ : Hid (((v10.alloc (.cells #[.int .i64 0, .slice none 0 0] 24)).alloc (.cells #[.int .i64 50, .int .i64 50, .int .i64 50, .int .i64 50, .int .i64 50, .int .i64 50] 35)).heap.size = (v10.alloc (.cells #[.int .i64 0, .slice none 0 0] 24)).heap.size + 1) := by show _ = _; simp
          have HTZ2 : Hid ((v10.alloc (.cells #[.int .i64 0, .slice none 0 0] 24)).heap.size = v10.heap.size + 1) := by show _ = _; simp
          rw [HTZ2.out] at HSX HSZ
          obtain ⟨t1, ht1'⟩ : ∃ t1, v10.heap.size + 1 = t1 := ⟨_, rfl⟩
          rw [ht1'] at HSX HSZ ⊢
          generalize (v10.alloc (.cells #[.int .i64 0, .slice none 0 0] 24)).alloc (.cells #[.int .i64 50, .int .i64 50, .int .i64 50, .int .i64 50, .int .i64 50, .int .i64 50] 35) = W2 at HD11 HW11 HSX HSZ ⊢
          clear ht1' HTZ2 HD0 HS0 HW0 HD1 HW1 HD2 HW2 HD3 HW3 HD4 HW4 HD5 HW5 HD6 HW6 HD7 HW7 HD8 HW8 HD9 HW9 HD10 HW10 HS1 HS2 HS3 HS4 HS5 HS6 HS7 HS8 HS9
          have HZ2 : Hid (Below W2.heap.size W2 W2) := Below.refl _ _
          go_loopw [209] (fun iv wr => ∃ k : Nat, k ≤ 6 ∧ iv = .int .i64 k ∧ Hid (Below W2.heap.size W2 wr)) (fun i _ => 6 - (intOf i).toNat)
          case atStart => exact ⟨0, by omega, rfl, HZ2⟩
          case round =>
            obtain ⟨k, hk6, rfl, HBL⟩ := hrel
            by_cases hk : k < 6
            · have c0 : wr.cell? ⟨t1, k, none⟩ = some (.int .i64 50) := (HBL.out.cell (p := ⟨t1, k, none⟩) (by rw [HSZ.out]; exact Nat.lt_succ_self _)).trans (HSX.out k hk)
              have hki : (k : Int) < 6 := by omega
              go_wp2_with fail
              exact ⟨⟨k + 1, hk, rfl, HBL⟩, by simp [intOf]; omega⟩
            · obtain rfl : k = 6 := by omega
              have hk7 : ¬ (6 : Int) < 6 := by omega
              go_wp2_with fail
              have HE0 := Lib.hid (HD11.out.keep HBL.out)
              have HWL := Lib.hid (HW11.out.trans (HBL.out.mono HW11.out.size))
              obtain ⟨z0, z1, z2, z3⟩ := HE0.out.1.cells
              refine wp_region_noPanic ?_
              refine wp_region_held_drew (S := (fun W => W.cell? ⟨b2, 0, none⟩ = some (.int .i64 N') ∧ W.cell? ⟨b2, 1, none⟩ = some (.slice a' q' c'))) (by kernel_rfl) (by first | exact ⟨z0, z1⟩ | ((try dsimp only); exact ⟨z0, z1⟩)) (fun hHeld => ?_)
              refine wpAnyH_take (i := 0) (oi := ({ dst := some 216, op := Go.Op.load 24 (Go.Operand.tmp 18), type := 24, pos := "outright.go:196", after := #[], guard := none } : Oper)) (v := ?_) rfl (by kernel_rfl) (by kernel_rfl) (by kernel_rfl) (fun _ _ _ h => h) (Or.inl ⟨by rfl, ?_⟩) (by assumption) ?_
              rotate_left
              · (intro w hSw; (try dsimp only at hSw); go_simp; (try (with_reducible rfl)))
              try simp only [Act.put, List.setIfInBounds_toArray, List.set_cons_zero, List.set_cons_succ]
              refine wpAnyH_ready (rs := [1]) (by kernel_rfl) (by simp) ?_
              refine AllReadyH.cons (o := ({ dst := some 217, op := Go.Op.call { callee := Go.Callee.value (Go.Operand.func 34), args := #[Go.Operand.tmp 216], argTypes := #[24] }, type := 4, pos := "outright.go:196", after := #[{ on := 0, ground := Go.Ground.data }], guard := none } : Oper)) rfl (fun K hK => ?_) AllReadyH.nil
              go_simp
              go_at_call 34
              refine (right_badat (by exact HE0.out)).mono ?_
              rintro e u1 ⟨rfl, hb1'⟩
              have hb1 : Below wr.heap.size wr u1 := (Below.refl _ wr).drew.trans hb1'
              clear hb1'
              refine hK.out _ _ ⟨(HE0.out.keep hb1).1.cells.1, (HE0.out.keep hb1).1.cells.2.1⟩ (fun hHeld1 => ?_)
              clear hK K
              try simp only [Act.put, List.setIfInBounds_toArray, List.set_cons_zero, List.set_cons_succ]
              refine wpAnyH_take (i := 2) (oi := ({ dst := some 218, op := Go.Op.unOp Go.UnOp.not 4 (Go.Operand.tmp 217), type := 4, pos := "outright.go:196", after := #[{ on := 1, ground := Go.Ground.data }], guard := none } : Oper)) (v := ?_) rfl (by kernel_rfl) (by kernel_rfl) (by kernel_rfl) (fun _ _ _ h => h) (Or.inl ⟨by rfl, ?_⟩) (by assumption) ?_
              rotate_left
              · (intro w hSw; (try dsimp only at hSw); go_simp; (try (with_reducible rfl)))
              try simp only [Act.put, List.setIfInBounds_toArray, List.set_cons_zero, List.set_cons_succ]
              refine wpAnyH_take (i := 3) (oi := ({ dst := some 219, op := Go.Op.move (Go.Operand.tmp 218), type := 4, pos := "outright.go:196", after := #[{ on := 2, ground := Go.Ground.data }, { on := 1, ground := Go.Ground.chain }], guard := none } : Oper)) (v := ?_) rfl (by kernel_rfl) (by kernel_rfl) (by kernel_rfl) (fun _ _ _ h => h) (Or.inl ⟨by rfl, ?_⟩) (by assumption) ?_
              rotate_left
              · (intro w hSw; (try dsimp only at hSw); go_simp; (try (with_reducible rfl)))
              try simp only [Act.put, List.setIfInBounds_toArray, List.set_cons_zero, List.set_cons_succ]
              refine wpAnyH_take (i := 4) (oi := ({ dst := some 220, op := Go.Op.load 24 (Go.Operand.tmp 18), type := 24, pos := "outright.go:196", after := #[{ on := 3, ground := Go.Ground.guard }], guard := some (3, true) } : Oper)) (v := ?_) rfl (by kernel_rfl) (by kernel_rfl) (by kernel_rfl) (fun _ _ _ h => h) (Or.inl ⟨by rfl, ?_⟩) (by assumption) ?_
              rotate_left
              · (intro w hSw; (try dsimp only at hSw); go_simp; (try (with_reducible rfl)))
              try simp only [Act.put, List.setIfInBounds_toArray, List.set_cons_zero, List.set_cons_succ]
              refine wpAnyH_ready (rs := [5]) (by kernel_rfl) (by simp) ?_
              refine AllReadyH.cons (o := ({ dst := some 221, op := Go.Op.call { callee := Go.Callee.value (Go.Operand.func 28), args := #[Go.Operand.tmp 220, Go.Operand.const (Go.Value.int Go.IntKind.i64 0)], argTypes := #[24, 3] }, type := 4, pos := "outright.go:196", after := #[{ on := 4, ground := Go.Ground.data }, { on := 3, ground := Go.Ground.chain }, { on := 3, ground := Go.Ground.guard }], guard := some (3, true) } : Oper)) rfl (fun K hK => ?_) AllReadyH.nil
              go_simp
              go_at_call 28
              refine (has_badat (by exact HE0.out.keep hb1) 0).mono ?_
              rintro e u2 ⟨rfl, hb2'⟩
              have hb2 : Below wr.heap.size wr u2 := hb1.trans (hb2'.mono hb1.size)
              clear hb2'
              refine hK.out _ _ ⟨(HE0.out.keep hb2).1.cells.1, (HE0.out.keep hb2).1.cells.2.1⟩ (fun hHeld2 => ?_)
              clear hK K
              try simp only [Act.put, List.setIfInBounds_toArray, List.set_cons_zero, List.set_cons_succ]
              refine wpAnyH_take (i := 6) (oi := ({ dst := some 222, op := Go.Op.unOp Go.UnOp.not 4 (Go.Operand.tmp 221), type := 4, pos := "outright.go:196", after := #[{ on := 5, ground := Go.Ground.data }, { on := 3, ground := Go.Ground.guard }], guard := some (3, true) } : Oper)) (v := ?_) rfl (by kernel_rfl) (by kernel_rfl) (by kernel_rfl) (fun _ _ _ h => h) (Or.inl ⟨by rfl, ?_⟩) (by assumption) ?_
              rotate_left
              · (intro w hSw; (try dsimp only at hSw); go_simp; (try (with_reducible rfl)))
              try simp only [Act.put, List.setIfInBounds_toArray, List.set_cons_zero, List.set_cons_succ]
              refine wpAnyH_take (i := 7) (oi := ({ dst := some 223, op := Go.Op.pick (Go.Operand.tmp 219) (Go.Operand.tmp 222) (Go.Operand.const (Go.Value.bool false)), type := 4, pos := "outright.go:196", after := #[{ on := 3, ground := Go.Ground.data }, { on := 6, ground := Go.Ground.data }], guard := none } : Oper)) (v := ?_) rfl (by kernel_rfl) (by kernel_rfl) (by kernel_rfl) (fun _ _ _ h => h) (Or.inl ⟨by rfl, ?_⟩) (by assumption) ?_
              rotate_left
              · (intro w hSw; (try dsimp only at hSw); go_simp; (try (with_reducible rfl)))
              try simp only [Act.put, List.setIfInBounds_toArray, List.set_cons_zero, List.set_cons_succ]
              refine wpAnyH_take (i := 8) (oi := ({ dst := some 224, op := Go.Op.move (Go.Operand.tmp 223), type := 4, pos := "outright.go:196", after := #[{ on := 7, ground := Go.Ground.data }, { on := 5, ground := Go.Ground.chain }], guard := none } : Oper)) (v := ?_) rfl (by kernel_rfl) (by kernel_rfl) (by kernel_rfl) (fun _ _ _ h => h) (Or.inl ⟨by rfl, ?_⟩) (by assumption) ?_
              rotate_left
              · (intro w hSw; (try dsimp only at hSw); go_simp; (try (with_reducible rfl)))
              try simp only [Act.put, List.setIfInBounds_toArray, List.set_cons_zero, List.set_cons_succ]
              refine wpAnyH_take (i := 9) (oi := ({ dst := some 225, op := Go.Op.load 24 (Go.Operand.tmp 18), type := 24, pos := "outright.go:196", after := #[{ on := 8, ground := Go.Ground.guard }], guard := some (8, true) } : Oper)) (v := ?_) rfl (by kernel_rfl) (by kernel_rfl) (by kernel_rfl) (fun _ _ _ h => h) (Or.inl ⟨by rfl, ?_⟩) (by assumption) ?_
              rotate_left
              · (intro w hSw; (try dsimp only at hSw); go_simp; (try (with_reducible rfl)))
              try simp only [Act.put, List.setIfInBounds_toArray, List.set_cons_zero, List.set_cons_succ]
              refine wpAnyH_take (i := 11) (oi := ({ dst := some 227, op := Go.Op.load 24 (Go.Operand.tmp 18), type := 24, pos := "outright.go:196", after := #[{ on := 8, ground := Go.Ground.guard }], guard := some (8, true) } : Oper)) (v := ?_) rfl (by kernel_rfl) (by kernel_rfl) (by kernel_rfl) (fun _ _ _ h => h) (Or.inl ⟨by rfl, ?_⟩) (by assumption) ?_
              rotate_left
              · (intro w hSw; (try dsimp only at hSw); go_simp; (try (with_reducible rfl)))
              try simp only [Act.put, List.setIfInBounds_toArray, List.set_cons_zero, List.set_cons_succ]
              refine wpAnyH_take (i := 14) (oi := ({ dst := some 230, op := Go.Op.load 24 (Go.Operand.tmp 18), type := 24, pos := "outright.go:196", after := #[{ on := 8, ground := Go.Ground.guard }], guard := some (8, true) } : Oper)) (v := ?_) rfl (by kernel_rfl) (by kernel_rfl) (by kernel_rfl) (fun _ _ _ h => h) (Or.inl ⟨by rfl, ?_⟩) (by assumption) ?_
              rotate_left
              · (intro w hSw; (try dsimp only at hSw); go_simp; (try (with_reducible rfl)))
              try simp only [Act.put, List.setIfInBounds_toArray, List.set_cons_zero, List.set_cons_succ]
              refine wpAnyH_take (i := 18) (oi := ({ dst := some 234, op := Go.Op.load 24 (Go.Operand.tmp 18), type := 24, pos := "outright.go:196", after := #[{ on := 8, ground := Go.Ground.guard }], guard := some (8, true) } : Oper)) (v := ?_) rfl (by kernel_rfl) (by kernel_rfl) (by kernel_rfl) (fun _ _ _ h => h) (Or.inl ⟨by rfl, ?_⟩) (by assumption) ?_
              rotate_left
              · (intro w hSw; (try dsimp only at hSw); go_simp; (try (with_reducible rfl)))
              try simp only [Act.put, List.setIfInBounds_toArray, List.set_cons_zero, List.set_cons_succ]
              refine wpAnyH_ready (rs := [10]) (by kernel_rfl) (by simp) ?_
              refine AllReadyH.cons (o := ({ dst := some 226, op := Go.Op.call { callee := Go.Callee.value (Go.Operand.func 21), args := #[Go.Operand.tmp 225], argTypes := #[24] }, type := 3, pos := "outright.go:196", after := #[{ on := 9, ground := Go.Ground.data }, { on := 8, ground := Go.Ground.chain }, { on := 8, ground := Go.Ground.guard }], guard := some (8, true) } : Oper)) rfl (fun K hK => ?_) AllReadyH.nil
              go_simp
              go_at_call 21
              refine (count_badat (by exact HE0.out.keep hb2)).mono ?_
              rintro e u3 ⟨rfl, hb3'⟩
              have hb3 : Below wr.heap.size wr u3 := hb2.trans (hb3'.mono hb2.size)
              clear hb3'
              refine hK.out _ _ ⟨(HE0.out.keep hb3).1.cells.1, (HE0.out.keep hb3).1.cells.2.1⟩ (fun hHeld3 => ?_)
              clear hK K
              try simp only [Act.put, List.setIfInBounds_toArray, List.set_cons_zero, List.set_cons_succ]
              refine wpAnyH_ready (rs := [12]) (by kernel_rfl) (by simp) ?_
              refine AllReadyH.cons (o := ({ dst := some 228, op := Go.Op.call { callee := Go.Callee.value (Go.Operand.func 25), args := #[Go.Operand.tmp 227, Go.Operand.const (Go.Value.int Go.IntKind.i64 5)], argTypes := #[24, 3] }, type := 3, pos := "outright.go:196", after := #[{ on := 11, ground := Go.Ground.data }, { on := 10, ground := Go.Ground.chain }, { on := 8, ground := Go.Ground.guard }], guard := some (8, true) } : Oper)) rfl (fun K hK => ?_) AllReadyH.nil
              go_simp
              go_at_call 25
              refine (rank_badat (by exact HE0.out.keep hb3) 5).mono ?_
              rintro e u4 ⟨rfl, hb4'⟩
              have hb4 : Below wr.heap.size wr u4 := hb3.trans (hb4'.mono hb3.size)
              clear hb4'
              refine hK.out _ _ ⟨(HE0.out.keep hb4).1.cells.1, (HE0.out.keep hb4).1.cells.2.1⟩ (fun hHeld4 => ?_)
              clear hK K
              try simp only [Act.put, List.setIfInBounds_toArray, List.set_cons_zero, List.set_cons_succ]
              refine wpAnyH_take (i := 13) (oi := ({ dst := some 229, op := Go.Op.binOp Go.BinOp.add 3 (Go.Operand.tmp 226) (Go.Operand.tmp 228) 3, type := 3, pos := "outright.go:196", after := #[{ on := 10, ground := Go.Ground.data }, { on := 12, ground := Go.Ground.data }, { on := 8, ground := Go.Ground.guard }], guard := some (8, true) } : Oper)) (v := ?_) rfl (by kernel_rfl) (by kernel_rfl) (by kernel_rfl) (fun _ _ _ h => h) (Or.inl ⟨by rfl, ?_⟩) (by assumption) ?_
              rotate_left
              · (intro w hSw; (try dsimp only at hSw); go_simp; (try (with_reducible rfl)))
              try simp only [Act.put, List.setIfInBounds_toArray, List.set_cons_zero, List.set_cons_succ]
              refine wpAnyH_ready (rs := [15]) (by kernel_rfl) (by simp) ?_
              refine AllReadyH.cons (o := ({ dst := some 231, op := Go.Op.call { callee := Go.Callee.value (Go.Operand.func 24), args := #[Go.Operand.tmp 230], argTypes := #[24] }, type := 27, pos := "outright.go:196", after := #[{ on := 14, ground := Go.Ground.data }, { on := 12, ground := Go.Ground.chain }, { on := 8, ground := Go.Ground.guard }], guard := some (8, true) } : Oper)) rfl (fun K hK => ?_) AllReadyH.nil
              go_simp
              go_at_call 24
              refine (members_badat (by exact HE0.out.keep hb4)).mono ?_
              rintro e u5 ⟨⟨A1, d1, rfl⟩, hb5'⟩
              have hb5 : Below wr.heap.size wr u5 := hb4.trans (hb5'.mono hb4.size)
              clear hb5'
              refine hK.out _ _ ⟨(HE0.out.keep hb5).1.cells.1, (HE0.out.keep hb5).1.cells.2.1⟩ (fun hHeld5 => ?_)
              clear hK K
              try simp only [Act.put, List.setIfInBounds_toArray, List.set_cons_zero, List.set_cons_succ]
              refine wpAnyH_take (i := 16) (oi := ({ dst := some 232, op := Go.Op.call { callee := Go.Callee.builtin Go.Builtin.len, args := #[Go.Operand.tmp 231], argTypes := #[27] }, type := 3, pos := "outright.go:196", after := #[{ on := 15, ground := Go.Ground.data }, { on := 8, ground := Go.Ground.guard }], guard := some (8, true) } : Oper)) (v := ?_) rfl (by kernel_rfl) (by kernel_rfl) (by kernel_rfl) (fun _ _ _ h => h) (Or.inl ⟨by rfl, ?_⟩) (by assumption) ?_
              rotate_left
              · (intro w hSw; (try dsimp only at hSw); go_simp; (try (with_reducible rfl)))
              try simp only [Act.put, List.setIfInBounds_toArray, List.set_cons_zero, List.set_cons_succ]
              refine wpAnyH_take (i := 17) (oi := ({ dst := some 233, op := Go.Op.binOp Go.BinOp.add 3 (Go.Operand.tmp 229) (Go.Operand.tmp 232) 3, type := 3, pos := "outright.go:196", after := #[{ on := 13, ground := Go.Ground.data }, { on := 16, ground := Go.Ground.data }, { on := 8, ground := Go.Ground.guard }], guard := some (8, true) } : Oper)) (v := ?_) rfl (by kernel_rfl) (by kernel_rfl) (by kernel_rfl) (fun _ _ _ h => h) (Or.inl ⟨by rfl, ?_⟩) (by assumption) ?_
              rotate_left
              · (intro w hSw; (try dsimp only at hSw); go_simp; (try (with_reducible rfl)))
              try simp only [Act.put, List.setIfInBounds_toArray, List.set_cons_zero, List.set_cons_succ]
              refine wpAnyH_ready (rs := [19]) (by kernel_rfl) (by simp) ?_
              refine AllReadyH.cons (o := ({ dst := some 235, op := Go.Op.call { callee := Go.Callee.value (Go.Operand.func 22), args := #[Go.Operand.tmp 234], argTypes := #[24] }, type := 42, pos := "outright.go:196", after := #[{ on := 18, ground := Go.Ground.data }, { on := 15, ground := Go.Ground.chain }, { on := 8, ground := Go.Ground.guard }], guard := some (8, true) } : Oper)) rfl (fun K hK => ?_) AllReadyH.nil
              go_simp
              go_at_call 22
              refine (runs_badat (by exact HE0.out.keep hb5)).mono ?_
              rintro e u6 ⟨⟨A2, d2, rfl⟩, hb6'⟩
              have hb6 : Below wr.heap.size wr u6 := hb5.trans (hb6'.mono hb5.size)
              clear hb6'
              refine hK.out _ _ ⟨(HE0.out.keep hb6).1.cells.1, (HE0.out.keep hb6).1.cells.2.1⟩ (fun hHeld6 => ?_)
              clear hK K
              try simp only [Act.put, List.setIfInBounds_toArray, List.set_cons_zero, List.set_cons_succ]
              refine wpAnyH_take (i := 20) (oi := ({ dst := some 236, op := Go.Op.call { callee := Go.Callee.builtin Go.Builtin.len, args := #[Go.Operand.tmp 235], argTypes := #[42] }, type := 3, pos := "outright.go:196", after := #[{ on := 19, ground := Go.Ground.data }, { on := 8, ground := Go.Ground.guard }], guard := some (8, true) } : Oper)) (v := ?_) rfl (by kernel_rfl) (by kernel_rfl) (by kernel_rfl) (fun _ _ _ h => h) (Or.inl ⟨by rfl, ?_⟩) (by assumption) ?_
              rotate_left
              · (intro w hSw; (try dsimp only at hSw); go_simp; (try (with_reducible rfl)))
              try simp only [Act.put, List.setIfInBounds_toArray, List.set_cons_zero, List.set_cons_succ]
              refine wpAnyH_take (i := 21) (oi := ({ dst := some 237, op := Go.Op.binOp Go.BinOp.add 3 (Go.Operand.tmp 233) (Go.Operand.tmp 236) 3, type := 3, pos := "outright.go:196", after := #[{ on := 17, ground := Go.Ground.data }, { on := 20, ground := Go.Ground.data }, { on := 8, ground := Go.Ground.guard }], guard := some (8, true) } : Oper)) (v := ?_) rfl (by kernel_rfl) (by kernel_rfl) (by kernel_rfl) (fun _ _ _ h => h) (Or.inl ⟨by rfl, ?_⟩) (by assumption) ?_
              rotate_left
              · (intro w hSw; (try dsimp only at hSw); go_simp; (try (with_reducible rfl)))
              try simp only [Act.put, List.setIfInBounds_toArray, List.set_cons_zero, List.set_cons_succ]
              refine wpAnyH_take (i := 22) (oi := ({ dst := some 238, op := Go.Op.binOp Go.BinOp.eql 3 (Go.Operand.tmp 237) (Go.Operand.const (Go.Value.int Go.IntKind.i64 0)) 3, type := 4, pos := "outright.go:196", after := #[{ on := 21, ground := Go.Ground.data }, { on := 8, ground := Go.Ground.guard }], guard := some (8, true) } : Oper)) (v := ?_) rfl (by kernel_rfl) (by kernel_rfl) (by kernel_rfl) (fun _ _ _ h => h) (Or.inl ⟨by rfl, ?_⟩) (by assumption) ?_
              rotate_left
              · (intro w hSw; (try dsimp only at hSw); go_simp; (try (with_reducible rfl)))
              try simp only [Act.put, List.setIfInBounds_toArray, List.set_cons_zero, List.set_cons_succ]
              refine wpAnyH_take (i := 23) (oi := ({ dst := some 239, op := Go.Op.pick (Go.Operand.tmp 224) (Go.Operand.tmp 238) (Go.Operand.const (Go.Value.bool false)), type := 4, pos := "outright.go:196", after := #[{ on := 8, ground := Go.Ground.data }, { on := 22, ground := Go.Ground.data }], guard := none } : Oper)) (v := ?_) rfl (by kernel_rfl) (by kernel_rfl) (by kernel_rfl) (fun _ _ _ h => h) (Or.inl ⟨by rfl, ?_⟩) (by assumption) ?_
              rotate_left
              · (intro w hSw; (try dsimp only at hSw); go_simp; (try (with_reducible rfl)))
              try simp only [Act.put, List.setIfInBounds_toArray, List.set_cons_zero, List.set_cons_succ]
              refine wpAnyH_take (i := 24) (oi := ({ dst := some 240, op := Go.Op.move (Go.Operand.tmp 239), type := 4, pos := "outright.go:196", after := #[{ on := 23, ground := Go.Ground.data }, { on := 19, ground := Go.Ground.chain }], guard := none } : Oper)) (v := ?_) rfl (by kernel_rfl) (by kernel_rfl) (by kernel_rfl) (fun _ _ _ h => h) (Or.inl ⟨by rfl, ?_⟩) (by assumption) ?_
              rotate_left
              · (intro w hSw; (try dsimp only at hSw); go_simp; (try (with_reducible rfl)))
              try simp only [Act.put, List.setIfInBounds_toArray, List.set_cons_zero, List.set_cons_succ]
              refine wpAnyH_take (i := 25) (oi := ({ dst := some 241, op := Go.Op.move (Go.Operand.tmp 32), type := 4, pos := "outright.go:196", after := #[{ on := 24, ground := Go.Ground.guard }], guard := some (24, true) } : Oper)) (v := ?_) rfl (by kernel_rfl) (by kernel_rfl) (by kernel_rfl) (fun _ _ _ h => h) (Or.inl ⟨by rfl, ?_⟩) (by assumption) ?_
              rotate_left
              · (intro w hSw; (try dsimp only at hSw); go_simp; (try (with_reducible rfl)))
              try simp only [Act.put, List.setIfInBounds_toArray, List.set_cons_zero, List.set_cons_succ]
              refine wpAnyH_take (i := 26) (oi := ({ dst := some 242, op := Go.Op.unOp Go.UnOp.not 4 (Go.Operand.tmp 241), type := 4, pos := "outright.go:196", after := #[{ on := 25, ground := Go.Ground.data }, { on := 24, ground := Go.Ground.guard }], guard := some (24, true) } : Oper)) (v := ?_) rfl (by kernel_rfl) (by kernel_rfl) (by kernel_rfl) (fun _ _ _ h => h) (Or.inl ⟨by rfl, ?_⟩) (by assumption) ?_
              rotate_left
              · (intro w hSw; (try dsimp only at hSw); go_simp; (try (with_reducible rfl)))
              try simp only [Act.put, List.setIfInBounds_toArray, List.set_cons_zero, List.set_cons_succ]
              refine wpAnyH_take (i := 27) (oi := ({ dst := some 243, op := Go.Op.pick (Go.Operand.tmp 240) (Go.Operand.tmp 242) (Go.Operand.const (Go.Value.bool false)), type := 4, pos := "outright.go:196", after := #[{ on := 24, ground := Go.Ground.data }, { on := 26, ground := Go.Ground.data }], guard := none } : Oper)) (v := ?_) rfl (by kernel_rfl) (by kernel_rfl) (by kernel_rfl) (fun _ _ _ h => h) (Or.inl ⟨by rfl, ?_⟩) (by assumption) ?_
              rotate_left
              · (intro w hSw; (try dsimp only at hSw); go_simp; (try (with_reducible rfl)))
              try simp only [Act.put, List.setIfInBounds_toArray, List.set_cons_zero, List.set_cons_succ]
              refine wpAnyH_take (i := 28) (oi := ({ dst := some 244, op := Go.Op.move (Go.Operand.tmp 243), type := 4, pos := "outright.go:196", after := #[{ on := 27, ground := Go.Ground.data }, { on := 24, ground := Go.Ground.chain }], guard := none } : Oper)) (v := ?_) rfl (by kernel_rfl) (by kernel_rfl) (by kernel_rfl) (fun _ _ _ h => h) (Or.inl ⟨by rfl, ?_⟩) (by assumption) ?_
              rotate_left
              · (intro w hSw; (try dsimp only at hSw); go_simp; (try (with_reducible rfl)))
              try simp only [Act.put, List.setIfInBounds_toArray, List.set_cons_zero, List.set_cons_succ]
              refine wpAnyH_take (i := 29) (oi := ({ dst := some 245, op := Go.Op.move (Go.Operand.tmp 34), type := 4, pos := "outright.go:196", after := #[{ on := 28, ground := Go.Ground.guard }], guard := some (28, true) } : Oper)) (v := ?_) rfl (by kernel_rfl) (by kernel_rfl) (by kernel_rfl) (fun _ _ _ h => h) (Or.inl ⟨by rfl, ?_⟩) (by assumption) ?_
              rotate_left
              · (intro w hSw; (try dsimp only at hSw); go_simp; (try (with_reducible rfl)))
              try simp only [Act.put, List.setIfInBounds_toArray, List.set_cons_zero, List.set_cons_succ]
              refine wpAnyH_take (i := 30) (oi := ({ dst := some 246, op := Go.Op.unOp Go.UnOp.not 4 (Go.Operand.tmp 245), type := 4, pos := "outright.go:196", after := #[{ on := 29, ground := Go.Ground.data }, { on := 28, ground := Go.Ground.guard }], guard := some (28, true) } : Oper)) (v := ?_) rfl (by kernel_rfl) (by kernel_rfl) (by kernel_rfl) (fun _ _ _ h => h) (Or.inl ⟨by rfl, ?_⟩) (by assumption) ?_
              rotate_left
              · (intro w hSw; (try dsimp only at hSw); go_simp; (try (with_reducible rfl)))
              try simp only [Act.put, List.setIfInBounds_toArray, List.set_cons_zero, List.set_cons_succ]
              refine wpAnyH_take (i := 31) (oi := ({ dst := some 247, op := Go.Op.pick (Go.Operand.tmp 244) (Go.Operand.tmp 246) (Go.Operand.const (Go.Value.bool false)), type := 4, pos := "outright.go:196", after := #[{ on := 28, ground := Go.Ground.data }, { on := 30, ground := Go.Ground.data }], guard := none } : Oper)) (v := ?_) rfl (by kernel_rfl) (by kernel_rfl) (by kernel_rfl) (fun _ _ _ h => h) (Or.inl ⟨by rfl, ?_⟩) (by assumption) ?_
              rotate_left
              · (intro w hSw; (try dsimp only at hSw); go_simp; (try (with_reducible rfl)))
              try simp only [Act.put, List.setIfInBounds_toArray, List.set_cons_zero, List.set_cons_succ]
              refine wpAnyH_take (i := 32) (oi := ({ dst := some 248, op := Go.Op.move (Go.Operand.tmp 247), type := 4, pos := "outright.go:196", after := #[{ on := 31, ground := Go.Ground.data }, { on := 28, ground := Go.Ground.chain }], guard := none } : Oper)) (v := ?_) rfl (by kernel_rfl) (by kernel_rfl) (by kernel_rfl) (fun _ _ _ h => h) (Or.inl ⟨by rfl, ?_⟩) (by assumption) ?_
              rotate_left
              · (intro w hSw; (try dsimp only at hSw); go_simp; (try (with_reducible rfl)))
              try simp only [Act.put, List.setIfInBounds_toArray, List.set_cons_zero, List.set_cons_succ]
              refine wpAnyH_take (i := 33) (oi := ({ dst := some 249, op := Go.Op.move (Go.Operand.tmp 36), type := 4, pos := "outright.go:196", after := #[{ on := 32, ground := Go.Ground.guard }], guard := some (32, true) } : Oper)) (v := ?_) rfl (by kernel_rfl) (by kernel_rfl) (by kernel_rfl) (fun _ _ _ h => h) (Or.inl ⟨by rfl, ?_⟩) (by assumption) ?_
              rotate_left
              · (intro w hSw; (try dsimp only at hSw); go_simp; (try (with_reducible rfl)))
              try simp only [Act.put, List.setIfInBounds_toArray, List.set_cons_zero, List.set_cons_succ]
              refine wpAnyH_take (i := 34) (oi := ({ dst := some 250, op := Go.Op.unOp Go.UnOp.not 4 (Go.Operand.tmp 249), type := 4, pos := "outright.go:196", after := #[{ on := 33, ground := Go.Ground.data }, { on := 32, ground := Go.Ground.guard }], guard := some (32, true) } : Oper)) (v := ?_) rfl (by kernel_rfl) (by kernel_rfl) (by kernel_rfl) (fun _ _ _ h => h) (Or.inl ⟨by rfl, ?_⟩) (by assumption) ?_
              rotate_left
              · (intro w hSw; (try dsimp only at hSw); go_simp; (try (with_reducible rfl)))
              try simp only [Act.put, List.setIfInBounds_toArray, List.set_cons_zero, List.set_cons_succ]
              refine wpAnyH_take (i := 35) (oi := ({ dst := some 251, op := Go.Op.pick (Go.Operand.tmp 248) (Go.Operand.tmp 250) (Go.Operand.const (Go.Value.bool false)), type := 4, pos := "outright.go:196", after := #[{ on := 32, ground := Go.Ground.data }, { on := 34, ground := Go.Ground.data }], guard := none } : Oper)) (v := ?_) rfl (by kernel_rfl) (by kernel_rfl) (by kernel_rfl) (fun _ _ _ h => h) (Or.inl ⟨by rfl, ?_⟩) (by assumption) ?_
              rotate_left
              · (intro w hSw; (try dsimp only at hSw); go_simp; (try (with_reducible rfl)))
              try simp only [Act.put, List.setIfInBounds_toArray, List.set_cons_zero, List.set_cons_succ]
              refine wpAnyH_take (i := 36) (oi := ({ dst := some 252, op := Go.Op.move (Go.Operand.tmp 251), type := 4, pos := "outright.go:196", after := #[{ on := 35, ground := Go.Ground.data }, { on := 32, ground := Go.Ground.chain }], guard := none } : Oper)) (v := ?_) rfl (by kernel_rfl) (by kernel_rfl) (by kernel_rfl) (fun _ _ _ h => h) (Or.inl ⟨by rfl, ?_⟩) (by assumption) ?_
              rotate_left
              · (intro w hSw; (try dsimp only at hSw); go_simp; (try (with_reducible rfl)))
              try simp only [Act.put, List.setIfInBounds_toArray, List.set_cons_zero, List.set_cons_succ]
              refine wpAnyH_take (i := 37) (oi := ({ dst := some 253, op := Go.Op.move (Go.Operand.tmp 38), type := 35, pos := "outright.go:196", after := #[{ on := 36, ground := Go.Ground.guard }], guard := some (36, true) } : Oper)) (v := ?_) rfl (by kernel_rfl) (by kernel_rfl) (by kernel_rfl) (fun _ _ _ h => h) (Or.inl ⟨by rfl, ?_⟩) (by assumption) ?_
              rotate_left
              · (intro w hSw; (try dsimp only at hSw); go_simp; (try (with_reducible rfl)))
              try simp only [Act.put, List.setIfInBounds_toArray, List.set_cons_zero, List.set_cons_succ]
              refine wpAnyH_take (i := 38) (oi := ({ dst := some 254, op := Go.Op.binOp Go.BinOp.eql 35 (Go.Operand.tmp 253) (Go.Operand.const (Go.Value.int Go.IntKind.i64 2)) 35, type := 4, pos := "outright.go:196", after := #[{ on := 37, ground := Go.Ground.data }, { on := 36, ground := Go.Ground.guard }], guard := some (36, true) } : Oper)) (v := ?_) rfl (by kernel_rfl) (by kernel_rfl) (by kernel_rfl) (fun _ _ _ h => h) (Or.inl ⟨by rfl, ?_⟩) (by assumption) ?_
              rotate_left
              · (intro w hSw; (try dsimp only at hSw); go_simp; (try (with_reducible rfl)))
              try simp only [Act.put, List.setIfInBounds_toArray, List.set_cons_zero, List.set_cons_succ]
              refine wpAnyH_take (i := 39) (oi := ({ dst := some 255, op := Go.Op.fieldAddr 24 (Go.Operand.tmp 18) 0, type := 0, pos := "outright.go:196", after := #[{ on := 36, ground := Go.Ground.guard }], guard := some (36, true) } : Oper)) (v := ?_) rfl (by kernel_rfl) (by kernel_rfl) (by kernel_rfl) (fun _ _ _ h => h) (Or.inl ⟨by rfl, ?_⟩) (by assumption) ?_
              rotate_left
              · (intro w hSw; (try dsimp only at hSw); go_simp; (try (with_reducible rfl)))
              try simp only [Act.put, List.setIfInBounds_toArray, List.set_cons_zero, List.set_cons_succ]
              refine wpAnyH_take (i := 40) (oi := ({ dst := some 256, op := Go.Op.load 3 (Go.Operand.tmp 255), type := 3, pos := "outright.go:196", after := #[{ on := 39, ground := Go.Ground.data }, { on := 36, ground := Go.Ground.guard }], guard := some (36, true) } : Oper)) (v := ?_) rfl (by kernel_rfl) (by kernel_rfl) (by kernel_rfl) (fun _ _ _ h => h) (Or.inl ⟨by rfl, ?_⟩) (by assumption) ?_
              rotate_left
              · (intro w hSw; (try dsimp only at hSw); go_simp; (try (with_reducible rfl)))
              try simp only [Act.put, List.setIfInBounds_toArray, List.set_cons_zero, List.set_cons_succ]
              refine wpAnyH_take (i := 41) (oi := ({ dst := some 257, op := Go.Op.binOp Go.BinOp.lss 3 (Go.Operand.tmp 256) (Go.Operand.const (Go.Value.int Go.IntKind.i64 0)) 3, type := 4, pos := "outright.go:196", after := #[{ on := 40, ground := Go.Ground.data }, { on := 36, ground := Go.Ground.guard }], guard := some (36, true) } : Oper)) (v := ?_) rfl (by kernel_rfl) (by kernel_rfl) (by kernel_rfl) (fun _ _ _ h => h) (Or.inl ⟨by rfl, ?_⟩) (by assumption) ?_
              rotate_left
              · (intro w hSw; (try dsimp only at hSw); go_simp; (try (with_reducible rfl)))
              try simp only [Act.put, List.setIfInBounds_toArray, List.set_cons_zero, List.set_cons_succ]
              refine wpAnyH_take (i := 42) (oi := ({ dst := some 258, op := Go.Op.move (Go.Operand.tmp 257), type := 4, pos := "outright.go:196", after := #[{ on := 41, ground := Go.Ground.data }, { on := 36, ground := Go.Ground.chain }, { on := 36, ground := Go.Ground.guard }], guard := some (36, true) } : Oper)) (v := ?_) rfl (by kernel_rfl) (by kernel_rfl) (by kernel_rfl) (fun _ _ _ h => h) (Or.inl ⟨by rfl, ?_⟩) (by assumption) ?_
              rotate_left
              · (intro w hSw; (try dsimp only at hSw); go_simp; (try (with_reducible rfl)))
              try simp only [Act.put, List.setIfInBounds_toArray, List.set_cons_zero, List.set_cons_succ]
              refine wpAnyH_take (i := 43) (oi := ({ dst := some 259, op := Go.Op.fieldAddr 24 (Go.Operand.tmp 18) 0, type := 0, pos := "outright.go:196", after := #[{ on := 42, ground := Go.Ground.guard }], guard := some (42, false) } : Oper)) (v := undef) rfl (by kernel_rfl) (by kernel_rfl) (by kernel_rfl) (fun _ _ _ h => h) (Or.inr ⟨by rfl, rfl⟩) (by assumption) ?_
              try simp only [Act.put, List.setIfInBounds_toArray, List.set_cons_zero, List.set_cons_succ]
              refine wpAnyH_take (i := 44) (oi := ({ dst := some 260, op := Go.Op.load 3 (Go.Operand.tmp 259), type := 3, pos := "outright.go:196", after := #[{ on := 43, ground := Go.Ground.data }, { on := 42, ground := Go.Ground.guard }], guard := some (42, false) } : Oper)) (v := undef) rfl (by kernel_rfl) (by kernel_rfl) (by kernel_rfl) (fun _ _ _ h => h) (Or.inr ⟨by rfl, rfl⟩) (by assumption) ?_
              try simp only [Act.put, List.setIfInBounds_toArray, List.set_cons_zero, List.set_cons_succ]
              refine wpAnyH_take (i := 45) (oi := ({ dst := some 261, op := Go.Op.binOp Go.BinOp.gtr 3 (Go.Operand.tmp 260) (Go.Operand.const (Go.Value.int Go.IntKind.i64 65536)) 3, type := 4, pos := "outright.go:196", after := #[{ on := 44, ground := Go.Ground.data }, { on := 42, ground := Go.Ground.guard }], guard := some (42, false) } : Oper)) (v := undef) rfl (by kernel_rfl) (by kernel_rfl) (by kernel_rfl) (fun _ _ _ h => h) (Or.inr ⟨by rfl, rfl⟩) (by assumption) ?_
              try simp only [Act.put, List.setIfInBounds_toArray, List.set_cons_zero, List.set_cons_succ]
              refine wpAnyH_take (i := 46) (oi := ({ dst := some 262, op := Go.Op.pick (Go.Operand.tmp 258) (Go.Operand.const (Go.Value.bool true)) (Go.Operand.tmp 261), type := 4, pos := "outright.go:196", after := #[{ on := 42, ground := Go.Ground.data }, { on := 45, ground := Go.Ground.data }, { on := 36, ground := Go.Ground.guard }], guard := some (36, true) } : Oper)) (v := ?_) rfl (by kernel_rfl) (by kernel_rfl) (by kernel_rfl) (fun _ _ _ h => h) (Or.inl ⟨by rfl, ?_⟩) (by assumption) ?_
              rotate_left
              · (intro w hSw; (try dsimp only at hSw); go_simp; (try (with_reducible rfl)))
              try simp only [Act.put, List.setIfInBounds_toArray, List.set_cons_zero, List.set_cons_succ]
              refine wpAnyH_take (i := 47) (oi := ({ dst := some 263, op := Go.Op.binOp Go.BinOp.eql 4 (Go.Operand.tmp 254) (Go.Operand.tmp 262) 4, type := 4, pos := "outright.go:196", after := #[{ on := 38, ground := Go.Ground.data }, { on := 46, ground := Go.Ground.data }, { on := 36, ground := Go.Ground.guard }], guard := some (36, true) } : Oper)) (v := ?_) rfl (by kernel_rfl) (by kernel_rfl) (by kernel_rfl) (fun _ _ _ h => h) (Or.inl ⟨by rfl, ?_⟩) (by assumption) ?_
              rotate_left
              · (intro w hSw; (try dsimp only at hSw); go_simp; (try (with_reducible rfl)))
              try simp only [Act.put, List.setIfInBounds_toArray, List.set_cons_zero, List.set_cons_succ]
              refine wpAnyH_take (i := 48) (oi := ({ dst := some 264, op := Go.Op.pick (Go.Operand.tmp 252) (Go.Operand.tmp 263) (Go.Operand.const (Go.Value.bool false)), type := 4, pos := "outright.go:196", after := #[{ on := 36, ground := Go.Ground.data }, { on := 47, ground := Go.Ground.data }], guard := none } : Oper)) (v := ?_) rfl (by kernel_rfl) (by kernel_rfl) (by kernel_rfl) (fun _ _ _ h => h) (Or.inl ⟨by rfl, ?_⟩) (by assumption) ?_
              rotate_left
              · (intro w hSw; (try dsimp only at hSw); go_simp; (try (with_reducible rfl)))
              try simp only [Act.put, List.setIfInBounds_toArray, List.set_cons_zero, List.set_cons_succ]
              refine wpAnyH_take (i := 49) (oi := ({ dst := some 8, op := Go.Op.assign (Go.Operand.tmp 264), type := 4, pos := "outright.go:196", after := #[{ on := 48, ground := Go.Ground.data }, { on := 42, ground := Go.Ground.chain }, { on := 0, ground := Go.Ground.phase }, { on := 1, ground := Go.Ground.phase }, { on := 2, ground := Go.Ground.phase }, { on := 3, ground := Go.Ground.phase }, { on := 4, ground := Go.Ground.phase }, { on := 5, ground := Go.Ground.phase }, { on := 6, ground := Go.Ground.phase }, { on := 7, ground := Go.Ground.phase }, { on := 8, ground := Go.Ground.phase }, { on := 9, ground := Go.Ground.phase }, { on := 10, ground := Go.Ground.phase }, { on := 11, ground := Go.Ground.phase }, { on := 12, ground := Go.Ground.phase }, { on := 13, ground := Go.Ground.phase }, { on := 14, ground := Go.Ground.phase }, { on := 15, ground := Go.Ground.phase }, { on := 16, ground := Go.Ground.phase }, { on := 17, ground := Go.Ground.phase }, { on := 18, ground := Go.Ground.phase }, { on := 19, ground := Go.Ground.phase }, { on := 20, ground := Go.Ground.phase }, { on := 21, ground := Go.Ground.phase }, { on := 22, ground := Go.Ground.phase }, { on := 23, ground := Go.Ground.phase }, { on := 24, ground := Go.Ground.phase }, { on := 25, ground := Go.Ground.phase }, { on := 26, ground := Go.Ground.phase }, { on := 27, ground := Go.Ground.phase }, { on := 28, ground := Go.Ground.phase }, { on := 29, ground := Go.Ground.phase }, { on := 30, ground := Go.Ground.phase }, { on := 31, ground := Go.Ground.phase }, { on := 32, ground := Go.Ground.phase }, { on := 33, ground := Go.Ground.phase }, { on := 34, ground := Go.Ground.phase }, { on := 35, ground := Go.Ground.phase }, { on := 36, ground := Go.Ground.phase }, { on := 37, ground := Go.Ground.phase }, { on := 38, ground := Go.Ground.phase }, { on := 39, ground := Go.Ground.phase }, { on := 40, ground := Go.Ground.phase }, { on := 41, ground := Go.Ground.phase }, { on := 42, ground := Go.Ground.phase }, { on := 43, ground := Go.Ground.phase }, { on := 44, ground := Go.Ground.phase }, { on := 45, ground := Go.Ground.phase }, { on := 46, ground := Go.Ground.phase }, { on := 47, ground := Go.Ground.phase }, { on := 48, ground := Go.Ground.phase }], guard := none } : Oper)) (v := ?_) rfl (by kernel_rfl) (by kernel_rfl) (by kernel_rfl) (fun _ _ _ h => h) (Or.inl ⟨by rfl, ?_⟩) (by assumption) ?_
              rotate_left
              · (intro w hSw; (try dsimp only at hSw); go_simp; (try (with_reducible rfl)))
              try simp only [Act.put, List.setIfInBounds_toArray, List.set_cons_zero, List.set_cons_succ]
              refine wpAnyH_done (by kernel_rfl) ?_ _
              refine NoPanic.normal ?_
              go_wp2_with fail
              go_ret
              exact ⟨rfl, HWL.out.trans (hb6.mono HWL.out.size)⟩
        · have hvar : True := trivial
          have g1 : decide (N' < 0) = false := by rw [decide_eq_false_iff_not]; omega
          have g2 : ¬ N' < 0 := by omega
          have g3 : decide (65536 < N') = true := by rw [decide_eq_true_eq]; omega
          have g4 : 65536 < N' := hN.1
          have HNB := Lib.hid hN.2
          clear hN
          clear HCA
          have HNN2 : Hid (N' < 0 ∨ 65536 < N') := by first | exact .inl g2 | exact .inr g4
          go_wp2_with (first
            | (go_at_call 36; ((with_reducible refine (with_badat HD0.out 0).mono ?_); rintro e v1 ⟨rfl, hb⟩; have HD1 := Lib.hid ((HD0.out.keep hb).alloc (.cells #[.int .i64 0, .slice none 0 0] 24)); have HS1 := Lib.hid ((HS0.out.keep hb).alloc (.cells #[.int .i64 0, .slice none 0 0] 24)); have HW1 := Lib.hid (HW0.out.trans ((hb.alloc hb.size (.cells #[.int .i64 0, .slice none 0 0] 24)).mono HW0.out.size)); obtain ⟨x10, x11, x12, x13⟩ := HD1.out.1.cells; clear hb))
            | (go_at_call 37; ((with_reducible refine (without_badat HD1.out (-1)).mono ?_); rintro e v2 ⟨rfl, hb⟩; have HD2 := Lib.hid ((HD1.out.keep hb).alloc (.cells #[.int .i64 0, .slice none 0 0] 24)); have HS2 := Lib.hid ((HS1.out.keep hb).alloc (.cells #[.int .i64 0, .slice none 0 0] 24)); have HW2 := Lib.hid (HW1.out.trans ((hb.alloc hb.size (.cells #[.int .i64 0, .slice none 0 0] 24)).mono HW1.out.size)); obtain ⟨x20, x21, x22, x23⟩ := HD2.out.1.cells; clear hb))
            | (go_at_call 19; ((with_reducible refine (not_badat HD2.out).mono ?_); rintro e v3 ⟨rfl, hb⟩; have HD3 := Lib.hid ((HD2.out.keep hb).alloc (.cells #[.int .i64 0, .slice none 0 0] 24)); have HS3 := Lib.hid ((HS2.out.keep hb).alloc (.cells #[.int .i64 0, .slice none 0 0] 24)); have HW3 := Lib.hid (HW2.out.trans ((hb.alloc hb.size (.cells #[.int .i64 0, .slice none 0 0] 24)).mono HW2.out.size)); obtain ⟨x30, x31, x32, x33⟩ := HD3.out.1.cells; obtain ⟨y30, y31, y32, y33⟩ := HS3.out.1.cells; clear hb))
            | (go_at_call 30; ((with_reducible refine (or_badat HD3.out N sa q cs).mono ?_); rintro e v4 ⟨rfl, hb⟩; have HD4 := Lib.hid ((HD3.out.keep hb).alloc (.cells #[.int .i64 0, .slice none 0 0] 24)); have HS4 := Lib.hid ((HS3.out.keep hb).alloc (.cells #[.int .i64 0, .slice none 0 0] 24)); have HW4 := Lib.hid (HW3.out.trans ((hb.alloc hb.size (.cells #[.int .i64 0, .slice none 0 0] 24)).mono HW3.out.size)); obtain ⟨x40, x41, x42, x43⟩ := HD4.out.1.cells; obtain ⟨y40, y41, y42, y43⟩ := HS4.out.1.cells; clear hb))
            | (go_at_call 31; ((with_reducible refine (and_badat HD4.out HS4.out).mono ?_); rintro e v5 ⟨rfl, hb⟩; have HD5 := Lib.hid ((HD4.out.keep hb).alloc (.cells #[.int .i64 0, .slice none 0 0] 24)); have HS5 := Lib.hid ((HS4.out.keep hb).alloc (.cells #[.int .i64 0, .slice none 0 0] 24)); have HW5 := Lib.hid (HW4.out.trans ((hb.alloc hb.size (.cells #[.int .i64 0, .slice none 0 0] 24)).mono HW4.out.size)); obtain ⟨x50, x51, x52, x53⟩ := HD5.out.1.cells; clear hb))
            | (go_at_call 32; ((with_reducible refine (minus_badat HD5.out N' a' q' c').mono ?_); rintro e v6 ⟨rfl, hb⟩; have HD6 := Lib.hid ((HD5.out.keep hb).alloc (.cells #[.int .i64 0, .slice none 0 0] 24)); have HS6 := Lib.hid ((HS5.out.keep hb).alloc (.cells #[.int .i64 0, .slice none 0 0] 24)); have HW6 := Lib.hid (HW5.out.trans ((hb.alloc hb.size (.cells #[.int .i64 0, .slice none 0 0] 24)).mono HW5.out.size)); obtain ⟨x60, x61, x62, x63⟩ := HD6.out.1.cells; clear hb))
            | (go_at_call 20; ((with_reducible refine (select_badat HD6.out 0).mono ?_); rintro e v7 ⟨rfl, hb⟩; have HD7 := Lib.hid (HD6.out.keep hb); have HS7 := Lib.hid (HS6.out.keep hb); have HW7 := Lib.hid (HW6.out.trans (hb.mono HW6.out.size)); obtain ⟨x70, x71, x72, x73⟩ := HD7.out.1.cells; clear hb))
            | (go_at_call 26; ((with_reducible refine (next_badat HD7.out 0).mono ?_); rintro e v8 ⟨rfl, hb⟩; have HD8 := Lib.hid (HD7.out.keep hb); have HS8 := Lib.hid (HS7.out.keep hb); have HW8 := Lib.hid (HW7.out.trans (hb.mono HW7.out.size)); obtain ⟨x80, x81, x82, x83⟩ := HD8.out.1.cells; clear hb))
            | (go_at_call 27; ((with_reducible refine (before_badat HD8.out 1000).mono ?_); rintro e v9 ⟨rfl, hb⟩; have HD9 := Lib.hid (HD8.out.keep hb); have HS9 := Lib.hid (HS8.out.keep hb); have HW9 := Lib.hid (HW8.out.trans (hb.mono HW8.out.size)); obtain ⟨x90, x91, x92, x93⟩ := HD9.out.1.cells; clear hb))
            | (go_at_call 18; ((with_reducible refine (new_no N' HNN2.out _).mono ?_); rintro e v10 ⟨rfl, hb⟩; have HD10 := Lib.hid ((HD9.out.keep hb).alloc (.cells #[.int .i64 0, .slice none 0 0] 24)); have HW10 := Lib.hid (HW9.out.trans ((hb.alloc hb.size (.cells #[.int .i64 0, .slice none 0 0] 24)).mono HW9.out.size)); clear hb)))
          clear d0 d1 d2 d3 x10 x11 x12 x13 x20 x21 x22 x23 x30 x31 x32 x33 x40 x41 x42 x43 x50 x51 x52 x53 x60 x61 x62 x63 x70 x71 x72 x73 x80 x81 x82 x83 x90 x91 x92 x93 y30 y31 y32 y33 y40 y41 y42 y43
          have HD11 := Lib.hid (HD10.out.alloc (.cells #[.int .i64 50, .int .i64 50, .int .i64 50, .int .i64 50, .int .i64 50, .int .i64 50] 35))
          have HW11 := Lib.hid (HW10.out.alloc HW10.out.size (.cells #[.int .i64 50, .int .i64 50, .int .i64 50, .int .i64 50, .int .i64 50, .int .i64 50] 35))
          have HSX := Lib.hid (six_cells (v10.alloc (.cells #[.int .i64 0, .slice none 0 0] 24)) (.int .i64 50) 35)
          have HSZ : Hid (((v10.alloc (.cells #[.int .i64 0, .slice none 0 0] 24)).alloc (.cells #[.int .i64 50, .int .i64 50, .int .i64 50, .int .i64 50, .int .i64 50, .int .i64 50] 35)).heap.size = (v10.alloc (.cells #[.int .i64 0, .slice none 0 0] 24)).heap.size + 1) := by show _ = _; simp
          have HTZ2 : Hid ((v10.alloc (.cells #[.int .i64 0, .slice none 0 0] 24)).heap.size = v10.heap.size + 1) := by show _ = _; simp
          rw [HTZ2.out] at HSX HSZ
          obtain ⟨t1, ht1'⟩ : ∃ t1, v10.heap.size + 1 = t1 := ⟨_, rfl⟩
          rw [ht1'] at HSX HSZ ⊢
          generalize (v10.alloc (.cells #[.int .i64 0, .slice none 0 0] 24)).alloc (.cells #[.int .i64 50, .int .i64 50, .int .i64 50, .int .i64 50, .int .i64 50, .int .i64 50] 35) = W2 at HD11 HW11 HSX HSZ ⊢
          clear ht1' HTZ2 HD0 HS0 HW0 HD1 HW1 HD2 HW2 HD3 HW3 HD4 HW4 HD5 HW5 HD6 HW6 HD7 HW7 HD8 HW8 HD9 HW9 HD10 HW10 HS1 HS2 HS3 HS4 HS5 HS6 HS7 HS8 HS9
          have HZ2 : Hid (Below W2.heap.size W2 W2) := Below.refl _ _
          go_loopw [209] (fun iv wr => ∃ k : Nat, k ≤ 6 ∧ iv = .int .i64 k ∧ Hid (Below W2.heap.size W2 wr)) (fun i _ => 6 - (intOf i).toNat)
          case atStart => exact ⟨0, by omega, rfl, HZ2⟩
          case round =>
            obtain ⟨k, hk6, rfl, HBL⟩ := hrel
            by_cases hk : k < 6
            · have c0 : wr.cell? ⟨t1, k, none⟩ = some (.int .i64 50) := (HBL.out.cell (p := ⟨t1, k, none⟩) (by rw [HSZ.out]; exact Nat.lt_succ_self _)).trans (HSX.out k hk)
              have hki : (k : Int) < 6 := by omega
              go_wp2_with fail
              exact ⟨⟨k + 1, hk, rfl, HBL⟩, by simp [intOf]; omega⟩
            · obtain rfl : k = 6 := by omega
              have hk7 : ¬ (6 : Int) < 6 := by omega
              go_wp2_with fail
              have HE0 := Lib.hid (HD11.out.keep HBL.out)
              have HWL := Lib.hid (HW11.out.trans (HBL.out.mono HW11.out.size))
              obtain ⟨z0, z1, z2, z3⟩ := HE0.out.1.cells
              first | (go_region_held3 (fun W => W.cell? ⟨b2, 0, none⟩ = some (.int .i64 N') ∧ W.cell? ⟨b2, 1, none⟩ = some (.slice a' q' c')) (first | exact ⟨z0, z1⟩ | exact ⟨(HE0.out.keep hb1).1.cells.1, (HE0.out.keep hb1).1.cells.2.1⟩ | exact ⟨(HE0.out.keep hb2).1.cells.1, (HE0.out.keep hb2).1.cells.2.1⟩ | exact ⟨(HE0.out.keep hb3).1.cells.1, (HE0.out.keep hb3).1.cells.2.1⟩ | exact ⟨(HE0.out.keep hb4).1.cells.1, (HE0.out.keep hb4).1.cells.2.1⟩ | exact ⟨(HE0.out.keep hb5).1.cells.1, (HE0.out.keep hb5).1.cells.2.1⟩ | exact ⟨(HE0.out.keep hb6).1.cells.1, (HE0.out.keep hb6).1.cells.2.1⟩ | go_keep) (first
                | (go_at_call 34; refine (right_badat (by exact HE0.out)).mono ?_; rintro e u1 ⟨rfl, hb1'⟩; have hb1 : Below wr.heap.size wr u1 := (Below.refl _ wr).drew.trans hb1'; clear hb1')
                | (go_at_call 28; refine (has_badat (by exact HE0.out.keep hb1) 0).mono ?_; rintro e u2 ⟨rfl, hb2'⟩; have hb2 : Below wr.heap.size wr u2 := hb1.trans (hb2'.mono hb1.size); clear hb2')
                | (go_at_call 21; refine (count_badat (by exact HE0.out.keep hb2)).mono ?_; rintro e u3 ⟨rfl, hb3'⟩; have hb3 : Below wr.heap.size wr u3 := hb2.trans (hb3'.mono hb2.size); clear hb3')
                | (go_at_call 25; refine (rank_badat (by exact HE0.out.keep hb3) 5).mono ?_; rintro e u4 ⟨rfl, hb4'⟩; have hb4 : Below wr.heap.size wr u4 := hb3.trans (hb4'.mono hb3.size); clear hb4')
                | (go_at_call 24; refine (members_badat (by exact HE0.out.keep hb4)).mono ?_; rintro e u5 ⟨⟨A1, d1, rfl⟩, hb5'⟩; have hb5 : Below wr.heap.size wr u5 := hb4.trans (hb5'.mono hb4.size); clear hb5')
                | (go_at_call 22; refine (runs_badat (by exact HE0.out.keep hb5)).mono ?_; rintro e u6 ⟨⟨A2, d2, rfl⟩, hb6'⟩; have hb6 : Below wr.heap.size wr u6 := hb5.trans (hb6'.mono hb5.size); clear hb6'))) | fail
              rename_i hcont7 hheld7
              refine hcont7 _ _ ?_
              go_wp2_with fail
              go_ret
              exact ⟨rfl, HWL.out.trans (hb6.mono HWL.out.size)⟩

theorem wrong_walk (a0 : Int) (a1 : Option Addr) (len1 cap1 : Nat) (z1 : List Int) (a2 : Int) (a3 : Int) (w : World) (w0 : (Lit.int .u16 a0).wf = true) (w1 : IsRow .u64 w a1 len1 cap1 z1) (w2 : (Lit.int .u8 a2).wf = true) (w3 : (Lit.int .i64 a3).wf = true) (wx : HT w) :
    Calls Tryd.prog 11 #[.int .u16 a0, .slice a1 len1 cap1, .int .u8 a2, .int .i64 a3] w fun e w' => e = .returned (.bool true) ∧ Below w.heap.size w w' := by
  obtain ⟨xs, hn, hS, hx, h1, h2⟩ := row_u64 w1
  have b0 := bounds_u16 w0
  have b2 := bounds_u8 w2
  have b3 := bounds_i64 w3
  obtain ⟨x0, rfl⟩ : ∃ x : Nat, a0 = (x : Int) := ⟨a0.toNat, by omega⟩
  obtain ⟨x2, rfl⟩ : ∃ x : Nat, a2 = (x : Int) := ⟨a2.toNat, by omega⟩
  exact wrong_law x0 (by omega) a1 len1 cap1 xs hn h1 h2 hx x2 (by omega) a3 (by omega) (by omega) w hS wx
end Go.Proofs.YtkochcolmkgkgaaDoor
