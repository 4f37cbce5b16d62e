/-
  The walk of BitsAlgebra.
-/
import Derived.Test.YtkochcolmkgkgaaDoorEnds
import Derived.Test.YtkochcolmkgkgaaDoorOneM
import Derived.Laws.Cover1
import Derived.Deep.RegionHeld3
import Derived.Deep.RegionWith
import Derived.Deep.CutBlock
import Derived.Deep.DeepCutAuto
namespace Go.Proofs.YtkochcolmkgkgaaDoor
open Go.RowKit
set_option linter.unusedVariables false

set_option maxRecDepth 100000 in
set_option maxHeartbeats 20000000 in
theorem algebra_law (n : Nat) (hn : n < 65536) (a : Option Addr) (m c : Nat) (xs : List Nat) (hm : xs.length = m) (hmc : m ≤ c) (hcm : c ≤ maxLen) (hx : ∀ x ∈ xs, x < 2 ^ 64) (a2 : Option Addr) (m2 c2 : Nat) (xs2 : List Nat) (hm2 : xs2.length = m2) (hmc2 : m2 ≤ c2) (hcm2 : c2 ≤ maxLen) (hx2 : ∀ x ∈ xs2, x < 2 ^ 64) (w : World) (hS : Seen w w.heap.size .u64 a xs) (hS2 : Seen w w.heap.size .u64 a2 xs2) (hT : HT w) :
    Calls Tryd.prog 9 #[.int .u16 n, .slice a m c, .slice a2 m2 c2] w fun e w' => e = .returned (.bool true) ∧ Below w.heap.size w w' := by
  have HTT : Hid (HT w) := hT
  have HPW : Hid (0 < w.heap.size) := hT.pos
  have HNN := Lib.hid hn
  obtain ⟨k, hk⟩ : ∃ k, min (min m m2) 16 = k := ⟨_, rfl⟩
  have hmin3 : ∀ (ts : Array TypeId) (t : TypeId) (W : World), (Builtin.min_ ts t #[.int .i64 (m : Int), .int .i64 (m2 : Int), .int .i64 16]).run Tryd.prog W = .ok (.int .i64 (k : Int)) W := fun ts t W => by
    rw [run_min_int3]
    have e : (if (16 : Int) < (if (m2 : Int) < (m : Int) then (m2 : Int) else (m : Int)) then (16 : Int) else (if (m2 : Int) < (m : Int) then (m2 : Int) else (m : Int))) = (k : Int) := by
      split <;> split at * <;> omega
    rw [e]
  unfold maxLen at hcm hcm2
  have hk16 : (k : Int) ≤ 16 := by omega
  have hkc : (k : Int) ≤ (c : Int) := by omega
  have hkc' : k ≤ c := by omega
  have hkc2 : (k : Int) ≤ (c2 : Int) := by omega
  have hkc2' : k ≤ c2 := by omega
  have hkm : k ≤ m := by omega
  have hkm2 : k ≤ m2 := by omega
  have HL1 : Hid ((xs.take k).length = k) := by show _ = _; rw [List.length_take]; omega
  have HL2 : Hid ((xs2.take k).length = k) := by show _ = _; rw [List.length_take]; omega
  have HX1 : Hid (∀ x ∈ xs.take k, x < 2 ^ 64) := fun y hy => hx y (List.mem_of_mem_take hy)
  have HX2 : Hid (∀ x ∈ xs2.take k, x < 2 ^ 64) := fun y hy => hx2 y (List.mem_of_mem_take hy)
  have HS1 : Hid (Seen w w.heap.size .u64 a (xs.take k)) := fun i x hi => by
    rw [List.getElem?_take] at hi
    split at hi
    · exact hS i x hi
    · cases hi
  have HS2 : Hid (Seen w w.heap.size .u64 a2 (xs2.take k)) := fun i x hi => by
    rw [List.getElem?_take] at hi
    split at hi
    · exact hS2 i x hi
    · cases hi
  have HKC := Lib.hid hkc'
  have HKC2 := Lib.hid hkc2'
  have HCM : Hid (c ≤ maxLen) := by show c ≤ maxLen; unfold maxLen; omega
  have HCM2 : Hid (c2 ≤ maxLen) := by show c2 ≤ maxLen; unfold maxLen; omega
  obtain ⟨N, hN⟩ : ∃ N, n % (64 * min k 16 + 1) = N := ⟨_, rfl⟩
  have HNE := Lib.hid hN
  have hN6 : (N : Int) ≤ 1024 := by have h2 := Nat.mod_lt n (show 0 < 64 * min k 16 + 1 by omega); omega
  clear hT hS hS2 hm hm2 hmc hmc2 hcm hcm2 hx hx2 hn hk hN hkm hkm2
  go_enter Tryd.func9, Tryd.ntmps9
  go_upto_region 4 with (first
    | (go_at_call 13; ((with_reducible refine (awake_any w HTT.out).mono ?_); rintro e w1 ⟨rfl, hb1⟩; have HB1 := Lib.hid hb1; clear hb1)))
  go_cut [8, 9] (fun s8 s9 wx => ∃ (b8 b9 : Nat) (sa sb : Option Addr) (cs cb q : Nat) (ys zs : List Nat), s8 = .pointer (some ⟨b8, 0, none⟩) ∧ s9 = .pointer (some ⟨b9, 0, none⟩) ∧ Hid (SetAt wx b8 N q sa cs ys) ∧ Hid (SetAt wx b9 N q sb cb zs) ∧ Hid (Below w.heap.size w wx))
  case first => as_aux_lemma =>
    have U0 : Hid (Below w.heap.size w w1.drew) := HB1.out.drew
    have U1 : Hid (Below w.heap.size w (w1.alloc (.cells #[.int .i64 0, .slice none 0 0] 24)).drew) := U0.out.alloc U0.out.size _
    have U2 : Hid (Below w.heap.size w ((w1.alloc (.cells #[.int .i64 0, .slice none 0 0] 24)).alloc (.cells #[.int .i64 0, .slice none 0 0] 24)).drew) := U1.out.alloc U1.out.size _
    have S0 : Hid (Seen w1.drew w.heap.size .u64 a (xs.take k)) := HS1.out.below U0.out
    have S1 : Hid (Seen (w1.alloc (.cells #[.int .i64 0, .slice none 0 0] 24)).drew w.heap.size .u64 a (xs.take k)) := HS1.out.below U1.out
    have S2 : Hid (Seen ((w1.alloc (.cells #[.int .i64 0, .slice none 0 0] 24)).alloc (.cells #[.int .i64 0, .slice none 0 0] 24)).drew w.heap.size .u64 a (xs.take k)) := HS1.out.below U2.out
    go_region_with (first
      | (go_at_call 23; ((with_reducible refine (made_any n HNN.out a k c (xs.take k) HL1.out HKC.out HCM.out HX1.out w1.drew w.heap.size S0.out U0.out.size N HNE.out).mono ?_); rintro e w2 ⟨sa, cs, q, ys, rfl, hR, hown, hb2⟩; have HB2 := Lib.hid (U0.out.trans (hb2.mono U0.out.size)); have HR1 : Hid (Bm.Rt N ys) := hR; have F1 : Hid (RowF w2 sa cs q N ys) := (own_row hown hR).1; have G1 : ∀ g off, sa = some (⟨g, off, none⟩ : Addr) → w1.heap.size + 0 ≤ g ∧ g < w2.heap.size := fun g off h => ⟨Nat.le_trans (by first | (simp; done) | (simp; omega)) ((own_row hown hR).2 g off h).1, ((own_row hown hR).2 g off h).2⟩; clear hb2 hown hR))
      | (go_at_call 23; ((with_reducible refine (made_any n HNN.out a k c (xs.take k) HL1.out HKC.out HCM.out HX1.out (w1.alloc (.cells #[.int .i64 0, .slice none 0 0] 24)).drew w.heap.size S1.out U1.out.size N HNE.out).mono ?_); rintro e w2 ⟨sa, cs, q, ys, rfl, hR, hown, hb2⟩; have HB2 := Lib.hid (U1.out.trans (hb2.mono U1.out.size)); have HR1 : Hid (Bm.Rt N ys) := hR; have F1 : Hid (RowF w2 sa cs q N ys) := (own_row hown hR).1; have G1 : ∀ g off, sa = some (⟨g, off, none⟩ : Addr) → w1.heap.size + 1 ≤ g ∧ g < w2.heap.size := fun g off h => ⟨Nat.le_trans (by first | (simp; done) | (simp; omega)) ((own_row hown hR).2 g off h).1, ((own_row hown hR).2 g off h).2⟩; have P1 : Hid (Box w2 w1.heap.size (.int .i64 0) (.slice none 0 0)) := ((Box.new w1.drew (.int .i64 0) (.slice none 0 0)).keep hb2); obtain ⟨fP10, fP11, fP12, fP13⟩ := P1.out.cells; have lP1 := P1.out.lt; clear hb2 hown hR))
      | (go_at_call 23; ((with_reducible refine (made_any n HNN.out a k c (xs.take k) HL1.out HKC.out HCM.out HX1.out ((w1.alloc (.cells #[.int .i64 0, .slice none 0 0] 24)).alloc (.cells #[.int .i64 0, .slice none 0 0] 24)).drew w.heap.size S2.out U2.out.size N HNE.out).mono ?_); rintro e w2 ⟨sa, cs, q, ys, rfl, hR, hown, hb2⟩; have HB2 := Lib.hid (U2.out.trans (hb2.mono U2.out.size)); have HR1 : Hid (Bm.Rt N ys) := hR; have F1 : Hid (RowF w2 sa cs q N ys) := (own_row hown hR).1; have G1 : ∀ g off, sa = some (⟨g, off, none⟩ : Addr) → w1.heap.size + 2 ≤ g ∧ g < w2.heap.size := fun g off h => ⟨Nat.le_trans (by first | (simp; done) | (simp; omega)) ((own_row hown hR).2 g off h).1, ((own_row hown hR).2 g off h).2⟩; have P1 : Hid (Box w2 w1.heap.size (.int .i64 0) (.slice none 0 0)) := (((box2 w1.drew (.int .i64 0) (.slice none 0 0) (.int .i64 0) (.slice none 0 0)).1).keep hb2); obtain ⟨fP10, fP11, fP12, fP13⟩ := P1.out.cells; have lP1 := P1.out.lt; have P2 : Hid (Box w2 (w1.heap.size + 1) (.int .i64 0) (.slice none 0 0)) := (((box2 w1.drew (.int .i64 0) (.slice none 0 0) (.int .i64 0) (.slice none 0 0)).2).keep hb2); obtain ⟨fP20, fP21, fP22, fP23⟩ := P2.out.cells; have lP2 := P2.out.lt; clear hb2 hown hR))
      | (go_at_call 23; ((with_reducible refine (made_any n HNN.out a2 k c2 (xs2.take k) HL2.out HKC2.out HCM2.out HX2.out w2 w.heap.size (HS2.out.below HB2.out) HB2.out.size N HNE.out).mono ?_); rintro e w3 ⟨sb, cb, q2, zs, rfl, hR, hown, hb3⟩; have HB3 := Lib.hid (HB2.out.trans (hb3.mono HB2.out.size)); have HR2 : Hid (Bm.Rt N zs) := hR; have F2 : Hid (RowF w3 sb cb q2 N zs) := (own_row hown hR).1; have G2 : ∀ g off, sb = some (⟨g, off, none⟩ : Addr) → w2.heap.size + 0 ≤ g ∧ g < w3.heap.size := fun g off h => ⟨Nat.le_trans (by first | (simp; done) | (simp; omega)) ((own_row hown hR).2 g off h).1, ((own_row hown hR).2 g off h).2⟩; have H23 : Hid (Below w2.heap.size w2 w3) := hb3; have hz23 := H23.out.size; have HK23 := Lib.hid hb3; (try (have P1' := Lib.hid ((P1.out).keep hb3); obtain ⟨gP10, gP11, gP12, gP13⟩ := P1'.out.cells; have mP1 := P1'.out.lt; obtain ⟨kP10, kP11, kP12, kP13⟩ := (P1'.out.alloc (.cells #[.int .i64 0, .slice none 0 0] 24)).cells)); (try (have P2' := Lib.hid ((P2.out).keep hb3); obtain ⟨gP20, gP21, gP22, gP23⟩ := P2'.out.cells; have mP2 := P2'.out.lt; obtain ⟨kP20, kP21, kP22, kP23⟩ := (P2'.out.alloc (.cells #[.int .i64 0, .slice none 0 0] 24)).cells)); clear hb3 hown hR))
      | (go_at_call 23; ((with_reducible refine (made_any n HNN.out a2 k c2 (xs2.take k) HL2.out HKC2.out HCM2.out HX2.out (w2.alloc (.cells #[.int .i64 0, .slice none 0 0] 24)) w.heap.size (HS2.out.below (HB2.out.alloc HB2.out.size _)) (HB2.out.alloc HB2.out.size _).size N HNE.out).mono ?_); rintro e w3 ⟨sb, cb, q2, zs, rfl, hR, hown, hb3⟩; have HB3 := Lib.hid ((HB2.out.alloc HB2.out.size _).trans (hb3.mono (HB2.out.alloc HB2.out.size _).size)); have HR2 : Hid (Bm.Rt N zs) := hR; have F2 : Hid (RowF w3 sb cb q2 N zs) := (own_row hown hR).1; have G2 : ∀ g off, sb = some (⟨g, off, none⟩ : Addr) → w2.heap.size + 1 ≤ g ∧ g < w3.heap.size := fun g off h => ⟨Nat.le_trans (by first | (simp; done) | (simp; omega)) ((own_row hown hR).2 g off h).1, ((own_row hown hR).2 g off h).2⟩; have H23 : Hid (Below w2.heap.size w2 w3) := ((Below.refl _ w2).alloc (Nat.le_refl _) _).trans (hb3.mono (by first | (simp; done) | (simp; omega))); have hz23 := H23.out.size; have HK23 := Lib.hid hb3; (try (have P1' := Lib.hid ((P1.out.alloc _).keep hb3); obtain ⟨gP10, gP11, gP12, gP13⟩ := P1'.out.cells; have mP1 := P1'.out.lt; obtain ⟨kP10, kP11, kP12, kP13⟩ := (P1'.out.alloc (.cells #[.int .i64 0, .slice none 0 0] 24)).cells)); (try (have P2' := Lib.hid ((P2.out.alloc _).keep hb3); obtain ⟨gP20, gP21, gP22, gP23⟩ := P2'.out.cells; have mP2 := P2'.out.lt; obtain ⟨kP20, kP21, kP22, kP23⟩ := (P2'.out.alloc (.cells #[.int .i64 0, .slice none 0 0] 24)).cells)); have Q1 := Lib.hid ((Box.new w2 (.int .i64 0) (.slice none 0 0)).keep hb3); obtain ⟨fQ10, fQ11, fQ12, fQ13⟩ := Q1.out.cells; have lQ1 := Q1.out.lt; obtain ⟨kQ10, kQ11, kQ12, kQ13⟩ := (Q1.out.alloc (.cells #[.int .i64 0, .slice none 0 0] 24)).cells; clear hb3 hown hR))
      | (go_at_call 23; ((with_reducible refine (made_any n HNN.out a2 k c2 (xs2.take k) HL2.out HKC2.out HCM2.out HX2.out ((w2.alloc (.cells #[.int .i64 0, .slice none 0 0] 24)).alloc (.cells #[.int .i64 0, .slice none 0 0] 24)) w.heap.size (HS2.out.below ((HB2.out.alloc HB2.out.size _).alloc (HB2.out.alloc HB2.out.size _).size _)) ((HB2.out.alloc HB2.out.size _).alloc (HB2.out.alloc HB2.out.size _).size _).size N HNE.out).mono ?_); rintro e w3 ⟨sb, cb, q2, zs, rfl, hR, hown, hb3⟩; have HB3 := Lib.hid (((HB2.out.alloc HB2.out.size _).alloc (HB2.out.alloc HB2.out.size _).size _).trans (hb3.mono ((HB2.out.alloc HB2.out.size _).alloc (HB2.out.alloc HB2.out.size _).size _).size)); have HR2 : Hid (Bm.Rt N zs) := hR; have F2 : Hid (RowF w3 sb cb q2 N zs) := (own_row hown hR).1; have G2 : ∀ g off, sb = some (⟨g, off, none⟩ : Addr) → w2.heap.size + 2 ≤ g ∧ g < w3.heap.size := fun g off h => ⟨Nat.le_trans (by first | (simp; done) | (simp; omega)) ((own_row hown hR).2 g off h).1, ((own_row hown hR).2 g off h).2⟩; have H23 : Hid (Below w2.heap.size w2 w3) := (below2 w2 _ _).trans (hb3.mono (by first | (simp; done) | (simp; omega))); have hz23 := H23.out.size; have HK23 := Lib.hid hb3; (try (have P1' := Lib.hid (((P1.out.alloc _).alloc _).keep hb3); obtain ⟨gP10, gP11, gP12, gP13⟩ := P1'.out.cells; have mP1 := P1'.out.lt; obtain ⟨kP10, kP11, kP12, kP13⟩ := (P1'.out.alloc (.cells #[.int .i64 0, .slice none 0 0] 24)).cells)); (try (have P2' := Lib.hid (((P2.out.alloc _).alloc _).keep hb3); obtain ⟨gP20, gP21, gP22, gP23⟩ := P2'.out.cells; have mP2 := P2'.out.lt; obtain ⟨kP20, kP21, kP22, kP23⟩ := (P2'.out.alloc (.cells #[.int .i64 0, .slice none 0 0] 24)).cells)); have Q1 := Lib.hid ((box2 w2 (.int .i64 0) (.slice none 0 0) (.int .i64 0) (.slice none 0 0)).1.keep hb3); obtain ⟨fQ10, fQ11, fQ12, fQ13⟩ := Q1.out.cells; have lQ1 := Q1.out.lt; obtain ⟨kQ10, kQ11, kQ12, kQ13⟩ := (Q1.out.alloc (.cells #[.int .i64 0, .slice none 0 0] 24)).cells; have Q2 := Lib.hid ((box2 w2 (.int .i64 0) (.slice none 0 0) (.int .i64 0) (.slice none 0 0)).2.keep hb3); obtain ⟨fQ20, fQ21, fQ22, fQ23⟩ := Q2.out.cells; have lQ2 := Q2.out.lt; obtain ⟨kQ20, kQ21, kQ22, kQ23⟩ := (Q2.out.alloc (.cells #[.int .i64 0, .slice none 0 0] 24)).cells; clear hb3 hown hR)))
    all_goals
      go_wp2
      go_meet
      have hq : q = q2 := by rw [← F1.out.2.1, ← F2.out.2.1, HR1.out.2.1, HR2.out.2.1]
      subst hq
      have R1 := F1.out.keep H23.out
      have R2 := F2.out
      have hw1 : w.heap.size ≤ w1.heap.size := HB1.out.size
      have hw2 : w.heap.size ≤ w2.heap.size := HB2.out.size
      have HW3 := HB3.out
      first
        | (have t := ends_aa HW3 R1 R2; with_reducible exact ⟨_, _, sa, sb, cs, cb, q, ys, zs, rfl, rfl, Lib.hid t.1, Lib.hid t.2.1, Lib.hid t.2.2⟩)
        | (have t := ends_aa HW3 R2 R1; with_reducible exact ⟨_, _, sa, sb, cs, cb, q, ys, zs, rfl, rfl, Lib.hid t.2.1, Lib.hid t.1, Lib.hid t.2.2⟩)
        | (have t := (ends_sa HW3 (by omega) P1'.out R1 R2 (fun g off h => by have := G1 g off h; omega) (fun g off h => by have := G2 g off h; omega)); with_reducible exact ⟨_, _, sa, sb, cs, cb, q, ys, zs, rfl, rfl, Lib.hid t.1, Lib.hid t.2.1, Lib.hid t.2.2⟩)
        | (have t := (ends_sa HW3 (by omega) P1'.out R2 R1 (fun g off h => by have := G2 g off h; omega) (fun g off h => by have := G1 g off h; omega)); with_reducible exact ⟨_, _, sa, sb, cs, cb, q, ys, zs, rfl, rfl, Lib.hid t.2.1, Lib.hid t.1, Lib.hid t.2.2⟩)
        | (have t := (ends_sa HW3 (by omega) Q1.out R1 R2 (fun g off h => by have := G1 g off h; omega) (fun g off h => by have := G2 g off h; omega)); with_reducible exact ⟨_, _, sa, sb, cs, cb, q, ys, zs, rfl, rfl, Lib.hid t.1, Lib.hid t.2.1, Lib.hid t.2.2⟩)
        | (have t := (ends_sa HW3 (by omega) Q1.out R2 R1 (fun g off h => by have := G2 g off h; omega) (fun g off h => by have := G1 g off h; omega)); with_reducible exact ⟨_, _, sa, sb, cs, cb, q, ys, zs, rfl, rfl, Lib.hid t.2.1, Lib.hid t.1, Lib.hid t.2.2⟩)
        | (have t := (ends_ss HW3 (by omega) (by omega) (by omega) Q1.out Q2.out R1 R2 (fun g off h => by have := G1 g off h; constructor <;> omega) (fun g off h => by have := G2 g off h; constructor <;> omega)); with_reducible exact ⟨_, _, sa, sb, cs, cb, q, ys, zs, rfl, rfl, Lib.hid t.1, Lib.hid t.2.1, Lib.hid t.2.2⟩)
        | (have t := (ends_ss HW3 (by omega) (by omega) (by omega) Q1.out Q2.out R2 R1 (fun g off h => by have := G2 g off h; constructor <;> omega) (fun g off h => by have := G1 g off h; constructor <;> omega)); with_reducible exact ⟨_, _, sa, sb, cs, cb, q, ys, zs, rfl, rfl, Lib.hid t.2.1, Lib.hid t.1, Lib.hid t.2.2⟩)
        | (have t := (ends_ss HW3 (by omega) (by omega) (by omega) Q2.out Q1.out R1 R2 (fun g off h => by have := G1 g off h; constructor <;> omega) (fun g off h => by have := G2 g off h; constructor <;> omega)); with_reducible exact ⟨_, _, sa, sb, cs, cb, q, ys, zs, rfl, rfl, Lib.hid t.1, Lib.hid t.2.1, Lib.hid t.2.2⟩)
        | (have t := (ends_ss HW3 (by omega) (by omega) (by omega) Q2.out Q1.out R2 R1 (fun g off h => by have := G2 g off h; constructor <;> omega) (fun g off h => by have := G1 g off h; constructor <;> omega)); with_reducible exact ⟨_, _, sa, sb, cs, cb, q, ys, zs, rfl, rfl, Lib.hid t.2.1, Lib.hid t.1, Lib.hid t.2.2⟩)
        | (have t := (ends_ss HW3 (by omega) (by omega) (by omega) P1'.out P2'.out R1 R2 (fun g off h => by have := G1 g off h; constructor <;> omega) (fun g off h => by have := G2 g off h; constructor <;> omega)); with_reducible exact ⟨_, _, sa, sb, cs, cb, q, ys, zs, rfl, rfl, Lib.hid t.1, Lib.hid t.2.1, Lib.hid t.2.2⟩)
        | (have t := (ends_ss HW3 (by omega) (by omega) (by omega) P1'.out P2'.out R2 R1 (fun g off h => by have := G2 g off h; constructor <;> omega) (fun g off h => by have := G1 g off h; constructor <;> omega)); with_reducible exact ⟨_, _, sa, sb, cs, cb, q, ys, zs, rfl, rfl, Lib.hid t.2.1, Lib.hid t.1, Lib.hid t.2.2⟩)
        | (have t := (ends_ss HW3 (by omega) (by omega) (by omega) P2'.out P1'.out R1 R2 (fun g off h => by have := G1 g off h; constructor <;> omega) (fun g off h => by have := G2 g off h; constructor <;> omega)); with_reducible exact ⟨_, _, sa, sb, cs, cb, q, ys, zs, rfl, rfl, Lib.hid t.1, Lib.hid t.2.1, Lib.hid t.2.2⟩)
        | (have t := (ends_ss HW3 (by omega) (by omega) (by omega) P2'.out P1'.out R2 R1 (fun g off h => by have := G2 g off h; constructor <;> omega) (fun g off h => by have := G1 g off h; constructor <;> omega)); with_reducible exact ⟨_, _, sa, sb, cs, cb, q, ys, zs, rfl, rfl, Lib.hid t.2.1, Lib.hid t.1, Lib.hid t.2.2⟩)
        | (have t := (ends_ss HW3 (by omega) (by omega) (by omega) P1'.out Q1.out R1 R2 (fun g off h => by have := G1 g off h; constructor <;> omega) (fun g off h => by have := G2 g off h; constructor <;> omega)); with_reducible exact ⟨_, _, sa, sb, cs, cb, q, ys, zs, rfl, rfl, Lib.hid t.1, Lib.hid t.2.1, Lib.hid t.2.2⟩)
        | (have t := (ends_ss HW3 (by omega) (by omega) (by omega) P1'.out Q1.out R2 R1 (fun g off h => by have := G2 g off h; constructor <;> omega) (fun g off h => by have := G1 g off h; constructor <;> omega)); with_reducible exact ⟨_, _, sa, sb, cs, cb, q, ys, zs, rfl, rfl, Lib.hid t.2.1, Lib.hid t.1, Lib.hid t.2.2⟩)
        | (have t := (ends_ss HW3 (by omega) (by omega) (by omega) Q1.out P1'.out R1 R2 (fun g off h => by have := G1 g off h; constructor <;> omega) (fun g off h => by have := G2 g off h; constructor <;> omega)); with_reducible exact ⟨_, _, sa, sb, cs, cb, q, ys, zs, rfl, rfl, Lib.hid t.1, Lib.hid t.2.1, Lib.hid t.2.2⟩)
        | (have t := (ends_ss HW3 (by omega) (by omega) (by omega) Q1.out P1'.out R2 R1 (fun g off h => by have := G2 g off h; constructor <;> omega) (fun g off h => by have := G1 g off h; constructor <;> omega)); with_reducible exact ⟨_, _, sa, sb, cs, cb, q, ys, zs, rfl, rfl, Lib.hid t.2.1, Lib.hid t.1, Lib.hid t.2.2⟩)
  case rest =>
    obtain ⟨b8, b9, sa, sb, cs, cb, q, ys, zs, rfl, rfl, HA0, HB0, HW0⟩ := hcut
    obtain ⟨lo, la, lm, lp, lq, lx, HLO, HLA, HLM, HLP, HLQ, HLX, HLY, HLZ, HLB, HRO, HRA, HRM, HRP, HRQ, HRX, HBO, HBA, HBM, HBP, HC1, HC2⟩ := Bm.alg_math HA0.out.2.2.2.2.2 HB0.out.2.2.2.2.2
    have HR1 := Lib.hid HA0.out.2.2.2.2.2
    have HR2 := Lib.hid HB0.out.2.2.2.2.2
    replace HLO := Lib.hid HLO
    replace HLA := Lib.hid HLA
    replace HLM := Lib.hid HLM
    replace HLP := Lib.hid HLP
    replace HLQ := Lib.hid HLQ
    replace HLX := Lib.hid HLX
    replace HLY := Lib.hid HLY
    replace HLZ := Lib.hid HLZ
    replace HLB := Lib.hid HLB
    replace HRO := Lib.hid HRO
    replace HRA := Lib.hid HRA
    replace HRM := Lib.hid HRM
    replace HRP := Lib.hid HRP
    replace HRQ := Lib.hid HRQ
    replace HRX := Lib.hid HRX
    replace HBO := Lib.hid HBO
    replace HBA := Lib.hid HBA
    replace HBM := Lib.hid HBM
    replace HBP := Lib.hid HBP
    replace HC1 := Lib.hid HC1
    replace HC2 := Lib.hid HC2
    obtain ⟨xA00, xA01, xA02, xA03⟩ := HA0.out.1.cells
    obtain ⟨xB00, xB01, xB02, xB03⟩ := HB0.out.1.cells
    go_wp2_with (first
      | (go_at_call 30; ((with_reducible refine (or_at HA0.out HB0.out HLO.out).mono ?_); rintro e v1 ⟨g1, rfl, ho, hb⟩; obtain ⟨D1, hD1⟩ : ∃ D, v1.alloc (.cells #[.int .i64 N, .slice (some ⟨g1, 0, none⟩) q q] 24) = D := ⟨_, rfl⟩; obtain ⟨p1, hp1⟩ : ∃ p, v1.heap.size = p := ⟨_, rfl⟩; have HA1 := Lib.hid ((HA0.out.keep hb).alloc (.cells #[.int .i64 N, .slice (some ⟨g1, 0, none⟩) q q] 24)); rw [hD1] at HA1; have HB1 := Lib.hid ((HB0.out.keep hb).alloc (.cells #[.int .i64 N, .slice (some ⟨g1, 0, none⟩) q q] 24)); rw [hD1] at HB1; have HOR1 := Lib.hid (SetAt.new ho HRO.out); rw [hD1, hp1] at HOR1; have HW1 := Lib.hid (HW0.out.trans ((hb.alloc hb.size (.cells #[.int .i64 N, .slice (some ⟨g1, 0, none⟩) q q] 24)).mono HW0.out.size)); rw [hD1] at HW1; obtain ⟨xA10, xA11, xA12, xA13⟩ := HA1.out.1.cells; obtain ⟨xB10, xB11, xB12, xB13⟩ := HB1.out.1.cells; clear ho hb))
      | (go_at_call 31; ((with_reducible refine (and_at HA1.out HB1.out HLA.out).mono ?_); rintro e v2 ⟨g2, rfl, ho, hb⟩; obtain ⟨D2, hD2⟩ : ∃ D, v2.alloc (.cells #[.int .i64 N, .slice (some ⟨g2, 0, none⟩) q q] 24) = D := ⟨_, rfl⟩; obtain ⟨p2, hp2⟩ : ∃ p, v2.heap.size = p := ⟨_, rfl⟩; have HA2 := Lib.hid ((HA1.out.keep hb).alloc (.cells #[.int .i64 N, .slice (some ⟨g2, 0, none⟩) q q] 24)); rw [hD2] at HA2; have HB2 := Lib.hid ((HB1.out.keep hb).alloc (.cells #[.int .i64 N, .slice (some ⟨g2, 0, none⟩) q q] 24)); rw [hD2] at HB2; have HOR2 := Lib.hid ((HOR1.out.keep hb).alloc (.cells #[.int .i64 N, .slice (some ⟨g2, 0, none⟩) q q] 24)); rw [hD2] at HOR2; have HAN2 := Lib.hid (SetAt.new ho HRA.out); rw [hD2, hp2] at HAN2; have HW2 := Lib.hid (HW1.out.trans ((hb.alloc hb.size (.cells #[.int .i64 N, .slice (some ⟨g2, 0, none⟩) q q] 24)).mono HW1.out.size)); rw [hD2] at HW2; obtain ⟨xA20, xA21, xA22, xA23⟩ := HA2.out.1.cells; obtain ⟨xB20, xB21, xB22, xB23⟩ := HB2.out.1.cells; clear ho hb))
      | (go_at_call 32; ((with_reducible refine (minus_at HA2.out HB2.out HLM.out).mono ?_); rintro e v3 ⟨g3, rfl, ho, hb⟩; obtain ⟨D3, hD3⟩ : ∃ D, v3.alloc (.cells #[.int .i64 N, .slice (some ⟨g3, 0, none⟩) q q] 24) = D := ⟨_, rfl⟩; obtain ⟨p3, hp3⟩ : ∃ p, v3.heap.size = p := ⟨_, rfl⟩; have HA3 := Lib.hid ((HA2.out.keep hb).alloc (.cells #[.int .i64 N, .slice (some ⟨g3, 0, none⟩) q q] 24)); rw [hD3] at HA3; have HB3 := Lib.hid ((HB2.out.keep hb).alloc (.cells #[.int .i64 N, .slice (some ⟨g3, 0, none⟩) q q] 24)); rw [hD3] at HB3; have HOR3 := Lib.hid ((HOR2.out.keep hb).alloc (.cells #[.int .i64 N, .slice (some ⟨g3, 0, none⟩) q q] 24)); rw [hD3] at HOR3; have HAN3 := Lib.hid ((HAN2.out.keep hb).alloc (.cells #[.int .i64 N, .slice (some ⟨g3, 0, none⟩) q q] 24)); rw [hD3] at HAN3; have HMI3 := Lib.hid (SetAt.new ho HRM.out); rw [hD3, hp3] at HMI3; have HW3 := Lib.hid (HW2.out.trans ((hb.alloc hb.size (.cells #[.int .i64 N, .slice (some ⟨g3, 0, none⟩) q q] 24)).mono HW2.out.size)); rw [hD3] at HW3; obtain ⟨xA30, xA31, xA32, xA33⟩ := HA3.out.1.cells; clear ho hb))
      | (go_at_call 19; ((with_reducible refine (not_at HA3.out lp HLP.out).mono ?_); rintro e v4 ⟨g4, rfl, ho, hb⟩; obtain ⟨D4, hD4⟩ : ∃ D, v4.alloc (.cells #[.int .i64 N, .slice (some ⟨g4, 0, none⟩) q q] 24) = D := ⟨_, rfl⟩; obtain ⟨p4, hp4⟩ : ∃ p, v4.heap.size = p := ⟨_, rfl⟩; have HA4 := Lib.hid ((HA3.out.keep hb).alloc (.cells #[.int .i64 N, .slice (some ⟨g4, 0, none⟩) q q] 24)); rw [hD4] at HA4; have HB4 := Lib.hid ((HB3.out.keep hb).alloc (.cells #[.int .i64 N, .slice (some ⟨g4, 0, none⟩) q q] 24)); rw [hD4] at HB4; have HOR4 := Lib.hid ((HOR3.out.keep hb).alloc (.cells #[.int .i64 N, .slice (some ⟨g4, 0, none⟩) q q] 24)); rw [hD4] at HOR4; have HAN4 := Lib.hid ((HAN3.out.keep hb).alloc (.cells #[.int .i64 N, .slice (some ⟨g4, 0, none⟩) q q] 24)); rw [hD4] at HAN4; have HMI4 := Lib.hid ((HMI3.out.keep hb).alloc (.cells #[.int .i64 N, .slice (some ⟨g4, 0, none⟩) q q] 24)); rw [hD4] at HMI4; have HP4 := Lib.hid (SetAt.new ho HRP.out); rw [hD4, hp4] at HP4; have HW4 := Lib.hid (HW3.out.trans ((hb.alloc hb.size (.cells #[.int .i64 N, .slice (some ⟨g4, 0, none⟩) q q] 24)).mono HW3.out.size)); rw [hD4] at HW4; obtain ⟨xB40, xB41, xB42, xB43⟩ := HB4.out.1.cells; clear ho hb))
      | (go_at_call 19; ((with_reducible refine (not_at HB4.out lq HLQ.out).mono ?_); rintro e v5 ⟨g5, rfl, ho, hb⟩; obtain ⟨D5, hD5⟩ : ∃ D, v5.alloc (.cells #[.int .i64 N, .slice (some ⟨g5, 0, none⟩) q q] 24) = D := ⟨_, rfl⟩; obtain ⟨p5, hp5⟩ : ∃ p, v5.heap.size = p := ⟨_, rfl⟩; have HA5 := Lib.hid ((HA4.out.keep hb).alloc (.cells #[.int .i64 N, .slice (some ⟨g5, 0, none⟩) q q] 24)); rw [hD5] at HA5; have HB5 := Lib.hid ((HB4.out.keep hb).alloc (.cells #[.int .i64 N, .slice (some ⟨g5, 0, none⟩) q q] 24)); rw [hD5] at HB5; have HOR5 := Lib.hid ((HOR4.out.keep hb).alloc (.cells #[.int .i64 N, .slice (some ⟨g5, 0, none⟩) q q] 24)); rw [hD5] at HOR5; have HAN5 := Lib.hid ((HAN4.out.keep hb).alloc (.cells #[.int .i64 N, .slice (some ⟨g5, 0, none⟩) q q] 24)); rw [hD5] at HAN5; have HMI5 := Lib.hid ((HMI4.out.keep hb).alloc (.cells #[.int .i64 N, .slice (some ⟨g5, 0, none⟩) q q] 24)); rw [hD5] at HMI5; have HP5 := Lib.hid ((HP4.out.keep hb).alloc (.cells #[.int .i64 N, .slice (some ⟨g5, 0, none⟩) q q] 24)); rw [hD5] at HP5; have HQ5 := Lib.hid (SetAt.new ho HRQ.out); rw [hD5, hp5] at HQ5; have HW5 := Lib.hid (HW4.out.trans ((hb.alloc hb.size (.cells #[.int .i64 N, .slice (some ⟨g5, 0, none⟩) q q] 24)).mono HW4.out.size)); rw [hD5] at HW5; obtain ⟨xOR50, xOR51, xOR52, xOR53⟩ := HOR5.out.1.cells; clear ho hb))
      | (go_at_call 19; ((with_reducible refine (not_at HOR5.out lx HLX.out).mono ?_); rintro e v6 ⟨g6, rfl, ho, hb⟩; obtain ⟨D6, hD6⟩ : ∃ D, v6.alloc (.cells #[.int .i64 N, .slice (some ⟨g6, 0, none⟩) q q] 24) = D := ⟨_, rfl⟩; obtain ⟨p6, hp6⟩ : ∃ p, v6.heap.size = p := ⟨_, rfl⟩; have HA6 := Lib.hid ((HA5.out.keep hb).alloc (.cells #[.int .i64 N, .slice (some ⟨g6, 0, none⟩) q q] 24)); rw [hD6] at HA6; have HB6 := Lib.hid ((HB5.out.keep hb).alloc (.cells #[.int .i64 N, .slice (some ⟨g6, 0, none⟩) q q] 24)); rw [hD6] at HB6; have HOR6 := Lib.hid ((HOR5.out.keep hb).alloc (.cells #[.int .i64 N, .slice (some ⟨g6, 0, none⟩) q q] 24)); rw [hD6] at HOR6; have HAN6 := Lib.hid ((HAN5.out.keep hb).alloc (.cells #[.int .i64 N, .slice (some ⟨g6, 0, none⟩) q q] 24)); rw [hD6] at HAN6; have HMI6 := Lib.hid ((HMI5.out.keep hb).alloc (.cells #[.int .i64 N, .slice (some ⟨g6, 0, none⟩) q q] 24)); rw [hD6] at HMI6; have HP6 := Lib.hid ((HP5.out.keep hb).alloc (.cells #[.int .i64 N, .slice (some ⟨g6, 0, none⟩) q q] 24)); rw [hD6] at HP6; have HQ6 := Lib.hid ((HQ5.out.keep hb).alloc (.cells #[.int .i64 N, .slice (some ⟨g6, 0, none⟩) q q] 24)); rw [hD6] at HQ6; have HX6 := Lib.hid (SetAt.new ho HRX.out); rw [hD6, hp6] at HX6; have HW6 := Lib.hid (HW5.out.trans ((hb.alloc hb.size (.cells #[.int .i64 N, .slice (some ⟨g6, 0, none⟩) q q] 24)).mono HW5.out.size)); rw [hD6] at HW6; obtain ⟨xP60, xP61, xP62, xP63⟩ := HP6.out.1.cells; obtain ⟨xQ60, xQ61, xQ62, xQ63⟩ := HQ6.out.1.cells; clear ho hb))
      | (go_at_call 31; ((with_reducible refine (and_at HP6.out HQ6.out HLY.out).mono ?_); rintro e v7 ⟨g7, rfl, ho, hb⟩; obtain ⟨D7, hD7⟩ : ∃ D, v7.alloc (.cells #[.int .i64 N, .slice (some ⟨g7, 0, none⟩) q q] 24) = D := ⟨_, rfl⟩; obtain ⟨p7, hp7⟩ : ∃ p, v7.heap.size = p := ⟨_, rfl⟩; have HA7 := Lib.hid ((HA6.out.keep hb).alloc (.cells #[.int .i64 N, .slice (some ⟨g7, 0, none⟩) q q] 24)); rw [hD7] at HA7; have HB7 := Lib.hid ((HB6.out.keep hb).alloc (.cells #[.int .i64 N, .slice (some ⟨g7, 0, none⟩) q q] 24)); rw [hD7] at HB7; have HOR7 := Lib.hid ((HOR6.out.keep hb).alloc (.cells #[.int .i64 N, .slice (some ⟨g7, 0, none⟩) q q] 24)); rw [hD7] at HOR7; have HAN7 := Lib.hid ((HAN6.out.keep hb).alloc (.cells #[.int .i64 N, .slice (some ⟨g7, 0, none⟩) q q] 24)); rw [hD7] at HAN7; have HMI7 := Lib.hid ((HMI6.out.keep hb).alloc (.cells #[.int .i64 N, .slice (some ⟨g7, 0, none⟩) q q] 24)); rw [hD7] at HMI7; have HP7 := Lib.hid ((HP6.out.keep hb).alloc (.cells #[.int .i64 N, .slice (some ⟨g7, 0, none⟩) q q] 24)); rw [hD7] at HP7; have HQ7 := Lib.hid ((HQ6.out.keep hb).alloc (.cells #[.int .i64 N, .slice (some ⟨g7, 0, none⟩) q q] 24)); rw [hD7] at HQ7; have HX7 := Lib.hid ((HX6.out.keep hb).alloc (.cells #[.int .i64 N, .slice (some ⟨g7, 0, none⟩) q q] 24)); rw [hD7] at HX7; have HY7 := Lib.hid (SetAt.new ho HRX.out); rw [hD7, hp7] at HY7; have HW7 := Lib.hid (HW6.out.trans ((hb.alloc hb.size (.cells #[.int .i64 N, .slice (some ⟨g7, 0, none⟩) q q] 24)).mono HW6.out.size)); rw [hD7] at HW7; obtain ⟨xA70, xA71, xA72, xA73⟩ := HA7.out.1.cells; obtain ⟨xQ70, xQ71, xQ72, xQ73⟩ := HQ7.out.1.cells; clear ho hb))
      | (go_at_call 31; ((with_reducible refine (and_at HA7.out HQ7.out HLZ.out).mono ?_); rintro e v8 ⟨g8, rfl, ho, hb⟩; obtain ⟨D8, hD8⟩ : ∃ D, v8.alloc (.cells #[.int .i64 N, .slice (some ⟨g8, 0, none⟩) q q] 24) = D := ⟨_, rfl⟩; obtain ⟨p8, hp8⟩ : ∃ p, v8.heap.size = p := ⟨_, rfl⟩; have HA8 := Lib.hid ((HA7.out.keep hb).alloc (.cells #[.int .i64 N, .slice (some ⟨g8, 0, none⟩) q q] 24)); rw [hD8] at HA8; have HB8 := Lib.hid ((HB7.out.keep hb).alloc (.cells #[.int .i64 N, .slice (some ⟨g8, 0, none⟩) q q] 24)); rw [hD8] at HB8; have HOR8 := Lib.hid ((HOR7.out.keep hb).alloc (.cells #[.int .i64 N, .slice (some ⟨g8, 0, none⟩) q q] 24)); rw [hD8] at HOR8; have HAN8 := Lib.hid ((HAN7.out.keep hb).alloc (.cells #[.int .i64 N, .slice (some ⟨g8, 0, none⟩) q q] 24)); rw [hD8] at HAN8; have HMI8 := Lib.hid ((HMI7.out.keep hb).alloc (.cells #[.int .i64 N, .slice (some ⟨g8, 0, none⟩) q q] 24)); rw [hD8] at HMI8; have HP8 := Lib.hid ((HP7.out.keep hb).alloc (.cells #[.int .i64 N, .slice (some ⟨g8, 0, none⟩) q q] 24)); rw [hD8] at HP8; have HQ8 := Lib.hid ((HQ7.out.keep hb).alloc (.cells #[.int .i64 N, .slice (some ⟨g8, 0, none⟩) q q] 24)); rw [hD8] at HQ8; have HX8 := Lib.hid ((HX7.out.keep hb).alloc (.cells #[.int .i64 N, .slice (some ⟨g8, 0, none⟩) q q] 24)); rw [hD8] at HX8; have HY8 := Lib.hid ((HY7.out.keep hb).alloc (.cells #[.int .i64 N, .slice (some ⟨g8, 0, none⟩) q q] 24)); rw [hD8] at HY8; have HZ8 := Lib.hid (SetAt.new ho HRM.out); rw [hD8, hp8] at HZ8; have HW8 := Lib.hid (HW7.out.trans ((hb.alloc hb.size (.cells #[.int .i64 N, .slice (some ⟨g8, 0, none⟩) q q] 24)).mono HW7.out.size)); rw [hD8] at HW8; obtain ⟨xP80, xP81, xP82, xP83⟩ := HP8.out.1.cells; clear ho hb))
      | (go_at_call 19; ((with_reducible refine (not_at HP8.out ys HLB.out).mono ?_); rintro e v9 ⟨g9, rfl, ho, hb⟩; obtain ⟨D9, hD9⟩ : ∃ D, v9.alloc (.cells #[.int .i64 N, .slice (some ⟨g9, 0, none⟩) q q] 24) = D := ⟨_, rfl⟩; obtain ⟨p9, hp9⟩ : ∃ p, v9.heap.size = p := ⟨_, rfl⟩; have HA9 := Lib.hid ((HA8.out.keep hb).alloc (.cells #[.int .i64 N, .slice (some ⟨g9, 0, none⟩) q q] 24)); rw [hD9] at HA9; have HB9 := Lib.hid ((HB8.out.keep hb).alloc (.cells #[.int .i64 N, .slice (some ⟨g9, 0, none⟩) q q] 24)); rw [hD9] at HB9; have HOR9 := Lib.hid ((HOR8.out.keep hb).alloc (.cells #[.int .i64 N, .slice (some ⟨g9, 0, none⟩) q q] 24)); rw [hD9] at HOR9; have HAN9 := Lib.hid ((HAN8.out.keep hb).alloc (.cells #[.int .i64 N, .slice (some ⟨g9, 0, none⟩) q q] 24)); rw [hD9] at HAN9; have HMI9 := Lib.hid ((HMI8.out.keep hb).alloc (.cells #[.int .i64 N, .slice (some ⟨g9, 0, none⟩) q q] 24)); rw [hD9] at HMI9; have HP9 := Lib.hid ((HP8.out.keep hb).alloc (.cells #[.int .i64 N, .slice (some ⟨g9, 0, none⟩) q q] 24)); rw [hD9] at HP9; have HQ9 := Lib.hid ((HQ8.out.keep hb).alloc (.cells #[.int .i64 N, .slice (some ⟨g9, 0, none⟩) q q] 24)); rw [hD9] at HQ9; have HX9 := Lib.hid ((HX8.out.keep hb).alloc (.cells #[.int .i64 N, .slice (some ⟨g9, 0, none⟩) q q] 24)); rw [hD9] at HX9; have HY9 := Lib.hid ((HY8.out.keep hb).alloc (.cells #[.int .i64 N, .slice (some ⟨g9, 0, none⟩) q q] 24)); rw [hD9] at HY9; have HZ9 := Lib.hid ((HZ8.out.keep hb).alloc (.cells #[.int .i64 N, .slice (some ⟨g9, 0, none⟩) q q] 24)); rw [hD9] at HZ9; have HBK9 := Lib.hid (SetAt.new ho HR1.out); rw [hD9, hp9] at HBK9; have HW9 := Lib.hid (HW8.out.trans ((hb.alloc hb.size (.cells #[.int .i64 N, .slice (some ⟨g9, 0, none⟩) q q] 24)).mono HW8.out.size)); rw [hD9] at HW9; obtain ⟨xX90, xX91, xX92, xX93⟩ := HX9.out.1.cells; obtain ⟨xY90, xY91, xY92, xY93⟩ := HY9.out.1.cells; obtain ⟨xZ90, xZ91, xZ92, xZ93⟩ := HZ9.out.1.cells; obtain ⟨xMI90, xMI91, xMI92, xMI93⟩ := HMI9.out.1.cells; obtain ⟨xBK90, xBK91, xBK92, xBK93⟩ := HBK9.out.1.cells; obtain ⟨xA90, xA91, xA92, xA93⟩ := HA9.out.1.cells; clear ho hb))
      | (go_at_call 33; ((with_reducible refine (same_at HX9.out HY9.out).mono ?_); rintro e v10 ⟨rfl, hb⟩; have HA10 := Lib.hid (HA9.out.keep hb); have HB10 := Lib.hid (HB9.out.keep hb); have HOR10 := Lib.hid (HOR9.out.keep hb); have HAN10 := Lib.hid (HAN9.out.keep hb); have HMI10 := Lib.hid (HMI9.out.keep hb); have HP10 := Lib.hid (HP9.out.keep hb); have HQ10 := Lib.hid (HQ9.out.keep hb); have HX10 := Lib.hid (HX9.out.keep hb); have HY10 := Lib.hid (HY9.out.keep hb); have HZ10 := Lib.hid (HZ9.out.keep hb); have HBK10 := Lib.hid (HBK9.out.keep hb); have HW10 := Lib.hid (HW9.out.trans (hb.mono HW9.out.size)); obtain ⟨xZ100, xZ101, xZ102, xZ103⟩ := HZ10.out.1.cells; obtain ⟨xMI100, xMI101, xMI102, xMI103⟩ := HMI10.out.1.cells; obtain ⟨xBK100, xBK101, xBK102, xBK103⟩ := HBK10.out.1.cells; obtain ⟨xA100, xA101, xA102, xA103⟩ := HA10.out.1.cells; clear hb))
      | (go_at_call 33; ((with_reducible refine (same_at HZ10.out HMI10.out).mono ?_); rintro e v11 ⟨rfl, hb⟩; have HA11 := Lib.hid (HA10.out.keep hb); have HB11 := Lib.hid (HB10.out.keep hb); have HOR11 := Lib.hid (HOR10.out.keep hb); have HAN11 := Lib.hid (HAN10.out.keep hb); have HMI11 := Lib.hid (HMI10.out.keep hb); have HP11 := Lib.hid (HP10.out.keep hb); have HQ11 := Lib.hid (HQ10.out.keep hb); have HX11 := Lib.hid (HX10.out.keep hb); have HY11 := Lib.hid (HY10.out.keep hb); have HZ11 := Lib.hid (HZ10.out.keep hb); have HBK11 := Lib.hid (HBK10.out.keep hb); have HW11 := Lib.hid (HW10.out.trans (hb.mono HW10.out.size)); obtain ⟨xBK110, xBK111, xBK112, xBK113⟩ := HBK11.out.1.cells; obtain ⟨xA110, xA111, xA112, xA113⟩ := HA11.out.1.cells; clear hb))
      | (go_at_call 33; ((with_reducible refine (same_at HBK11.out HA11.out).mono ?_); rintro e v12 ⟨rfl, hb⟩; have HA12 := Lib.hid (HA11.out.keep hb); have HB12 := Lib.hid (HB11.out.keep hb); have HOR12 := Lib.hid (HOR11.out.keep hb); have HAN12 := Lib.hid (HAN11.out.keep hb); have HMI12 := Lib.hid (HMI11.out.keep hb); have HP12 := Lib.hid (HP11.out.keep hb); have HQ12 := Lib.hid (HQ11.out.keep hb); have HX12 := Lib.hid (HX11.out.keep hb); have HY12 := Lib.hid (HY11.out.keep hb); have HZ12 := Lib.hid (HZ11.out.keep hb); have HBK12 := Lib.hid (HBK11.out.keep hb); have HW12 := Lib.hid (HW11.out.trans (hb.mono HW11.out.size)); obtain ⟨xOR120, xOR121, xOR122, xOR123⟩ := HOR12.out.1.cells; obtain ⟨xAN120, xAN121, xAN122, xAN123⟩ := HAN12.out.1.cells; obtain ⟨xMI120, xMI121, xMI122, xMI123⟩ := HMI12.out.1.cells; obtain ⟨xP120, xP121, xP122, xP123⟩ := HP12.out.1.cells; obtain ⟨xQ120, xQ121, xQ122, xQ123⟩ := HQ12.out.1.cells; clear hb)))
    clear xA00 xA01 xA02 xA03 xB00 xB01 xB02 xB03 xOR120 xOR121 xOR122 xOR123 xAN120 xAN121 xAN122 xAN123 xMI120 xMI121 xMI122 xMI123 xP120 xP121 xP122 xP123 xQ120 xQ121 xQ122 xQ123 xA10 xA11 xA12 xA13 xB10 xB11 xB12 xB13 xA20 xA21 xA22 xA23 xB20 xB21 xB22 xB23 xA30 xA31 xA32 xA33 xB40 xB41 xB42 xB43 xOR50 xOR51 xOR52 xOR53 xP60 xP61 xP62 xP63 xQ60 xQ61 xQ62 xQ63 xA70 xA71 xA72 xA73 xQ70 xQ71 xQ72 xQ73 xP80 xP81 xP82 xP83 xX90 xX91 xX92 xX93 xY90 xY91 xY92 xY93 xZ90 xZ91 xZ92 xZ93 xMI90 xMI91 xMI92 xMI93 xBK90 xBK91 xBK92 xBK93 xA90 xA91 xA92 xA93 xZ100 xZ101 xZ102 xZ103 xMI100 xMI101 xMI102 xMI103 xBK100 xBK101 xBK102 xBK103 xA100 xA101 xA102 xA103 xBK110 xBK111 xBK112 xBK113 xA110 xA111 xA112 xA113 hD1 hD2 hD3 hD4 hD5 hD6 hD7 hD8 hD9 hp1 hp2 hp3 hp4 hp5 hp6 hp7 hp8 hp9
    have HTC := Lib.hid (ten_cells v12 (.int .i64 N) (.slice (some ⟨g1, 0, none⟩) q q) (.int .i64 N) (.slice (some ⟨g2, 0, none⟩) q q) (.int .i64 N) (.slice (some ⟨g3, 0, none⟩) q q) (.int .i64 N) (.slice (some ⟨g4, 0, none⟩) q q) (.int .i64 N) (.slice (some ⟨g5, 0, none⟩) q q))
    have HSZ : Hid ((v12.alloc (.cells #[.int .i64 N, .slice (some ⟨g1, 0, none⟩) q q, .int .i64 N, .slice (some ⟨g2, 0, none⟩) q q, .int .i64 N, .slice (some ⟨g3, 0, none⟩) q q, .int .i64 N, .slice (some ⟨g4, 0, none⟩) q q, .int .i64 N, .slice (some ⟨g5, 0, none⟩) q q] 24)).heap.size = v12.heap.size + 1) := by show _ = _; simp
    have HA := Lib.hid (HA12.out.alloc (.cells #[.int .i64 N, .slice (some ⟨g1, 0, none⟩) q q, .int .i64 N, .slice (some ⟨g2, 0, none⟩) q q, .int .i64 N, .slice (some ⟨g3, 0, none⟩) q q, .int .i64 N, .slice (some ⟨g4, 0, none⟩) q q, .int .i64 N, .slice (some ⟨g5, 0, none⟩) q q] 24))
    have HB := Lib.hid (HB12.out.alloc (.cells #[.int .i64 N, .slice (some ⟨g1, 0, none⟩) q q, .int .i64 N, .slice (some ⟨g2, 0, none⟩) q q, .int .i64 N, .slice (some ⟨g3, 0, none⟩) q q, .int .i64 N, .slice (some ⟨g4, 0, none⟩) q q, .int .i64 N, .slice (some ⟨g5, 0, none⟩) q q] 24))
    have HOR := Lib.hid (HOR12.out.alloc (.cells #[.int .i64 N, .slice (some ⟨g1, 0, none⟩) q q, .int .i64 N, .slice (some ⟨g2, 0, none⟩) q q, .int .i64 N, .slice (some ⟨g3, 0, none⟩) q q, .int .i64 N, .slice (some ⟨g4, 0, none⟩) q q, .int .i64 N, .slice (some ⟨g5, 0, none⟩) q q] 24))
    have HAN := Lib.hid (HAN12.out.alloc (.cells #[.int .i64 N, .slice (some ⟨g1, 0, none⟩) q q, .int .i64 N, .slice (some ⟨g2, 0, none⟩) q q, .int .i64 N, .slice (some ⟨g3, 0, none⟩) q q, .int .i64 N, .slice (some ⟨g4, 0, none⟩) q q, .int .i64 N, .slice (some ⟨g5, 0, none⟩) q q] 24))
    have HMI := Lib.hid (HMI12.out.alloc (.cells #[.int .i64 N, .slice (some ⟨g1, 0, none⟩) q q, .int .i64 N, .slice (some ⟨g2, 0, none⟩) q q, .int .i64 N, .slice (some ⟨g3, 0, none⟩) q q, .int .i64 N, .slice (some ⟨g4, 0, none⟩) q q, .int .i64 N, .slice (some ⟨g5, 0, none⟩) q q] 24))
    have HP := Lib.hid (HP12.out.alloc (.cells #[.int .i64 N, .slice (some ⟨g1, 0, none⟩) q q, .int .i64 N, .slice (some ⟨g2, 0, none⟩) q q, .int .i64 N, .slice (some ⟨g3, 0, none⟩) q q, .int .i64 N, .slice (some ⟨g4, 0, none⟩) q q, .int .i64 N, .slice (some ⟨g5, 0, none⟩) q q] 24))
    have HQ := Lib.hid (HQ12.out.alloc (.cells #[.int .i64 N, .slice (some ⟨g1, 0, none⟩) q q, .int .i64 N, .slice (some ⟨g2, 0, none⟩) q q, .int .i64 N, .slice (some ⟨g3, 0, none⟩) q q, .int .i64 N, .slice (some ⟨g4, 0, none⟩) q q, .int .i64 N, .slice (some ⟨g5, 0, none⟩) q q] 24))
    have HWW := Lib.hid (HW12.out.alloc HW12.out.size (.cells #[.int .i64 N, .slice (some ⟨g1, 0, none⟩) q q, .int .i64 N, .slice (some ⟨g2, 0, none⟩) q q, .int .i64 N, .slice (some ⟨g3, 0, none⟩) q q, .int .i64 N, .slice (some ⟨g4, 0, none⟩) q q, .int .i64 N, .slice (some ⟨g5, 0, none⟩) q q] 24))
    obtain ⟨t0, ht0⟩ : ∃ t0, v12.heap.size = t0 := ⟨_, rfl⟩
    rw [ht0] at HTC HSZ ⊢
    clear ht0
    generalize v12.alloc (.cells #[.int .i64 N, .slice (some ⟨g1, 0, none⟩) q q, .int .i64 N, .slice (some ⟨g2, 0, none⟩) q q, .int .i64 N, .slice (some ⟨g3, 0, none⟩) q q, .int .i64 N, .slice (some ⟨g4, 0, none⟩) q q, .int .i64 N, .slice (some ⟨g5, 0, none⟩) q q] 24) = W at HTC HSZ HA HB HOR HAN HMI HP HQ HWW ⊢
    clear HA0 HB0 HA1 HB1 HOR1 HA2 HB2 HOR2 HAN2 HA3 HB3 HOR3 HAN3 HMI3 HA4 HB4 HOR4 HAN4 HMI4 HP4 HA5 HB5 HOR5 HAN5 HMI5 HP5 HQ5 HA6 HB6 HOR6 HAN6 HMI6 HP6 HQ6 HX6 HA7 HB7 HOR7 HAN7 HMI7 HP7 HQ7 HX7 HY7 HA8 HB8 HOR8 HAN8 HMI8 HP8 HQ8 HX8 HY8 HZ8 HA9 HB9 HOR9 HAN9 HMI9 HP9 HQ9 HX9 HY9 HZ9 HBK9 HA10 HB10 HOR10 HAN10 HMI10 HP10 HQ10 HX10 HY10 HZ10 HBK10 HA11 HB11 HOR11 HAN11 HMI11 HP11 HQ11 HX11 HY11 HZ11 HBK11 HA12 HB12 HOR12 HAN12 HMI12 HP12 HQ12 HX12 HY12 HZ12 HBK12 HW0 HW1 HW2 HW3 HW4 HW5 HW6 HW7 HW8 HW9 HW10 HW11 HW12
    have HZ1 : Hid (Below W.heap.size W W) := Below.refl _ _
    go_loopw [149] (fun iv wr => ∃ k : Int, 0 ≤ k ∧ k ≤ 5 ∧ iv = .int .i64 k ∧ Hid (Below W.heap.size W wr)) (fun i _ => (5 - intOf i).toNat)
    case atStart => exact ⟨0, by omega, by omega, rfl, HZ1⟩
    case round =>
      obtain ⟨k, hk0, hk5, rfl, HBK⟩ := hrel
      have HWR := Lib.hid (HWW.out.trans (HBK.out.mono HWW.out.size))
      obtain ⟨c0, c1, c2, c3, c4, c5, c6, c7, c8, c9⟩ := HTC.out
      replace c0 := (HBK.out.cell (p := ⟨t0, 0, none⟩) (by rw [HSZ.out]; exact Nat.lt_succ_self _)).trans c0
      replace c1 := (HBK.out.cell (p := ⟨t0, 1, none⟩) (by rw [HSZ.out]; exact Nat.lt_succ_self _)).trans c1
      replace c2 := (HBK.out.cell (p := ⟨t0, 2, none⟩) (by rw [HSZ.out]; exact Nat.lt_succ_self _)).trans c2
      replace c3 := (HBK.out.cell (p := ⟨t0, 3, none⟩) (by rw [HSZ.out]; exact Nat.lt_succ_self _)).trans c3
      replace c4 := (HBK.out.cell (p := ⟨t0, 4, none⟩) (by rw [HSZ.out]; exact Nat.lt_succ_self _)).trans c4
      replace c5 := (HBK.out.cell (p := ⟨t0, 5, none⟩) (by rw [HSZ.out]; exact Nat.lt_succ_self _)).trans c5
      replace c6 := (HBK.out.cell (p := ⟨t0, 6, none⟩) (by rw [HSZ.out]; exact Nat.lt_succ_self _)).trans c6
      replace c7 := (HBK.out.cell (p := ⟨t0, 7, none⟩) (by rw [HSZ.out]; exact Nat.lt_succ_self _)).trans c7
      replace c8 := (HBK.out.cell (p := ⟨t0, 8, none⟩) (by rw [HSZ.out]; exact Nat.lt_succ_self _)).trans c8
      replace c9 := (HBK.out.cell (p := ⟨t0, 9, none⟩) (by rw [HSZ.out]; exact Nat.lt_succ_self _)).trans c9
      have hA := (HA.out.keep HBK.out).1.cells
      obtain ⟨a0, a1, a2, a3⟩ := hA
      by_cases hk : k < 5
      · rcases (show k = 0 ∨ k = 1 ∨ k = 2 ∨ k = 3 ∨ k = 4 by omega) with rfl | rfl | rfl | rfl | rfl
        · have HS := Lib.hid (HOR.out.keep HBK.out).copy
          have HE := Lib.hid ((HA.out.keep HBK.out).alloc (.cells #[.int .i64 N, .slice (some ⟨g1, 0, none⟩) q q] 24))
          have HBE := Lib.hid (HBK.out.alloc HBK.out.size (.cells #[.int .i64 N, .slice (some ⟨g1, 0, none⟩) q q] 24))
          obtain ⟨s0, s1, s2, s3⟩ := HS.out.1.cells
          obtain ⟨e0, e1, e2, e3⟩ := HE.out.1.cells
          clear c2 c3 c4 c5 c6 c7 c8 c9 hk0 hk5
          go_wp2_with (first
            | (go_at_call 34; ((with_reducible refine (right_at HS.out).mono ?_); rintro e u ⟨rfl, hb⟩; have HBF := Lib.hid (HBE.out.trans (hb.mono HBE.out.size)); obtain ⟨f0, f1, f2, f3⟩ := (HS.out.keep hb).1.cells; obtain ⟨h0, h1, h2, h3⟩ := (HE.out.keep hb).1.cells; clear hb)))
          exact ⟨⟨1, by omega, by omega, rfl, HBF⟩, by simp [intOf]⟩
        · have HS := Lib.hid (HAN.out.keep HBK.out).copy
          have HE := Lib.hid ((HA.out.keep HBK.out).alloc (.cells #[.int .i64 N, .slice (some ⟨g2, 0, none⟩) q q] 24))
          have HBE := Lib.hid (HBK.out.alloc HBK.out.size (.cells #[.int .i64 N, .slice (some ⟨g2, 0, none⟩) q q] 24))
          obtain ⟨s0, s1, s2, s3⟩ := HS.out.1.cells
          obtain ⟨e0, e1, e2, e3⟩ := HE.out.1.cells
          clear c0 c1 c4 c5 c6 c7 c8 c9 hk0 hk5
          go_wp2_with (first
            | (go_at_call 34; ((with_reducible refine (right_at HS.out).mono ?_); rintro e u ⟨rfl, hb⟩; have HBF := Lib.hid (HBE.out.trans (hb.mono HBE.out.size)); obtain ⟨f0, f1, f2, f3⟩ := (HS.out.keep hb).1.cells; obtain ⟨h0, h1, h2, h3⟩ := (HE.out.keep hb).1.cells; clear hb)))
          exact ⟨⟨2, by omega, by omega, rfl, HBF⟩, by simp [intOf]⟩
        · have HS := Lib.hid (HMI.out.keep HBK.out).copy
          have HE := Lib.hid ((HA.out.keep HBK.out).alloc (.cells #[.int .i64 N, .slice (some ⟨g3, 0, none⟩) q q] 24))
          have HBE := Lib.hid (HBK.out.alloc HBK.out.size (.cells #[.int .i64 N, .slice (some ⟨g3, 0, none⟩) q q] 24))
          obtain ⟨s0, s1, s2, s3⟩ := HS.out.1.cells
          obtain ⟨e0, e1, e2, e3⟩ := HE.out.1.cells
          clear c0 c1 c2 c3 c6 c7 c8 c9 hk0 hk5
          go_wp2_with (first
            | (go_at_call 34; ((with_reducible refine (right_at HS.out).mono ?_); rintro e u ⟨rfl, hb⟩; have HBF := Lib.hid (HBE.out.trans (hb.mono HBE.out.size)); obtain ⟨f0, f1, f2, f3⟩ := (HS.out.keep hb).1.cells; obtain ⟨h0, h1, h2, h3⟩ := (HE.out.keep hb).1.cells; clear hb)))
          exact ⟨⟨3, by omega, by omega, rfl, HBF⟩, by simp [intOf]⟩
        · have HS := Lib.hid (HP.out.keep HBK.out).copy
          have HE := Lib.hid ((HA.out.keep HBK.out).alloc (.cells #[.int .i64 N, .slice (some ⟨g4, 0, none⟩) q q] 24))
          have HBE := Lib.hid (HBK.out.alloc HBK.out.size (.cells #[.int .i64 N, .slice (some ⟨g4, 0, none⟩) q q] 24))
          obtain ⟨s0, s1, s2, s3⟩ := HS.out.1.cells
          obtain ⟨e0, e1, e2, e3⟩ := HE.out.1.cells
          clear c0 c1 c2 c3 c4 c5 c8 c9 hk0 hk5
          go_wp2_with (first
            | (go_at_call 34; ((with_reducible refine (right_at HS.out).mono ?_); rintro e u ⟨rfl, hb⟩; have HBF := Lib.hid (HBE.out.trans (hb.mono HBE.out.size)); obtain ⟨f0, f1, f2, f3⟩ := (HS.out.keep hb).1.cells; obtain ⟨h0, h1, h2, h3⟩ := (HE.out.keep hb).1.cells; clear hb)))
          exact ⟨⟨4, by omega, by omega, rfl, HBF⟩, by simp [intOf]⟩
        · have HS := Lib.hid (HQ.out.keep HBK.out).copy
          have HE := Lib.hid ((HA.out.keep HBK.out).alloc (.cells #[.int .i64 N, .slice (some ⟨g5, 0, none⟩) q q] 24))
          have HBE := Lib.hid (HBK.out.alloc HBK.out.size (.cells #[.int .i64 N, .slice (some ⟨g5, 0, none⟩) q q] 24))
          obtain ⟨s0, s1, s2, s3⟩ := HS.out.1.cells
          obtain ⟨e0, e1, e2, e3⟩ := HE.out.1.cells
          clear c0 c1 c2 c3 c4 c5 c6 c7 hk0 hk5
          go_wp2_with (first
            | (go_at_call 34; ((with_reducible refine (right_at HS.out).mono ?_); rintro e u ⟨rfl, hb⟩; have HBF := Lib.hid (HBE.out.trans (hb.mono HBE.out.size)); obtain ⟨f0, f1, f2, f3⟩ := (HS.out.keep hb).1.cells; obtain ⟨h0, h1, h2, h3⟩ := (HE.out.keep hb).1.cells; clear hb)))
          exact ⟨⟨5, by omega, by omega, rfl, HBF⟩, by simp [intOf]⟩
      · obtain rfl : k = 5 := by omega
        clear hk0 hk5 c0 c1 c2 c3 c4 c5 c6 c7 c8 c9
        rename World => W2
        have KA := Lib.hid (HA.out.keep HBK.out)
        have KB := Lib.hid (HB.out.keep HBK.out)
        have KOR := Lib.hid (HOR.out.keep HBK.out)
        have KAN := Lib.hid (HAN.out.keep HBK.out)
        have KMI := Lib.hid (HMI.out.keep HBK.out)
        have KP := Lib.hid (HP.out.keep HBK.out)
        have HZ2 : Hid (Below W2.heap.size W2 W2) := Below.refl _ _
        have hN6 : (N : Int) ≤ 65536 := by have := HR1.out.1; omega
        go_wp2_with fail
        clear a0 a1 a2 a3 hmin3 hk16 hkc hkc' hkc2 hkc2'
        go_loopw [166] (fun iv wr => ∃ k : Nat, k ≤ N ∧ iv = .int .i64 k ∧ Hid (Below W2.heap.size W2 wr)) (fun i _ => N - (intOf i).toNat)
        case atStart => exact ⟨0, Nat.zero_le _, rfl, HZ2⟩
        case round =>
          obtain ⟨k, hkN, rfl, HBL⟩ := hrel
          have HWL := Lib.hid (HWR.out.trans (HBL.out.mono HWR.out.size))
          have LA := Lib.hid (KA.out.keep HBL.out)
          have LB := Lib.hid (KB.out.keep HBL.out)
          have LOR := Lib.hid (KOR.out.keep HBL.out)
          have LAN := Lib.hid (KAN.out.keep HBL.out)
          have LMI := Lib.hid (KMI.out.keep HBL.out)
          have LP := Lib.hid (KP.out.keep HBL.out)
          by_cases hk : k < N
          · cases hA : (Bm.val ys).testBit k with
            | false =>
              cases hB : (Bm.val zs).testBit k with
              | false =>
                have EA : Hid ((decide (0 ≤ (k : Int)) && (Bm.val ys).testBit (k : Int).toNat) = false) := by show _ = _; rw [Int.toNat_natCast, hA]; simp
                have EB : Hid ((decide (0 ≤ (k : Int)) && (Bm.val zs).testBit (k : Int).toNat) = false) := by show _ = _; rw [Int.toNat_natCast, hB]; simp
                have EO : Hid ((decide (0 ≤ (k : Int)) && (Bm.val lo).testBit (k : Int).toNat) = false) := by show _ = _; rw [Int.toNat_natCast, HBO.out, hA, hB]; simp
                have EN : Hid ((decide (0 ≤ (k : Int)) && (Bm.val la).testBit (k : Int).toNat) = false) := by show _ = _; rw [Int.toNat_natCast, HBA.out, hA, hB]; simp
                have EM : Hid ((decide (0 ≤ (k : Int)) && (Bm.val lm).testBit (k : Int).toNat) = false) := by show _ = _; rw [Int.toNat_natCast, HBM.out, hA, hB]; simp
                have EP : Hid ((decide (0 ≤ (k : Int)) && (Bm.val lp).testBit (k : Int).toNat) = true) := by show _ = _; rw [Int.toNat_natCast, HBP.out, hA]; simp [hk]
                have hb4r : Hid (Below wr.heap.size wr wr) := Below.refl _ _
                obtain ⟨c0, c1, c2, c3⟩ := LA.out.1.cells
                obtain ⟨d0, d1, d2, d3⟩ := LB.out.1.cells
                clear hA hB hN6
                go_wp2_with fail
                go_region_held3 (fun W => (W.cell? ⟨b8, 0, none⟩ = some (.int .i64 N) ∧ W.cell? ⟨b8, 1, none⟩ = some (.slice sa q cs)) ∧ (W.cell? ⟨b9, 0, none⟩ = some (.int .i64 N) ∧ W.cell? ⟨b9, 1, none⟩ = some (.slice sb q cb))) (first | go_keep | exact ⟨⟨c0, c1⟩, d0, d1⟩ | exact ⟨⟨(LA.out.keep hb4).1.cells.1, (LA.out.keep hb4).1.cells.2.1⟩, (LB.out.keep hb4).1.cells.1, (LB.out.keep hb4).1.cells.2.1⟩ | exact ⟨⟨(LA.out.keep hb5).1.cells.1, (LA.out.keep hb5).1.cells.2.1⟩, (LB.out.keep hb5).1.cells.1, (LB.out.keep hb5).1.cells.2.1⟩) (first
                  | (go_at_call 28; (with_reducible show Calls _ _ #[.agg #[.int .i64 N, .slice sa q cs], _] _ _); refine (has_at (by exact LA.out) (k : Int) false EA.out).mono ?_; rintro e u4 ⟨rfl, hb4'⟩; have hb4 : Below wr.heap.size wr u4 := (Below.refl _ wr).drew.trans hb4')
                  | (go_at_call 28; (with_reducible show Calls _ _ #[.agg #[.int .i64 N, .slice sb q cb], _] _ _); refine (has_at (by exact LB.out.keep hb4) (k : Int) false EB.out).mono ?_; rintro e u5 ⟨rfl, hb5'⟩; have hb5 : Below wr.heap.size wr u5 := hb4.trans (hb5'.mono hb4.size)))
                rename_i hcont5 hheld5
                refine hcont5 _ _ ?_
                have HB5 := Lib.hid hb5
                have MOR5 := Lib.hid (LOR.out.keep hb5)
                have MAN5 := Lib.hid (LAN.out.keep hb5)
                have MMI5 := Lib.hid (LMI.out.keep hb5)
                have MP5 := Lib.hid (LP.out.keep hb5)
                obtain ⟨m5r0, m5r1, m5r2, m5r3⟩ := MOR5.out.1.cells
                obtain ⟨m5s0, m5s1, m5s2, m5s3⟩ := MAN5.out.1.cells
                obtain ⟨m5t0, m5t1, m5t2, m5t3⟩ := MMI5.out.1.cells
                obtain ⟨m5p0, m5p1, m5p2, m5p3⟩ := MP5.out.1.cells
                clear c0 c1 c2 c3 d0 d1 d2 d3 hb4 hb4' hb5 hb5' hheld5
                go_wp2_with (first
                  | (go_at_call 28; ((with_reducible refine (has_at MOR5.out (k : Int) false EO.out).mono ?_); rintro e u6 ⟨rfl, hb⟩; have HB6 := Lib.hid (HB5.out.trans (hb.mono HB5.out.size)); have MOR6 := Lib.hid (MOR5.out.keep hb); obtain ⟨m6r0, m6r1, m6r2, m6r3⟩ := MOR6.out.1.cells; have MAN6 := Lib.hid (MAN5.out.keep hb); obtain ⟨m6s0, m6s1, m6s2, m6s3⟩ := MAN6.out.1.cells; have MMI6 := Lib.hid (MMI5.out.keep hb); obtain ⟨m6t0, m6t1, m6t2, m6t3⟩ := MMI6.out.1.cells; have MP6 := Lib.hid (MP5.out.keep hb); obtain ⟨m6p0, m6p1, m6p2, m6p3⟩ := MP6.out.1.cells; clear hb))
                  | (go_at_call 28; ((with_reducible refine (has_at MAN6.out (k : Int) false EN.out).mono ?_); rintro e u7 ⟨rfl, hb⟩; have HB7 := Lib.hid (HB6.out.trans (hb.mono HB6.out.size)); have MOR7 := Lib.hid (MOR6.out.keep hb); obtain ⟨m7r0, m7r1, m7r2, m7r3⟩ := MOR7.out.1.cells; have MAN7 := Lib.hid (MAN6.out.keep hb); obtain ⟨m7s0, m7s1, m7s2, m7s3⟩ := MAN7.out.1.cells; have MMI7 := Lib.hid (MMI6.out.keep hb); obtain ⟨m7t0, m7t1, m7t2, m7t3⟩ := MMI7.out.1.cells; have MP7 := Lib.hid (MP6.out.keep hb); obtain ⟨m7p0, m7p1, m7p2, m7p3⟩ := MP7.out.1.cells; clear hb))
                  | (go_at_call 28; ((with_reducible refine (has_at MMI7.out (k : Int) false EM.out).mono ?_); rintro e u8 ⟨rfl, hb⟩; have HB8 := Lib.hid (HB7.out.trans (hb.mono HB7.out.size)); have MOR8 := Lib.hid (MOR7.out.keep hb); obtain ⟨m8r0, m8r1, m8r2, m8r3⟩ := MOR8.out.1.cells; have MAN8 := Lib.hid (MAN7.out.keep hb); obtain ⟨m8s0, m8s1, m8s2, m8s3⟩ := MAN8.out.1.cells; have MMI8 := Lib.hid (MMI7.out.keep hb); obtain ⟨m8t0, m8t1, m8t2, m8t3⟩ := MMI8.out.1.cells; have MP8 := Lib.hid (MP7.out.keep hb); obtain ⟨m8p0, m8p1, m8p2, m8p3⟩ := MP8.out.1.cells; clear hb))
                  | (go_at_call 28; ((with_reducible refine (has_at MP8.out (k : Int) true EP.out).mono ?_); rintro e u9 ⟨rfl, hb⟩; have HB9 := Lib.hid (HB8.out.trans (hb.mono HB8.out.size)); have MOR9 := Lib.hid (MOR8.out.keep hb); obtain ⟨m9r0, m9r1, m9r2, m9r3⟩ := MOR9.out.1.cells; have MAN9 := Lib.hid (MAN8.out.keep hb); obtain ⟨m9s0, m9s1, m9s2, m9s3⟩ := MAN9.out.1.cells; have MMI9 := Lib.hid (MMI8.out.keep hb); obtain ⟨m9t0, m9t1, m9t2, m9t3⟩ := MMI9.out.1.cells; have MP9 := Lib.hid (MP8.out.keep hb); obtain ⟨m9p0, m9p1, m9p2, m9p3⟩ := MP9.out.1.cells; clear hb)))
                exact ⟨⟨k + 1, hk, rfl, Lib.hid (HBL.out.trans (HB9.out.mono HBL.out.size))⟩, by simp [intOf]; omega⟩
              | true =>
                have EA : Hid ((decide (0 ≤ (k : Int)) && (Bm.val ys).testBit (k : Int).toNat) = false) := by show _ = _; rw [Int.toNat_natCast, hA]; simp
                have EB : Hid ((decide (0 ≤ (k : Int)) && (Bm.val zs).testBit (k : Int).toNat) = true) := by show _ = _; rw [Int.toNat_natCast, hB]; simp
                have EO : Hid ((decide (0 ≤ (k : Int)) && (Bm.val lo).testBit (k : Int).toNat) = true) := by show _ = _; rw [Int.toNat_natCast, HBO.out, hA, hB]; simp
                have EN : Hid ((decide (0 ≤ (k : Int)) && (Bm.val la).testBit (k : Int).toNat) = false) := by show _ = _; rw [Int.toNat_natCast, HBA.out, hA, hB]; simp
                have EM : Hid ((decide (0 ≤ (k : Int)) && (Bm.val lm).testBit (k : Int).toNat) = false) := by show _ = _; rw [Int.toNat_natCast, HBM.out, hA, hB]; simp
                have EP : Hid ((decide (0 ≤ (k : Int)) && (Bm.val lp).testBit (k : Int).toNat) = true) := by show _ = _; rw [Int.toNat_natCast, HBP.out, hA]; simp [hk]
                have hb4r : Hid (Below wr.heap.size wr wr) := Below.refl _ _
                obtain ⟨c0, c1, c2, c3⟩ := LA.out.1.cells
                obtain ⟨d0, d1, d2, d3⟩ := LB.out.1.cells
                clear hA hB hN6
                go_wp2_with fail
                go_region_held3 (fun W => (W.cell? ⟨b8, 0, none⟩ = some (.int .i64 N) ∧ W.cell? ⟨b8, 1, none⟩ = some (.slice sa q cs)) ∧ (W.cell? ⟨b9, 0, none⟩ = some (.int .i64 N) ∧ W.cell? ⟨b9, 1, none⟩ = some (.slice sb q cb))) (first | go_keep | exact ⟨⟨c0, c1⟩, d0, d1⟩ | exact ⟨⟨(LA.out.keep hb4).1.cells.1, (LA.out.keep hb4).1.cells.2.1⟩, (LB.out.keep hb4).1.cells.1, (LB.out.keep hb4).1.cells.2.1⟩ | exact ⟨⟨(LA.out.keep hb5).1.cells.1, (LA.out.keep hb5).1.cells.2.1⟩, (LB.out.keep hb5).1.cells.1, (LB.out.keep hb5).1.cells.2.1⟩) (first
                  | (go_at_call 28; (with_reducible show Calls _ _ #[.agg #[.int .i64 N, .slice sa q cs], _] _ _); refine (has_at (by exact LA.out) (k : Int) false EA.out).mono ?_; rintro e u4 ⟨rfl, hb4'⟩; have hb4 : Below wr.heap.size wr u4 := (Below.refl _ wr).drew.trans hb4')
                  | (go_at_call 28; (with_reducible show Calls _ _ #[.agg #[.int .i64 N, .slice sb q cb], _] _ _); refine (has_at (by exact LB.out.keep hb4) (k : Int) true EB.out).mono ?_; rintro e u5 ⟨rfl, hb5'⟩; have hb5 : Below wr.heap.size wr u5 := hb4.trans (hb5'.mono hb4.size)))
                rename_i hcont5 hheld5
                refine hcont5 _ _ ?_
                have HB5 := Lib.hid hb5
                have MOR5 := Lib.hid (LOR.out.keep hb5)
                have MAN5 := Lib.hid (LAN.out.keep hb5)
                have MMI5 := Lib.hid (LMI.out.keep hb5)
                have MP5 := Lib.hid (LP.out.keep hb5)
                obtain ⟨m5r0, m5r1, m5r2, m5r3⟩ := MOR5.out.1.cells
                obtain ⟨m5s0, m5s1, m5s2, m5s3⟩ := MAN5.out.1.cells
                obtain ⟨m5t0, m5t1, m5t2, m5t3⟩ := MMI5.out.1.cells
                obtain ⟨m5p0, m5p1, m5p2, m5p3⟩ := MP5.out.1.cells
                clear c0 c1 c2 c3 d0 d1 d2 d3 hb4 hb4' hb5 hb5' hheld5
                go_wp2_with (first
                  | (go_at_call 28; ((with_reducible refine (has_at MOR5.out (k : Int) true EO.out).mono ?_); rintro e u6 ⟨rfl, hb⟩; have HB6 := Lib.hid (HB5.out.trans (hb.mono HB5.out.size)); have MOR6 := Lib.hid (MOR5.out.keep hb); obtain ⟨m6r0, m6r1, m6r2, m6r3⟩ := MOR6.out.1.cells; have MAN6 := Lib.hid (MAN5.out.keep hb); obtain ⟨m6s0, m6s1, m6s2, m6s3⟩ := MAN6.out.1.cells; have MMI6 := Lib.hid (MMI5.out.keep hb); obtain ⟨m6t0, m6t1, m6t2, m6t3⟩ := MMI6.out.1.cells; have MP6 := Lib.hid (MP5.out.keep hb); obtain ⟨m6p0, m6p1, m6p2, m6p3⟩ := MP6.out.1.cells; clear hb))
                  | (go_at_call 28; ((with_reducible refine (has_at MAN6.out (k : Int) false EN.out).mono ?_); rintro e u7 ⟨rfl, hb⟩; have HB7 := Lib.hid (HB6.out.trans (hb.mono HB6.out.size)); have MOR7 := Lib.hid (MOR6.out.keep hb); obtain ⟨m7r0, m7r1, m7r2, m7r3⟩ := MOR7.out.1.cells; have MAN7 := Lib.hid (MAN6.out.keep hb); obtain ⟨m7s0, m7s1, m7s2, m7s3⟩ := MAN7.out.1.cells; have MMI7 := Lib.hid (MMI6.out.keep hb); obtain ⟨m7t0, m7t1, m7t2, m7t3⟩ := MMI7.out.1.cells; have MP7 := Lib.hid (MP6.out.keep hb); obtain ⟨m7p0, m7p1, m7p2, m7p3⟩ := MP7.out.1.cells; clear hb))
                  | (go_at_call 28; ((with_reducible refine (has_at MMI7.out (k : Int) false EM.out).mono ?_); rintro e u8 ⟨rfl, hb⟩; have HB8 := Lib.hid (HB7.out.trans (hb.mono HB7.out.size)); have MOR8 := Lib.hid (MOR7.out.keep hb); obtain ⟨m8r0, m8r1, m8r2, m8r3⟩ := MOR8.out.1.cells; have MAN8 := Lib.hid (MAN7.out.keep hb); obtain ⟨m8s0, m8s1, m8s2, m8s3⟩ := MAN8.out.1.cells; have MMI8 := Lib.hid (MMI7.out.keep hb); obtain ⟨m8t0, m8t1, m8t2, m8t3⟩ := MMI8.out.1.cells; have MP8 := Lib.hid (MP7.out.keep hb); obtain ⟨m8p0, m8p1, m8p2, m8p3⟩ := MP8.out.1.cells; clear hb))
                  | (go_at_call 28; ((with_reducible refine (has_at MP8.out (k : Int) true EP.out).mono ?_); rintro e u9 ⟨rfl, hb⟩; have HB9 := Lib.hid (HB8.out.trans (hb.mono HB8.out.size)); have MOR9 := Lib.hid (MOR8.out.keep hb); obtain ⟨m9r0, m9r1, m9r2, m9r3⟩ := MOR9.out.1.cells; have MAN9 := Lib.hid (MAN8.out.keep hb); obtain ⟨m9s0, m9s1, m9s2, m9s3⟩ := MAN9.out.1.cells; have MMI9 := Lib.hid (MMI8.out.keep hb); obtain ⟨m9t0, m9t1, m9t2, m9t3⟩ := MMI9.out.1.cells; have MP9 := Lib.hid (MP8.out.keep hb); obtain ⟨m9p0, m9p1, m9p2, m9p3⟩ := MP9.out.1.cells; clear hb)))
                exact ⟨⟨k + 1, hk, rfl, Lib.hid (HBL.out.trans (HB9.out.mono HBL.out.size))⟩, by simp [intOf]; omega⟩
            | true =>
              cases hB : (Bm.val zs).testBit k with
              | false =>
                have EA : Hid ((decide (0 ≤ (k : Int)) && (Bm.val ys).testBit (k : Int).toNat) = true) := by show _ = _; rw [Int.toNat_natCast, hA]; simp
                have EB : Hid ((decide (0 ≤ (k : Int)) && (Bm.val zs).testBit (k : Int).toNat) = false) := by show _ = _; rw [Int.toNat_natCast, hB]; simp
                have EO : Hid ((decide (0 ≤ (k : Int)) && (Bm.val lo).testBit (k : Int).toNat) = true) := by show _ = _; rw [Int.toNat_natCast, HBO.out, hA, hB]; simp
                have EN : Hid ((decide (0 ≤ (k : Int)) && (Bm.val la).testBit (k : Int).toNat) = false) := by show _ = _; rw [Int.toNat_natCast, HBA.out, hA, hB]; simp
                have EM : Hid ((decide (0 ≤ (k : Int)) && (Bm.val lm).testBit (k : Int).toNat) = true) := by show _ = _; rw [Int.toNat_natCast, HBM.out, hA, hB]; simp
                have EP : Hid ((decide (0 ≤ (k : Int)) && (Bm.val lp).testBit (k : Int).toNat) = false) := by show _ = _; rw [Int.toNat_natCast, HBP.out, hA]; simp
                have hb4r : Hid (Below wr.heap.size wr wr) := Below.refl _ _
                obtain ⟨c0, c1, c2, c3⟩ := LA.out.1.cells
                obtain ⟨d0, d1, d2, d3⟩ := LB.out.1.cells
                clear hA hB hN6
                go_wp2_with fail
                go_region_held3 (fun W => (W.cell? ⟨b8, 0, none⟩ = some (.int .i64 N) ∧ W.cell? ⟨b8, 1, none⟩ = some (.slice sa q cs)) ∧ (W.cell? ⟨b9, 0, none⟩ = some (.int .i64 N) ∧ W.cell? ⟨b9, 1, none⟩ = some (.slice sb q cb))) (first | go_keep | exact ⟨⟨c0, c1⟩, d0, d1⟩ | exact ⟨⟨(LA.out.keep hb4).1.cells.1, (LA.out.keep hb4).1.cells.2.1⟩, (LB.out.keep hb4).1.cells.1, (LB.out.keep hb4).1.cells.2.1⟩ | exact ⟨⟨(LA.out.keep hb5).1.cells.1, (LA.out.keep hb5).1.cells.2.1⟩, (LB.out.keep hb5).1.cells.1, (LB.out.keep hb5).1.cells.2.1⟩) (first
                  | (go_at_call 28; (with_reducible show Calls _ _ #[.agg #[.int .i64 N, .slice sa q cs], _] _ _); refine (has_at (by exact LA.out) (k : Int) true EA.out).mono ?_; rintro e u4 ⟨rfl, hb4'⟩; have hb4 : Below wr.heap.size wr u4 := (Below.refl _ wr).drew.trans hb4')
                  | (go_at_call 28; (with_reducible show Calls _ _ #[.agg #[.int .i64 N, .slice sb q cb], _] _ _); refine (has_at (by exact LB.out.keep hb4) (k : Int) false EB.out).mono ?_; rintro e u5 ⟨rfl, hb5'⟩; have hb5 : Below wr.heap.size wr u5 := hb4.trans (hb5'.mono hb4.size)))
                rename_i hcont5 hheld5
                refine hcont5 _ _ ?_
                have HB5 := Lib.hid hb5
                have MOR5 := Lib.hid (LOR.out.keep hb5)
                have MAN5 := Lib.hid (LAN.out.keep hb5)
                have MMI5 := Lib.hid (LMI.out.keep hb5)
                have MP5 := Lib.hid (LP.out.keep hb5)
                obtain ⟨m5r0, m5r1, m5r2, m5r3⟩ := MOR5.out.1.cells
                obtain ⟨m5s0, m5s1, m5s2, m5s3⟩ := MAN5.out.1.cells
                obtain ⟨m5t0, m5t1, m5t2, m5t3⟩ := MMI5.out.1.cells
                obtain ⟨m5p0, m5p1, m5p2, m5p3⟩ := MP5.out.1.cells
                clear c0 c1 c2 c3 d0 d1 d2 d3 hb4 hb4' hb5 hb5' hheld5
                go_wp2_with (first
                  | (go_at_call 28; ((with_reducible refine (has_at MOR5.out (k : Int) true EO.out).mono ?_); rintro e u6 ⟨rfl, hb⟩; have HB6 := Lib.hid (HB5.out.trans (hb.mono HB5.out.size)); have MOR6 := Lib.hid (MOR5.out.keep hb); obtain ⟨m6r0, m6r1, m6r2, m6r3⟩ := MOR6.out.1.cells; have MAN6 := Lib.hid (MAN5.out.keep hb); obtain ⟨m6s0, m6s1, m6s2, m6s3⟩ := MAN6.out.1.cells; have MMI6 := Lib.hid (MMI5.out.keep hb); obtain ⟨m6t0, m6t1, m6t2, m6t3⟩ := MMI6.out.1.cells; have MP6 := Lib.hid (MP5.out.keep hb); obtain ⟨m6p0, m6p1, m6p2, m6p3⟩ := MP6.out.1.cells; clear hb))
                  | (go_at_call 28; ((with_reducible refine (has_at MAN6.out (k : Int) false EN.out).mono ?_); rintro e u7 ⟨rfl, hb⟩; have HB7 := Lib.hid (HB6.out.trans (hb.mono HB6.out.size)); have MOR7 := Lib.hid (MOR6.out.keep hb); obtain ⟨m7r0, m7r1, m7r2, m7r3⟩ := MOR7.out.1.cells; have MAN7 := Lib.hid (MAN6.out.keep hb); obtain ⟨m7s0, m7s1, m7s2, m7s3⟩ := MAN7.out.1.cells; have MMI7 := Lib.hid (MMI6.out.keep hb); obtain ⟨m7t0, m7t1, m7t2, m7t3⟩ := MMI7.out.1.cells; have MP7 := Lib.hid (MP6.out.keep hb); obtain ⟨m7p0, m7p1, m7p2, m7p3⟩ := MP7.out.1.cells; clear hb))
                  | (go_at_call 28; ((with_reducible refine (has_at MMI7.out (k : Int) true EM.out).mono ?_); rintro e u8 ⟨rfl, hb⟩; have HB8 := Lib.hid (HB7.out.trans (hb.mono HB7.out.size)); have MOR8 := Lib.hid (MOR7.out.keep hb); obtain ⟨m8r0, m8r1, m8r2, m8r3⟩ := MOR8.out.1.cells; have MAN8 := Lib.hid (MAN7.out.keep hb); obtain ⟨m8s0, m8s1, m8s2, m8s3⟩ := MAN8.out.1.cells; have MMI8 := Lib.hid (MMI7.out.keep hb); obtain ⟨m8t0, m8t1, m8t2, m8t3⟩ := MMI8.out.1.cells; have MP8 := Lib.hid (MP7.out.keep hb); obtain ⟨m8p0, m8p1, m8p2, m8p3⟩ := MP8.out.1.cells; clear hb))
                  | (go_at_call 28; ((with_reducible refine (has_at MP8.out (k : Int) false EP.out).mono ?_); rintro e u9 ⟨rfl, hb⟩; have HB9 := Lib.hid (HB8.out.trans (hb.mono HB8.out.size)); have MOR9 := Lib.hid (MOR8.out.keep hb); obtain ⟨m9r0, m9r1, m9r2, m9r3⟩ := MOR9.out.1.cells; have MAN9 := Lib.hid (MAN8.out.keep hb); obtain ⟨m9s0, m9s1, m9s2, m9s3⟩ := MAN9.out.1.cells; have MMI9 := Lib.hid (MMI8.out.keep hb); obtain ⟨m9t0, m9t1, m9t2, m9t3⟩ := MMI9.out.1.cells; have MP9 := Lib.hid (MP8.out.keep hb); obtain ⟨m9p0, m9p1, m9p2, m9p3⟩ := MP9.out.1.cells; clear hb)))
                exact ⟨⟨k + 1, hk, rfl, Lib.hid (HBL.out.trans (HB9.out.mono HBL.out.size))⟩, by simp [intOf]; omega⟩
              | true =>
                have EA : Hid ((decide (0 ≤ (k : Int)) && (Bm.val ys).testBit (k : Int).toNat) = true) := by show _ = _; rw [Int.toNat_natCast, hA]; simp
                have EB : Hid ((decide (0 ≤ (k : Int)) && (Bm.val zs).testBit (k : Int).toNat) = true) := by show _ = _; rw [Int.toNat_natCast, hB]; simp
                have EO : Hid ((decide (0 ≤ (k : Int)) && (Bm.val lo).testBit (k : Int).toNat) = true) := by show _ = _; rw [Int.toNat_natCast, HBO.out, hA, hB]; simp
                have EN : Hid ((decide (0 ≤ (k : Int)) && (Bm.val la).testBit (k : Int).toNat) = true) := by show _ = _; rw [Int.toNat_natCast, HBA.out, hA, hB]; simp
                have EM : Hid ((decide (0 ≤ (k : Int)) && (Bm.val lm).testBit (k : Int).toNat) = false) := by show _ = _; rw [Int.toNat_natCast, HBM.out, hA, hB]; simp
                have EP : Hid ((decide (0 ≤ (k : Int)) && (Bm.val lp).testBit (k : Int).toNat) = false) := by show _ = _; rw [Int.toNat_natCast, HBP.out, hA]; simp
                have hb4r : Hid (Below wr.heap.size wr wr) := Below.refl _ _
                obtain ⟨c0, c1, c2, c3⟩ := LA.out.1.cells
                obtain ⟨d0, d1, d2, d3⟩ := LB.out.1.cells
                clear hA hB hN6
                go_wp2_with fail
                go_region_held3 (fun W => (W.cell? ⟨b8, 0, none⟩ = some (.int .i64 N) ∧ W.cell? ⟨b8, 1, none⟩ = some (.slice sa q cs)) ∧ (W.cell? ⟨b9, 0, none⟩ = some (.int .i64 N) ∧ W.cell? ⟨b9, 1, none⟩ = some (.slice sb q cb))) (first | go_keep | exact ⟨⟨c0, c1⟩, d0, d1⟩ | exact ⟨⟨(LA.out.keep hb4).1.cells.1, (LA.out.keep hb4).1.cells.2.1⟩, (LB.out.keep hb4).1.cells.1, (LB.out.keep hb4).1.cells.2.1⟩ | exact ⟨⟨(LA.out.keep hb5).1.cells.1, (LA.out.keep hb5).1.cells.2.1⟩, (LB.out.keep hb5).1.cells.1, (LB.out.keep hb5).1.cells.2.1⟩) (first
                  | (go_at_call 28; (with_reducible show Calls _ _ #[.agg #[.int .i64 N, .slice sa q cs], _] _ _); refine (has_at (by exact LA.out) (k : Int) true EA.out).mono ?_; rintro e u4 ⟨rfl, hb4'⟩; have hb4 : Below wr.heap.size wr u4 := (Below.refl _ wr).drew.trans hb4')
                  | (go_at_call 28; (with_reducible show Calls _ _ #[.agg #[.int .i64 N, .slice sb q cb], _] _ _); refine (has_at (by exact LB.out.keep hb4) (k : Int) true EB.out).mono ?_; rintro e u5 ⟨rfl, hb5'⟩; have hb5 : Below wr.heap.size wr u5 := hb4.trans (hb5'.mono hb4.size)))
                rename_i hcont5 hheld5
                refine hcont5 _ _ ?_
                have HB5 := Lib.hid hb5
                have MOR5 := Lib.hid (LOR.out.keep hb5)
                have MAN5 := Lib.hid (LAN.out.keep hb5)
                have MMI5 := Lib.hid (LMI.out.keep hb5)
                have MP5 := Lib.hid (LP.out.keep hb5)
                obtain ⟨m5r0, m5r1, m5r2, m5r3⟩ := MOR5.out.1.cells
                obtain ⟨m5s0, m5s1, m5s2, m5s3⟩ := MAN5.out.1.cells
                obtain ⟨m5t0, m5t1, m5t2, m5t3⟩ := MMI5.out.1.cells
                obtain ⟨m5p0, m5p1, m5p2, m5p3⟩ := MP5.out.1.cells
                clear c0 c1 c2 c3 d0 d1 d2 d3 hb4 hb4' hb5 hb5' hheld5
                go_wp2_with (first
                  | (go_at_call 28; ((with_reducible refine (has_at MOR5.out (k : Int) true EO.out).mono ?_); rintro e u6 ⟨rfl, hb⟩; have HB6 := Lib.hid (HB5.out.trans (hb.mono HB5.out.size)); have MOR6 := Lib.hid (MOR5.out.keep hb); obtain ⟨m6r0, m6r1, m6r2, m6r3⟩ := MOR6.out.1.cells; have MAN6 := Lib.hid (MAN5.out.keep hb); obtain ⟨m6s0, m6s1, m6s2, m6s3⟩ := MAN6.out.1.cells; have MMI6 := Lib.hid (MMI5.out.keep hb); obtain ⟨m6t0, m6t1, m6t2, m6t3⟩ := MMI6.out.1.cells; have MP6 := Lib.hid (MP5.out.keep hb); obtain ⟨m6p0, m6p1, m6p2, m6p3⟩ := MP6.out.1.cells; clear hb))
                  | (go_at_call 28; ((with_reducible refine (has_at MAN6.out (k : Int) true EN.out).mono ?_); rintro e u7 ⟨rfl, hb⟩; have HB7 := Lib.hid (HB6.out.trans (hb.mono HB6.out.size)); have MOR7 := Lib.hid (MOR6.out.keep hb); obtain ⟨m7r0, m7r1, m7r2, m7r3⟩ := MOR7.out.1.cells; have MAN7 := Lib.hid (MAN6.out.keep hb); obtain ⟨m7s0, m7s1, m7s2, m7s3⟩ := MAN7.out.1.cells; have MMI7 := Lib.hid (MMI6.out.keep hb); obtain ⟨m7t0, m7t1, m7t2, m7t3⟩ := MMI7.out.1.cells; have MP7 := Lib.hid (MP6.out.keep hb); obtain ⟨m7p0, m7p1, m7p2, m7p3⟩ := MP7.out.1.cells; clear hb))
                  | (go_at_call 28; ((with_reducible refine (has_at MMI7.out (k : Int) false EM.out).mono ?_); rintro e u8 ⟨rfl, hb⟩; have HB8 := Lib.hid (HB7.out.trans (hb.mono HB7.out.size)); have MOR8 := Lib.hid (MOR7.out.keep hb); obtain ⟨m8r0, m8r1, m8r2, m8r3⟩ := MOR8.out.1.cells; have MAN8 := Lib.hid (MAN7.out.keep hb); obtain ⟨m8s0, m8s1, m8s2, m8s3⟩ := MAN8.out.1.cells; have MMI8 := Lib.hid (MMI7.out.keep hb); obtain ⟨m8t0, m8t1, m8t2, m8t3⟩ := MMI8.out.1.cells; have MP8 := Lib.hid (MP7.out.keep hb); obtain ⟨m8p0, m8p1, m8p2, m8p3⟩ := MP8.out.1.cells; clear hb))
                  | (go_at_call 28; ((with_reducible refine (has_at MP8.out (k : Int) false EP.out).mono ?_); rintro e u9 ⟨rfl, hb⟩; have HB9 := Lib.hid (HB8.out.trans (hb.mono HB8.out.size)); have MOR9 := Lib.hid (MOR8.out.keep hb); obtain ⟨m9r0, m9r1, m9r2, m9r3⟩ := MOR9.out.1.cells; have MAN9 := Lib.hid (MAN8.out.keep hb); obtain ⟨m9s0, m9s1, m9s2, m9s3⟩ := MAN9.out.1.cells; have MMI9 := Lib.hid (MMI8.out.keep hb); obtain ⟨m9t0, m9t1, m9t2, m9t3⟩ := MMI9.out.1.cells; have MP9 := Lib.hid (MP8.out.keep hb); obtain ⟨m9p0, m9p1, m9p2, m9p3⟩ := MP9.out.1.cells; clear hb)))
                exact ⟨⟨k + 1, hk, rfl, Lib.hid (HBL.out.trans (HB9.out.mono HBL.out.size))⟩, by simp [intOf]; omega⟩
          · obtain rfl : N = k := by omega
            clear hkN hN6
            go_wp2_with fail
            obtain ⟨co, hco⟩ : ∃ x, Bm.cnt (Bm.val lo) N = x := ⟨_, rfl⟩
            obtain ⟨ca, hca⟩ : ∃ x, Bm.cnt (Bm.val la) N = x := ⟨_, rfl⟩
            obtain ⟨cm, hcm⟩ : ∃ x, Bm.cnt (Bm.val lm) N = x := ⟨_, rfl⟩
            obtain ⟨cy, hcy⟩ : ∃ x, Bm.cnt (Bm.val ys) N = x := ⟨_, rfl⟩
            obtain ⟨cz, hcz⟩ : ∃ x, Bm.cnt (Bm.val zs) N = x := ⟨_, rfl⟩
            obtain ⟨s, hs⟩ : ∃ s, co + ca = s := ⟨_, rfl⟩
            have e1 : (co : Int) + (ca : Int) = (s : Int) := by omega
            have e2 : (cy : Int) + (cz : Int) = (s : Int) := by have := HC1.out; omega
            have e3 : (cy : Int) - (ca : Int) = (cm : Int) := by have := HC2.out; omega
            have hs9 : (s : Int) ≤ 4096 := by have h1 := Bm.cnt_le (Bm.val ys) N; have h2 := Bm.cnt_le (Bm.val zs) N; omega
            have hc9 : (cm : Int) ≤ 4096 := by have h1 := Bm.cnt_le (Bm.val ys) N; omega
            have hwc : IntKind.i64.wrap (cm : Int) = (cm : Int) := by rw [IntKind.wrap_i64]; omega
            have HCO := Lib.hid hco
            have HCA := Lib.hid hca
            have HCM' := Lib.hid hcm
            have HCY := Lib.hid hcy
            have HCZ := Lib.hid hcz
            clear hco hca hcm hcy hcz hs
            have hb0 : Below wr.heap.size wr wr := Below.refl _ _
            obtain ⟨zOR0, zOR1, zOR2, zOR3⟩ := LOR.out.1.cells
            obtain ⟨zAN0, zAN1, zAN2, zAN3⟩ := LAN.out.1.cells
            obtain ⟨zA0, zA1, zA2, zA3⟩ := LA.out.1.cells
            obtain ⟨zB0, zB1, zB2, zB3⟩ := LB.out.1.cells
            obtain ⟨zMI0, zMI1, zMI2, zMI3⟩ := LMI.out.1.cells
            go_region_held3 (fun W => (W.cell? ⟨p1, 0, none⟩ = some (.int .i64 N) ∧ W.cell? ⟨p1, 1, none⟩ = some (.slice (some ⟨g1, 0, none⟩) q q)) ∧ (W.cell? ⟨p2, 0, none⟩ = some (.int .i64 N) ∧ W.cell? ⟨p2, 1, none⟩ = some (.slice (some ⟨g2, 0, none⟩) q q)) ∧ (W.cell? ⟨b8, 0, none⟩ = some (.int .i64 N) ∧ W.cell? ⟨b8, 1, none⟩ = some (.slice sa q cs)) ∧ (W.cell? ⟨b9, 0, none⟩ = some (.int .i64 N) ∧ W.cell? ⟨b9, 1, none⟩ = some (.slice sb q cb)) ∧ (W.cell? ⟨p3, 0, none⟩ = some (.int .i64 N) ∧ W.cell? ⟨p3, 1, none⟩ = some (.slice (some ⟨g3, 0, none⟩) q q))) (first | go_keep | exact ⟨⟨zOR0, zOR1⟩, ⟨zAN0, zAN1⟩, ⟨zA0, zA1⟩, ⟨zB0, zB1⟩, ⟨zMI0, zMI1⟩⟩ | exact ⟨⟨(LOR.out.keep hb1).1.cells.1, (LOR.out.keep hb1).1.cells.2.1⟩, ⟨(LAN.out.keep hb1).1.cells.1, (LAN.out.keep hb1).1.cells.2.1⟩, ⟨(LA.out.keep hb1).1.cells.1, (LA.out.keep hb1).1.cells.2.1⟩, ⟨(LB.out.keep hb1).1.cells.1, (LB.out.keep hb1).1.cells.2.1⟩, ⟨(LMI.out.keep hb1).1.cells.1, (LMI.out.keep hb1).1.cells.2.1⟩⟩ | exact ⟨⟨(LOR.out.keep hb2).1.cells.1, (LOR.out.keep hb2).1.cells.2.1⟩, ⟨(LAN.out.keep hb2).1.cells.1, (LAN.out.keep hb2).1.cells.2.1⟩, ⟨(LA.out.keep hb2).1.cells.1, (LA.out.keep hb2).1.cells.2.1⟩, ⟨(LB.out.keep hb2).1.cells.1, (LB.out.keep hb2).1.cells.2.1⟩, ⟨(LMI.out.keep hb2).1.cells.1, (LMI.out.keep hb2).1.cells.2.1⟩⟩ | exact ⟨⟨(LOR.out.keep hb3).1.cells.1, (LOR.out.keep hb3).1.cells.2.1⟩, ⟨(LAN.out.keep hb3).1.cells.1, (LAN.out.keep hb3).1.cells.2.1⟩, ⟨(LA.out.keep hb3).1.cells.1, (LA.out.keep hb3).1.cells.2.1⟩, ⟨(LB.out.keep hb3).1.cells.1, (LB.out.keep hb3).1.cells.2.1⟩, ⟨(LMI.out.keep hb3).1.cells.1, (LMI.out.keep hb3).1.cells.2.1⟩⟩ | exact ⟨⟨(LOR.out.keep hb4).1.cells.1, (LOR.out.keep hb4).1.cells.2.1⟩, ⟨(LAN.out.keep hb4).1.cells.1, (LAN.out.keep hb4).1.cells.2.1⟩, ⟨(LA.out.keep hb4).1.cells.1, (LA.out.keep hb4).1.cells.2.1⟩, ⟨(LB.out.keep hb4).1.cells.1, (LB.out.keep hb4).1.cells.2.1⟩, ⟨(LMI.out.keep hb4).1.cells.1, (LMI.out.keep hb4).1.cells.2.1⟩⟩ | exact ⟨⟨(LOR.out.keep hb5).1.cells.1, (LOR.out.keep hb5).1.cells.2.1⟩, ⟨(LAN.out.keep hb5).1.cells.1, (LAN.out.keep hb5).1.cells.2.1⟩, ⟨(LA.out.keep hb5).1.cells.1, (LA.out.keep hb5).1.cells.2.1⟩, ⟨(LB.out.keep hb5).1.cells.1, (LB.out.keep hb5).1.cells.2.1⟩, ⟨(LMI.out.keep hb5).1.cells.1, (LMI.out.keep hb5).1.cells.2.1⟩⟩ | exact ⟨⟨(LOR.out.keep hb6).1.cells.1, (LOR.out.keep hb6).1.cells.2.1⟩, ⟨(LAN.out.keep hb6).1.cells.1, (LAN.out.keep hb6).1.cells.2.1⟩, ⟨(LA.out.keep hb6).1.cells.1, (LA.out.keep hb6).1.cells.2.1⟩, ⟨(LB.out.keep hb6).1.cells.1, (LB.out.keep hb6).1.cells.2.1⟩, ⟨(LMI.out.keep hb6).1.cells.1, (LMI.out.keep hb6).1.cells.2.1⟩⟩ | exact ⟨⟨(LOR.out.keep hb7).1.cells.1, (LOR.out.keep hb7).1.cells.2.1⟩, ⟨(LAN.out.keep hb7).1.cells.1, (LAN.out.keep hb7).1.cells.2.1⟩, ⟨(LA.out.keep hb7).1.cells.1, (LA.out.keep hb7).1.cells.2.1⟩, ⟨(LB.out.keep hb7).1.cells.1, (LB.out.keep hb7).1.cells.2.1⟩, ⟨(LMI.out.keep hb7).1.cells.1, (LMI.out.keep hb7).1.cells.2.1⟩⟩) (first
              | (go_at_call 21; (with_reducible show Calls _ _ #[.agg #[.int .i64 N, .slice (some ⟨g1, 0, none⟩) q q]] _ _); refine (count_at (by exact LOR.out) co HCO.out).mono ?_; rintro e u1 ⟨rfl, hb1'⟩; have hb1 : Below wr.heap.size wr u1 := (Below.refl _ wr).drew.trans hb1'; clear hb1')
              | (go_at_call 21; (with_reducible show Calls _ _ #[.agg #[.int .i64 N, .slice (some ⟨g2, 0, none⟩) q q]] u1 _); refine (count_at (by exact LAN.out.keep hb1) ca HCA.out).mono ?_; rintro e u2 ⟨rfl, hb2'⟩; have hb2 : Below wr.heap.size wr u2 := hb1.trans (hb2'.mono hb1.size); clear hb2')
              | (go_at_call 21; (with_reducible show Calls _ _ #[.agg #[.int .i64 N, .slice sa q cs]] u2 _); refine (count_at (by exact LA.out.keep hb2) cy HCY.out).mono ?_; rintro e u3 ⟨rfl, hb3'⟩; have hb3 : Below wr.heap.size wr u3 := hb2.trans (hb3'.mono hb2.size); clear hb3')
              | (go_at_call 21; (with_reducible show Calls _ _ #[.agg #[.int .i64 N, .slice sb q cb]] u3 _); refine (count_at (by exact LB.out.keep hb3) cz HCZ.out).mono ?_; rintro e u4 ⟨rfl, hb4'⟩; have hb4 : Below wr.heap.size wr u4 := hb3.trans (hb4'.mono hb3.size); clear hb4')
              | (go_at_call 21; (with_reducible show Calls _ _ #[.agg #[.int .i64 N, .slice (some ⟨g3, 0, none⟩) q q]] u4 _); refine (count_at (by exact LMI.out.keep hb4) cm HCM'.out).mono ?_; rintro e u5 ⟨rfl, hb5'⟩; have hb5 : Below wr.heap.size wr u5 := hb4.trans (hb5'.mono hb4.size); clear hb5')
              | (go_at_call 21; (with_reducible show Calls _ _ #[.agg #[.int .i64 N, .slice sa q cs]] u5 _); refine (count_at (by exact LA.out.keep hb5) cy HCY.out).mono ?_; rintro e u6 ⟨rfl, hb6'⟩; have hb6 : Below wr.heap.size wr u6 := hb5.trans (hb6'.mono hb5.size); clear hb6')
              | (go_at_call 21; (with_reducible show Calls _ _ #[.agg #[.int .i64 N, .slice (some ⟨g2, 0, none⟩) q q]] u6 _); refine (count_at (by exact LAN.out.keep hb6) ca HCA.out).mono ?_; rintro e u7 ⟨rfl, hb7'⟩; have hb7 : Below wr.heap.size wr u7 := hb6.trans (hb7'.mono hb6.size); clear hb7'))
            rename_i hcont7 hheld7
            refine hcont7 _ _ ?_
            go_wp2_with fail
            go_ret
            exact ⟨rfl, HWL.out.trans (hb7.mono HWL.out.size)⟩

theorem algebra_walk (a0 : Int) (a1 : Option Addr) (len1 cap1 : Nat) (z1 : List Int) (a2 : Option Addr) (len2 cap2 : Nat) (z2 : List Int) (w : World) (w0 : (Lit.int .u16 a0).wf = true) (w1 : IsRow .u64 w a1 len1 cap1 z1) (w2 : IsRow .u64 w a2 len2 cap2 z2) (wx : HT w) :
    Calls Tryd.prog 9 #[.int .u16 a0, .slice a1 len1 cap1, .slice a2 len2 cap2] w fun e w' => e = .returned (.bool true) ∧ Below w.heap.size w w' := by
  obtain ⟨xs, hn, hS, hx, h1, h2⟩ := row_u64 w1
  obtain ⟨xs2, hn2, hS2, hx2, h12, h22⟩ := row_u64 w2
  have b0 := bounds_u16 w0
  obtain ⟨x0, rfl⟩ : ∃ x : Nat, a0 = (x : Int) := ⟨a0.toNat, by omega⟩
  exact algebra_law x0 (by omega) a1 len1 cap1 xs hn h1 h2 hx a2 len2 cap2 xs2 hn2 h12 h22 hx2 w hS hS2 wx
end Go.Proofs.YtkochcolmkgkgaaDoor
