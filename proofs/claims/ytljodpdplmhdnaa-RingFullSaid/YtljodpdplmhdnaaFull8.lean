/-
  RingFull's walk.
-/
import Derived.Test.YtljodpdplmhdnaaStand
namespace Go.Proofs.Ytljodpdplmhdnaa
open Go.RowKit
set_option linter.unusedVariables false
set_option maxRecDepth 100000 in
set_option maxHeartbeats 8000000 in
theorem full_n (c : Nat) (hc : c < 256) (ln cp : Nat) (xs : List Nat) (hx : xs.length = ln) (hx256 : ∀ x ∈ xs, x < 256) (w : World) (hS : InB w none xs) (hlc : ln ≤ cp) (hcm : cp ≤ maxLen) : Calls Try.prog 6 #[.int .u8 c, .slice none ln cp] w fun e w' => e = .returned (.bool true) ∧ Below w.heap.size w w' := by
  obtain ⟨cap, hcap⟩ : ∃ cap, 1 + c % 20 = cap := ⟨_, rfl⟩
  have HCAP := Lib.hid hcap
  have HCB : Hid (1 ≤ cap ∧ cap ≤ 20) := by show _ ∧ _; omega
  have HC := Lib.hid hc
  obtain ⟨mn, hmn⟩ : ∃ mn : Nat, min ln 200 = mn := ⟨_, rfl⟩
  have hmi : min (ln : Int) 200 = (mn : Int) := by omega
  have hmi2 : (if (200 : Int) < (ln : Int) then (200 : Int) else (ln : Int)) = (mn : Int) := by split <;> omega
  have hmi3 : (if 200 < ln then (200 : Int) else (ln : Int)) = (mn : Int) := by split <;> omega
  have hmc : (mn : Int) ≤ (cp : Int) := by omega
  have hm0 : (0 : Int) ≤ (mn : Int) := by omega
  have hmw : IntKind.i64.wrap (mn : Int) = (mn : Int) := by rw [IntKind.wrap_i64]; omega
  have HMN : Hid (mn ≤ 200 ∧ mn ≤ ln) := by show _ ∧ _; omega
  have HXL := Lib.hid hx
  have HX2 : Hid (∀ x ∈ xs, x < 256) := hx256
  have HS : Hid (InB w none xs) := hS
  have hcm' : (cp : Int) ≤ 9223372036854775807 := by unfold maxLen at hcm; omega
  clear hc hcap hmn hlc hcm hx hx256 hS
  go_enter Try.func6, Try.ntmps6
  go_wp2_with (first
    | (go_at_call 12; (with_reducible refine (awake_any w).mono ?_); rintro e w1 ⟨rfl, h1⟩; have HB1 := Lib.hid h1; clear h1)
    | (go_at_call 14; (with_reducible refine (made_any c cap HC.out HCAP.out w1).mono ?_); rintro e w2 ⟨rfl, h1, h2⟩; obtain ⟨S2, h3⟩ := Stand.made w cap HB1.out h1 h2; have HT2 := Lib.hid h3; clear h1 h2 h3))
  obtain ⟨B, hB⟩ : ∃ B, w1.heap.size = B := ⟨_, rfl⟩
  rw [hB] at HT2
  simp only [hB]
  clear hB
  go_loopw [35] (fun i wr => ∃ k : Nat, k ≤ mn ∧ i = .int .i64 k ∧ ∃ S l op ac rf, Hid (Stand w wr B S cap l op ac rf) ∧ Hid (ac + rf ≤ k)) (fun i _ => mn - (intOf i).toNat)
  case atStart => exact ⟨0, Nat.zero_le _, rfl, S2, [], 0, 0, 0, HT2, Nat.le_refl _⟩
  case round =>
    obtain ⟨k, hk, rfl, S, l, op, ac, rf, HT, HU⟩ := hrel
    by_cases hkm : k < mn
    · exfalso
      have h1 := HMN.out
      have h2 : xs.length = 0 := by
        rcases Nat.eq_zero_or_pos xs.length with h | h
        · exact h
        · obtain ⟨_, _, h3, _⟩ := HS.out.at (Below.refl _ _) h
          cases h3
      have h3 := HXL.out
      omega
    · obtain rfl : mn = k := by omega
      clear hkm hk
      go_wp2
      go_ret
      exact ⟨rfl, HT.out.bel⟩
set_option maxRecDepth 100000 in
set_option maxHeartbeats 8000000 in
theorem full_s (c : Nat) (hc : c < 256) (ba oa : Nat) (sa : Option Nat) (ln cp : Nat) (xs : List Nat) (hx : xs.length = ln) (hx256 : ∀ x ∈ xs, x < 256) (w : World) (hS : InB w (some ⟨ba, oa, sa⟩) xs) (hlc : ln ≤ cp) (hcm : cp ≤ maxLen) : Calls Try.prog 6 #[.int .u8 c, .slice (some ⟨ba, oa, sa⟩) ln cp] w fun e w' => e = .returned (.bool true) ∧ Below w.heap.size w w' := by
  obtain ⟨cap, hcap⟩ : ∃ cap, 1 + c % 20 = cap := ⟨_, rfl⟩
  have HCAP := Lib.hid hcap
  have HCB : Hid (1 ≤ cap ∧ cap ≤ 20) := by show _ ∧ _; omega
  have HC := Lib.hid hc
  obtain ⟨mn, hmn⟩ : ∃ mn : Nat, min ln 200 = mn := ⟨_, rfl⟩
  have hmi : min (ln : Int) 200 = (mn : Int) := by omega
  have hmi2 : (if (200 : Int) < (ln : Int) then (200 : Int) else (ln : Int)) = (mn : Int) := by split <;> omega
  have hmi3 : (if 200 < ln then (200 : Int) else (ln : Int)) = (mn : Int) := by split <;> omega
  have hmc : (mn : Int) ≤ (cp : Int) := by omega
  have hm0 : (0 : Int) ≤ (mn : Int) := by omega
  have hmw : IntKind.i64.wrap (mn : Int) = (mn : Int) := by rw [IntKind.wrap_i64]; omega
  have HMN : Hid (mn ≤ 200 ∧ mn ≤ ln) := by show _ ∧ _; omega
  have HXL := Lib.hid hx
  have HX2 : Hid (∀ x ∈ xs, x < 256) := hx256
  have HS : Hid (InB w (some ⟨ba, oa, sa⟩) xs) := hS
  have hcm' : (cp : Int) ≤ 9223372036854775807 := by unfold maxLen at hcm; omega
  clear hc hcap hmn hlc hcm hx hx256 hS
  go_enter Try.func6, Try.ntmps6
  go_wp2_with (first
    | (go_at_call 12; (with_reducible refine (awake_any w).mono ?_); rintro e w1 ⟨rfl, h1⟩; have HB1 := Lib.hid h1; clear h1)
    | (go_at_call 14; (with_reducible refine (made_any c cap HC.out HCAP.out w1).mono ?_); rintro e w2 ⟨rfl, h1, h2⟩; obtain ⟨S2, h3⟩ := Stand.made w cap HB1.out h1 h2; have HT2 := Lib.hid h3; clear h1 h2 h3))
  obtain ⟨B, hB⟩ : ∃ B, w1.heap.size = B := ⟨_, rfl⟩
  rw [hB] at HT2
  simp only [hB]
  clear hB
  go_loopw [35] (fun i wr => ∃ k : Nat, k ≤ mn ∧ i = .int .i64 k ∧ ∃ S l op ac rf, Hid (Stand w wr B S cap l op ac rf) ∧ Hid (ac + rf ≤ k)) (fun i _ => mn - (intOf i).toNat)
  case atStart => exact ⟨0, Nat.zero_le _, rfl, S2, [], 0, 0, 0, HT2, Nat.le_refl _⟩
  case round =>
    obtain ⟨k, hk, rfl, S, l, op, ac, rf, HT, HU⟩ := hrel
    by_cases hkm : k < mn
    · have hkl : k < xs.length := by have := HXL.out; have := HMN.out; omega
      obtain ⟨x, hx⟩ : ∃ x, xs[k] = x := ⟨_, rfl⟩
      have hx2 : x < 256 := by rw [← hx]; exact HX2.out _ (List.getElem_mem _)
      obtain ⟨_, _, hab, hcell⟩ := HS.out.at HT.out.bel hkl
      rw [hx] at hcell
      cases hab
      have hxw : IntKind.i64.wrap (x : Int) = (x : Int) := by rw [IntKind.wrap_i64]; omega
      have hkm2 : (k : Int) < (mn : Int) := by omega
      have hk1 : IntKind.i64.wrap ((k : Int) + 1) = (k : Int) + 1 := by rw [IntKind.wrap_i64]; have := HMN.out; omega
      clear hx hkl
      by_cases hx1 : 200 ≤ x
      · have hxd : (200 : Int) ≤ (x : Int) := by omega
        have hxd2 : ¬ (x : Int) < 200 := by omega
        obtain ⟨q, hq⟩ : ∃ q, x % 4 = q := ⟨_, rfl⟩
        have hq2 : (x : Int) % 4 = (q : Int) := by omega
        obtain ⟨m, hm⟩ : ∃ m, min q l.length = m := ⟨_, rfl⟩
        have HM := Lib.hid hm
        clear hm hq
        go_wp2_with (go_at_call 17; (with_reducible refine (HT.out.take q m HM.out).mono ?_); rintro e w5 ⟨ra, rc, rfl, h1, h2, h3⟩; have HT5 := Lib.hid h2; clear h1 h2 h3)
        have HK5 : Hid (ac + rf ≤ k + 1) := Nat.le_succ_of_le HU.out
        first
          | exact ⟨⟨k + 1, hkm, rfl, S, l.drop m, op, ac, rf, HT5, HK5⟩, by simp [intOf]; omega⟩
          | (refine ⟨?_, by simp [intOf]; omega⟩
             repeat apply Exists.intro
             refine ⟨⟨k + 1, hkm, rfl, S, l.drop m, op, ac, rf, HT5, HK5⟩, ?_⟩
             simp
             repeat' (first | exact rfl | omega | apply And.intro))
      · have hxd : ¬ (200 : Int) ≤ (x : Int) := by omega
        have hxd2 : (x : Int) < 200 := by omega
        obtain ⟨m, hm⟩ : ∃ m, l.length = m := ⟨_, rfl⟩
        have HLN := Lib.hid hm
        have HM20 : Hid (m ≤ cap ∧ cap ≤ 20) := by show _ ∧ _; have := HT.out.rng.bounds; have := HCB.out; omega
        have HAC : Hid (ac ≤ 1000000) := by show _ ≤ _; have := HU.out; have := HMN.out; omega
        have HRF : Hid (rf ≤ 1000000) := by show _ ≤ _; have := HU.out; have := HMN.out; omega
        have HOP : Hid (op ≤ 1000000) := by show _ ≤ _; have := HT.out.rng.bounds; have := HRF.out; omega
        by_cases hroom : m < cap
        · have HLR : Hid (l.length < cap) := by show _ < _; omega
          have hr1 : ¬ (cap : Int) < (m : Int) := by omega
          have hr2 : ¬ (m : Int) = (cap : Int) := by omega
          have hr3 : ((m : Int) == (cap : Int)) = false := by simp; omega
          clear hm hroom
          go_upto_region 14 with (first
            | (go_at_call 21; (with_reducible refine (HT.out.all m HLN.out).mono ?_); rintro e w5 ⟨ba', bc, rfl, h1, h2, h3, h4⟩; have HSL5 := Lib.hid h1; have HT5 := Lib.hid h2; have HAP := Lib.hid h4; clear h1 h2 h3 h4)
            | (go_at_call 22; (with_reducible refine (RI.open_any w5 B S cap (l) (op) (ac) (rf) HT5.out.rng op rfl).mono ?_); rintro e wx ⟨rfl, hw⟩; obtain rfl : w5 = wx := hw.symm)
            | (go_at_call 19; (with_reducible refine (RI.accepted_any w5 B S cap (l) (op) (ac) (rf) HT5.out.rng ac rfl).mono ?_); rintro e wx ⟨rfl, hw⟩; obtain rfl : w5 = wx := hw.symm)
            | (go_at_call 20; (with_reducible refine (RI.refused_any w5 B S cap (l) (op) (ac) (rf) HT5.out.rng rf rfl).mono ?_); rintro e wx ⟨rfl, hw⟩; obtain rfl : w5 = wx := hw.symm))
          go_upto_region 15 with (go_at_call 16; (with_reducible refine (HT5.out.put_room HLR.out HAC.out (k : Int)).mono ?_); rintro e w6 ⟨S6, rfl, h1, h2, h3⟩; have HT6 := Lib.hid h1; have HSL6 := Lib.hid (HSL5.out.keep h2 HAP.out); clear h1 h2 h3)
          obtain ⟨l6, hl6⟩ : ∃ l6, l ++ [((k : Int), op)] = l6 := ⟨_, rfl⟩
          obtain ⟨a6, ha6⟩ : ∃ a6, ac + 1 = a6 := ⟨_, rfl⟩
          have HT6' : Hid (Stand w w6 B S6 cap l6 0 a6 rf) := by show Stand _ _ _ _ _ _ _ _ _; rw [← hl6, ← ha6]; exact HT6.out
          have HSAME : Hid (∀ j p, l[j]? = some p → l6[j]? = some p) := fun j p hp => by rw [← hl6, List.getElem?_append_left (List.getElem?_eq_some_iff.1 hp).1]; exact hp
          obtain ⟨m2, hm2⟩ : ∃ m2, m + 1 = m2 := ⟨_, rfl⟩
          have HLN2 : Hid (l6.length = m2) := by show _ = _; rw [← hl6, List.length_append, HLN.out]; exact hm2
          have HLAST : Hid (l6[m]? = some ((k : Int), op)) := by show _ = _; rw [← hl6, List.getElem?_append_right (by rw [HLN.out]; exact Nat.le_refl _), HLN.out, Nat.sub_self]; rfl
          have hw3 : IntKind.i64.wrap ((m : Int) + 1) = (m2 : Int) := by rw [IntKind.wrap_i64]; have := HM20.out; omega
          have hw4 : IntKind.i64.wrap ((ac : Int) + 1) = (a6 : Int) := by rw [IntKind.wrap_i64]; have := HAC.out; omega
          have hmm2 : (m : Int) < (m2 : Int) := by omega
          have hmm0 : (0 : Int) ≤ (m : Int) := by omega
          have HM3 : Hid (m2 ≤ 21) := by show _ ≤ _; have := HM20.out; omega
          have HMM : Hid (m ≤ m2) := by show _ ≤ _; omega
          have HUN : Hid (a6 + rf ≤ k + 1) := by show _ ≤ _; have := HU.out; omega
          clear hl6 ha6 hm2
          go_upto_region 16 with (go_at_call 21; (with_reducible refine (HT6'.out.all m2 HLN2.out).mono ?_); rintro e w7 ⟨aa, acp, rfl, h1, h2, h3, h4⟩; have HSLa := Lib.hid h1; have HT7 := Lib.hid h2; have HSLb := Lib.hid (HSL6.out.below h3); clear h1 h2 h3 h4)
          obtain ⟨g2, hg2, c2, c3⟩ := HSLa.out.at HLAST.out
          subst hg2
          have heq : ∀ W : World, (Op.equalIn 10000 34 (.agg #[.int .i64 (k : Int), .int .i64 op]) (.agg #[.int .i64 (k : Int), .int .i64 op])).run Try.prog W = .ok true W := fun W => by simpa using RI.run_eq_slot (k : Int) (k : Int) op op W
          go_wp2_with (first
            | (go_at_call 23; (with_reducible refine (RI.len_any w7 B S6 cap (l6) (0) (a6) (rf) HT7.out.rng m2 HLN2.out).mono ?_); rintro e wx ⟨rfl, hw⟩; obtain rfl : w7 = wx := hw.symm)
            | (go_at_call 22; (with_reducible refine (RI.open_any w7 B S6 cap (l6) (0) (a6) (rf) HT7.out.rng 0 rfl).mono ?_); rintro e wx ⟨rfl, hw⟩; obtain rfl : w7 = wx := hw.symm)
            | (go_at_call 20; (with_reducible refine (RI.refused_any w7 B S6 cap (l6) (0) (a6) (rf) HT7.out.rng rf rfl).mono ?_); rintro e wx ⟨rfl, hw⟩; obtain rfl : w7 = wx := hw.symm)
            | (go_at_call 19; (with_reducible refine (RI.accepted_any w7 B S6 cap (l6) (0) (a6) (rf) HT7.out.rng a6 rfl).mono ?_); rintro e wx ⟨rfl, hw⟩; obtain rfl : w7 = wx := hw.symm))
          clear c2 c3 heq
          go_loopw [149] (fun i wq => ∃ j : Nat, j ≤ m ∧ i = .int .i64 j ∧ Hid (Below w7.heap.size w7 wq)) (fun i _ => m - (intOf i).toNat)
          case atStart => exact ⟨0, Nat.zero_le _, rfl, Below.refl _ _⟩
          case round =>
            obtain ⟨j, hj, rfl, HBj⟩ := hrel
            by_cases hjm : j < m
            · obtain ⟨p, hp⟩ : ∃ p, l[j]? = some p := ⟨_, List.getElem?_eq_getElem (by rw [HLN.out]; exact hjm)⟩
              obtain ⟨g1, hg1, c0, c1⟩ := (HSLb.out.below HBj.out).at hp
              obtain ⟨g2, hg2, c2, c3⟩ := (HSLa.out.below HBj.out).at (HSAME.out j p hp)
              cases hg1
              cases hg2
              obtain ⟨q, hq⟩ : ∃ q, p.2 = q := ⟨_, rfl⟩
              obtain ⟨it, hit⟩ : ∃ it, p.1 = it := ⟨_, rfl⟩
              rw [hq] at c1 c3
              rw [hit] at c0 c2
              have heq : ∀ W : World, (Op.equalIn 10000 34 (.agg #[.int .i64 it, .int .i64 q]) (.agg #[.int .i64 it, .int .i64 q])).run Try.prog W = .ok true W := fun W => by simpa using RI.run_eq_slot it it q q W
              have hjm2 : (j : Int) < (m : Int) := by omega
              have hjm3 : (j : Int) < (m2 : Int) := by have := HMM.out; omega
              have hj0 : (0 : Int) ≤ (j : Int) := by omega
              have hj1 : IntKind.i64.wrap ((j : Int) + 1) = (j : Int) + 1 := by rw [IntKind.wrap_i64]; have := HM20.out; omega
              clear hq hit hp
              go_wp2
              go_quiet (fail)
              have HBn : Hid (Below w7.heap.size w7 (wr.drewN nq)) := below_drewN HBj.out nq
              generalize (wr.drewN nq) = wn at HBn ⊢
              go_wp2
              first
                | exact ⟨⟨j + 1, hjm, rfl, HBn⟩, by simp [intOf]; omega⟩
                | (refine ⟨?_, by simp [intOf]; omega⟩
                   repeat apply Exists.intro
                   refine ⟨⟨j + 1, hjm, rfl, HBn⟩, ?_⟩
                   simp
                   repeat' (first | exact rfl | omega | apply And.intro))
            · obtain rfl : m = j := by omega
              clear hjm hj
              have HTf := Lib.hid (HT7.out.below HBj.out)
              go_wp2
              first
                | exact ⟨⟨k + 1, hkm, rfl, S6, l6, 0, a6, rf, HTf, HUN⟩, by simp [intOf]; omega⟩
                | (refine ⟨?_, by simp [intOf]; omega⟩
                   repeat apply Exists.intro
                   refine ⟨⟨k + 1, hkm, rfl, S6, l6, 0, a6, rf, HTf, HUN⟩, ?_⟩
                   simp
                   repeat' (first | exact rfl | omega | apply And.intro))
        · have HLF : Hid (l.length = cap) := by show _ = _; have := HM20.out; omega
          have hr1 : ¬ (cap : Int) < (m : Int) := by have := HM20.out; omega
          have hr3 : ((m : Int) == (cap : Int)) = true := by have := HM20.out; simp; omega
          clear hm hroom
          go_upto_region 14 with (first
            | (go_at_call 21; (with_reducible refine (HT.out.all m HLN.out).mono ?_); rintro e w5 ⟨ba', bc, rfl, h1, h2, h3, h4⟩; have HSL5 := Lib.hid h1; have HT5 := Lib.hid h2; have HAP := Lib.hid h4; clear h1 h2 h3 h4)
            | (go_at_call 22; (with_reducible refine (RI.open_any w5 B S cap (l) (op) (ac) (rf) HT5.out.rng op rfl).mono ?_); rintro e wx ⟨rfl, hw⟩; obtain rfl : w5 = wx := hw.symm)
            | (go_at_call 19; (with_reducible refine (RI.accepted_any w5 B S cap (l) (op) (ac) (rf) HT5.out.rng ac rfl).mono ?_); rintro e wx ⟨rfl, hw⟩; obtain rfl : w5 = wx := hw.symm)
            | (go_at_call 20; (with_reducible refine (RI.refused_any w5 B S cap (l) (op) (ac) (rf) HT5.out.rng rf rfl).mono ?_); rintro e wx ⟨rfl, hw⟩; obtain rfl : w5 = wx := hw.symm))
          go_upto_region 15 with (go_at_call 16; (with_reducible refine (HT5.out.put_full HLF.out HRF.out (k : Int)).mono ?_); rintro e w6 ⟨rfl, h1, h2⟩; have HT6 := Lib.hid h1; have HSL6 := Lib.hid (HSL5.out.keep h2 HAP.out); clear h1 h2)
          obtain ⟨o6, ho6⟩ : ∃ o6, op + 1 = o6 := ⟨_, rfl⟩
          obtain ⟨r6, hr6⟩ : ∃ r6, rf + 1 = r6 := ⟨_, rfl⟩
          have HT6' : Hid (Stand w w6 B S cap l o6 ac r6) := by show Stand _ _ _ _ _ _ _ _ _; rw [← ho6, ← hr6]; exact HT6.out
          have HSAME : Hid (∀ (j : Nat) (p : RI.RV), l[j]? = some p → l[j]? = some p) := fun j p hp => hp
          have HLN2 : Hid (l.length = m) := HLN
          have hw3 : IntKind.i64.wrap ((op : Int) + 1) = (o6 : Int) := by rw [IntKind.wrap_i64]; have := HOP.out; omega
          have hw4 : IntKind.i64.wrap ((rf : Int) + 1) = (r6 : Int) := by rw [IntKind.wrap_i64]; have := HRF.out; omega
          have hmm4 : (m : Int) = (cap : Int) := by have := HLF.out; have := HLN.out; omega
          have HMM : Hid (m ≤ m) := by show _ ≤ _; omega
          have HUN : Hid (ac + r6 ≤ k + 1) := by show _ ≤ _; have := HU.out; omega
          clear ho6 hr6
          go_upto_region 16 with (go_at_call 21; (with_reducible refine (HT6'.out.all m HLN2.out).mono ?_); rintro e w7 ⟨aa, acp, rfl, h1, h2, h3, h4⟩; have HSLa := Lib.hid h1; have HT7 := Lib.hid h2; have HSLb := Lib.hid (HSL6.out.below h3); clear h1 h2 h3 h4)
          go_wp2_with (first
            | (go_at_call 23; (with_reducible refine (RI.len_any w7 B S cap (l) (o6) (ac) (r6) HT7.out.rng m HLN2.out).mono ?_); rintro e wx ⟨rfl, hw⟩; obtain rfl : w7 = wx := hw.symm)
            | (go_at_call 22; (with_reducible refine (RI.open_any w7 B S cap (l) (o6) (ac) (r6) HT7.out.rng o6 rfl).mono ?_); rintro e wx ⟨rfl, hw⟩; obtain rfl : w7 = wx := hw.symm)
            | (go_at_call 20; (with_reducible refine (RI.refused_any w7 B S cap (l) (o6) (ac) (r6) HT7.out.rng r6 rfl).mono ?_); rintro e wx ⟨rfl, hw⟩; obtain rfl : w7 = wx := hw.symm)
            | (go_at_call 19; (with_reducible refine (RI.accepted_any w7 B S cap (l) (o6) (ac) (r6) HT7.out.rng ac rfl).mono ?_); rintro e wx ⟨rfl, hw⟩; obtain rfl : w7 = wx := hw.symm))
          go_loopw [149] (fun i wq => ∃ j : Nat, j ≤ m ∧ i = .int .i64 j ∧ Hid (Below w7.heap.size w7 wq)) (fun i _ => m - (intOf i).toNat)
          case atStart => exact ⟨0, Nat.zero_le _, rfl, Below.refl _ _⟩
          case round =>
            obtain ⟨j, hj, rfl, HBj⟩ := hrel
            by_cases hjm : j < m
            · obtain ⟨p, hp⟩ : ∃ p, l[j]? = some p := ⟨_, List.getElem?_eq_getElem (by rw [HLN.out]; exact hjm)⟩
              obtain ⟨g1, hg1, c0, c1⟩ := (HSLb.out.below HBj.out).at hp
              obtain ⟨g2, hg2, c2, c3⟩ := (HSLa.out.below HBj.out).at (HSAME.out j p hp)
              cases hg1
              cases hg2
              obtain ⟨q, hq⟩ : ∃ q, p.2 = q := ⟨_, rfl⟩
              obtain ⟨it, hit⟩ : ∃ it, p.1 = it := ⟨_, rfl⟩
              rw [hq] at c1 c3
              rw [hit] at c0 c2
              have heq : ∀ W : World, (Op.equalIn 10000 34 (.agg #[.int .i64 it, .int .i64 q]) (.agg #[.int .i64 it, .int .i64 q])).run Try.prog W = .ok true W := fun W => by simpa using RI.run_eq_slot it it q q W
              have hjm2 : (j : Int) < (m : Int) := by omega
              have hjm3 : (j : Int) < (m : Int) := by have := HMM.out; omega
              have hj0 : (0 : Int) ≤ (j : Int) := by omega
              have hj1 : IntKind.i64.wrap ((j : Int) + 1) = (j : Int) + 1 := by rw [IntKind.wrap_i64]; have := HM20.out; omega
              clear hq hit hp
              go_wp2
              go_quiet (fail)
              have HBn : Hid (Below w7.heap.size w7 (wr.drewN nq)) := below_drewN HBj.out nq
              generalize (wr.drewN nq) = wn at HBn ⊢
              go_wp2
              first
                | exact ⟨⟨j + 1, hjm, rfl, HBn⟩, by simp [intOf]; omega⟩
                | (refine ⟨?_, by simp [intOf]; omega⟩
                   repeat apply Exists.intro
                   refine ⟨⟨j + 1, hjm, rfl, HBn⟩, ?_⟩
                   simp
                   repeat' (first | exact rfl | omega | apply And.intro))
            · obtain rfl : m = j := by omega
              clear hjm hj
              have HTf := Lib.hid (HT7.out.below HBj.out)
              go_wp2
              first
                | exact ⟨⟨k + 1, hkm, rfl, S, l, o6, ac, r6, HTf, HUN⟩, by simp [intOf]; omega⟩
                | (refine ⟨?_, by simp [intOf]; omega⟩
                   repeat apply Exists.intro
                   refine ⟨⟨k + 1, hkm, rfl, S, l, o6, ac, r6, HTf, HUN⟩, ?_⟩
                   simp
                   repeat' (first | exact rfl | omega | apply And.intro))
    · obtain rfl : mn = k := by omega
      clear hkm hk
      go_wp2
      go_ret
      exact ⟨rfl, HT.out.bel⟩
theorem full_walk (a0 : Int) (a1 : Option Addr) (len1 cap1 : Nat) (z1 : List Int) (w : World) (w0 : (Lit.int .u8 a0).wf = true) (w1 : IsRow .u8 w a1 len1 cap1 z1) : Calls Try.prog 6 #[.int .u8 a0, .slice a1 len1 cap1] w fun e w' => e = .returned (.bool true) ∧ Below w.heap.size w w' := by
  have h0 := bounds_u8 w0
  obtain ⟨c, rfl⟩ := Int.eq_ofNat_of_zero_le h0.1
  obtain ⟨xs, h1, h2, h3, h4, h5⟩ := row_u8 w1
  rcases a1 with _ | ⟨b, off, sp⟩
  · exact full_n c (by omega) len1 cap1 xs h1 h3 w h2 h4 h5
  · exact full_s c (by omega) b off sp len1 cap1 xs h1 h3 w h2 h4 h5
end Go.Proofs.Ytljodpdplmhdnaa
