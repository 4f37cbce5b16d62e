/-
  RingSums's walk.
-/
import Derived.Test.YtljodpdplmhdnaaStand
namespace Go.Proofs.Ytljodpdplmhdnaa
open Go.RowKit
set_option linter.unusedVariables false
/-- The Befores of slots, together. -/
def bsum (l : List RI.RV) : Nat := (l.map fun p => p.2).sum
theorem bsum_append (l k : List RI.RV) : bsum (l ++ k) = bsum l + bsum k := by simp [bsum]
theorem bsum_take (l : List RI.RV) (m : Nat) : bsum (l.take m) + bsum (l.drop m) = bsum l := by rw [← bsum_append, List.take_append_drop]
theorem bsum_snoc {l : List RI.RV} {i : Nat} {p : RI.RV} (hp : l[i]? = some p) : bsum (l.take (i + 1)) = bsum (l.take i) + p.2 := by
  rw [List.take_add_one, hp, bsum_append]
  simp [bsum]
theorem bsum_le {l : List RI.RV} (m : Nat) : bsum (l.take m) ≤ bsum l := by have := bsum_take l m; omega
/-- The law's state: what was summed up, what was taken, what is there. -/
structure Sum8 (w wr : World) (B : Nat) (S : Nat → Prop) (cap : Nat) (l : List RI.RV) (op ac rf sum out : Nat) : Prop where
  st : Stand w wr B S cap l op ac rf
  all : sum + bsum l + op = rf
  cnt : out + l.length = ac
set_option maxRecDepth 100000 in
set_option maxHeartbeats 8000000 in
theorem sums_n (c : Nat) (hc : c < 256) (ln cp : Nat) (xs : List Nat) (hx : xs.length = ln) (hx256 : ∀ x ∈ xs, x < 256) (w : World) (hS : InB w none xs) (hlc : ln ≤ cp) (hcm : cp ≤ maxLen) : Calls Try.prog 7 #[.int .u8 c, .slice none ln cp] w fun e w' => e = .returned (.bool true) ∧ Below w.heap.size w w' := by
  obtain ⟨cap, hcap⟩ : ∃ cap, 1 + c % 20 = cap := ⟨_, rfl⟩
  have HCAP := Lib.hid hcap
  have HCB : Hid (1 ≤ cap ∧ cap ≤ 20) := by show _ ∧ _; omega
  have HC := Lib.hid hc
  obtain ⟨mn, hmn⟩ : ∃ mn : Nat, min ln 300 = mn := ⟨_, rfl⟩
  have hmi : min (ln : Int) 300 = (mn : Int) := by omega
  have hmi2 : (if (300 : Int) < (ln : Int) then (300 : Int) else (ln : Int)) = (mn : Int) := by split <;> omega
  have hmi3 : (if 300 < ln then (300 : Int) else (ln : Int)) = (mn : Int) := by split <;> omega
  have hmc : (mn : Int) ≤ (cp : Int) := by omega
  have hm0 : (0 : Int) ≤ (mn : Int) := by omega
  have hmw : IntKind.i64.wrap (mn : Int) = (mn : Int) := by rw [IntKind.wrap_i64]; omega
  have HMN : Hid (mn ≤ 300 ∧ mn ≤ ln) := by show _ ∧ _; omega
  have HXL := Lib.hid hx
  have HX2 : Hid (∀ x ∈ xs, x < 256) := hx256
  have HS : Hid (InB w none xs) := hS
  have hcm' : (cp : Int) ≤ 9223372036854775807 := by unfold maxLen at hcm; omega
  clear hc hcap hmn hlc hcm hx hx256 hS
  go_enter Try.func7, Try.ntmps7
  go_wp2_with (first
    | (go_at_call 12; (with_reducible refine (awake_any w).mono ?_); rintro e w1 ⟨rfl, h1⟩; have HB1 := Lib.hid h1; clear h1)
    | (go_at_call 14; (with_reducible refine (made_any c cap HC.out HCAP.out w1).mono ?_); rintro e w2 ⟨rfl, h1, h2⟩; obtain ⟨S2, h3⟩ := Stand.made w cap HB1.out h1 h2; have HT2 := Lib.hid h3; clear h1 h2 h3))
  obtain ⟨B, hB⟩ : ∃ B, w1.heap.size = B := ⟨_, rfl⟩
  rw [hB] at HT2
  simp only [hB]
  clear hB
  have HI0 : Hid (Sum8 w w2 B S2 cap [] 0 0 0 0 0) := ⟨HT2.out, rfl, rfl⟩
  go_loopw [8, 9, 35] (fun sv ov i wr => ∃ k : Nat, k ≤ mn ∧ i = .int .i64 k ∧ ∃ sum, sv = .int .i64 ((sum : Nat) : Int) ∧ ∃ out, ov = .int .i64 ((out : Nat) : Int) ∧ ∃ S l op ac rf, Hid (Sum8 w wr B S cap l op ac rf sum out) ∧ Hid (ac + rf ≤ k)) (fun _ _ i _ => mn - (intOf i).toNat)
  case atStart => exact ⟨0, Nat.zero_le _, rfl, 0, rfl, 0, rfl, S2, [], 0, 0, 0, HI0, Nat.le_refl _⟩
  case round =>
    obtain ⟨k, hk, rfl, sum, rfl, out, rfl, S, l, op, ac, rf, HI, HU⟩ := hrel
    by_cases hkm : k < mn
    · exfalso
      have h1 := HMN.out
      have h2 : xs.length = 0 := by
        rcases Nat.eq_zero_or_pos xs.length with h | h
        · exact h
        · obtain ⟨_, _, h3, _⟩ := HS.out.at (Below.refl _ _) h
          cases h3
      have h3 := HXL.out
      omega
    · obtain rfl : mn = k := by omega
      clear hkm hk
      go_wp2
      go_ret
      exact ⟨rfl, HI.out.st.bel⟩
set_option maxRecDepth 100000 in
set_option maxHeartbeats 8000000 in
theorem sums_s (c : Nat) (hc : c < 256) (ba oa : Nat) (sa : Option Nat) (ln cp : Nat) (xs : List Nat) (hx : xs.length = ln) (hx256 : ∀ x ∈ xs, x < 256) (w : World) (hS : InB w (some ⟨ba, oa, sa⟩) xs) (hlc : ln ≤ cp) (hcm : cp ≤ maxLen) : Calls Try.prog 7 #[.int .u8 c, .slice (some ⟨ba, oa, sa⟩) ln cp] w fun e w' => e = .returned (.bool true) ∧ Below w.heap.size w w' := by
  obtain ⟨cap, hcap⟩ : ∃ cap, 1 + c % 20 = cap := ⟨_, rfl⟩
  have HCAP := Lib.hid hcap
  have HCB : Hid (1 ≤ cap ∧ cap ≤ 20) := by show _ ∧ _; omega
  have HC := Lib.hid hc
  obtain ⟨mn, hmn⟩ : ∃ mn : Nat, min ln 300 = mn := ⟨_, rfl⟩
  have hmi : min (ln : Int) 300 = (mn : Int) := by omega
  have hmi2 : (if (300 : Int) < (ln : Int) then (300 : Int) else (ln : Int)) = (mn : Int) := by split <;> omega
  have hmi3 : (if 300 < ln then (300 : Int) else (ln : Int)) = (mn : Int) := by split <;> omega
  have hmc : (mn : Int) ≤ (cp : Int) := by omega
  have hm0 : (0 : Int) ≤ (mn : Int) := by omega
  have hmw : IntKind.i64.wrap (mn : Int) = (mn : Int) := by rw [IntKind.wrap_i64]; omega
  have HMN : Hid (mn ≤ 300 ∧ mn ≤ ln) := by show _ ∧ _; omega
  have HXL := Lib.hid hx
  have HX2 : Hid (∀ x ∈ xs, x < 256) := hx256
  have HS : Hid (InB w (some ⟨ba, oa, sa⟩) xs) := hS
  have hcm' : (cp : Int) ≤ 9223372036854775807 := by unfold maxLen at hcm; omega
  clear hc hcap hmn hlc hcm hx hx256 hS
  go_enter Try.func7, Try.ntmps7
  go_wp2_with (first
    | (go_at_call 12; (with_reducible refine (awake_any w).mono ?_); rintro e w1 ⟨rfl, h1⟩; have HB1 := Lib.hid h1; clear h1)
    | (go_at_call 14; (with_reducible refine (made_any c cap HC.out HCAP.out w1).mono ?_); rintro e w2 ⟨rfl, h1, h2⟩; obtain ⟨S2, h3⟩ := Stand.made w cap HB1.out h1 h2; have HT2 := Lib.hid h3; clear h1 h2 h3))
  obtain ⟨B, hB⟩ : ∃ B, w1.heap.size = B := ⟨_, rfl⟩
  rw [hB] at HT2
  simp only [hB]
  clear hB
  have HI0 : Hid (Sum8 w w2 B S2 cap [] 0 0 0 0 0) := ⟨HT2.out, rfl, rfl⟩
  go_loopw [8, 9, 35] (fun sv ov i wr => ∃ k : Nat, k ≤ mn ∧ i = .int .i64 k ∧ ∃ sum, sv = .int .i64 ((sum : Nat) : Int) ∧ ∃ out, ov = .int .i64 ((out : Nat) : Int) ∧ ∃ S l op ac rf, Hid (Sum8 w wr B S cap l op ac rf sum out) ∧ Hid (ac + rf ≤ k)) (fun _ _ i _ => mn - (intOf i).toNat)
  case atStart => exact ⟨0, Nat.zero_le _, rfl, 0, rfl, 0, rfl, S2, [], 0, 0, 0, HI0, Nat.le_refl _⟩
  case round =>
    obtain ⟨k, hk, rfl, sum, rfl, out, rfl, S, l, op, ac, rf, HI, HU⟩ := hrel
    by_cases hkm : k < mn
    · have hkl : k < xs.length := by have := HXL.out; have := HMN.out; omega
      obtain ⟨x, hx⟩ : ∃ x, xs[k] = x := ⟨_, rfl⟩
      have hx2 : x < 256 := by rw [← hx]; exact HX2.out _ (List.getElem_mem _)
      obtain ⟨_, _, hab, hcell⟩ := HS.out.at HI.out.st.bel hkl
      rw [hx] at hcell
      cases hab
      have hxw : IntKind.i64.wrap (x : Int) = (x : Int) := by rw [IntKind.wrap_i64]; omega
      have hkm2 : (k : Int) < (mn : Int) := by omega
      have hk1 : IntKind.i64.wrap ((k : Int) + 1) = (k : Int) + 1 := by rw [IntKind.wrap_i64]; have := HMN.out; omega
      clear hx hkl
      by_cases hx1 : x < 190
      · have hxd : (x : Int) < 190 := by omega
        have HS6 : Hid (ac + rf ≤ 1000000) := by show _ ≤ _; have := HU.out; have := HMN.out; omega
        go_upto_region 17 with (go_at_call 16; (with_reducible refine (HI.out.st.put HS6.out (x : Int)).mono ?_); rintro e w5 ⟨b, S5, l5, o5, a5, r5, rfl, h1, h2, h3⟩; have HT5 := Lib.hid h1; have HP5 := Lib.hid h2; clear h1 h2 h3)
        have HUN : Hid (a5 + r5 ≤ k + 1) := by
          show _ ≤ _
          have := HU.out
          rcases HP5.out with ⟨_, _, _, _, h1, h2⟩ | ⟨_, _, _, _, h1, h2⟩ <;> omega
        have HBN : Hid (a5 + r5 ≤ 301) := by show _ ≤ _; have := HUN.out; have := HMN.out; omega
        have HSUM : Hid (sum + bsum ([] : List RI.RV) + bsum l5 + o5 = r5) := by
          show _ = _
          have h0 := HI.out.all
          rcases HP5.out with ⟨_, _, rfl, rfl, rfl, rfl⟩ | ⟨_, _, rfl, rfl, rfl, rfl⟩
          · rw [bsum_append]; simp [bsum] at h0 ⊢; omega
          · simp [bsum] at h0 ⊢; omega
        have HCNT : Hid (out + l5.length = a5) := by
          show _ = _
          have h0 := HI.out.cnt
          rcases HP5.out with ⟨_, _, rfl, rfl, rfl, rfl⟩ | ⟨_, _, rfl, rfl, rfl, rfl⟩
          · rw [List.length_append]; simp only [List.length_singleton]; omega
          · exact h0
        have HLM : Hid (([] : List RI.RV).length = 0) := rfl
        have HSL : Hid (RI.Sl w5 0 none 0 0 []) := World.ownsRow_nil _ _ _ _
        have hsw : IntKind.i64.wrap (sum : Int) = (sum : Int) := by rw [IntKind.wrap_i64]; have := HSUM.out; have := HBN.out; omega
        have how : IntKind.i64.wrap (out : Int) = (out : Int) := by rw [IntKind.wrap_i64]; have := HCNT.out; have := HBN.out; omega
        go_wp2
        have HBN1 : Hid (sum + bsum (([] : List RI.RV)) ≤ 301 ∧ 0 ≤ 301) := by show _ ∧ _; have := HSUM.out; have := HCNT.out; have := HBN.out; have := HLM.out; omega
        go_loopw [8, 72] (fun sv i wq => ∃ j : Nat, j ≤ 0 ∧ i = .int .i64 j ∧ ∃ cur, sv = .int .i64 ((cur : Nat) : Int) ∧ Hid (cur = sum + bsum (List.take j (([] : List RI.RV)))) ∧ Hid (Below w5.heap.size w5 wq)) (fun _ i _ => 0 - (intOf i).toNat)
        case atStart => exact ⟨0, Nat.zero_le _, rfl, sum, rfl, (by show _ = _; simp [bsum]), Below.refl _ _⟩
        case round =>
          obtain ⟨j, hj, rfl, cur, rfl, HCUR, HBj⟩ := hrel
          have hcur := HCUR.out
          clear HCUR
          by_cases hjm : j < 0
          · exfalso; omega
          · obtain rfl : j = 0 := by omega
            clear hjm hj
            have HCF : Hid (cur = sum + bsum (([] : List RI.RV))) := by show _ = _; rw [hcur, List.take_of_length_le (Nat.le_of_eq HLM.out)]
            clear hcur
            obtain ⟨sA, rfl⟩ : ∃ sA, sA = cur := ⟨_, rfl⟩
            have HTq := Lib.hid (HT5.out.below HBj.out)
            obtain ⟨len2, hlen2⟩ : ∃ len2, l5.length = len2 := ⟨_, rfl⟩
            have HL2 := Lib.hid hlen2
            have HLB : Hid (len2 ≤ 301) := by show _ ≤ _; have := HCNT.out; have := HBN.out; omega
            clear hlen2
            go_wp2_with (go_at_call 21; (with_reducible refine (HTq.out.all len2 HL2.out).mono ?_); rintro e w8 ⟨ta, tc, rfl, h1, h2, h3, h4⟩; have HSL2 := Lib.hid h1; have HTr := Lib.hid h2; clear h1 h2 h3 h4)
            have HBN2 : Hid (0 + bsum l5 ≤ 301 ∧ len2 ≤ 301) := by show _ ∧ _; have := HSUM.out; have := HBN.out; have := HLB.out; omega
            go_loopw [16, 84] (fun sv i wq => ∃ j : Nat, j ≤ len2 ∧ i = .int .i64 j ∧ ∃ cur, sv = .int .i64 ((cur : Nat) : Int) ∧ Hid (cur = 0 + bsum (List.take j (l5))) ∧ Hid (Below w8.heap.size w8 wq)) (fun _ i _ => len2 - (intOf i).toNat)
            case atStart => exact ⟨0, Nat.zero_le _, rfl, 0, rfl, (by show _ = _; simp [bsum]), Below.refl _ _⟩
            case round =>
              obtain ⟨j, hj, rfl, cur, rfl, HCUR, HBj⟩ := hrel
              have hcur := HCUR.out
              clear HCUR
              by_cases hjm : j < len2
              · obtain ⟨p, hp⟩ : ∃ p, (l5)[j]? = some p := ⟨_, List.getElem?_eq_getElem (by rw [HL2.out]; exact hjm)⟩
                obtain ⟨g, hg, c0, c1⟩ := (HSL2.out.below HBj.out).at hp
                subst hg
                have hsn := bsum_snoc hp
                obtain ⟨t, ht⟩ : ∃ t, bsum (List.take j (l5)) = t := ⟨_, rfl⟩
                obtain ⟨q, hq⟩ : ∃ q, p.2 = q := ⟨_, rfl⟩
                obtain ⟨it, hit⟩ : ∃ it, p.1 = it := ⟨_, rfl⟩
                have hle := bsum_le (l := l5) (j + 1)
                rw [ht, hq] at hsn
                rw [hq] at c1
                rw [hit] at c0
                rw [ht] at hcur
                have hjm2 : (j : Int) < (len2 : Int) := by omega
                have hj0 : (0 : Int) ≤ (j : Int) := by omega
                obtain ⟨cur', hcur'⟩ : ∃ cur', cur + q = cur' := ⟨_, rfl⟩
                have hj1 : IntKind.i64.wrap ((j : Int) + 1) = (j : Int) + 1 := by rw [IntKind.wrap_i64]; have := HBN2.out; omega
                have hw1 : IntKind.i64.wrap ((cur : Int) + (q : Int)) = (cur' : Int) := by rw [IntKind.wrap_i64]; have := HBN2.out; omega
                have HCU : Hid (cur' = 0 + bsum (List.take (j + 1) (l5))) := by show _ = _; rw [hsn]; omega
                have HBn : Hid (Below w8.heap.size w8 (wr.alloc (.cells #[.int .i64 it, .int .i64 q] 34))) := HBj.out.alloc HBj.out.size _
                clear hsn hle ht hq hit hp hcur hcur'
                go_wp2
                first
                  | exact ⟨⟨j + 1, hjm, rfl, cur', rfl, HCU, HBn⟩, by simp [intOf]; omega⟩
                  | (refine ⟨?_, by simp [intOf]; omega⟩
                     repeat apply Exists.intro
                     refine ⟨⟨j + 1, hjm, rfl, cur', rfl, HCU, HBn⟩, ?_⟩
                     simp
                     repeat' (first | exact rfl | omega | apply And.intro))
              · obtain rfl : len2 = j := by omega
                clear hjm hj
                have HTH : Hid (cur = bsum l5) := by show _ = _; rw [hcur, List.take_of_length_le (Nat.le_of_eq HL2.out), Nat.zero_add]
                obtain ⟨sB, hsB⟩ : ∃ sB, sA + cur = sB := ⟨_, rfl⟩
                have hwa : IntKind.i64.wrap ((sA : Int) + (cur : Int)) = (sB : Int) := by rw [IntKind.wrap_i64]; have := HBN.out; have := HSUM.out; have := HCF.out; have := HTH.out; omega
                have hwb : IntKind.i64.wrap ((sB : Int) + (o5 : Int)) = (r5 : Int) := by rw [IntKind.wrap_i64]; have := HBN.out; have := HSUM.out; have := HCF.out; have := HTH.out; omega
                clear hsB
                have hwc : IntKind.i64.wrap ((out : Int) + (len2 : Int)) = (a5 : Int) := by rw [IntKind.wrap_i64]; have := HBN.out; have := HCNT.out; have := HL2.out; omega
                have HTf := Lib.hid (HTr.out.below HBj.out)
                clear hcur
                go_wp2_with (first
                  | (go_at_call 22; (with_reducible refine (RI.open_any wr B S5 cap l5 o5 a5 r5 HTf.out.rng o5 rfl).mono ?_); rintro e wx ⟨rfl, hw⟩; obtain rfl : wr = wx := hw.symm)
                  | (go_at_call 20; (with_reducible refine (RI.refused_any wr B S5 cap l5 o5 a5 r5 HTf.out.rng r5 rfl).mono ?_); rintro e wx ⟨rfl, hw⟩; obtain rfl : wr = wx := hw.symm)
                  | (go_at_call 23; (with_reducible refine (RI.len_any wr B S5 cap l5 o5 a5 r5 HTf.out.rng len2 HL2.out).mono ?_); rintro e wx ⟨rfl, hw⟩; obtain rfl : wr = wx := hw.symm)
                  | (go_at_call 19; (with_reducible refine (RI.accepted_any wr B S5 cap l5 o5 a5 r5 HTf.out.rng a5 rfl).mono ?_); rintro e wx ⟨rfl, hw⟩; obtain rfl : wr = wx := hw.symm))
                have HF : Hid (Sum8 w wr B S5 cap l5 o5 a5 r5 sA out) := ⟨HTf.out, by have := HSUM.out; have := HCF.out; omega, by have := HCNT.out; omega⟩
                first
                  | exact ⟨⟨k + 1, hkm, rfl, sA, rfl, out, rfl, S5, l5, o5, a5, r5, HF, HUN⟩, by simp [intOf]; omega⟩
                  | (refine ⟨?_, by simp [intOf]; omega⟩
                     repeat apply Exists.intro
                     refine ⟨⟨k + 1, hkm, rfl, sA, rfl, out, rfl, S5, l5, o5, a5, r5, HF, HUN⟩, ?_⟩
                     simp
                     repeat' (first | exact rfl | omega | apply And.intro))
      · by_cases hx2 : x < 245
        · have hxd : ¬ (x : Int) < 190 := by omega
          have hxd3 : (190 : Int) ≤ (x : Int) := by omega
          have hxd2 : (x : Int) < 245 := by omega
          obtain ⟨q, hq⟩ : ∃ q, x % 5 = q := ⟨_, rfl⟩
          have hq2 : (x : Int) % 5 = (q : Int) := by omega
          obtain ⟨m, hm⟩ : ∃ m, min q l.length = m := ⟨_, rfl⟩
          have HM := Lib.hid hm
          obtain ⟨l5, hl5⟩ : ∃ l5, l.drop m = l5 := ⟨_, rfl⟩
          obtain ⟨L, hL⟩ : ∃ L, l.take m = L := ⟨_, rfl⟩
          have HL5 := Lib.hid hl5
          have HLT := Lib.hid hL
          clear hm hq hl5 hL
          go_upto_region 17 with (go_at_call 17; (with_reducible refine (HI.out.st.take q m HM.out).mono ?_); rintro e w5 ⟨ra, rc, rfl, h1, h2, h3⟩; rw [HLT.out] at h1; rw [HL5.out] at h2; have HSL := Lib.hid h1; have HT5 := Lib.hid h2; clear h1 h2 h3)
          obtain ⟨S5, hS5⟩ : ∃ S5, S = S5 := ⟨_, rfl⟩
          obtain ⟨o5, ho5⟩ : ∃ o5, op = o5 := ⟨_, rfl⟩
          obtain ⟨a5, ha5⟩ : ∃ a5, ac = a5 := ⟨_, rfl⟩
          obtain ⟨r5, hr5⟩ : ∃ r5, rf = r5 := ⟨_, rfl⟩
          rw [hS5, ho5, ha5, hr5] at HT5 HI
          rw [ha5, hr5] at HU
          have HUN : Hid (a5 + r5 ≤ k + 1) := Nat.le_succ_of_le HU.out
          have HBN : Hid (a5 + r5 ≤ 301) := by show _ ≤ _; have := HUN.out; have := HMN.out; omega
          have HLM := Lib.hid HSL.out.len
          have HSUM : Hid (sum + bsum L + bsum l5 + o5 = r5) := by
            show _ = _
            have h0 := HI.out.all
            have h1 := bsum_take l m
            rw [HLT.out, HL5.out] at h1
            omega
          obtain ⟨o1, ho1⟩ : ∃ o1, out + m = o1 := ⟨_, rfl⟩
          have HCNT : Hid (o1 + l5.length = a5) := by
            show _ = _
            have h0 := HI.out.cnt
            have h1 := congrArg List.length (List.take_append_drop m l)
            rw [HLT.out, HL5.out, List.length_append, HLM.out] at h1
            omega
          have HOM : Hid (m ≤ o1) := by show _ ≤ _; omega
          have hsw : IntKind.i64.wrap (sum : Int) = (sum : Int) := by rw [IntKind.wrap_i64]; have := HSUM.out; have := HBN.out; omega
          have how : IntKind.i64.wrap ((out : Int) + (m : Int)) = (o1 : Int) := by rw [IntKind.wrap_i64]; have := HCNT.out; have := HBN.out; omega
          clear hS5 ho5 ha5 hr5 ho1
          go_wp2
          have HBN1 : Hid (sum + bsum (L) ≤ 301 ∧ m ≤ 301) := by show _ ∧ _; have := HSUM.out; have := HCNT.out; have := HBN.out; have := HLM.out; have := HOM.out; omega
          go_loopw [8, 72] (fun sv i wq => ∃ j : Nat, j ≤ m ∧ i = .int .i64 j ∧ ∃ cur, sv = .int .i64 ((cur : Nat) : Int) ∧ Hid (cur = sum + bsum (List.take j (L))) ∧ Hid (Below w5.heap.size w5 wq)) (fun _ i _ => m - (intOf i).toNat)
          case atStart => exact ⟨0, Nat.zero_le _, rfl, sum, rfl, (by show _ = _; simp [bsum]), Below.refl _ _⟩
          case round =>
            obtain ⟨j, hj, rfl, cur, rfl, HCUR, HBj⟩ := hrel
            have hcur := HCUR.out
            clear HCUR
            by_cases hjm : j < m
            · obtain ⟨p, hp⟩ : ∃ p, (L)[j]? = some p := ⟨_, List.getElem?_eq_getElem (by rw [HLM.out]; exact hjm)⟩
              obtain ⟨g, hg, c0, c1⟩ := (HSL.out.below HBj.out).at hp
              subst hg
              have hsn := bsum_snoc hp
              obtain ⟨t, ht⟩ : ∃ t, bsum (List.take j (L)) = t := ⟨_, rfl⟩
              obtain ⟨q, hq⟩ : ∃ q, p.2 = q := ⟨_, rfl⟩
              obtain ⟨it, hit⟩ : ∃ it, p.1 = it := ⟨_, rfl⟩
              have hle := bsum_le (l := L) (j + 1)
              rw [ht, hq] at hsn
              rw [hq] at c1
              rw [hit] at c0
              rw [ht] at hcur
              have hjm2 : (j : Int) < (m : Int) := by omega
              have hj0 : (0 : Int) ≤ (j : Int) := by omega
              obtain ⟨cur', hcur'⟩ : ∃ cur', cur + q = cur' := ⟨_, rfl⟩
              have hj1 : IntKind.i64.wrap ((j : Int) + 1) = (j : Int) + 1 := by rw [IntKind.wrap_i64]; have := HBN1.out; omega
              have hw1 : IntKind.i64.wrap ((cur : Int) + (q : Int)) = (cur' : Int) := by rw [IntKind.wrap_i64]; have := HBN1.out; omega
              have HCU : Hid (cur' = sum + bsum (List.take (j + 1) (L))) := by show _ = _; rw [hsn]; omega
              have HBn : Hid (Below w5.heap.size w5 (wr.alloc (.cells #[.int .i64 it, .int .i64 q] 34))) := HBj.out.alloc HBj.out.size _
              clear hsn hle ht hq hit hp hcur hcur'
              go_wp2
              first
                | exact ⟨⟨j + 1, hjm, rfl, cur', rfl, HCU, HBn⟩, by simp [intOf]; omega⟩
                | (refine ⟨?_, by simp [intOf]; omega⟩
                   repeat apply Exists.intro
                   refine ⟨⟨j + 1, hjm, rfl, cur', rfl, HCU, HBn⟩, ?_⟩
                   simp
                   repeat' (first | exact rfl | omega | apply And.intro))
            · obtain rfl : m = j := by omega
              clear hjm hj
              have HCF : Hid (cur = sum + bsum (L)) := by show _ = _; rw [hcur, List.take_of_length_le (Nat.le_of_eq HLM.out)]
              clear hcur
              obtain ⟨sA, rfl⟩ : ∃ sA, sA = cur := ⟨_, rfl⟩
              have HTq := Lib.hid (HT5.out.below HBj.out)
              obtain ⟨len2, hlen2⟩ : ∃ len2, l5.length = len2 := ⟨_, rfl⟩
              have HL2 := Lib.hid hlen2
              have HLB : Hid (len2 ≤ 301) := by show _ ≤ _; have := HCNT.out; have := HBN.out; omega
              clear hlen2
              go_wp2_with (go_at_call 21; (with_reducible refine (HTq.out.all len2 HL2.out).mono ?_); rintro e w8 ⟨ta, tc, rfl, h1, h2, h3, h4⟩; have HSL2 := Lib.hid h1; have HTr := Lib.hid h2; clear h1 h2 h3 h4)
              have HBN2 : Hid (0 + bsum l5 ≤ 301 ∧ len2 ≤ 301) := by show _ ∧ _; have := HSUM.out; have := HBN.out; have := HLB.out; omega
              go_loopw [16, 84] (fun sv i wq => ∃ j : Nat, j ≤ len2 ∧ i = .int .i64 j ∧ ∃ cur, sv = .int .i64 ((cur : Nat) : Int) ∧ Hid (cur = 0 + bsum (List.take j (l5))) ∧ Hid (Below w8.heap.size w8 wq)) (fun _ i _ => len2 - (intOf i).toNat)
              case atStart => exact ⟨0, Nat.zero_le _, rfl, 0, rfl, (by show _ = _; simp [bsum]), Below.refl _ _⟩
              case round =>
                obtain ⟨j, hj, rfl, cur, rfl, HCUR, HBj⟩ := hrel
                have hcur := HCUR.out
                clear HCUR
                by_cases hjm : j < len2
                · obtain ⟨p, hp⟩ : ∃ p, (l5)[j]? = some p := ⟨_, List.getElem?_eq_getElem (by rw [HL2.out]; exact hjm)⟩
                  obtain ⟨g, hg, c0, c1⟩ := (HSL2.out.below HBj.out).at hp
                  subst hg
                  have hsn := bsum_snoc hp
                  obtain ⟨t, ht⟩ : ∃ t, bsum (List.take j (l5)) = t := ⟨_, rfl⟩
                  obtain ⟨q, hq⟩ : ∃ q, p.2 = q := ⟨_, rfl⟩
                  obtain ⟨it, hit⟩ : ∃ it, p.1 = it := ⟨_, rfl⟩
                  have hle := bsum_le (l := l5) (j + 1)
                  rw [ht, hq] at hsn
                  rw [hq] at c1
                  rw [hit] at c0
                  rw [ht] at hcur
                  have hjm2 : (j : Int) < (len2 : Int) := by omega
                  have hj0 : (0 : Int) ≤ (j : Int) := by omega
                  obtain ⟨cur', hcur'⟩ : ∃ cur', cur + q = cur' := ⟨_, rfl⟩
                  have hj1 : IntKind.i64.wrap ((j : Int) + 1) = (j : Int) + 1 := by rw [IntKind.wrap_i64]; have := HBN2.out; omega
                  have hw1 : IntKind.i64.wrap ((cur : Int) + (q : Int)) = (cur' : Int) := by rw [IntKind.wrap_i64]; have := HBN2.out; omega
                  have HCU : Hid (cur' = 0 + bsum (List.take (j + 1) (l5))) := by show _ = _; rw [hsn]; omega
                  have HBn : Hid (Below w8.heap.size w8 (wr.alloc (.cells #[.int .i64 it, .int .i64 q] 34))) := HBj.out.alloc HBj.out.size _
                  clear hsn hle ht hq hit hp hcur hcur'
                  go_wp2
                  first
                    | exact ⟨⟨j + 1, hjm, rfl, cur', rfl, HCU, HBn⟩, by simp [intOf]; omega⟩
                    | (refine ⟨?_, by simp [intOf]; omega⟩
                       repeat apply Exists.intro
                       refine ⟨⟨j + 1, hjm, rfl, cur', rfl, HCU, HBn⟩, ?_⟩
                       simp
                       repeat' (first | exact rfl | omega | apply And.intro))
                · obtain rfl : len2 = j := by omega
                  clear hjm hj
                  have HTH : Hid (cur = bsum l5) := by show _ = _; rw [hcur, List.take_of_length_le (Nat.le_of_eq HL2.out), Nat.zero_add]
                  obtain ⟨sB, hsB⟩ : ∃ sB, sA + cur = sB := ⟨_, rfl⟩
                  have hwa : IntKind.i64.wrap ((sA : Int) + (cur : Int)) = (sB : Int) := by rw [IntKind.wrap_i64]; have := HBN.out; have := HSUM.out; have := HCF.out; have := HTH.out; omega
                  have hwb : IntKind.i64.wrap ((sB : Int) + (o5 : Int)) = (r5 : Int) := by rw [IntKind.wrap_i64]; have := HBN.out; have := HSUM.out; have := HCF.out; have := HTH.out; omega
                  clear hsB
                  have hwc : IntKind.i64.wrap ((o1 : Int) + (len2 : Int)) = (a5 : Int) := by rw [IntKind.wrap_i64]; have := HBN.out; have := HCNT.out; have := HL2.out; omega
                  have HTf := Lib.hid (HTr.out.below HBj.out)
                  clear hcur
                  go_wp2_with (first
                    | (go_at_call 22; (with_reducible refine (RI.open_any wr B S5 cap l5 o5 a5 r5 HTf.out.rng o5 rfl).mono ?_); rintro e wx ⟨rfl, hw⟩; obtain rfl : wr = wx := hw.symm)
                    | (go_at_call 20; (with_reducible refine (RI.refused_any wr B S5 cap l5 o5 a5 r5 HTf.out.rng r5 rfl).mono ?_); rintro e wx ⟨rfl, hw⟩; obtain rfl : wr = wx := hw.symm)
                    | (go_at_call 23; (with_reducible refine (RI.len_any wr B S5 cap l5 o5 a5 r5 HTf.out.rng len2 HL2.out).mono ?_); rintro e wx ⟨rfl, hw⟩; obtain rfl : wr = wx := hw.symm)
                    | (go_at_call 19; (with_reducible refine (RI.accepted_any wr B S5 cap l5 o5 a5 r5 HTf.out.rng a5 rfl).mono ?_); rintro e wx ⟨rfl, hw⟩; obtain rfl : wr = wx := hw.symm))
                  have HF : Hid (Sum8 w wr B S5 cap l5 o5 a5 r5 sA o1) := ⟨HTf.out, by have := HSUM.out; have := HCF.out; omega, by have := HCNT.out; omega⟩
                  first
                    | exact ⟨⟨k + 1, hkm, rfl, sA, rfl, o1, rfl, S5, l5, o5, a5, r5, HF, HUN⟩, by simp [intOf]; omega⟩
                    | (refine ⟨?_, by simp [intOf]; omega⟩
                       repeat apply Exists.intro
                       refine ⟨⟨k + 1, hkm, rfl, sA, rfl, o1, rfl, S5, l5, o5, a5, r5, HF, HUN⟩, ?_⟩
                       simp
                       repeat' (first | exact rfl | omega | apply And.intro))
        · have hxd : ¬ (x : Int) < 190 := by omega
          have hxd3 : (190 : Int) ≤ (x : Int) := by omega
          have hxd2 : ¬ (x : Int) < 245 := by omega
          have hxd4 : (245 : Int) ≤ (x : Int) := by omega
          obtain ⟨m, hm⟩ : ∃ m, l.length = m := ⟨_, rfl⟩
          have HM := Lib.hid hm
          obtain ⟨l5, hl5⟩ : ∃ l5, ([] : List RI.RV) = l5 := ⟨_, rfl⟩
          have HL5 := Lib.hid hl5
          clear hm hl5
          go_upto_region 17 with (go_at_call 18; (with_reducible refine (HI.out.st.drain m HM.out).mono ?_); rintro e w5 ⟨ra, rc, rfl, h1, h2, h3⟩; rw [HL5.out] at h2; have HSL := Lib.hid h1; have HT5 := Lib.hid h2; clear h1 h2 h3)
          obtain ⟨S5, hS5⟩ : ∃ S5, S = S5 := ⟨_, rfl⟩
          obtain ⟨o5, ho5⟩ : ∃ o5, 0 = o5 := ⟨_, rfl⟩
          obtain ⟨a5, ha5⟩ : ∃ a5, ac = a5 := ⟨_, rfl⟩
          obtain ⟨r5, hr5⟩ : ∃ r5, rf = r5 := ⟨_, rfl⟩
          have HT5' : Hid (Stand w w5 B S5 cap l5 o5 a5 r5) := by show Stand _ _ _ _ _ _ _ _ _; rw [← hS5, ← ho5, ← ha5, ← hr5]; exact HT5.out
          clear HT5
          have HT5 := HT5'
          clear HT5'
          rw [ha5, hr5] at HI HU
          have HUN : Hid (a5 + r5 ≤ k + 1) := Nat.le_succ_of_le HU.out
          have HBN : Hid (a5 + r5 ≤ 301) := by show _ ≤ _; have := HUN.out; have := HMN.out; omega
          have HLM := Lib.hid HSL.out.len
          obtain ⟨s1, hs1⟩ : ∃ s1, sum + op = s1 := ⟨_, rfl⟩
          have HSUM : Hid (s1 + bsum l + bsum l5 + o5 = r5) := by
            show _ = _
            have h0 := HI.out.all
            rw [← HL5.out]
            simp [bsum] at h0 ⊢
            omega
          obtain ⟨o1, ho1⟩ : ∃ o1, out + m = o1 := ⟨_, rfl⟩
          have HCNT : Hid (o1 + l5.length = a5) := by
            show _ = _
            have h0 := HI.out.cnt
            have h1 := HM.out
            rw [← HL5.out]
            simp only [List.length_nil]
            omega
          have HOM : Hid (m ≤ o1) := by show _ ≤ _; omega
          have hsw : IntKind.i64.wrap ((sum : Int) + (op : Int)) = (s1 : Int) := by rw [IntKind.wrap_i64]; have := HSUM.out; have := HBN.out; omega
          have how : IntKind.i64.wrap ((out : Int) + (m : Int)) = (o1 : Int) := by rw [IntKind.wrap_i64]; have := HCNT.out; have := HBN.out; omega
          clear hS5 ho5 ha5 hr5 ho1 hs1
          go_wp2
          have HBN1 : Hid (s1 + bsum (l) ≤ 301 ∧ m ≤ 301) := by show _ ∧ _; have := HSUM.out; have := HCNT.out; have := HBN.out; have := HLM.out; have := HOM.out; omega
          go_loopw [8, 72] (fun sv i wq => ∃ j : Nat, j ≤ m ∧ i = .int .i64 j ∧ ∃ cur, sv = .int .i64 ((cur : Nat) : Int) ∧ Hid (cur = s1 + bsum (List.take j (l))) ∧ Hid (Below w5.heap.size w5 wq)) (fun _ i _ => m - (intOf i).toNat)
          case atStart => exact ⟨0, Nat.zero_le _, rfl, s1, rfl, (by show _ = _; simp [bsum]), Below.refl _ _⟩
          case round =>
            obtain ⟨j, hj, rfl, cur, rfl, HCUR, HBj⟩ := hrel
            have hcur := HCUR.out
            clear HCUR
            by_cases hjm : j < m
            · obtain ⟨p, hp⟩ : ∃ p, (l)[j]? = some p := ⟨_, List.getElem?_eq_getElem (by rw [HLM.out]; exact hjm)⟩
              obtain ⟨g, hg, c0, c1⟩ := (HSL.out.below HBj.out).at hp
              subst hg
              have hsn := bsum_snoc hp
              obtain ⟨t, ht⟩ : ∃ t, bsum (List.take j (l)) = t := ⟨_, rfl⟩
              obtain ⟨q, hq⟩ : ∃ q, p.2 = q := ⟨_, rfl⟩
              obtain ⟨it, hit⟩ : ∃ it, p.1 = it := ⟨_, rfl⟩
              have hle := bsum_le (l := l) (j + 1)
              rw [ht, hq] at hsn
              rw [hq] at c1
              rw [hit] at c0
              rw [ht] at hcur
              have hjm2 : (j : Int) < (m : Int) := by omega
              have hj0 : (0 : Int) ≤ (j : Int) := by omega
              obtain ⟨cur', hcur'⟩ : ∃ cur', cur + q = cur' := ⟨_, rfl⟩
              have hj1 : IntKind.i64.wrap ((j : Int) + 1) = (j : Int) + 1 := by rw [IntKind.wrap_i64]; have := HBN1.out; omega
              have hw1 : IntKind.i64.wrap ((cur : Int) + (q : Int)) = (cur' : Int) := by rw [IntKind.wrap_i64]; have := HBN1.out; omega
              have HCU : Hid (cur' = s1 + bsum (List.take (j + 1) (l))) := by show _ = _; rw [hsn]; omega
              have HBn : Hid (Below w5.heap.size w5 (wr.alloc (.cells #[.int .i64 it, .int .i64 q] 34))) := HBj.out.alloc HBj.out.size _
              clear hsn hle ht hq hit hp hcur hcur'
              go_wp2
              first
                | exact ⟨⟨j + 1, hjm, rfl, cur', rfl, HCU, HBn⟩, by simp [intOf]; omega⟩
                | (refine ⟨?_, by simp [intOf]; omega⟩
                   repeat apply Exists.intro
                   refine ⟨⟨j + 1, hjm, rfl, cur', rfl, HCU, HBn⟩, ?_⟩
                   simp
                   repeat' (first | exact rfl | omega | apply And.intro))
            · obtain rfl : m = j := by omega
              clear hjm hj
              have HCF : Hid (cur = s1 + bsum (l)) := by show _ = _; rw [hcur, List.take_of_length_le (Nat.le_of_eq HLM.out)]
              clear hcur
              obtain ⟨sA, rfl⟩ : ∃ sA, sA = cur := ⟨_, rfl⟩
              have HTq := Lib.hid (HT5.out.below HBj.out)
              obtain ⟨len2, hlen2⟩ : ∃ len2, l5.length = len2 := ⟨_, rfl⟩
              have HL2 := Lib.hid hlen2
              have HLB : Hid (len2 ≤ 301) := by show _ ≤ _; have := HCNT.out; have := HBN.out; omega
              clear hlen2
              go_wp2_with (go_at_call 21; (with_reducible refine (HTq.out.all len2 HL2.out).mono ?_); rintro e w8 ⟨ta, tc, rfl, h1, h2, h3, h4⟩; have HSL2 := Lib.hid h1; have HTr := Lib.hid h2; clear h1 h2 h3 h4)
              have HBN2 : Hid (0 + bsum l5 ≤ 301 ∧ len2 ≤ 301) := by show _ ∧ _; have := HSUM.out; have := HBN.out; have := HLB.out; omega
              go_loopw [16, 84] (fun sv i wq => ∃ j : Nat, j ≤ len2 ∧ i = .int .i64 j ∧ ∃ cur, sv = .int .i64 ((cur : Nat) : Int) ∧ Hid (cur = 0 + bsum (List.take j (l5))) ∧ Hid (Below w8.heap.size w8 wq)) (fun _ i _ => len2 - (intOf i).toNat)
              case atStart => exact ⟨0, Nat.zero_le _, rfl, 0, rfl, (by show _ = _; simp [bsum]), Below.refl _ _⟩
              case round =>
                obtain ⟨j, hj, rfl, cur, rfl, HCUR, HBj⟩ := hrel
                have hcur := HCUR.out
                clear HCUR
                by_cases hjm : j < len2
                · obtain ⟨p, hp⟩ : ∃ p, (l5)[j]? = some p := ⟨_, List.getElem?_eq_getElem (by rw [HL2.out]; exact hjm)⟩
                  obtain ⟨g, hg, c0, c1⟩ := (HSL2.out.below HBj.out).at hp
                  subst hg
                  have hsn := bsum_snoc hp
                  obtain ⟨t, ht⟩ : ∃ t, bsum (List.take j (l5)) = t := ⟨_, rfl⟩
                  obtain ⟨q, hq⟩ : ∃ q, p.2 = q := ⟨_, rfl⟩
                  obtain ⟨it, hit⟩ : ∃ it, p.1 = it := ⟨_, rfl⟩
                  have hle := bsum_le (l := l5) (j + 1)
                  rw [ht, hq] at hsn
                  rw [hq] at c1
                  rw [hit] at c0
                  rw [ht] at hcur
                  have hjm2 : (j : Int) < (len2 : Int) := by omega
                  have hj0 : (0 : Int) ≤ (j : Int) := by omega
                  obtain ⟨cur', hcur'⟩ : ∃ cur', cur + q = cur' := ⟨_, rfl⟩
                  have hj1 : IntKind.i64.wrap ((j : Int) + 1) = (j : Int) + 1 := by rw [IntKind.wrap_i64]; have := HBN2.out; omega
                  have hw1 : IntKind.i64.wrap ((cur : Int) + (q : Int)) = (cur' : Int) := by rw [IntKind.wrap_i64]; have := HBN2.out; omega
                  have HCU : Hid (cur' = 0 + bsum (List.take (j + 1) (l5))) := by show _ = _; rw [hsn]; omega
                  have HBn : Hid (Below w8.heap.size w8 (wr.alloc (.cells #[.int .i64 it, .int .i64 q] 34))) := HBj.out.alloc HBj.out.size _
                  clear hsn hle ht hq hit hp hcur hcur'
                  go_wp2
                  first
                    | exact ⟨⟨j + 1, hjm, rfl, cur', rfl, HCU, HBn⟩, by simp [intOf]; omega⟩
                    | (refine ⟨?_, by simp [intOf]; omega⟩
                       repeat apply Exists.intro
                       refine ⟨⟨j + 1, hjm, rfl, cur', rfl, HCU, HBn⟩, ?_⟩
                       simp
                       repeat' (first | exact rfl | omega | apply And.intro))
                · obtain rfl : len2 = j := by omega
                  clear hjm hj
                  have HTH : Hid (cur = bsum l5) := by show _ = _; rw [hcur, List.take_of_length_le (Nat.le_of_eq HL2.out), Nat.zero_add]
                  obtain ⟨sB, hsB⟩ : ∃ sB, sA + cur = sB := ⟨_, rfl⟩
                  have hwa : IntKind.i64.wrap ((sA : Int) + (cur : Int)) = (sB : Int) := by rw [IntKind.wrap_i64]; have := HBN.out; have := HSUM.out; have := HCF.out; have := HTH.out; omega
                  have hwb : IntKind.i64.wrap ((sB : Int) + (o5 : Int)) = (r5 : Int) := by rw [IntKind.wrap_i64]; have := HBN.out; have := HSUM.out; have := HCF.out; have := HTH.out; omega
                  clear hsB
                  have hwc : IntKind.i64.wrap ((o1 : Int) + (len2 : Int)) = (a5 : Int) := by rw [IntKind.wrap_i64]; have := HBN.out; have := HCNT.out; have := HL2.out; omega
                  have HTf := Lib.hid (HTr.out.below HBj.out)
                  clear hcur
                  go_wp2_with (first
                    | (go_at_call 22; (with_reducible refine (RI.open_any wr B S5 cap l5 o5 a5 r5 HTf.out.rng o5 rfl).mono ?_); rintro e wx ⟨rfl, hw⟩; obtain rfl : wr = wx := hw.symm)
                    | (go_at_call 20; (with_reducible refine (RI.refused_any wr B S5 cap l5 o5 a5 r5 HTf.out.rng r5 rfl).mono ?_); rintro e wx ⟨rfl, hw⟩; obtain rfl : wr = wx := hw.symm)
                    | (go_at_call 23; (with_reducible refine (RI.len_any wr B S5 cap l5 o5 a5 r5 HTf.out.rng len2 HL2.out).mono ?_); rintro e wx ⟨rfl, hw⟩; obtain rfl : wr = wx := hw.symm)
                    | (go_at_call 19; (with_reducible refine (RI.accepted_any wr B S5 cap l5 o5 a5 r5 HTf.out.rng a5 rfl).mono ?_); rintro e wx ⟨rfl, hw⟩; obtain rfl : wr = wx := hw.symm))
                  have HF : Hid (Sum8 w wr B S5 cap l5 o5 a5 r5 sA o1) := ⟨HTf.out, by have := HSUM.out; have := HCF.out; omega, by have := HCNT.out; omega⟩
                  first
                    | exact ⟨⟨k + 1, hkm, rfl, sA, rfl, o1, rfl, S5, l5, o5, a5, r5, HF, HUN⟩, by simp [intOf]; omega⟩
                    | (refine ⟨?_, by simp [intOf]; omega⟩
                       repeat apply Exists.intro
                       refine ⟨⟨k + 1, hkm, rfl, sA, rfl, o1, rfl, S5, l5, o5, a5, r5, HF, HUN⟩, ?_⟩
                       simp
                       repeat' (first | exact rfl | omega | apply And.intro))
    · obtain rfl : mn = k := by omega
      clear hkm hk
      go_wp2
      go_ret
      exact ⟨rfl, HI.out.st.bel⟩
theorem sums_walk (a0 : Int) (a1 : Option Addr) (len1 cap1 : Nat) (z1 : List Int) (w : World) (w0 : (Lit.int .u8 a0).wf = true) (w1 : IsRow .u8 w a1 len1 cap1 z1) : Calls Try.prog 7 #[.int .u8 a0, .slice a1 len1 cap1] w fun e w' => e = .returned (.bool true) ∧ Below w.heap.size w w' := by
  have h0 := bounds_u8 w0
  obtain ⟨c, rfl⟩ := Int.eq_ofNat_of_zero_le h0.1
  obtain ⟨xs, h1, h2, h3, h4, h5⟩ := row_u8 w1
  rcases a1 with _ | ⟨b, off, sp⟩
  · exact sums_n c (by omega) len1 cap1 xs h1 h3 w h2 h4 h5
  · exact sums_s c (by omega) b off sp len1 cap1 xs h1 h3 w h2 h4 h5
end Go.Proofs.Ytljodpdplmhdnaa
