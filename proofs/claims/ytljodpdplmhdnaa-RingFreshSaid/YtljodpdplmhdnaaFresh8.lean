/-
  RingFresh's walk.
-/
import Derived.Test.YtljodpdplmhdnaaStand
namespace Go.Proofs.Ytljodpdplmhdnaa
open Go.RowKit
set_option linter.unusedVariables false
/-- Items from 100 on. -/
def lst (k : Nat) : List RI.RV := (List.range k).map fun i : Nat => ((100 + (i : Int)), 0)
theorem lst_succ (k : Nat) : lst (k + 1) = lst k ++ [((100 + (k : Int)), 0)] := by unfold lst; rw [List.range_succ, List.map_append]; rfl
theorem lst_len (k : Nat) : (lst k).length = k := by simp [lst]
set_option maxRecDepth 100000 in
set_option maxHeartbeats 8000000 in
theorem fresh_n (c : Nat) (hc : c < 256) (ln cp : Nat) (xs : List Nat) (hx : xs.length = ln) (hx256 : ∀ x ∈ xs, x < 256) (w : World) (hS : InB w none xs) (hlc : ln ≤ cp) (hcm : cp ≤ maxLen) : Calls Try.prog 8 #[.int .u8 c, .slice none ln cp] w fun e w' => e = .returned (.bool true) ∧ Below w.heap.size w w' := by
  obtain ⟨cap, hcap⟩ : ∃ cap, 1 + c % 20 = cap := ⟨_, rfl⟩
  have HCAP := Lib.hid hcap
  have HCB : Hid (1 ≤ cap ∧ cap ≤ 20) := by show _ ∧ _; omega
  have HC := Lib.hid hc
  obtain ⟨mn, hmn⟩ : ∃ mn : Nat, min ln 100 = mn := ⟨_, rfl⟩
  have hmi : min (ln : Int) 100 = (mn : Int) := by omega
  have hmi2 : (if (100 : Int) < (ln : Int) then (100 : Int) else (ln : Int)) = (mn : Int) := by split <;> omega
  have hmi3 : (if 100 < ln then (100 : Int) else (ln : Int)) = (mn : Int) := by split <;> omega
  have hmc : (mn : Int) ≤ (cp : Int) := by omega
  have hm0 : (0 : Int) ≤ (mn : Int) := by omega
  have hmw : IntKind.i64.wrap (mn : Int) = (mn : Int) := by rw [IntKind.wrap_i64]; omega
  have HMN : Hid (mn ≤ 100 ∧ mn ≤ ln) := by show _ ∧ _; omega
  have HXL := Lib.hid hx
  have HX2 : Hid (∀ x ∈ xs, x < 256) := hx256
  have HS : Hid (InB w none xs) := hS
  have hcm' : (cp : Int) ≤ 9223372036854775807 := by unfold maxLen at hcm; omega
  clear hc hcap hmn hlc hcm hx hx256 hS
  go_enter Try.func8, Try.ntmps8
  go_wp2_with (first
    | (go_at_call 12; (with_reducible refine (awake_any w).mono ?_); rintro e w1 ⟨rfl, h1⟩; have HB1 := Lib.hid h1; clear h1)
    | (go_at_call 14; (with_reducible refine (made_any c cap HC.out HCAP.out w1).mono ?_); rintro e w2 ⟨rfl, h1, h2⟩; obtain ⟨S2, h3⟩ := Stand.made w cap HB1.out h1 h2; have HT2 := Lib.hid h3; clear h1 h2 h3))
  obtain ⟨B, hB⟩ : ∃ B, w1.heap.size = B := ⟨_, rfl⟩
  rw [hB] at HT2
  simp only [hB]
  clear hB
  go_loopw [35] (fun i wr => ∃ k : Nat, k ≤ mn ∧ i = .int .i64 k ∧ ∃ S l op ac rf, Hid (Stand w wr B S cap l op ac rf) ∧ Hid (ac + rf ≤ k)) (fun i _ => mn - (intOf i).toNat)
  case atStart => exact ⟨0, Nat.zero_le _, rfl, S2, [], 0, 0, 0, HT2, Nat.le_refl _⟩
  case round =>
    obtain ⟨k, hk, rfl, S, l, op, ac, rf, HT, HK⟩ := hrel
    by_cases hkm : k < mn
    · exfalso
      have h1 := HMN.out
      have h2 : xs.length = 0 := by
        rcases Nat.eq_zero_or_pos xs.length with h | h
        · exact h
        · obtain ⟨_, _, h3, _⟩ := HS.out.at (Below.refl _ _) h
          cases h3
      have h3 := HXL.out
      omega
    · obtain rfl : mn = k := by omega
      clear hkm hk
      have HK2 : Hid (ac + rf ≤ 100) := Nat.le_trans HK.out HMN.out.1
      obtain ⟨len, hlen⟩ : ∃ len, l.length = len := ⟨_, rfl⟩
      have HL := Lib.hid hlen
      clear hlen
      go_wp2_with (first
        | (go_at_call 18; (with_reducible refine (HT.out.drain len HL.out).mono ?_); rintro e w6 ⟨da, dc, rfl, h1, h2, h3⟩; have HT6 := Lib.hid h2; clear h1 h2 h3)
        | (go_at_call 23; (with_reducible refine (RI.len_any w6 B S cap [] 0 ac rf HT6.out.rng 0 rfl).mono ?_); rintro e wx ⟨rfl, hw⟩; obtain rfl : w6 = wx := hw.symm)
        | (go_at_call 22; (with_reducible refine (RI.open_any w6 B S cap [] 0 ac rf HT6.out.rng 0 rfl).mono ?_); rintro e wx ⟨rfl, hw⟩; obtain rfl : w6 = wx := hw.symm))
      have HE : Hid (∃ S', Stand w w6 B S' cap (lst 0) 0 (ac + 0) rf) := ⟨S, HT6.out⟩
      go_loopw [68] (fun i wq => ∃ k : Nat, k ≤ cap ∧ i = .int .i64 k ∧ Hid (∃ S', Stand w wq B S' cap (lst k) 0 (ac + k) rf)) (fun i _ => cap - (intOf i).toNat)
      case atStart => exact ⟨0, Nat.zero_le _, rfl, HE⟩
      case round =>
        obtain ⟨k, hk, rfl, HE⟩ := hrel
        obtain ⟨S', hT⟩ := HE.out
        have HT := Lib.hid hT
        clear hT
        by_cases hkc : k < cap
        · have HLT : Hid ((lst k).length < cap) := by show _ < _; rw [lst_len]; exact hkc
          have HS6 : Hid (ac + k ≤ 1000000) := by show _ ≤ _; have := HK2.out; have := HCB.out; omega
          have hkc2 : (k : Int) < (cap : Int) := by omega
          have hk1 : IntKind.i64.wrap ((k : Int) + 1) = (k : Int) + 1 := by rw [IntKind.wrap_i64]; have := HCB.out; omega
          have hk2 : IntKind.i64.wrap (100 + (k : Int)) = 100 + (k : Int) := by rw [IntKind.wrap_i64]; have := HCB.out; omega
          go_wp2_with (go_at_call 16; (with_reducible refine (HT.out.put_room HLT.out HS6.out (100 + (k : Int))).mono ?_); rintro e w7 ⟨S7, rfl, h1, h2, h3⟩; have HE7 : Hid (∃ S', Stand w w7 B S' cap (lst (k + 1)) 0 (ac + (k + 1)) rf) := ⟨S7, by rw [lst_succ]; exact h1⟩; clear h1 h2 h3)
          first
            | exact ⟨⟨k + 1, hkc, rfl, HE7⟩, by simp [intOf]; omega⟩
            | (refine ⟨?_, by simp [intOf]; omega⟩
               repeat apply Exists.intro
               refine ⟨⟨k + 1, hkc, rfl, HE7⟩, ?_⟩
               simp
               repeat' (first | exact rfl | omega | apply And.intro))
        · obtain rfl : cap = k := by omega
          clear hkc hk
          have HLF : Hid ((lst cap).length = cap) := lst_len cap
          have HRF : Hid (rf ≤ 1000000) := by show _ ≤ _; have := HK2.out; omega
          go_wp2_with (first
            | (go_at_call 16; (with_reducible refine (HT.out.put_full HLF.out HRF.out 0).mono ?_); rintro e w8 ⟨rfl, h1, h2⟩; have HT8 : Hid (Stand w w8 B S' cap (lst cap) 1 (ac + cap) (rf + 1)) := h1; clear h1 h2)
            | (go_at_call 18; (with_reducible refine (HT8.out.drain cap HLF.out).mono ?_); rintro e w9 ⟨da, dc, rfl, h1, h2, h3⟩; have HT9 := Lib.hid h2; have HSL := Lib.hid h1; clear h1 h2 h3))
          go_loopw [100] (fun i wq => ∃ k : Nat, k ≤ cap ∧ i = .int .i64 k ∧ Hid (Below w9.heap.size w9 wq)) (fun i _ => cap - (intOf i).toNat)
          case atStart => exact ⟨0, Nat.zero_le _, rfl, Below.refl _ _⟩
          case round =>
            obtain ⟨k, hk, rfl, HB⟩ := hrel
            by_cases hkc : k < cap
            · obtain ⟨g, hg, hc0', hc1'⟩ := (HSL.out.below HB.out).at (i := k) (p := (100 + (k : Int), 0)) (by unfold lst; rw [List.getElem?_map, List.getElem?_range hkc]; rfl)
              subst hg
              have hc0 : wr.cell? ⟨g, k * 2, none⟩ = some (.int .i64 (100 + (k : Int))) := hc0'
              have hc1 : wr.cell? ⟨g, k * 2 + 1, none⟩ = some (.int .i64 0) := hc1'
              have hkc2 : (k : Int) < (cap : Int) := by omega
              have hkc0 : (0 : Int) ≤ (k : Int) := by omega
              have hk1 : IntKind.i64.wrap ((k : Int) + 1) = (k : Int) + 1 := by rw [IntKind.wrap_i64]; have := HCB.out; omega
              have hk2 : IntKind.i64.wrap (100 + (k : Int)) = 100 + (k : Int) := by rw [IntKind.wrap_i64]; have := HCB.out; omega
              have heq : ∀ W : World, (Op.equalIn 10000 34 (.agg #[.int .i64 (100 + (k : Int)), .int .i64 0]) (.agg #[.int .i64 (100 + (k : Int)), .int .i64 0])).run Try.prog W = .ok true W := fun W => by simpa using RI.run_eq_slot (100 + (k : Int)) (100 + (k : Int)) 0 0 W
              have HBn : Hid (Below w9.heap.size w9 (wr.alloc (.cells #[.int .i64 (100 + (k : Int)), .int .i64 0] 34))) := HB.out.alloc HB.out.size _
              clear hc0' hc1'
              go_wp2
              first
                | exact ⟨⟨k + 1, hkc, rfl, HBn⟩, by simp [intOf]; omega⟩
                | (refine ⟨?_, by simp [intOf]; omega⟩
                   repeat apply Exists.intro
                   refine ⟨⟨k + 1, hkc, rfl, HBn⟩, ?_⟩
                   simp
                   repeat' (first | exact rfl | omega | apply And.intro))
            · obtain rfl : cap = k := by omega
              clear hkc hk
              go_wp2
              go_ret
              exact ⟨rfl, HT9.out.bel.trans (HB.out.mono HT9.out.bel.size)⟩
set_option maxRecDepth 100000 in
set_option maxHeartbeats 8000000 in
theorem fresh_s (c : Nat) (hc : c < 256) (ba oa : Nat) (sa : Option Nat) (ln cp : Nat) (xs : List Nat) (hx : xs.length = ln) (hx256 : ∀ x ∈ xs, x < 256) (w : World) (hS : InB w (some ⟨ba, oa, sa⟩) xs) (hlc : ln ≤ cp) (hcm : cp ≤ maxLen) : Calls Try.prog 8 #[.int .u8 c, .slice (some ⟨ba, oa, sa⟩) ln cp] w fun e w' => e = .returned (.bool true) ∧ Below w.heap.size w w' := by
  obtain ⟨cap, hcap⟩ : ∃ cap, 1 + c % 20 = cap := ⟨_, rfl⟩
  have HCAP := Lib.hid hcap
  have HCB : Hid (1 ≤ cap ∧ cap ≤ 20) := by show _ ∧ _; omega
  have HC := Lib.hid hc
  obtain ⟨mn, hmn⟩ : ∃ mn : Nat, min ln 100 = mn := ⟨_, rfl⟩
  have hmi : min (ln : Int) 100 = (mn : Int) := by omega
  have hmi2 : (if (100 : Int) < (ln : Int) then (100 : Int) else (ln : Int)) = (mn : Int) := by split <;> omega
  have hmi3 : (if 100 < ln then (100 : Int) else (ln : Int)) = (mn : Int) := by split <;> omega
  have hmc : (mn : Int) ≤ (cp : Int) := by omega
  have hm0 : (0 : Int) ≤ (mn : Int) := by omega
  have hmw : IntKind.i64.wrap (mn : Int) = (mn : Int) := by rw [IntKind.wrap_i64]; omega
  have HMN : Hid (mn ≤ 100 ∧ mn ≤ ln) := by show _ ∧ _; omega
  have HXL := Lib.hid hx
  have HX2 : Hid (∀ x ∈ xs, x < 256) := hx256
  have HS : Hid (InB w (some ⟨ba, oa, sa⟩) xs) := hS
  have hcm' : (cp : Int) ≤ 9223372036854775807 := by unfold maxLen at hcm; omega
  clear hc hcap hmn hlc hcm hx hx256 hS
  go_enter Try.func8, Try.ntmps8
  go_wp2_with (first
    | (go_at_call 12; (with_reducible refine (awake_any w).mono ?_); rintro e w1 ⟨rfl, h1⟩; have HB1 := Lib.hid h1; clear h1)
    | (go_at_call 14; (with_reducible refine (made_any c cap HC.out HCAP.out w1).mono ?_); rintro e w2 ⟨rfl, h1, h2⟩; obtain ⟨S2, h3⟩ := Stand.made w cap HB1.out h1 h2; have HT2 := Lib.hid h3; clear h1 h2 h3))
  obtain ⟨B, hB⟩ : ∃ B, w1.heap.size = B := ⟨_, rfl⟩
  rw [hB] at HT2
  simp only [hB]
  clear hB
  go_loopw [35] (fun i wr => ∃ k : Nat, k ≤ mn ∧ i = .int .i64 k ∧ ∃ S l op ac rf, Hid (Stand w wr B S cap l op ac rf) ∧ Hid (ac + rf ≤ k)) (fun i _ => mn - (intOf i).toNat)
  case atStart => exact ⟨0, Nat.zero_le _, rfl, S2, [], 0, 0, 0, HT2, Nat.le_refl _⟩
  case round =>
    obtain ⟨k, hk, rfl, S, l, op, ac, rf, HT, HK⟩ := hrel
    by_cases hkm : k < mn
    · have hkl : k < xs.length := by have := HXL.out; have := HMN.out; omega
      obtain ⟨x, hx⟩ : ∃ x, xs[k] = x := ⟨_, rfl⟩
      have hx2 : x < 256 := by rw [← hx]; exact HX2.out _ (List.getElem_mem _)
      obtain ⟨_, _, hab, hcell⟩ := HS.out.at HT.out.bel hkl
      rw [hx] at hcell
      cases hab
      have hxw : IntKind.i64.wrap (x : Int) = (x : Int) := by rw [IntKind.wrap_i64]; omega
      have hkm2 : (k : Int) < (mn : Int) := by omega
      have hk1 : IntKind.i64.wrap ((k : Int) + 1) = (k : Int) + 1 := by rw [IntKind.wrap_i64]; have := HMN.out; omega
      clear hx hkl
      by_cases hx200 : x < 200
      · have hxd : (x : Int) < 200 := by omega
        have HS6 : Hid (ac + rf ≤ 1000000) := by show _ ≤ _; have := HK.out; have := HMN.out; omega
        go_wp2_with (go_at_call 16; (with_reducible refine (HT.out.put HS6.out 1).mono ?_); rintro e w5 ⟨b, S', l', op', ac', rf', rfl, h1, h2, h3⟩; have HT5 := Lib.hid h1; have HP5 := Lib.hid h2; clear h1 h2 h3)
        have HK5 : Hid (ac' + rf' ≤ k + 1) := by
          show _ ≤ _
          have := HK.out
          rcases HP5.out with ⟨_, _, _, _, h1, h2⟩ | ⟨_, _, _, _, h1, h2⟩ <;> omega
        first
          | exact ⟨⟨k + 1, hkm, rfl, S', l', op', ac', rf', HT5, HK5⟩, by simp [intOf]; omega⟩
          | (refine ⟨?_, by simp [intOf]; omega⟩
             repeat apply Exists.intro
             refine ⟨⟨k + 1, hkm, rfl, S', l', op', ac', rf', HT5, HK5⟩, ?_⟩
             simp
             repeat' (first | exact rfl | omega | apply And.intro))
      · have hxd : ¬ (x : Int) < 200 := by omega
        have hxd2 : (200 : Int) ≤ (x : Int) := by omega
        obtain ⟨q, hq⟩ : ∃ q, x % 3 = q := ⟨_, rfl⟩
        have hq2 : (x : Int) % 3 = (q : Int) := by omega
        obtain ⟨m, hm⟩ : ∃ m, min q l.length = m := ⟨_, rfl⟩
        have HM := Lib.hid hm
        clear hm hq
        go_wp2_with (go_at_call 17; (with_reducible refine (HT.out.take q m HM.out).mono ?_); rintro e w5 ⟨ra, rc, rfl, h1, h2, h3⟩; have HT5 := Lib.hid h2; clear h1 h2 h3)
        have HK5 : Hid (ac + rf ≤ k + 1) := Nat.le_succ_of_le HK.out
        first
          | exact ⟨⟨k + 1, hkm, rfl, S, l.drop m, op, ac, rf, HT5, HK5⟩, by simp [intOf]; omega⟩
          | (refine ⟨?_, by simp [intOf]; omega⟩
             repeat apply Exists.intro
             refine ⟨⟨k + 1, hkm, rfl, S, l.drop m, op, ac, rf, HT5, HK5⟩, ?_⟩
             simp
             repeat' (first | exact rfl | omega | apply And.intro))
    · obtain rfl : mn = k := by omega
      clear hkm hk
      have HK2 : Hid (ac + rf ≤ 100) := Nat.le_trans HK.out HMN.out.1
      obtain ⟨len, hlen⟩ : ∃ len, l.length = len := ⟨_, rfl⟩
      have HL := Lib.hid hlen
      clear hlen
      go_wp2_with (first
        | (go_at_call 18; (with_reducible refine (HT.out.drain len HL.out).mono ?_); rintro e w6 ⟨da, dc, rfl, h1, h2, h3⟩; have HT6 := Lib.hid h2; clear h1 h2 h3)
        | (go_at_call 23; (with_reducible refine (RI.len_any w6 B S cap [] 0 ac rf HT6.out.rng 0 rfl).mono ?_); rintro e wx ⟨rfl, hw⟩; obtain rfl : w6 = wx := hw.symm)
        | (go_at_call 22; (with_reducible refine (RI.open_any w6 B S cap [] 0 ac rf HT6.out.rng 0 rfl).mono ?_); rintro e wx ⟨rfl, hw⟩; obtain rfl : w6 = wx := hw.symm))
      have HE : Hid (∃ S', Stand w w6 B S' cap (lst 0) 0 (ac + 0) rf) := ⟨S, HT6.out⟩
      go_loopw [68] (fun i wq => ∃ k : Nat, k ≤ cap ∧ i = .int .i64 k ∧ Hid (∃ S', Stand w wq B S' cap (lst k) 0 (ac + k) rf)) (fun i _ => cap - (intOf i).toNat)
      case atStart => exact ⟨0, Nat.zero_le _, rfl, HE⟩
      case round =>
        obtain ⟨k, hk, rfl, HE⟩ := hrel
        obtain ⟨S', hT⟩ := HE.out
        have HT := Lib.hid hT
        clear hT
        by_cases hkc : k < cap
        · have HLT : Hid ((lst k).length < cap) := by show _ < _; rw [lst_len]; exact hkc
          have HS6 : Hid (ac + k ≤ 1000000) := by show _ ≤ _; have := HK2.out; have := HCB.out; omega
          have hkc2 : (k : Int) < (cap : Int) := by omega
          have hk1 : IntKind.i64.wrap ((k : Int) + 1) = (k : Int) + 1 := by rw [IntKind.wrap_i64]; have := HCB.out; omega
          have hk2 : IntKind.i64.wrap (100 + (k : Int)) = 100 + (k : Int) := by rw [IntKind.wrap_i64]; have := HCB.out; omega
          go_wp2_with (go_at_call 16; (with_reducible refine (HT.out.put_room HLT.out HS6.out (100 + (k : Int))).mono ?_); rintro e w7 ⟨S7, rfl, h1, h2, h3⟩; have HE7 : Hid (∃ S', Stand w w7 B S' cap (lst (k + 1)) 0 (ac + (k + 1)) rf) := ⟨S7, by rw [lst_succ]; exact h1⟩; clear h1 h2 h3)
          first
            | exact ⟨⟨k + 1, hkc, rfl, HE7⟩, by simp [intOf]; omega⟩
            | (refine ⟨?_, by simp [intOf]; omega⟩
               repeat apply Exists.intro
               refine ⟨⟨k + 1, hkc, rfl, HE7⟩, ?_⟩
               simp
               repeat' (first | exact rfl | omega | apply And.intro))
        · obtain rfl : cap = k := by omega
          clear hkc hk
          have HLF : Hid ((lst cap).length = cap) := lst_len cap
          have HRF : Hid (rf ≤ 1000000) := by show _ ≤ _; have := HK2.out; omega
          go_wp2_with (first
            | (go_at_call 16; (with_reducible refine (HT.out.put_full HLF.out HRF.out 0).mono ?_); rintro e w8 ⟨rfl, h1, h2⟩; have HT8 : Hid (Stand w w8 B S' cap (lst cap) 1 (ac + cap) (rf + 1)) := h1; clear h1 h2)
            | (go_at_call 18; (with_reducible refine (HT8.out.drain cap HLF.out).mono ?_); rintro e w9 ⟨da, dc, rfl, h1, h2, h3⟩; have HT9 := Lib.hid h2; have HSL := Lib.hid h1; clear h1 h2 h3))
          go_loopw [100] (fun i wq => ∃ k : Nat, k ≤ cap ∧ i = .int .i64 k ∧ Hid (Below w9.heap.size w9 wq)) (fun i _ => cap - (intOf i).toNat)
          case atStart => exact ⟨0, Nat.zero_le _, rfl, Below.refl _ _⟩
          case round =>
            obtain ⟨k, hk, rfl, HB⟩ := hrel
            by_cases hkc : k < cap
            · obtain ⟨g, hg, hc0', hc1'⟩ := (HSL.out.below HB.out).at (i := k) (p := (100 + (k : Int), 0)) (by unfold lst; rw [List.getElem?_map, List.getElem?_range hkc]; rfl)
              subst hg
              have hc0 : wr.cell? ⟨g, k * 2, none⟩ = some (.int .i64 (100 + (k : Int))) := hc0'
              have hc1 : wr.cell? ⟨g, k * 2 + 1, none⟩ = some (.int .i64 0) := hc1'
              have hkc2 : (k : Int) < (cap : Int) := by omega
              have hkc0 : (0 : Int) ≤ (k : Int) := by omega
              have hk1 : IntKind.i64.wrap ((k : Int) + 1) = (k : Int) + 1 := by rw [IntKind.wrap_i64]; have := HCB.out; omega
              have hk2 : IntKind.i64.wrap (100 + (k : Int)) = 100 + (k : Int) := by rw [IntKind.wrap_i64]; have := HCB.out; omega
              have heq : ∀ W : World, (Op.equalIn 10000 34 (.agg #[.int .i64 (100 + (k : Int)), .int .i64 0]) (.agg #[.int .i64 (100 + (k : Int)), .int .i64 0])).run Try.prog W = .ok true W := fun W => by simpa using RI.run_eq_slot (100 + (k : Int)) (100 + (k : Int)) 0 0 W
              have HBn : Hid (Below w9.heap.size w9 (wr.alloc (.cells #[.int .i64 (100 + (k : Int)), .int .i64 0] 34))) := HB.out.alloc HB.out.size _
              clear hc0' hc1'
              go_wp2
              first
                | exact ⟨⟨k + 1, hkc, rfl, HBn⟩, by simp [intOf]; omega⟩
                | (refine ⟨?_, by simp [intOf]; omega⟩
                   repeat apply Exists.intro
                   refine ⟨⟨k + 1, hkc, rfl, HBn⟩, ?_⟩
                   simp
                   repeat' (first | exact rfl | omega | apply And.intro))
            · obtain rfl : cap = k := by omega
              clear hkc hk
              go_wp2
              go_ret
              exact ⟨rfl, HT9.out.bel.trans (HB.out.mono HT9.out.bel.size)⟩
theorem fresh_walk (a0 : Int) (a1 : Option Addr) (len1 cap1 : Nat) (z1 : List Int) (w : World) (w0 : (Lit.int .u8 a0).wf = true) (w1 : IsRow .u8 w a1 len1 cap1 z1) : Calls Try.prog 8 #[.int .u8 a0, .slice a1 len1 cap1] w fun e w' => e = .returned (.bool true) ∧ Below w.heap.size w w' := by
  have h0 := bounds_u8 w0
  obtain ⟨c, rfl⟩ := Int.eq_ofNat_of_zero_le h0.1
  obtain ⟨xs, h1, h2, h3, h4, h5⟩ := row_u8 w1
  rcases a1 with _ | ⟨b, off, sp⟩
  · exact fresh_n c (by omega) len1 cap1 xs h1 h3 w h2 h4 h5
  · exact fresh_s c (by omega) b off sp len1 cap1 xs h1 h3 w h2 h4 h5
end Go.Proofs.Ytljodpdplmhdnaa
