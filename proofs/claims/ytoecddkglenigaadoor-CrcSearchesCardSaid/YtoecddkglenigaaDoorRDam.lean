/-
  The reference's Damages.
-/
import Derived.Test.YtoecddkglenigaaDoorDamI
import Derived.Test.YtoecddkglenigaaDoorFinds
namespace Go.Proofs.YtoecddkglenigaaDoor
open Go.RowKit
set_option linter.unusedVariables false

set_option maxRecDepth 100000 in
set_option maxHeartbeats 2000000 in
theorem rdamages_any (n : Nat) (h4 : 4 ≤ n) (hn : n ≤ 304) (a : Option Addr) (m cap : Nat) (ks : List Nat) (hks : ∀ k ∈ ks, k < 8 * n) (hm : ks.length = m) (hm4 : m ≤ 4096) (r : Bool) (hr : decide (parts n ks ≠ 0) = r) (B : Nat) (w : World)
    (hS : Seen w B .i64 a ks) (hB : B ≤ w.heap.size) :
    Calls Tryd.prog 43 #[.int .i64 n, .slice a m cap] w fun e w' => e = .returned (.tuple #[.bool r, .int .i64 0]) ∧ Below w.heap.size w w' := by
  obtain ⟨i0, hi, hz0, hz1, hz2⟩ := info_parts infoB
  have h1 : ¬ (n : Int) < 4 := by omega
  have h1b : decide ((n : Int) < 4) = false := decide_eq_false h1
  have h2 : ¬ (16777216 : Int) < (n : Int) := by omega
  have h2b : decide ((16777216 : Int) < (n : Int)) = false := decide_eq_false h2
  have h3 : ¬ (4096 : Int) < (m : Int) := by omega
  have h3b : decide ((4096 : Int) < (m : Int)) = false := decide_eq_false h3
  have hni : (n : Int) ≤ 304 := by omega
  have hmi : (m : Int) ≤ 4096 := by omega
  obtain ⟨N, hN⟩ : ∃ N, n - 4 = N := ⟨_, rfl⟩
  have hNi : (n : Int) - 4 = (N : Int) := by omega
  have hN0 : (0 : Int) ≤ (N : Int) := by omega
  have hN5 : (N : Int) ≤ 300 := by omega
  have HTN : Hid (N + 4 = n) := by show _ = _; omega
  have HN3 : Hid (N ≤ 300) := by show _ ≤ _; omega
  have HZL : Hid ((List.replicate N 0).length = N) := List.length_replicate
  have HZB : Hid (∀ y ∈ List.replicate N 0, y < 256) := fun y hy => by rw [List.eq_of_mem_replicate hy]; decide
  have HK : Hid (∀ k ∈ ks, k < 8 * n) := hks
  have HM := Lib.hid hm
  have HR := Lib.hid hr
  have HBB := Lib.hid hB
  have HS : Hid (Seen w B .i64 a ks) := hS
  have HN304 : Hid (n ≤ 304) := hn
  have HN4 : Hid (4 ≤ n) := h4
  have hn0 : (0 : Int) ≤ (n : Int) := by omega
  clear hks hm hr hB hS hN
  go_enter Tryd.func43, Tryd.ntmps43
  go_wp2
  go_loopw [6] (fun iv wr => ∃ k : Nat, k ≤ m ∧ iv = .int .i64 k ∧ w = wr) (fun i _ => m - (intOf i).toNat)
  case atStart => exact ⟨0, Nat.zero_le _, rfl, rfl⟩
  case round =>
    obtain ⟨k, hk, rfl, rfl⟩ := hrel
    by_cases hkm : k < m
    · have hkl : k < ks.length := by rw [HM.out]; exact hkm
      have hkmi : (k : Int) < (m : Int) := by omega
      obtain ⟨b, off, rfl, hb, hcell⟩ := HS.out.at hkl
      obtain ⟨x, hx⟩ : ∃ x, ks[k] = x := ⟨_, rfl⟩
      rw [hx] at hcell
      have hxn : x < 8 * n := by rw [← hx]; exact HK.out _ (List.getElem_mem _)
      have hx1 : ¬ (x : Int) < 0 := by omega
      have hx1b : decide ((x : Int) < 0) = false := decide_eq_false hx1
      have hx2 : ¬ 8 * (n : Int) ≤ (x : Int) := by omega
      have hx2b : decide (8 * (n : Int) ≤ (x : Int)) = false := decide_eq_false hx2
      clear hx hkl hxn
      go_wp2
      exact ⟨⟨k + 1, hkm, rfl, trivial⟩, by simp [intOf]; omega⟩
    · obtain rfl : k = m := by omega
      clear hk hkm
      go_wp2_with (first
        | (at_make; refine wpList_make_full _ rfl _ _ 22 rfl w.heap.size 5 i0 (.int .u8 0) 1 Tryd.underlying22 hi hz0 hz1 .i64 .i64 _ _ N rfl rfl rfl rfl (by rw [hz2]; omega) (by unfold maxLen; omega) (Nat.le_refl _) ?_; intro w1 hown1 hgrow1; have HO1 := Lib.hid (zeros_row hown1); have HB1 : Hid (Below w.heap.size w w1) := (Below.refl _ _).grown hgrow1 (Nat.le_refl _) (fun k e => by cases e); clear hown1 hgrow1)
        | (go_at_call 19; ((with_reducible refine (rseal_any _ N N _ HZB.out HZL.out HN3.out w1.heap.size w1 (Seen.of_own HO1.out) (Nat.le_refl _)).mono ?_); rintro e w2 ⟨v2, rfl, hown2, hb2⟩; rw [HTN.out] at hown2; obtain ⟨g2, c2, rfl⟩ := own_form hown2 (by have := HTN.out; omega); have HO2 := Lib.hid (rebase hown2 HB1.out.size); have HB2 := Lib.hid (HB1.out.trans (hb2.mono HB1.out.size)); have HC2 := Lib.hid (own_cap hown2); have HSF := Lib.hid (seal_facts (List.replicate N 0) HZB.out N n HZL.out HTN.out); clear hown2 hb2)))
      go_loopw [8] (fun iv wr => ∃ j : Nat, ∃ S : List Nat, ∃ s : Nat, j ≤ k ∧ iv = .int .i64 j ∧ S.length = n ∧ (∀ y ∈ S, y < 256) ∧ Hid (Crc.upd 0 S = s) ∧ Hid (558161692 ^^^ parts n (ks.take j) = s) ∧ wr.ownsRow w.heap.size 5 1 (.slice (some ⟨g2, 0, none⟩) n c2) n (S.map fun x : Nat => Value.int .u8 x) ∧ Below w.heap.size w wr) (fun i _ => k - (intOf i).toNat)
      case atStart => exact ⟨0, _, 558161692, Nat.zero_le _, rfl, HSF.out.1, HSF.out.2.1, HSF.out.2.2, (by show _ ^^^ parts n (ks.take 0) = _; rw [List.take_zero]; exact Nat.xor_zero _), HO2.out, HB2.out⟩
      case round =>
        obtain ⟨j, S, s, hj, rfl, hSl, hSb, HU, HP, hrow, hbel⟩ := hrel
        have HSL := Lib.hid hSl
        have HSB : Hid (∀ y ∈ S, y < 256) := hSb
        have HROW := Lib.hid hrow
        have HBE := Lib.hid hbel
        clear hSl hSb hrow hbel
        by_cases hjk : j < k
        · have hkl : j < ks.length := by rw [HM.out]; exact hjk
          have hjki : (j : Int) < (k : Int) := by omega
          obtain ⟨b, off, rfl, hb, hcell⟩ := (HS.out.below (HBE.out.mono HBB.out)).at hkl
          obtain ⟨x, hx⟩ : ∃ x, ks[j] = x := ⟨_, rfl⟩
          rw [hx] at hcell
          have hxn : x < 8 * n := by rw [← hx]; exact HK.out _ (List.getElem_mem _)
          have hxi : (x : Int) < 2432 := by have := HN304.out; omega
          obtain ⟨y, z, kd, ke, q1, q2, q3, q4, q5, q6, q7, q8, q9, S1, q10, q11, q12, q13, q14⟩ := flip_facts HROW.out HSL.out HSB.out HU.out hxn
          have HQ11 := Lib.hid q11
          have HQ12 : Hid (∀ z ∈ S1, z < 256) := q12
          have HQ13 := Lib.hid q13
          have HQ14 := Lib.hid q14
          obtain ⟨s1, hs1⟩ : ∃ s1, s ^^^ Crc.part n x = s1 := ⟨_, rfl⟩
          have HP1 : Hid (558161692 ^^^ parts n (ks.take (j + 1)) = s1) := by
            show _ = _
            rw [List.take_succ_eq_append_getElem hkl, hx, parts_snoc, ← Nat.xor_assoc, HP.out]; exact hs1
          have HS1 := Lib.hid hs1
          clear q10 q11 q12 q13 q14 hx hxn hkl hs1
          go_wp2
          go_region
          go_wp2
          exact ⟨⟨j + 1, S1, s1, hjk, rfl, HQ11.out, HQ12.out, HQ13.out.trans HS1.out, HP1, HQ14.out _ rfl, (HBE.out.setCell ((HROW.out.lt g2 rfl).1) _).drew⟩, by simp [intOf]; omega⟩
        · obtain rfl : j = k := by omega
          have HE : Hid (decide (4 ≤ n ∧ Crc.upd 0 S = 558161692) = !r) := by
            show _ = _
            rw [← HR.out, HU.out, ← HP.out, ← HM.out, List.take_length]
            rw [Bool.eq_iff_iff]
            simp only [decide_eq_true_eq, Bool.not_eq_true', decide_eq_false_iff_not, Decidable.not_not]
            constructor
            · intro h
              have h2 := congrArg (558161692 ^^^ ·) h.2
              simp only [← Nat.xor_assoc, Nat.xor_self, Nat.zero_xor] at h2
              exact h2
            · intro h
              exact ⟨HN4.out, by rw [h, Nat.xor_zero]⟩
          clear hjk hj
          go_wp2_with (go_at_call 40; ((with_reducible refine (rsealed_any _ n c2 S HSB.out HSL.out HN304.out HC2.out.1 wr.heap.size wr (Seen.of_own HROW.out) (Nat.le_refl _) (!r) HE.out).mono ?_); rintro e w3 ⟨rfl, hb3⟩))
          go_ret2
          exact ⟨by first | rfl | (rw [Bool.not_not]; rfl) | simp, HBE.out.trans (hb3.mono HBE.out.size)⟩

end Go.Proofs.YtoecddkglenigaaDoor
