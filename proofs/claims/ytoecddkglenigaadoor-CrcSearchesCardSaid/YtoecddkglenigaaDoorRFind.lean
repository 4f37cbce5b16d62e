/-
  The reference's Find.
-/
import Derived.Test.YtoecddkglenigaaDoorCBits
import Derived.Test.YtoecddkglenigaaDoorTells0
namespace Go.Proofs.YtoecddkglenigaaDoor
open Go.RowKit
set_option linter.unusedVariables false

/-- What Find returns of bytes whose checksum is c. -/
def OutF (n c k f : Nat) : Prop :=
  (c = 558161692 ∧ k = 0 ∧ f = 6) ∨ (c ≠ 558161692 ∧ k < 8 * n ∧ c = 558161692 ^^^ Crc.part n k ∧ (∀ j, j < k → c ≠ 558161692 ^^^ Crc.part n j) ∧ f = 0) ∨
  (c ≠ 558161692 ∧ (∀ j, j < 8 * n → c ≠ 558161692 ^^^ Crc.part n j) ∧ k = 0 ∧ f = 6)

set_option maxRecDepth 100000 in
set_option maxHeartbeats 1000000 in
theorem rfind_arg (a : Option Addr) (n cap : Nat) (hn : n < 4) (w : World) :
    Calls Tryd.prog 21 #[.slice a n cap] w fun e w' => e = .returned (.tuple #[.int .i64 0, .int .i64 2]) ∧ w = w' := by
  have h : (n : Int) < 4 := by omega
  go_enter Tryd.func21, Tryd.ntmps21
  go_wp2
  go_ret2
  exact ⟨rfl, rfl⟩

set_option maxRecDepth 100000 in
set_option maxHeartbeats 2000000 in
theorem rfind_any (a : Option Addr) (n cap : Nat) (xs : List Nat) (hxs : ∀ y ∈ xs, y < 256) (hn : xs.length = n) (h4 : 4 ≤ n) (h6 : n ≤ 100) (w : World) (B : Nat) (hS : Seen w B .u8 a xs) (hBw : B ≤ w.heap.size) (c k f : Nat) (hc : Crc.upd 0 xs = c) (hO : OutF n c k f) :
    Calls Tryd.prog 21 #[.slice a n cap] w fun e w' => e = .returned (.tuple #[.int .i64 k, .int .i64 f]) ∧ Below w.heap.size w w' := by
  have h1 : ¬ (n : Int) < 4 := by omega
  have h1b : decide ((n : Int) < 4) = false := decide_eq_false h1
  have h2 : ¬ (65536 : Int) < (n : Int) := by omega
  have h2b : decide ((65536 : Int) < (n : Int)) = false := decide_eq_false h2
  have hni : (n : Int) ≤ 100 := by omega
  have hn0 : (0 : Int) ≤ (n : Int) := by omega
  obtain ⟨Z, hZ⟩ : ∃ Z, 8 * n = Z := ⟨_, rfl⟩
  have hZi : 8 * (n : Int) = (Z : Int) := by omega
  have hZ8 : (Z : Int) ≤ 800 := by omega
  have HZ := Lib.hid hZ
  have HN := Lib.hid hn
  have HN4 := Lib.hid h4
  have HX : Hid (∀ y ∈ xs, y < 256) := hxs
  have HS : Hid (Seen w B .u8 a xs) := hS
  have HB := Lib.hid hBw
  have HC := Lib.hid hc
  have HO : Hid (OutF n c k f) := hO
  have HN304 : Hid (n ≤ 304) := by show _ ≤ _; omega
  have h0n : Hid (0 + n ≤ 1000000) := by show _ ≤ _; omega
  have HE := Lib.hid (own_empty w)
  have HA : Hid (Below w.heap.size w (w.alloc (.cells #[] 5))) := (Below.refl _ w).alloc (Nat.le_refl _) _
  obtain ⟨r, hr⟩ : ∃ r, decide (4 ≤ n ∧ Crc.upd 0 xs = 558161692) = r := ⟨_, rfl⟩
  have HRM := Lib.hid hr
  clear hZ hn hxs hS hBw hc hO hr
  cases r
  focus
    have HC0 : Hid (c ≠ 558161692) := by
      show _ ≠ _
      have h := of_decide_eq_false HRM.out
      rw [HC.out] at h
      exact fun e => h ⟨HN4.out, e⟩
    go_enter Tryd.func21, Tryd.ntmps21
    go_wp2_with (first
      | (at_builtin; refine app_bytes _ rfl _ _ rfl w.heap.size _ _ [] rfl HE.out _ _ _ xs HN.out rfl B (HS.out.below (HA.out.mono HB.out)) h0n.out HA.out.size ?_; intro v2 w2 hown2 hb2; rw [Nat.zero_add, List.nil_append] at hown2; obtain ⟨g2, c2, rfl⟩ := own_form hown2 (by have := HN4.out; omega); have HO2 := Lib.hid hown2; have HC2 := Lib.hid (own_cap hown2); have HB2 := Lib.hid (HA.out.trans hb2); clear hown2 hb2)
      | (go_at_call 40; ((with_reducible refine (rsealed_any _ n c2 xs HX.out HN.out HN304.out HC2.out.1 w2.heap.size w2 (Seen.of_own HO2.out) (Nat.le_refl _) _ HRM.out).mono ?_); rintro e w3 ⟨rfl, hb3⟩; have HO3 := Lib.hid (HO2.out.kept (grown_of_below hb3) (.inr (by simp [Value.ownBlock]))); have HB3 := Lib.hid (HB2.out.trans (hb3.mono HB2.out.size)); clear hb3)))
    go_loopw [5] (fun iv wr => ∃ j : Nat, ∃ S : List Nat, j ≤ Z ∧ iv = .int .i64 j ∧ S.length = n ∧ (∀ y ∈ S, y < 256) ∧ Hid (Crc.upd 0 S = c) ∧ Hid (∀ i, i < j → c ≠ 558161692 ^^^ Crc.part n i) ∧ wr.ownsRow w.heap.size 5 1 (.slice (some ⟨g2, 0, none⟩) n c2) n (S.map fun x : Nat => Value.int .u8 x) ∧ Below w.heap.size w wr) (fun i _ => Z - (intOf i).toNat)
    case atStart => exact ⟨0, xs, Nat.zero_le _, rfl, HN.out, HX.out, HC, (fun i hi => absurd hi (Nat.not_lt_zero i)), HO3.out, HB3.out⟩
    case round =>
      obtain ⟨j, S, hj, rfl, hSl, hSb, HU, HG, hrow, hbel⟩ := hrel
      have HSL := Lib.hid hSl
      have HSB : Hid (∀ y ∈ S, y < 256) := hSb
      have HROW := Lib.hid hrow
      have HBE := Lib.hid hbel
      clear hSl hSb hrow hbel
      by_cases hjZ : j < Z
      · have hjZi : (j : Int) < (Z : Int) := by omega
        have HJ8 : Hid (j < 8 * n) := by show _ < _; rw [HZ.out]; exact hjZ
        obtain ⟨y, z, kd, ke, q1, q2, q3, q4, q5, q6, q7, q8, q9, S1, q10, q11, q12, q13, q14⟩ := flip_facts HROW.out HSL.out HSB.out HU.out HJ8.out
        have HQ11 := Lib.hid q11
        have HQ12 : Hid (∀ z ∈ S1, z < 256) := q12
        have HQ13 := Lib.hid q13
        have HQ14 := Lib.hid q14
        clear q10 q11 q12 q13 q14
        by_cases hfound : c ^^^ Crc.part n j = 558161692
        · have HK : Hid (k = j ∧ f = 0) := by
            have hcj : c = 558161692 ^^^ Crc.part n j := by
              have h := congrArg (· ^^^ Crc.part n j) hfound
              simp only [Nat.xor_assoc, Nat.xor_self, Nat.xor_zero] at h
              exact h
            rcases HO.out with h | h | h
            · exact absurd h.1 HC0.out
            · obtain ⟨_, _, h2, h3, h4⟩ := h
              refine ⟨?_, h4⟩
              rcases Nat.lt_trichotomy k j with hlt | heq | hgt
              · exact absurd h2 (HG.out k hlt)
              · exact heq
              · exact absurd hcj (h3 j hgt)
            · exact absurd hcj (h.2.1 j HJ8.out)
          have HR1 : Hid (decide (4 ≤ n ∧ Crc.upd 0 S1 = 558161692) = true) := decide_eq_true ⟨HN4.out, HQ13.out.trans hfound⟩
          clear hfound
          go_wp2
          go_region
          have HO5 := Lib.hid (HQ14.out _ rfl)
          have HB5 : Hid (Below w.heap.size w ((wr.setCell ⟨g2, kd, none⟩ (.int .u8 z)).drew)) := (HBE.out.setCell ((HROW.out.lt g2 rfl).1) _).drew
          obtain ⟨W5, hW5⟩ : ∃ W5, (wr.setCell ⟨g2, kd, none⟩ (.int .u8 z)).drew = W5 := ⟨_, rfl⟩
          rw [hW5] at HO5 HB5 ⊢
          clear hW5
          go_wp2_with (go_at_call 40; ((with_reducible refine (rsealed_any _ n c2 S1 HQ12.out HQ11.out HN304.out HC2.out.1 W5.heap.size W5 (Seen.of_own HO5.out) (Nat.le_refl _) _ HR1.out).mono ?_); rintro e w6 ⟨rfl, hb6⟩))
          go_ret2
          obtain ⟨rfl, rfl⟩ := HK.out
          exact ⟨rfl, HB5.out.trans (hb6.mono HB5.out.size)⟩
        · have HR1 : Hid (decide (4 ≤ n ∧ Crc.upd 0 S1 = 558161692) = false) := decide_eq_false (fun h => hfound (HQ13.out.symm.trans h.2))
          have HG2 : Hid (∀ i, i < j + 1 → c ≠ 558161692 ^^^ Crc.part n i) := fun i hi e => by
            rcases Nat.lt_or_eq_of_le (Nat.le_of_lt_succ hi) with h | h
            · exact HG.out i h e
            · subst h
              apply hfound
              rw [e, Nat.xor_assoc, Nat.xor_self, Nat.xor_zero]
          clear hfound
          go_wp2
          go_region
          have HO5 := Lib.hid (HQ14.out _ rfl)
          have HB5 : Hid (Below w.heap.size w ((wr.setCell ⟨g2, kd, none⟩ (.int .u8 z)).drew)) := (HBE.out.setCell ((HROW.out.lt g2 rfl).1) _).drew
          obtain ⟨W5, hW5⟩ : ∃ W5, (wr.setCell ⟨g2, kd, none⟩ (.int .u8 z)).drew = W5 := ⟨_, rfl⟩
          rw [hW5] at HO5 HB5 ⊢
          clear hW5
          go_wp2_with (go_at_call 40; ((with_reducible refine (rsealed_any _ n c2 S1 HQ12.out HQ11.out HN304.out HC2.out.1 W5.heap.size W5 (Seen.of_own HO5.out) (Nat.le_refl _) _ HR1.out).mono ?_); rintro e w6 ⟨rfl, hb6⟩; have HO6 := Lib.hid (HO5.out.kept (grown_of_below hb6) (.inr (by simp [Value.ownBlock]))); have HB6 := Lib.hid (HB5.out.trans (hb6.mono HB5.out.size)); clear hb6; clear q1 q2 q3 q4 q5 q6 q7 q8 q9; obtain ⟨y', z', kd', ke', q1, q2, q3, q4, q5, q6, q7, q8, q9, S2, q10, q11, q12, q13, q14⟩ := flip_facts HO6.out HQ11.out HQ12.out HQ13.out HJ8.out; have HP11 := Lib.hid q11; have HP12 : Hid (∀ z ∈ S2, z < 256) := q12; have HP13 := Lib.hid q13; have HP14 := Lib.hid q14; clear q10 q11 q12 q13 q14))
          go_region
          have HO7 := Lib.hid (HP14.out _ rfl)
          have HB7 : Hid (Below w.heap.size w ((w6.setCell ⟨g2, kd', none⟩ (.int .u8 z')).drew)) := (HB6.out.setCell ((HO6.out.lt g2 rfl).1) _).drew
          obtain ⟨W7, hW7⟩ : ∃ W7, (w6.setCell ⟨g2, kd', none⟩ (.int .u8 z')).drew = W7 := ⟨_, rfl⟩
          rw [hW7] at HO7 HB7 ⊢
          clear hW7
          go_wp2
          exact ⟨⟨j + 1, S2, hjZ, rfl, HP11.out, HP12.out, HP13.out.trans (by rw [Nat.xor_assoc, Nat.xor_self, Nat.xor_zero]), HG2, HO7.out, HB7.out⟩, by simp [intOf]; omega⟩
      · obtain rfl : j = Z := by omega
        have HK : Hid (k = 0 ∧ f = 6) := by
          rcases HO.out with h | h | h
          · exact absurd h.1 HC0.out
          · obtain ⟨_, h1, h2, _⟩ := h
            exact absurd h2 (HG.out k (by rw [← HZ.out]; exact h1))
          · exact h.2.2
        go_wp2
        go_ret2
        obtain ⟨rfl, rfl⟩ := HK.out
        exact ⟨rfl, HBE.out⟩
  rotate_left
  focus
    obtain ⟨rfl, rfl⟩ : k = 0 ∧ f = 6 := by
      have h := (of_decide_eq_true HRM.out).2
      rw [HC.out] at h
      rcases HO.out with h1 | h1 | h1
      · exact h1.2
      · exact absurd h h1.1
      · exact absurd h h1.1
    go_enter Tryd.func21, Tryd.ntmps21
    go_wp2_with (first
      | (at_builtin; refine app_bytes _ rfl _ _ rfl w.heap.size _ _ [] rfl HE.out _ _ _ xs HN.out rfl B (HS.out.below (HA.out.mono HB.out)) h0n.out HA.out.size ?_; intro v2 w2 hown2 hb2; rw [Nat.zero_add, List.nil_append] at hown2; obtain ⟨g2, c2, rfl⟩ := own_form hown2 (by have := HN4.out; omega); have HO2 := Lib.hid hown2; have HC2 := Lib.hid (own_cap hown2); have HB2 := Lib.hid (HA.out.trans hb2); clear hown2 hb2)
      | (go_at_call 40; ((with_reducible refine (rsealed_any _ n c2 xs HX.out HN.out HN304.out HC2.out.1 w2.heap.size w2 (Seen.of_own HO2.out) (Nat.le_refl _) _ HRM.out).mono ?_); rintro e w3 ⟨rfl, hb3⟩; have HO3 := Lib.hid (HO2.out.kept (grown_of_below hb3) (.inr (by simp [Value.ownBlock]))); have HB3 := Lib.hid (HB2.out.trans (hb3.mono HB2.out.size)); clear hb3)))
    go_ret2
    exact ⟨rfl, HB3.out⟩

end Go.Proofs.YtoecddkglenigaaDoor
