/-
  reads and lists; the walks of VarintReads and VarintLists.
-/
import Derived.Test.YthcagiamieeggaaLent
namespace Go.Proofs.Ythcagiamieeggaa
open Go.RowKit
set_option linter.unusedVariables false

set_option maxRecDepth 100000 in
set_option maxHeartbeats 4000000 in
theorem reads_any (a : Option Addr) (n c : Nat) (bs : List Nat) (hn : bs.length = n) (hbs : ∀ y ∈ bs, y < 256) (hnc : n ≤ c) (hcm : c ≤ maxLen) (B : Nat) (w : World) (hS : Seen w B .u8 a bs) (hBw : B ≤ w.heap.size) :
    Calls Try.prog 14 #[.slice a n c] w fun e w' => e = .returned (.bool true) ∧ Below w.heap.size w w' := by
  have hcm' := hcm
  unfold maxLen at hcm'
  by_cases h2 : n ≤ 2000
  · have HN := Lib.hid hn
    obtain ⟨ks, er, hr⟩ : ∃ ks er, Vi.readAll bs = (ks, er) := ⟨_, _, rfl⟩
    have hks : ks.length ≤ n := by
      by_cases he : er = 0
      · have := (Vi.readAll_back hbs (by rw [hr]; exact he)).2.2; rw [hr, hn] at this; exact this
      · have := Vi.ra_err bs.length bs (by show (Vi.readAll bs).2 ≠ 0; rw [hr]; exact he); rw [show Vi.ra bs.length bs = (ks, er) from hr] at this; rw [show ks = [] from this]; simp
    obtain ⟨kn, hkn⟩ : ∃ kn, ks.length = kn := ⟨_, rfl⟩
    rw [hkn] at hks
    have HK := Lib.hid hkn
    have HR := Lib.hid hr
    obtain ⟨r, hrd⟩ : ∃ r, Vi.read bs = r := ⟨_, rfl⟩
    have HRD := Lib.hid hrd
    clear hn hr hkn hrd
    go_enter Try.func14, Try.ntmps14
    go_wp2_with (first
      | (go_at_call 29; refine (lentB_any _ _ _ bs HN.out (by omega) _ _ hS hBw).mono ?_; rintro e w1 ⟨g, cap, rfl, hcap, hcapm, S1, hB1⟩; have S1a : Seen w1 w1.heap.size .u8 (some ⟨g, 0, none⟩) bs := (by have := seen_take S1 bs.length; rwa [List.take_left] at this); have hcap2 : n ≤ cap := Nat.le_trans (Nat.le_add_right _ _) hcap; have SS1 := hS.below (hB1.mono hBw))
      | (go_at_call_of 18 g; refine (read_at _ _ _ bs _ r HN.out HRD.out hbs _ S1a (Nat.le_refl _) (by unfold maxLen; omega)).mono ?_; rintro e w2 ⟨rfl, hB2⟩; have q2 := hB1.trans (hB2.mono hB1.size))
      | (go_at_call 30; refine (refRead_any _ _ _ _ bs HN.out r HRD.out hbs _ (hS.below (q2.mono hBw)) (by omega)).mono ?_; rintro e w3 ⟨rfl, hB3⟩; have q3 := q2.trans (hB3.mono q2.size))
      | (go_at_call_of 21 g; refine (readAll_at _ _ _ bs HN.out ks kn _ HR.out HK.out hbs hcap2 hcapm (by omega) _ _ ((S1a.below hB2).below (hB3.mono hB2.size)) (Nat.le_trans hB2.size hB3.size)).mono ?_; rintro e w4 ⟨a4, c4, rfl, S4, hc4, hd4, hB4⟩; have q4 := q3.trans (hB4.mono q3.size))
      | (go_at_call 31; refine (refReadAll_at _ _ _ bs HN.out ks kn _ HR.out HK.out hbs hnc hcm (by omega) _ _ (hS.below (q4.mono hBw)) (Nat.le_trans hBw q4.size)).mono ?_; rintro e w5 ⟨a5, c5, rfl, S5, hc5, hd5, hB5⟩; have q5 := q4.trans (hB5.mono q4.size))
      | (go_at_call 22; refine (sameNums_at _ _ _ _ ks ks _ _ true HK.out HK.out (by simp) _ _ _ (S4.below hB5) S5 (by unfold maxLen; omega) (by unfold maxLen; omega)).mono ?_; rintro e w6 ⟨rfl, hB6⟩; have q6 := q5.trans (hB6.mono q5.size))
      | (go_at_call 32; refine (keptB_any _ _ _ bs HN.out (by omega) g cap hcap hcapm w1.heap.size _ ((SS1.more (Nat.le_trans hBw hB1.size)).below (((hB2.trans (hB3.mono hB2.size)).trans ((hB4.mono (hB2.trans (hB3.mono hB2.size)).size))).trans (((hB5.trans (hB6.mono hB5.size)).mono (((hB2.trans (hB3.mono hB2.size)).trans ((hB4.mono (hB2.trans (hB3.mono hB2.size)).size))).size))))) (S1.below (((hB2.trans (hB3.mono hB2.size)).trans ((hB4.mono (hB2.trans (hB3.mono hB2.size)).size))).trans (((hB5.trans (hB6.mono hB5.size)).mono (((hB2.trans (hB3.mono hB2.size)).trans ((hB4.mono (hB2.trans (hB3.mono hB2.size)).size))).size))))) ((((hB2.trans (hB3.mono hB2.size)).trans ((hB4.mono (hB2.trans (hB3.mono hB2.size)).size))).trans (((hB5.trans (hB6.mono hB5.size)).mono (((hB2.trans (hB3.mono hB2.size)).trans ((hB4.mono (hB2.trans (hB3.mono hB2.size)).size))).size)))).size)).mono ?_; rintro e w7 ⟨rfl, hB7⟩))
    go_ret
    exact ⟨rfl, q6.trans (hB7.mono q6.size)⟩
  · have h3 : (2000 : Int) < (n : Int) := by omega
    clear hn h2
    go_enter Try.func14, Try.ntmps14
    go_wp2
    go_ret
    exact ⟨rfl, Below.refl _ _⟩

theorem then_below {w w1 w2 : World} (h1 : Below w.heap.size w w1) (h2 : Below w1.heap.size w1 w2) : Below w.heap.size w w2 := h1.trans (h2.mono h1.size)

set_option maxRecDepth 100000 in
set_option maxHeartbeats 2000000 in
theorem reads_walk (a0 : Option Addr) (len0 cap0 : Nat) (z0 : List Int) (w : World) (w0 : IsRow .u8 w a0 len0 cap0 z0) :
    Calls Try.prog 4 #[.slice a0 len0 cap0] w fun e w' => e = .returned (.bool true) ∧ Below w.heap.size w w' := by
  obtain ⟨bs, g1, g2, g3, g4, g5⟩ := row_u8 w0
  have HN := Lib.hid g1
  clear w0 g1
  go_enter Try.func4, Try.ntmps4
  go_wp2_with (first
    | (go_at_call 14; refine (reads_any _ _ _ bs HN.out g3 g4 g5 _ _ g2 (Nat.le_refl _)).mono ?_; rintro e w2 ⟨rfl, hB1⟩)
    | (go_at_call 13; refine (awake_any _).mono ?_; rintro e w3 ⟨rfl, hB2⟩))
  go_ret
  exact ⟨rfl, then_below hB1 hB2⟩

set_option maxRecDepth 100000 in
set_option maxHeartbeats 4000000 in
theorem lists_any (a : Option Addr) (n c : Nat) (xs : List Nat) (hn : xs.length = n) (hxs : ∀ y ∈ xs, y < 2 ^ 64) (hnc : n ≤ c) (hcm : c ≤ maxLen) (B : Nat) (w : World) (hS : Seen w B .u64 a xs) (hBw : B ≤ w.heap.size) :
    Calls Try.prog 15 #[.slice a n c] w fun e w' => e = .returned (.bool true) ∧ Below w.heap.size w w' := by
  have hcm' := hcm
  unfold maxLen at hcm'
  by_cases h2 : n ≤ 500
  · have HN := Lib.hid hn
    obtain ⟨t1, ht1⟩ : ∃ t, (Vi.forms xs).length = t := ⟨_, rfl⟩
    have ht2 : t1 ≤ 5000 := by have := Vi.sizes_le xs hxs; rw [Vi.forms_len] at ht1; omega
    have HT1 := Lib.hid ht1
    clear hn ht1
    go_enter Try.func15, Try.ntmps15
    go_wp2_with (first
      | (go_at_call 33; refine (lentN_any _ _ _ xs HN.out (by omega) _ _ hS hBw).mono ?_; rintro e w1 ⟨g, cap, rfl, hcap, hcapm, S1, hB1⟩; have S1a : Seen w1 w1.heap.size .u64 (some ⟨g, 0, none⟩) xs := (by have := seen_take S1 xs.length; rwa [List.take_left] at this); have hcap2 : n ≤ cap := Nat.le_trans (Nat.le_add_right _ _) hcap; have SS1 := hS.below (hB1.mono hBw))
      | (go_at_call 20; refine (writeAll_at _ _ xs _ HN.out _ t1 rfl HT1.out hxs (by omega) _ _ S1a (Nat.le_refl _)).mono ?_; rintro e w2 ⟨a2, c2, rfl, hown2, S2, hc2, hd2, hB2⟩; have q2 := then_below hB1 hB2)
      | (go_at_call 34; refine (refWriteAll_any _ _ _ xs HN.out hxs (by omega) _ _ (hS.below (q2.mono hBw)) (Nat.le_trans hBw q2.size)).mono ?_; rintro e w3 ⟨v3, rfl, hown3, hB3⟩; obtain ⟨a3, c3, rfl, hc3, hd3⟩ := own_slice hown3; have S3 := Seen.of_own (k := .u8) hown3; have r3 := then_below hB2 hB3)
      | (go_at_call 19; refine (same_at _ _ _ _ (Vi.forms xs) (Vi.forms xs) _ _ true HT1.out rfl (by simp) _ _ _ (S2.below hB3) S3 (by unfold maxLen; omega) (by have := HT1.out; unfold maxLen; omega)).mono ?_; rintro e w4 ⟨rfl, hB4⟩; have r4 := then_below r3 hB4)
      | (go_at_call 35; refine (keptN_any _ _ _ xs HN.out (by omega) g cap hcap hcapm w1.heap.size _ ((SS1.more (Nat.le_trans hBw hB1.size)).below r4) (S1.below r4) r4.size).mono ?_; rintro e w7 ⟨rfl, hB7⟩))
    go_ret
    exact ⟨rfl, then_below (then_below hB1 r4) hB7⟩
  · have h3 : (500 : Int) < (n : Int) := by omega
    clear hn h2
    go_enter Try.func15, Try.ntmps15
    go_wp2
    go_ret
    exact ⟨rfl, Below.refl _ _⟩

set_option maxRecDepth 100000 in
set_option maxHeartbeats 2000000 in
theorem lists_walk (a0 : Option Addr) (len0 cap0 : Nat) (z0 : List Int) (w : World) (w0 : IsRow .u64 w a0 len0 cap0 z0) :
    Calls Try.prog 5 #[.slice a0 len0 cap0] w fun e w' => e = .returned (.bool true) ∧ Below w.heap.size w w' := by
  obtain ⟨xs, g1, g2, g3, g4, g5⟩ := row_u64 w0
  have HN := Lib.hid g1
  clear w0 g1
  go_enter Try.func5, Try.ntmps5
  go_wp2_with (first
    | (go_at_call 15; refine (lists_any _ _ _ xs HN.out g3 g4 g5 _ _ g2 (Nat.le_refl _)).mono ?_; rintro e w2 ⟨rfl, hB1⟩)
    | (go_at_call 13; refine (awake_any _).mono ?_; rintro e w3 ⟨rfl, hB2⟩))
  go_ret
  exact ⟨rfl, then_below hB1 hB2⟩

end Go.Proofs.Ythcagiamieeggaa
