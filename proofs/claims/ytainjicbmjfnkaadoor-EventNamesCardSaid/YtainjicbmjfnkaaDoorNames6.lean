/-
  EventNames' walk.
-/
import Derived.Test.YtainjicbmjfnkaaDoorLaid6
namespace Go.Proofs.YtainjicbmjfnkaaDoor
open Go.RowKit
set_option linter.unusedVariables false
theorem find_name {k : Nat} (h1 : 1 ≤ k) (h2 : k ≤ 10) : Ev.FindOut (Ev.str (Ev.kname k)) k true := .inl ⟨rfl, h1, h2, rfl⟩
theorem find_empty : Ev.FindOut ⟨#[]⟩ 0 false := .inr ⟨rfl, rfl, fun j h1 h2 e => by
  have h := Ev.str_inj (show Ev.str [] = Ev.str (Ev.kname j) from e)
  have h4 := Ev.kname_four ⟨j, by omega⟩ h1
  rw [← h] at h4
  simp at h4⟩
theorem kname_no {k : Nat} (h : ¬ (1 ≤ k ∧ k ≤ 10)) : Ev.str (Ev.kname k) = ⟨#[]⟩ := by unfold Ev.kname; rw [if_neg h]; rfl
theorem kname_ne0 {k : Nat} (h1 : 1 ≤ k) (h2 : k ≤ 10) : ¬ (Ev.str (Ev.kname k)).toList = [] := by
  rw [ByteArray.toList_eq]
  intro h
  have h4 := Ev.kname_four ⟨k, by omega⟩ h1
  have : Ev.kname k = [] := by simpa [Ev.str] using h
  rw [this] at h4
  simp at h4
theorem kname_ne {k : Nat} (h1 : 1 ≤ k) (h2 : k ≤ 10) : ((Ev.str (Ev.kname k)).toList == (⟨#[]⟩ : ByteArray).toList) = false := by
  rw [show (⟨#[]⟩ : ByteArray) = Ev.str [] from rfl, str_cmp, decide_eq_false_iff_not]
  intro h
  have h4 := Ev.kname_four ⟨k, by omega⟩ h1
  rw [h] at h4
  simp at h4
set_option maxRecDepth 100000 in
set_option maxHeartbeats 1000000 in
theorem names_yy (k : Nat) (hk : k < 256) (hk1 : 1 ≤ k) (hk2 : k ≤ 10) (s : ByteArray) (k2 : Nat) (hf : Ev.FindOut s k2 true) (w : World) (h : A6 w) : Calls Tryd.prog 9 #[.int .u8 k, .string s] w fun e w' => e = .returned (.bool true) ∧ Below w.heap.size w w' := by
  have HA := Lib.hid h
  have HF := Lib.hid hf
  have HK := Lib.hid hk
  have HK1 := Lib.hid hk1
  have HK2 := Lib.hid hk2
  have hne := kname_ne0 hk1 hk2
  have hne2 : (Ev.str (Ev.kname k)).toList.isEmpty = false := by rw [List.isEmpty_eq_false_iff]; exact hne
  obtain ⟨n, hn⟩ : ∃ n, (Ev.fnames k).length = n := ⟨_, rfl⟩
  have hn0 : 0 < n := by
    have h := Ev.kfs_pos ⟨k, by omega⟩ hk1
    rw [← hn]; unfold Ev.fnames; rw [List.length_map]; exact h
  have hni : (0 : Int) < (n : Int) := by omega
  have hnd : decide (0 < n) = true := by rw [decide_eq_true_eq]; exact hn0
  have hnd2 : decide ((0 : Int) < (n : Int)) = true := by rw [decide_eq_true_eq]; exact hni
  have HN := Lib.hid hn
  have g1 : decide ((1 : Int) ≤ (k : Int)) = true := by rw [decide_eq_true_eq]; omega
  have g2 : (1 : Int) ≤ (k : Int) := by omega
  have g3 : decide ((k : Int) ≤ 10) = true := by rw [decide_eq_true_eq]; omega
  have g4 : (k : Int) ≤ 10 := by omega
  have HFN : Hid (Ev.FindOut (Ev.str (Ev.kname k)) k true) := find_name hk1 hk2
  clear hk1 hk2 hn hn0
  have HK22 : Hid (k2 < 256) := by show _ < _; rcases hf with ⟨_, _, h2, _⟩ | ⟨h, _⟩; omega; exact absurd h (by decide)
  have hs2 : ((Ev.str (Ev.kname k2)).toList == s.toList) = true := by
    rcases hf with ⟨_, _, _, h⟩ | ⟨h, _⟩
    · rw [h]; simp
    · exact absurd h (by decide)
  clear hk h hf
  go_enter Tryd.func9, Tryd.ntmps9
  go_wp2_with (first
    | (go_at_call 12; ((with_reducible refine (awake_any w HA.out).mono ?_); rintro e w1 ⟨rfl, hb⟩; have HB1 := Lib.hid hb; have HA1 := Lib.hid (HA.out.below hb); have HE1 : Hid (Ev.HE w1) := HA1.out.1; clear hb))
    | (go_at_call 23; ((with_reducible refine (name_any k HK.out _ HE1.out).mono ?_); rintro e w2 ⟨rfl, hw2⟩; obtain rfl : w1 = w2 := hw2.symm))
    | (go_at_call 20; ((with_reducible refine (fields_yes k HK1.out HK2.out _ rfl n HN.out _ HE1.out).mono ?_); rintro e w2 ⟨la, lc, rfl, _, hb⟩; have HB2 := Lib.hid (HB1.out.trans (hb.mono HB1.out.size)); have HA2 := Lib.hid (HA1.out.below hb); have HE2 : Hid (Ev.HE w2) := HA2.out.1; clear hb))
    | (go_at_call 24; ((with_reducible refine (find_any _ k true HFN.out _ HE2.out).mono ?_); rintro e w3 ⟨rfl, hw3⟩; obtain rfl : w2 = w3 := hw3.symm))
    | (go_at_call 24; ((with_reducible refine (find_any s k2 true HF.out _ HE2.out).mono ?_); rintro e w3 ⟨rfl, hw3⟩; obtain rfl : w2 = w3 := hw3.symm))
    | (go_at_call 23; ((with_reducible refine (name_any k2 HK22.out _ HE2.out).mono ?_); rintro e w3 ⟨rfl, hw3⟩; obtain rfl : w2 = w3 := hw3.symm)))
  go_ret
  exact ⟨rfl, HB2.out⟩
set_option maxRecDepth 100000 in
set_option maxHeartbeats 1000000 in
theorem names_yn (k : Nat) (hk : k < 256) (hk1 : 1 ≤ k) (hk2 : k ≤ 10) (s : ByteArray) (k2 : Nat) (hf : Ev.FindOut s k2 false) (w : World) (h : A6 w) : Calls Tryd.prog 9 #[.int .u8 k, .string s] w fun e w' => e = .returned (.bool true) ∧ Below w.heap.size w w' := by
  have HA := Lib.hid h
  have HF := Lib.hid hf
  have HK := Lib.hid hk
  have HK1 := Lib.hid hk1
  have HK2 := Lib.hid hk2
  have hne := kname_ne0 hk1 hk2
  have hne2 : (Ev.str (Ev.kname k)).toList.isEmpty = false := by rw [List.isEmpty_eq_false_iff]; exact hne
  obtain ⟨n, hn⟩ : ∃ n, (Ev.fnames k).length = n := ⟨_, rfl⟩
  have hn0 : 0 < n := by
    have h := Ev.kfs_pos ⟨k, by omega⟩ hk1
    rw [← hn]; unfold Ev.fnames; rw [List.length_map]; exact h
  have hni : (0 : Int) < (n : Int) := by omega
  have hnd : decide (0 < n) = true := by rw [decide_eq_true_eq]; exact hn0
  have hnd2 : decide ((0 : Int) < (n : Int)) = true := by rw [decide_eq_true_eq]; exact hni
  have HN := Lib.hid hn
  have g1 : decide ((1 : Int) ≤ (k : Int)) = true := by rw [decide_eq_true_eq]; omega
  have g2 : (1 : Int) ≤ (k : Int) := by omega
  have g3 : decide ((k : Int) ≤ 10) = true := by rw [decide_eq_true_eq]; omega
  have g4 : (k : Int) ≤ 10 := by omega
  have HFN : Hid (Ev.FindOut (Ev.str (Ev.kname k)) k true) := find_name hk1 hk2
  clear hk1 hk2 hn hn0
  obtain rfl : 0 = k2 := by
    rcases hf with ⟨h, _⟩ | ⟨_, h, _⟩
    · exact absurd h (by decide)
    · exact h.symm
  have HFZ : Hid (∀ w : World, Ev.HE w → Calls Tryd.prog 24 #[.string s] w fun e w' => e = .returned (.tuple #[.int .u8 0, .bool false]) ∧ w' = w) := fun w hE => find_any s 0 false hf w hE
  clear hk h hf
  go_enter Tryd.func9, Tryd.ntmps9
  go_wp2_with (first
    | (go_at_call 12; ((with_reducible refine (awake_any w HA.out).mono ?_); rintro e w1 ⟨rfl, hb⟩; have HB1 := Lib.hid hb; have HA1 := Lib.hid (HA.out.below hb); have HE1 : Hid (Ev.HE w1) := HA1.out.1; clear hb))
    | (go_at_call 23; ((with_reducible refine (name_any k HK.out _ HE1.out).mono ?_); rintro e w2 ⟨rfl, hw2⟩; obtain rfl : w1 = w2 := hw2.symm))
    | (go_at_call 20; ((with_reducible refine (fields_yes k HK1.out HK2.out _ rfl n HN.out _ HE1.out).mono ?_); rintro e w2 ⟨la, lc, rfl, _, hb⟩; have HB2 := Lib.hid (HB1.out.trans (hb.mono HB1.out.size)); have HA2 := Lib.hid (HA1.out.below hb); have HE2 : Hid (Ev.HE w2) := HA2.out.1; clear hb))
    | (go_at_call 24; ((with_reducible refine (find_any _ k true HFN.out _ HE2.out).mono ?_); rintro e w3 ⟨rfl, hw3⟩; obtain rfl : w2 = w3 := hw3.symm))
    | (go_at_call 24; ((with_reducible refine (HFZ.out _ HE2.out).mono ?_); rintro e w3 ⟨rfl, hw3⟩; obtain rfl : w2 = w3 := hw3.symm)))
  go_ret
  exact ⟨rfl, HB2.out⟩
set_option maxRecDepth 100000 in
set_option maxHeartbeats 1000000 in
theorem names_ny (k : Nat) (hk : k < 256) (hn : ¬ (1 ≤ k ∧ k ≤ 10)) (s : ByteArray) (k2 : Nat) (hf : Ev.FindOut s k2 true) (w : World) (h : A6 w) : Calls Tryd.prog 9 #[.int .u8 k, .string s] w fun e w' => e = .returned (.bool true) ∧ Below w.heap.size w w' := by
  have HA := Lib.hid h
  have HF := Lib.hid hf
  have HK := Lib.hid hk
  have HNK := Lib.hid hn
  have hnm := kname_no hn
  have HNAME : Hid (∀ w : World, Ev.HE w → Calls Tryd.prog 23 #[.int .u8 k] w fun e w' => e = .returned (.string ⟨#[]⟩) ∧ w' = w) := fun w hE => by
    have t := name_any k hk w hE
    rw [hnm] at t
    exact t
  have g : (decide ((1 : Int) ≤ (k : Int)) = false ∧ ¬ (1 : Int) ≤ (k : Int)) ∨ ((decide ((1 : Int) ≤ (k : Int)) = true ∧ (1 : Int) ≤ (k : Int)) ∧ decide ((k : Int) ≤ 10) = false ∧ ¬ (k : Int) ≤ 10) := by
    by_cases h1 : 1 ≤ k
    · exact .inr ⟨⟨by rw [decide_eq_true_eq]; omega, by omega⟩, by rw [decide_eq_false_iff_not]; omega, by omega⟩
    · exact .inl ⟨by rw [decide_eq_false_iff_not]; omega, by omega⟩
  clear hn hnm
  have HK22 : Hid (k2 < 256) := by show _ < _; rcases hf with ⟨_, _, h2, _⟩ | ⟨h, _⟩; omega; exact absurd h (by decide)
  have hs2 : ((Ev.str (Ev.kname k2)).toList == s.toList) = true := by
    rcases hf with ⟨_, _, _, h⟩ | ⟨h, _⟩
    · rw [h]; simp
    · exact absurd h (by decide)
  clear hk h hf
  have HFE : Hid (∀ w : World, Ev.HE w → Calls Tryd.prog 24 #[.string ⟨#[]⟩] w fun e w' => e = .returned (.tuple #[.int .u8 0, .bool false]) ∧ w' = w) := fun w hE => find_any _ 0 false find_empty w hE
  go_enter Tryd.func9, Tryd.ntmps9
  rcases g with ⟨g1, g2⟩ | ⟨⟨g1, g2⟩, g3, g4⟩
  all_goals
    go_wp2_with (first
      | (go_at_call 12; ((with_reducible refine (awake_any w HA.out).mono ?_); rintro e w1 ⟨rfl, hb⟩; have HB1 := Lib.hid hb; have HA1 := Lib.hid (HA.out.below hb); have HE1 : Hid (Ev.HE w1) := HA1.out.1; clear hb))
      | (go_at_call 23; ((with_reducible refine (HNAME.out _ HE1.out).mono ?_); rintro e w2 ⟨rfl, hw2⟩; obtain rfl : w1 = w2 := hw2.symm))
      | (go_at_call 20; ((with_reducible refine (fields_no k HK.out HNK.out _).mono ?_); rintro e w2 ⟨rfl, hb⟩; have HB2 := Lib.hid (HB1.out.trans (hb.mono HB1.out.size)); have HA2 := Lib.hid (HA1.out.below hb); have HE2 : Hid (Ev.HE w2) := HA2.out.1; clear hb))
      | (go_at_call 24; ((with_reducible refine (HFE.out _ HE2.out).mono ?_); rintro e w3 ⟨rfl, hw3⟩; obtain rfl : w2 = w3 := hw3.symm))
      | (go_at_call 24; ((with_reducible refine (find_any s k2 true HF.out _ HE2.out).mono ?_); rintro e w3 ⟨rfl, hw3⟩; obtain rfl : w2 = w3 := hw3.symm))
      | (go_at_call 23; ((with_reducible refine (name_any k2 HK22.out _ HE2.out).mono ?_); rintro e w3 ⟨rfl, hw3⟩; obtain rfl : w2 = w3 := hw3.symm)))
    go_ret
    exact ⟨rfl, HB2.out⟩
set_option maxRecDepth 100000 in
set_option maxHeartbeats 1000000 in
theorem names_nn (k : Nat) (hk : k < 256) (hn : ¬ (1 ≤ k ∧ k ≤ 10)) (s : ByteArray) (k2 : Nat) (hf : Ev.FindOut s k2 false) (w : World) (h : A6 w) : Calls Tryd.prog 9 #[.int .u8 k, .string s] w fun e w' => e = .returned (.bool true) ∧ Below w.heap.size w w' := by
  have HA := Lib.hid h
  have HF := Lib.hid hf
  have HK := Lib.hid hk
  have HNK := Lib.hid hn
  have hnm := kname_no hn
  have HNAME : Hid (∀ w : World, Ev.HE w → Calls Tryd.prog 23 #[.int .u8 k] w fun e w' => e = .returned (.string ⟨#[]⟩) ∧ w' = w) := fun w hE => by
    have t := name_any k hk w hE
    rw [hnm] at t
    exact t
  have g : (decide ((1 : Int) ≤ (k : Int)) = false ∧ ¬ (1 : Int) ≤ (k : Int)) ∨ ((decide ((1 : Int) ≤ (k : Int)) = true ∧ (1 : Int) ≤ (k : Int)) ∧ decide ((k : Int) ≤ 10) = false ∧ ¬ (k : Int) ≤ 10) := by
    by_cases h1 : 1 ≤ k
    · exact .inr ⟨⟨by rw [decide_eq_true_eq]; omega, by omega⟩, by rw [decide_eq_false_iff_not]; omega, by omega⟩
    · exact .inl ⟨by rw [decide_eq_false_iff_not]; omega, by omega⟩
  clear hn hnm
  obtain rfl : 0 = k2 := by
    rcases hf with ⟨h, _⟩ | ⟨_, h, _⟩
    · exact absurd h (by decide)
    · exact h.symm
  have HFZ : Hid (∀ w : World, Ev.HE w → Calls Tryd.prog 24 #[.string s] w fun e w' => e = .returned (.tuple #[.int .u8 0, .bool false]) ∧ w' = w) := fun w hE => find_any s 0 false hf w hE
  clear hk h hf
  have HFE : Hid (∀ w : World, Ev.HE w → Calls Tryd.prog 24 #[.string ⟨#[]⟩] w fun e w' => e = .returned (.tuple #[.int .u8 0, .bool false]) ∧ w' = w) := fun w hE => find_any _ 0 false find_empty w hE
  go_enter Tryd.func9, Tryd.ntmps9
  rcases g with ⟨g1, g2⟩ | ⟨⟨g1, g2⟩, g3, g4⟩
  all_goals
    go_wp2_with (first
      | (go_at_call 12; ((with_reducible refine (awake_any w HA.out).mono ?_); rintro e w1 ⟨rfl, hb⟩; have HB1 := Lib.hid hb; have HA1 := Lib.hid (HA.out.below hb); have HE1 : Hid (Ev.HE w1) := HA1.out.1; clear hb))
      | (go_at_call 23; ((with_reducible refine (HNAME.out _ HE1.out).mono ?_); rintro e w2 ⟨rfl, hw2⟩; obtain rfl : w1 = w2 := hw2.symm))
      | (go_at_call 20; ((with_reducible refine (fields_no k HK.out HNK.out _).mono ?_); rintro e w2 ⟨rfl, hb⟩; have HB2 := Lib.hid (HB1.out.trans (hb.mono HB1.out.size)); have HA2 := Lib.hid (HA1.out.below hb); have HE2 : Hid (Ev.HE w2) := HA2.out.1; clear hb))
      | (go_at_call 24; ((with_reducible refine (HFE.out _ HE2.out).mono ?_); rintro e w3 ⟨rfl, hw3⟩; obtain rfl : w2 = w3 := hw3.symm))
      | (go_at_call 24; ((with_reducible refine (HFZ.out _ HE2.out).mono ?_); rintro e w3 ⟨rfl, hw3⟩; obtain rfl : w2 = w3 := hw3.symm)))
    go_ret
    exact ⟨rfl, HB2.out⟩
theorem names_walk (a0 : Int) (s1 : ByteArray) (w : World) (w0 : (Lit.int .u8 a0).wf = true) (wx : A6 w) : Calls Tryd.prog 9 #[.int .u8 a0, .string s1] w fun e w' => e = .returned (.bool true) ∧ Below w.heap.size w w' := by
  have hb := bounds_u8 w0
  obtain ⟨k, rfl⟩ := Int.eq_ofNat_of_zero_le hb.1
  have hk : k < 256 := by omega
  obtain ⟨k2, r, hf⟩ := find_total s1
  by_cases h : 1 ≤ k ∧ k ≤ 10
  · cases r with
    | true => exact names_yy k hk h.1 h.2 s1 k2 hf w wx
    | false => exact names_yn k hk h.1 h.2 s1 k2 hf w wx
  · cases r with
    | true => exact names_ny k hk h s1 k2 hf w wx
    | false => exact names_nn k hk h s1 k2 hf w wx
end Go.Proofs.YtainjicbmjfnkaaDoor
