/-
  The walk of VarintOne.
-/
import Derived.Test.YthcagiamieeggaaMore
import Derived.Test.YthcagiamieeggaaAppend
import Derived.Deep.RegionHeld3
namespace Go.Proofs.Ythcagiamieeggaa
open Go.RowKit
set_option linter.unusedVariables false

set_option maxRecDepth 100000 in
set_option maxHeartbeats 4000000 in
theorem one_law (x : Nat) (hx : x < 2 ^ 64) (a : Option Addr) (n c : Nat) (bs : List Nat) (hn : bs.length = n) (hbs : ∀ y ∈ bs, y < 256) (hnc : n ≤ c) (hcm : c ≤ maxLen) (w : World) (hS : Seen w w.heap.size .u8 a bs) :
    Calls Try.prog 7 #[.int .u64 x, .slice a n c] w fun e w' => e = .returned (.bool true) ∧ Below w.heap.size w w' := by
  have la1 := Vi.form_len10 x hx
  have la0 := Vi.form_pos x
  unfold maxLen at hcm
  obtain ⟨i0, hi, hz0, hz1, hz2⟩ := info_parts infoB
  obtain ⟨la, hla⟩ : ∃ la, (Vi.form x).length = la := ⟨_, rfl⟩
  rw [hla] at la1 la0
  have HLA := Lib.hid hla
  have HN := Lib.hid hn
  clear hn hla
  by_cases hn0 : n = 0
  · subst hn0
    have HR1 : Hid (Vi.read (Vi.form x) = (x, la, 0)) := by have := Vi.read_form x hx []; rw [List.append_nil, HLA.out] at this; exact this
    go_enter Try.func7, Try.ntmps7
    go_wp2_with (first
      | (go_at_call 13; refine (awake_any _).mono ?_; rintro e w1 ⟨rfl, hB1⟩)
      | (go_at_call_of 16 x; refine (write_n x la hx HLA.out _).mono ?_; rintro e w2 ⟨g1, c1, rfl, hown1, S1, hn1, hm1, hB2⟩)
      | (go_at_call 17; refine (size_n x la hx HLA.out _).mono ?_; rintro e w3 ⟨rfl, hB3⟩; have hbb := hB1.trans ((hB2.mono hB1.size).trans (hB3.mono (Nat.le_trans hB1.size hB2.size))))
      | (at_builtin; refine wpList_append_nothing _ rfl _ _ 25 rfl 5 i0 Try.underlying25 hi ⟨g1, 0, none⟩ la la rfl (Nat.le_refl _) _ _ rfl ?_; have S3 := (S1.below hB3).more hB3.size)
      | (go_at_call_of 18 la; refine (read_at _ _ _ (Vi.form x) _ (x, la, 0) HLA.out HR1.out (Vi.form_byte x) _ S3 (Nat.le_refl _) (by unfold maxLen; omega)).mono ?_; rintro e w4 ⟨rfl, hB4⟩)
      | (go_at_call_of 18 c; refine (read_at _ _ _ [] _ (0, 0, 10) rfl rfl (by simp) _ (Seen.nil _ 0 _ _) (Nat.zero_le _) (by unfold maxLen; simp)).mono ?_; rintro e w5 ⟨rfl, hB5⟩))
    go_ret
    exact ⟨rfl, hbb.trans ((hB4.mono hbb.size).trans (hB5.mono (Nat.le_trans hbb.size hB4.size)))⟩
  · obtain ⟨b, off, rfl, hbl, hc0⟩ := hS.at (i := 0) (by have := HN.out; omega)
    by_cases h20 : n ≤ 20
    · have HM : Hid ((bs).length = n) := HN.out
      have hSm : Seen w w.heap.size .u8 (some ⟨b, off, none⟩) (bs) := hS
      have hbm : ∀ y ∈ bs, y < 256 := hbs
      have HR1 : Hid (Vi.read (Vi.form x ++ bs) = (x, la, 0)) := by have := Vi.read_form x hx (bs); rw [HLA.out] at this; exact this
      obtain ⟨r, hr⟩ : ∃ r, Vi.read (bs) = r := ⟨_, rfl⟩
      obtain ⟨z, m, er⟩ := r
      have HR2 := Lib.hid hr
      by_cases her : er = 0
      · subst her
        obtain ⟨hz64, hf, hm0, hml⟩ := Vi.read_back hbm hr
        rw [HM.out] at hml
        have g1 : (1 : Int) ≤ (m : Int) := by omega
        have g1n : 1 ≤ m := by omega
        have g3 : (m : Int) ≤ (c : Int) := by omega
        have g0 : (0 : Int) ≤ (m : Int) := by omega
        have g2 : (m : Int) ≤ (n : Int) := by omega
        have g2n : m ≤ n := by omega
        have HFL : Hid ((Vi.form z).length = m) := by have := congrArg List.length hf; rw [List.length_take, HM.out] at this; show _ = _; omega
        have HD : Hid (decide (Vi.form z = (bs).take m) = true) := by rw [hf]; simp [Hid]
        clear hr hf
        go_enter Try.func7, Try.ntmps7
        go_wp2_with (first
          | (go_at_call 13; refine (awake_any _).mono ?_; rintro e w1 ⟨rfl, hB1⟩)
          | (go_at_call_of 16 x; refine (write_n x la hx HLA.out _).mono ?_; rintro e w2 ⟨g1, c1, rfl, hown1, S1, hn1, hm1, hB2⟩)
          | (go_at_call 17; refine (size_n x la hx HLA.out _).mono ?_; rintro e w3 ⟨rfl, hB3⟩; have hbb := hB1.trans ((hB2.mono hB1.size).trans (hB3.mono (Nat.le_trans hB1.size hB2.size))))
          | (at_builtin; refine wpList_append_grows _ rfl _ _ 25 rfl 5 i0 (.int .u8 0) 1 1 Try.underlying25 hi hz0 hz1 hz2 rfl (by decide) (some ⟨g1, 0, none⟩) la la ((Vi.form x).map fun x : Nat => Value.int .u8 x) rfl (by simp) (by rw [List.length_map, HLA.out, Nat.mul_one]) (seen_cells' (S1.below hB3)) ⟨b, off, none⟩ n c ((bs).map fun x : Nat => Value.int .u8 x) rfl (by rw [List.length_map, HM.out, Nat.mul_one]) (seen_cells (hSm.below hbb)) (by intro u hu; obtain ⟨z, _, rfl⟩ := List.mem_map.1 hu; rfl) (by omega) (by unfold maxLen; omega) (by omega) ?_; intro v4 w4 hown4 hgrow4; obtain ⟨g4, c4, rfl⟩ := own_form hown4 (by omega); have S4 := Seen.of_own (k := .u8) (xs := Vi.form x ++ bs) (by rw [List.map_append]; exact hown4); have hbg := hbb.grown hgrow4 (Nat.le_trans hbb.size (Nat.le_refl _)) (fun k e => by cases e))
          | (go_at_call_of 18 la; refine (read_at _ _ _ (Vi.form x ++ bs) _ (x, la, 0) (by rw [List.length_append, HLA.out, HM.out]) HR1.out (fun z hz => by rcases List.mem_append.1 hz with h | h; exact Vi.form_byte x z h; exact hbm z h) _ S4 (Nat.le_refl _) (by unfold maxLen; omega)).mono ?_; rintro e w5 ⟨rfl, hB5⟩)
          | (go_at_call_of 18 off; refine (read_at _ _ _ (bs) _ _ HM.out HR2.out hbm _ (hSm.below (hbg.trans (hB5.mono hbg.size))) (Nat.le_trans hbg.size hB5.size) (by unfold maxLen; omega)).mono ?_; rintro e w6 ⟨rfl, hB6⟩; have hb6 := (hbg.trans ((hB5.mono hbg.size).trans (hB6.mono (Nat.le_trans hbg.size hB5.size)))).drew))
        go_region_held3 (fun _ => True) (first | exact trivial) (first | (go_at_call_of 16 z; refine (write_n z m hz64 HFL.out _).mono ?_; rintro e w7 ⟨g7, c7, rfl, hown7, S7, hn7, hm7, hB7⟩) | (go_at_call 19; refine (same_at _ _ _ _ (Vi.form z) ((bs).take m) _ _ true HFL.out (by rw [List.length_take, HM.out]; omega) HD.out _ _ _ S7 ((seen_take (hSm.below (hb6.trans (hB7.mono hb6.size))) m)) (by unfold maxLen; omega) (by unfold maxLen; omega)).mono ?_; rintro e w8 ⟨rfl, hB8⟩))
        all_goals go_wp2
        all_goals go_ret
        all_goals exact ⟨rfl, (hb6.trans (hB7.mono hb6.size)).trans (hB8.mono (hb6.trans (hB7.mono hb6.size)).size)⟩
      · have hre : z = 0 ∧ m = 0 ∧ (er = 10 ∨ er = 11 ∨ er = 12) := by have := Vi.rd_err (bs) 0 0; rw [show Vi.rd (bs) 0 0 = (z, m, er) from hr] at this; exact this her
        obtain ⟨rfl, rfl, hre⟩ := hre
        clear hr her
        rcases hre with rfl | rfl | rfl
        all_goals
          go_enter Try.func7, Try.ntmps7
          go_wp2_with (first
            | (go_at_call 13; refine (awake_any _).mono ?_; rintro e w1 ⟨rfl, hB1⟩)
            | (go_at_call_of 16 x; refine (write_n x la hx HLA.out _).mono ?_; rintro e w2 ⟨g1, c1, rfl, hown1, S1, hn1, hm1, hB2⟩)
            | (go_at_call 17; refine (size_n x la hx HLA.out _).mono ?_; rintro e w3 ⟨rfl, hB3⟩; have hbb := hB1.trans ((hB2.mono hB1.size).trans (hB3.mono (Nat.le_trans hB1.size hB2.size))))
            | (at_builtin; refine wpList_append_grows _ rfl _ _ 25 rfl 5 i0 (.int .u8 0) 1 1 Try.underlying25 hi hz0 hz1 hz2 rfl (by decide) (some ⟨g1, 0, none⟩) la la ((Vi.form x).map fun x : Nat => Value.int .u8 x) rfl (by simp) (by rw [List.length_map, HLA.out, Nat.mul_one]) (seen_cells' (S1.below hB3)) ⟨b, off, none⟩ n c ((bs).map fun x : Nat => Value.int .u8 x) rfl (by rw [List.length_map, HM.out, Nat.mul_one]) (seen_cells (hSm.below hbb)) (by intro u hu; obtain ⟨z, _, rfl⟩ := List.mem_map.1 hu; rfl) (by omega) (by unfold maxLen; omega) (by omega) ?_; intro v4 w4 hown4 hgrow4; obtain ⟨g4, c4, rfl⟩ := own_form hown4 (by omega); have S4 := Seen.of_own (k := .u8) (xs := Vi.form x ++ bs) (by rw [List.map_append]; exact hown4); have hbg := hbb.grown hgrow4 (Nat.le_trans hbb.size (Nat.le_refl _)) (fun k e => by cases e))
            | (go_at_call_of 18 la; refine (read_at _ _ _ (Vi.form x ++ bs) _ (x, la, 0) (by rw [List.length_append, HLA.out, HM.out]) HR1.out (fun z hz => by rcases List.mem_append.1 hz with h | h; exact Vi.form_byte x z h; exact hbm z h) _ S4 (Nat.le_refl _) (by unfold maxLen; omega)).mono ?_; rintro e w5 ⟨rfl, hB5⟩)
            | (go_at_call_of 18 off; refine (read_at _ _ _ (bs) _ _ HM.out HR2.out hbm _ (hSm.below (hbg.trans (hB5.mono hbg.size))) (Nat.le_trans hbg.size hB5.size) (by unfold maxLen; omega)).mono ?_; rintro e w6 ⟨rfl, hB6⟩; have hb6 := (hbg.trans ((hB5.mono hbg.size).trans (hB6.mono (Nat.le_trans hbg.size hB5.size)))).drew))
          go_ret
          exact ⟨rfl, hbg.trans ((hB5.mono hbg.size).trans (hB6.mono (Nat.le_trans hbg.size hB5.size)))⟩
    · have HM : Hid ((bs.take 20).length = 20) := by show _ = _; rw [List.length_take, HN.out]; omega
      have hSm : Seen w w.heap.size .u8 (some ⟨b, off, none⟩) (bs.take 20) := seen_take hS 20
      have hbm : ∀ y ∈ bs.take 20, y < 256 := fun y hy => hbs y (List.mem_of_mem_take hy)
      have HR1 : Hid (Vi.read (Vi.form x ++ bs.take 20) = (x, la, 0)) := by have := Vi.read_form x hx (bs.take 20); rw [HLA.out] at this; exact this
      obtain ⟨r, hr⟩ : ∃ r, Vi.read (bs.take 20) = r := ⟨_, rfl⟩
      obtain ⟨z, m, er⟩ := r
      have HR2 := Lib.hid hr
      by_cases her : er = 0
      · subst her
        obtain ⟨hz64, hf, hm0, hml⟩ := Vi.read_back hbm hr
        rw [HM.out] at hml
        have g1 : (1 : Int) ≤ (m : Int) := by omega
        have g1n : 1 ≤ m := by omega
        have g3 : (m : Int) ≤ (c : Int) := by omega
        have g0 : (0 : Int) ≤ (m : Int) := by omega
        have g2 : (m : Int) ≤ 20 := by omega
        have g2n : m ≤ 20 := by omega
        have HFL : Hid ((Vi.form z).length = m) := by have := congrArg List.length hf; rw [List.length_take, HM.out] at this; show _ = _; omega
        have HD : Hid (decide (Vi.form z = (bs.take 20).take m) = true) := by rw [hf]; simp [Hid]
        clear hr hf
        go_enter Try.func7, Try.ntmps7
        go_wp2_with (first
          | (go_at_call 13; refine (awake_any _).mono ?_; rintro e w1 ⟨rfl, hB1⟩)
          | (go_at_call_of 16 x; refine (write_n x la hx HLA.out _).mono ?_; rintro e w2 ⟨g1, c1, rfl, hown1, S1, hn1, hm1, hB2⟩)
          | (go_at_call 17; refine (size_n x la hx HLA.out _).mono ?_; rintro e w3 ⟨rfl, hB3⟩; have hbb := hB1.trans ((hB2.mono hB1.size).trans (hB3.mono (Nat.le_trans hB1.size hB2.size))))
          | (at_builtin; refine wpList_append_grows _ rfl _ _ 25 rfl 5 i0 (.int .u8 0) 1 1 Try.underlying25 hi hz0 hz1 hz2 rfl (by decide) (some ⟨g1, 0, none⟩) la la ((Vi.form x).map fun x : Nat => Value.int .u8 x) rfl (by simp) (by rw [List.length_map, HLA.out, Nat.mul_one]) (seen_cells' (S1.below hB3)) ⟨b, off, none⟩ 20 c ((bs.take 20).map fun x : Nat => Value.int .u8 x) rfl (by rw [List.length_map, HM.out, Nat.mul_one]) (seen_cells (hSm.below hbb)) (by intro u hu; obtain ⟨z, _, rfl⟩ := List.mem_map.1 hu; rfl) (by omega) (by unfold maxLen; omega) (by omega) ?_; intro v4 w4 hown4 hgrow4; obtain ⟨g4, c4, rfl⟩ := own_form hown4 (by omega); have S4 := Seen.of_own (k := .u8) (xs := Vi.form x ++ bs.take 20) (by rw [List.map_append]; exact hown4); have hbg := hbb.grown hgrow4 (Nat.le_trans hbb.size (Nat.le_refl _)) (fun k e => by cases e))
          | (go_at_call_of 18 la; refine (read_at _ _ _ (Vi.form x ++ bs.take 20) _ (x, la, 0) (by rw [List.length_append, HLA.out, HM.out]) HR1.out (fun z hz => by rcases List.mem_append.1 hz with h | h; exact Vi.form_byte x z h; exact hbm z h) _ S4 (Nat.le_refl _) (by unfold maxLen; omega)).mono ?_; rintro e w5 ⟨rfl, hB5⟩)
          | (go_at_call_of 18 off; refine (read_at _ _ _ (bs.take 20) _ _ HM.out HR2.out hbm _ (hSm.below (hbg.trans (hB5.mono hbg.size))) (Nat.le_trans hbg.size hB5.size) (by unfold maxLen; omega)).mono ?_; rintro e w6 ⟨rfl, hB6⟩; have hb6 := (hbg.trans ((hB5.mono hbg.size).trans (hB6.mono (Nat.le_trans hbg.size hB5.size)))).drew))
        go_region_held3 (fun _ => True) (first | exact trivial) (first | (go_at_call_of 16 z; refine (write_n z m hz64 HFL.out _).mono ?_; rintro e w7 ⟨g7, c7, rfl, hown7, S7, hn7, hm7, hB7⟩) | (go_at_call 19; refine (same_at _ _ _ _ (Vi.form z) ((bs.take 20).take m) _ _ true HFL.out (by rw [List.length_take, HM.out]; omega) HD.out _ _ _ S7 ((seen_take (hSm.below (hb6.trans (hB7.mono hb6.size))) m)) (by unfold maxLen; omega) (by unfold maxLen; omega)).mono ?_; rintro e w8 ⟨rfl, hB8⟩))
        all_goals go_wp2
        all_goals go_ret
        all_goals exact ⟨rfl, (hb6.trans (hB7.mono hb6.size)).trans (hB8.mono (hb6.trans (hB7.mono hb6.size)).size)⟩
      · have hre : z = 0 ∧ m = 0 ∧ (er = 10 ∨ er = 11 ∨ er = 12) := by have := Vi.rd_err (bs.take 20) 0 0; rw [show Vi.rd (bs.take 20) 0 0 = (z, m, er) from hr] at this; exact this her
        obtain ⟨rfl, rfl, hre⟩ := hre
        clear hr her
        rcases hre with rfl | rfl | rfl
        all_goals
          go_enter Try.func7, Try.ntmps7
          go_wp2_with (first
            | (go_at_call 13; refine (awake_any _).mono ?_; rintro e w1 ⟨rfl, hB1⟩)
            | (go_at_call_of 16 x; refine (write_n x la hx HLA.out _).mono ?_; rintro e w2 ⟨g1, c1, rfl, hown1, S1, hn1, hm1, hB2⟩)
            | (go_at_call 17; refine (size_n x la hx HLA.out _).mono ?_; rintro e w3 ⟨rfl, hB3⟩; have hbb := hB1.trans ((hB2.mono hB1.size).trans (hB3.mono (Nat.le_trans hB1.size hB2.size))))
            | (at_builtin; refine wpList_append_grows _ rfl _ _ 25 rfl 5 i0 (.int .u8 0) 1 1 Try.underlying25 hi hz0 hz1 hz2 rfl (by decide) (some ⟨g1, 0, none⟩) la la ((Vi.form x).map fun x : Nat => Value.int .u8 x) rfl (by simp) (by rw [List.length_map, HLA.out, Nat.mul_one]) (seen_cells' (S1.below hB3)) ⟨b, off, none⟩ 20 c ((bs.take 20).map fun x : Nat => Value.int .u8 x) rfl (by rw [List.length_map, HM.out, Nat.mul_one]) (seen_cells (hSm.below hbb)) (by intro u hu; obtain ⟨z, _, rfl⟩ := List.mem_map.1 hu; rfl) (by omega) (by unfold maxLen; omega) (by omega) ?_; intro v4 w4 hown4 hgrow4; obtain ⟨g4, c4, rfl⟩ := own_form hown4 (by omega); have S4 := Seen.of_own (k := .u8) (xs := Vi.form x ++ bs.take 20) (by rw [List.map_append]; exact hown4); have hbg := hbb.grown hgrow4 (Nat.le_trans hbb.size (Nat.le_refl _)) (fun k e => by cases e))
            | (go_at_call_of 18 la; refine (read_at _ _ _ (Vi.form x ++ bs.take 20) _ (x, la, 0) (by rw [List.length_append, HLA.out, HM.out]) HR1.out (fun z hz => by rcases List.mem_append.1 hz with h | h; exact Vi.form_byte x z h; exact hbm z h) _ S4 (Nat.le_refl _) (by unfold maxLen; omega)).mono ?_; rintro e w5 ⟨rfl, hB5⟩)
            | (go_at_call_of 18 off; refine (read_at _ _ _ (bs.take 20) _ _ HM.out HR2.out hbm _ (hSm.below (hbg.trans (hB5.mono hbg.size))) (Nat.le_trans hbg.size hB5.size) (by unfold maxLen; omega)).mono ?_; rintro e w6 ⟨rfl, hB6⟩; have hb6 := (hbg.trans ((hB5.mono hbg.size).trans (hB6.mono (Nat.le_trans hbg.size hB5.size)))).drew))
          go_ret
          exact ⟨rfl, hbg.trans ((hB5.mono hbg.size).trans (hB6.mono (Nat.le_trans hbg.size hB5.size)))⟩

theorem one_walk (a0 : Int) (a1 : Option Addr) (len1 cap1 : Nat) (z1 : List Int) (w : World) (w0 : (Lit.int .u64 a0).wf = true) (w1 : IsRow .u8 w a1 len1 cap1 z1) :
    Calls Try.prog 7 #[.int .u64 a0, .slice a1 len1 cap1] w fun e w' => e = .returned (.bool true) ∧ Below w.heap.size w w' := by
  have b0 := bounds_u64 w0
  obtain ⟨x, rfl⟩ := Int.eq_ofNat_of_zero_le b0.1
  obtain ⟨bs, hl, hS, hb, hc, hm⟩ := row_u8 w1
  exact one_law x (by omega) a1 len1 cap1 bs hl hb hc hm w hS

end Go.Proofs.Ythcagiamieeggaa
