/-
  The walk of VarintAll.
-/
import Derived.Test.YthcagiamieeggaaSameNums
namespace Go.Proofs.Ythcagiamieeggaa
open Go.RowKit
set_option linter.unusedVariables false

set_option maxRecDepth 100000 in
set_option maxHeartbeats 4000000 in
theorem all_law (a : Option Addr) (n c : Nat) (xs : List Nat) (hn : xs.length = n) (hxs : ∀ y ∈ xs, y < 2 ^ 64) (hnc : n ≤ c) (hcm : c ≤ maxLen) (b : Option Addr) (m d : Nat) (bs : List Nat) (hm : bs.length = m) (hbs : ∀ y ∈ bs, y < 256) (hmd : m ≤ d) (hdm : d ≤ maxLen) (w : World)
    (hS : Seen w w.heap.size .u64 a xs) (hT : Seen w w.heap.size .u8 b bs) :
    Calls Try.prog 8 #[.slice a n c, .slice b m d] w fun e w' => e = .returned (.bool true) ∧ Below w.heap.size w w' := by
  have hcm' := hcm
  have hdm' := hdm
  unfold maxLen at hcm' hdm'
  obtain ⟨n1, hn1⟩ : ∃ n1 : Nat, min n 200 = n1 := ⟨_, rfl⟩
  obtain ⟨m1, hm1⟩ : ∃ m1 : Nat, min m 400 = m1 := ⟨_, rfl⟩
  have hmi : min (n : Int) 200 = (n1 : Int) := by omega
  have hmj : min (m : Int) 400 = (m1 : Int) := by omega
  have b1 : n1 ≤ 200 := by omega
  have b2 : m1 ≤ 400 := by omega
  have b3 : (n1 : Int) ≤ (c : Int) := by omega
  have b4 : (m1 : Int) ≤ (d : Int) := by omega
  have b5 : (0 : Int) ≤ (n1 : Int) := by omega
  have b6 : (0 : Int) ≤ (m1 : Int) := by omega
  have HX : Hid ((xs.take n1).length = n1) := by show _ = _; rw [List.length_take, hn]; omega
  have HB : Hid ((bs.take m1).length = m1) := by show _ = _; rw [List.length_take, hm]; omega
  have hSm := seen_take hS n1
  have hTm := seen_take hT m1
  have hx1 : ∀ y ∈ xs.take n1, y < 2 ^ 64 := fun y hy => hxs y (List.mem_of_mem_take hy)
  have hb1 : ∀ y ∈ bs.take m1, y < 256 := fun y hy => hbs y (List.mem_of_mem_take hy)
  obtain ⟨l, hl⟩ : ∃ l, xs.take n1 = l := ⟨_, rfl⟩
  obtain ⟨bb, hbb⟩ : ∃ bb, bs.take m1 = bb := ⟨_, rfl⟩
  rw [hl] at HX hSm hx1
  rw [hbb] at HB hTm hb1
  have hnn : n1 ≤ c := by omega
  have hmm : m1 ≤ d := by omega
  have hlen1 : n1 ≤ 100000 := by omega
  have hlen2 : m1 ≤ 100000 := by omega
  obtain ⟨t1, ht1⟩ : ∃ t, (Vi.forms l).length = t := ⟨_, rfl⟩
  have ht2 : t1 ≤ 2000 := by have := Vi.sizes_le l hx1; rw [Vi.forms_len] at ht1; have := HX.out; omega
  have HT1 := Lib.hid ht1
  have HRA : Hid (Vi.readAll (Vi.forms l) = (l, 0)) := Vi.readAll_forms l hx1
  have hfb := Vi.forms_byte l
  obtain ⟨ks, er, hr⟩ : ∃ ks er, Vi.readAll bb = (ks, er) := ⟨_, _, rfl⟩
  have HRB := Lib.hid hr
  have hks : ks.length ≤ m1 := by
    by_cases he : er = 0
    · have := (Vi.readAll_back hb1 (by rw [hr]; exact he)).2.2; rw [hr, HB.out] at this; exact this
    · have := Vi.ra_err bb.length bb (by show (Vi.readAll bb).2 ≠ 0; rw [hr]; exact he); rw [show Vi.ra bb.length bb = (ks, er) from hr] at this; rw [show ks = [] from this]; simp
  obtain ⟨kn, hkn⟩ : ∃ kn, ks.length = kn := ⟨_, rfl⟩
  have HKN := Lib.hid hkn
  have hke : er ≠ 0 → kn = 0 := fun he => by
    have := Vi.ra_err bb.length bb (by show (Vi.readAll bb).2 ≠ 0; rw [hr]; exact he); rw [show Vi.ra bb.length bb = (ks, er) from hr] at this; rw [← hkn, show ks = [] from this]; rfl
  have hbk : er = 0 → Vi.forms ks = bb ∧ (∀ x ∈ ks, x < 2 ^ 64) := fun he => by
    have := Vi.readAll_back hb1 (by rw [hr]; exact he); rw [hr] at this; exact ⟨this.1, this.2.1⟩
  rw [hkn] at hks
  rcases (by omega : (n1 = n ∧ n ≤ 200) ∨ (n1 = 200 ∧ 200 < n)) with ⟨rfl, h1⟩ | ⟨rfl, h1⟩ <;> rcases (by omega : (m1 = m ∧ m ≤ 400) ∨ (m1 = 400 ∧ 400 < m)) with ⟨rfl, h2⟩ | ⟨rfl, h2⟩
  all_goals
    clear hl hbb hS hT hn hm hn1 hm1 hxs hbs hmi hmj ht1 hr hkn
    go_enter Try.func8, Try.ntmps8
    go_wp2_with (first
      | (go_at_call 13; refine (awake_any _).mono ?_; rintro e w1 ⟨rfl, hB1⟩))
    go_quiet (fail)
    go_wp2_with (first
      | (go_at_call 20; go_loud (refine (writeAll_at _ _ l _ HX.out _ t1 rfl HT1.out (fun y hy => hx1 y hy) hlen1 _ _ (hSm.below (below_drewN hB1 _)) (below_drewN hB1 _).size).mono ?_); rintro e w2 ⟨a2, c2, rfl, hown2, S2, hc2, hd2, hB2⟩)
      | (go_at_call 21; refine (readAll_at _ _ _ (Vi.forms l) HT1.out l _ _ HRA.out HX.out hfb hc2 hd2 (by omega) _ _ S2 (Nat.le_refl _)).mono ?_; rintro e w3 ⟨a3, c3, rfl, S3, hc3, hd3, hB3⟩))
    have hw3 : Below w.heap.size w w3 := ((below_drewN hB1 _).trans (hB2.mono hB1.size)).trans (hB3.mono (Nat.le_trans hB1.size hB2.size))
    clear hown2 HRA hfb
    have hSl := hSm.below hw3
    have hSb := hTm.below hw3
    have hS2 := S2.below hB3
    have hs3 := hw3.size
    clear hSm hTm S2 hB1 hB2 hB3
    go_loopw [8, 34] (fun s i wr => ∃ k : Nat, k ≤ l.length ∧ i = .int .i64 k ∧ s = .int .i64 (Vi.sizes (l.take k)) ∧ Below w3.heap.size w3 wr) (fun _ i _ => l.length - (intOf i).toNat)
    case atStart => exact ⟨0, by omega, rfl, by simp [Vi.sizes], Below.refl _ _⟩
    case round =>
      obtain ⟨k, hk, rfl, rfl, hB⟩ := hrel
      have hHX := Nat.le_of_eq HX.out
      have hHX2 := Nat.le_of_eq HX.out.symm
      by_cases hlt : k < l.length
      · obtain ⟨b7, off7, rfl, hb7, hc7⟩ := (hSl.below (hB.mono hs3)).at hlt
        have hxk := hx1 _ (List.getElem_mem hlt)
        have hs1 := Vi.sizes_take_le l k hx1 hk
        have hs2 := Vi.grp_len10 _ hxk
        have HSN : Hid (((Vi.sizes (l.take (k + 1)) : Nat) : Int) = (Vi.sizes (l.take k) : Int) + ((Vi.grp l[k]).length : Int)) := by rw [Vi.take_snoc l k hlt, Vi.sizes_snoc]; rfl
        obtain ⟨xk, hxke⟩ : ∃ y, l[k] = y := ⟨_, rfl⟩
        rw [hxke] at hc7 hxk hs2 HSN
        clear hxke
        go_wp2_with (go_at_call 17; refine (size_any xk hxk _).mono ?_; rintro e w4 ⟨rfl, hB4⟩)
        exact ⟨⟨k + 1, by omega, by go_num, by rw [HSN.out], hB.trans (hB4.mono hB.size)⟩, by simp [intOf]; omega⟩
      · obtain rfl : k = l.length := by omega
        rw [List.take_length]
        have hlen : ((t1 : Int) != (Vi.sizes l : Int)) = false := by
          have := HT1.out; rw [Vi.forms_len] at this; simp; omega
        have HD1 : Hid (decide (l = l) = true) := by simp [Hid]
        have hBw := hw3.trans (hB.mono hs3)
        have hkm : kn ≤ maxLen := by unfold maxLen; omega
        by_cases he : er = 0
        · obtain ⟨hb9, hb8⟩ := hbk he
          have HF := Lib.hid hb9
          have HD2 : Hid (decide (Vi.forms ks = bb) = true) := by rw [hb9]; simp [Hid]
          have hRB := HRB.out
          rw [he] at hRB
          have HRC := Lib.hid hRB
          have hk5 : kn ≤ 100000 := by omega
          clear hlt hbk hke hb9 hRB HRB he
          go_wp2_with (first
            | (go_at_call 22; refine (sameNums_at _ _ _ _ l l _ _ true HX.out HX.out HD1.out _ _ _ (S3.below hB) (hSl.below (hB.mono hs3)) (by unfold maxLen; omega) (by unfold maxLen; omega)).mono ?_; rintro e w5 ⟨rfl, hB5⟩)
            | (go_at_call 21; refine (readAll_at _ _ _ bb HB.out ks kn _ HRC.out HKN.out hb1 hmm hdm hlen2 _ _ (hSb.below ((hB.trans (hB5.mono hB.size)).mono hs3)) (Nat.le_trans hs3 (hB.trans (hB5.mono hB.size)).size)).mono ?_; rintro e w6 ⟨a6, c6, rfl, S6, hc6, hd6, hB6⟩)
            | (go_at_call 20; refine (writeAll_at _ _ ks _ HKN.out bb _ HF.out HB.out hb8 hk5 _ _ S6 (Nat.le_refl _)).mono ?_; rintro e w7 ⟨a7, c7, rfl, hown7, S7, hc7, hd7, hB7⟩)
            | (go_at_call 19; refine (same_at _ _ _ _ bb bb _ _ true HB.out HB.out (by simp) _ _ _ S7 (((hSb.below ((hB.trans (hB5.mono hB.size)).mono hs3)).below (hB6.mono (Nat.le_trans hs3 (hB.trans (hB5.mono hB.size)).size))).below (hB7.mono (Nat.le_trans (Nat.le_trans hs3 (hB.trans (hB5.mono hB.size)).size) hB6.size))) (by unfold maxLen; omega) (by unfold maxLen; omega)).mono ?_; rintro e w8 ⟨rfl, hB8⟩))
          go_ret
          have q5 := hBw.trans (hB5.mono hBw.size)
          have q6 := q5.trans (hB6.mono q5.size)
          have q7 := q6.trans (hB7.mono q6.size)
          exact ⟨rfl, q7.trans (hB8.mono q7.size)⟩
        · have hk0 := hke he
          subst hk0
          have hne : ((er : Int) != 0) = true := by simp [he]
          clear hlt hbk hke he
          go_wp2_with (first
            | (go_at_call 22; refine (sameNums_at _ _ _ _ l l _ _ true HX.out HX.out HD1.out _ _ _ (S3.below hB) (hSl.below (hB.mono hs3)) (by unfold maxLen; omega) (by unfold maxLen; omega)).mono ?_; rintro e w5 ⟨rfl, hB5⟩)
            | (go_at_call 21; refine (readAll_at _ _ _ bb HB.out ks 0 _ HRB.out HKN.out hb1 hmm hdm hlen2 _ _ (hSb.below ((hB.trans (hB5.mono hB.size)).mono hs3)) (Nat.le_trans hs3 (hB.trans (hB5.mono hB.size)).size)).mono ?_; rintro e w6 ⟨a6, c6, rfl, S6, hc6, hd6, hB6⟩))
          go_ret
          have q5 := hBw.trans (hB5.mono hBw.size)
          exact ⟨rfl, q5.trans (hB6.mono q5.size)⟩

theorem all_walk (a0 : Option Addr) (len0 cap0 : Nat) (z0 : List Int) (a1 : Option Addr) (len1 cap1 : Nat) (z1 : List Int) (w : World) (w0 : IsRow .u64 w a0 len0 cap0 z0) (w1 : IsRow .u8 w a1 len1 cap1 z1) :
    Calls Try.prog 8 #[.slice a0 len0 cap0, .slice a1 len1 cap1] w fun e w' => e = .returned (.bool true) ∧ Below w.heap.size w w' := by
  obtain ⟨xs, h1, h2, h3, h4, h5⟩ := row_u64 w0
  obtain ⟨bs, g1, g2, g3, g4, g5⟩ := row_u8 w1
  exact all_law a0 len0 cap0 xs h1 h3 h4 h5 a1 len1 cap1 bs g1 g3 g4 g5 w h2 g2

end Go.Proofs.Ythcagiamieeggaa
