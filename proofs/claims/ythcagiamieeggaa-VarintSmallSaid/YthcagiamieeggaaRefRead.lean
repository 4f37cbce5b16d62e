/-
  The document's own answers of layer 1: to read.
-/
import Derived.Test.YthcagiamieeggaaSameNums
namespace Go.Proofs.Ythcagiamieeggaa
open Go.RowKit
set_option linter.unusedVariables false

theorem pow_step {k T : Nat} (h : T = 128 ^ k) : T * 128 = 128 ^ (k + 1) := by rw [h, Nat.pow_succ]

set_option maxRecDepth 100000 in
set_option maxHeartbeats 4000000 in
theorem refRead_any (w : World) (a : Option Addr) (n c : Nat) (bs : List Nat) (hn : bs.length = n) (r : Nat × Nat × Int) (hr : Vi.read bs = r) (hbs : ∀ y ∈ bs, y < 256) (B : Nat) (hS : Seen w B .u8 a bs) (hlen : n ≤ 9223372036854775807) :
    Calls Try.prog 30 #[.slice a n c] w fun e w' => e = .returned (.tuple #[.int .u64 r.1, .int .i64 r.2.1, .int .i64 r.2.2]) ∧ Below w.heap.size w w' := by
  have HN := Lib.hid hn
  have HRR := Lib.hid hr
  clear hn hr
  go_enter Try.func30, Try.ntmps30
  go_wp2
  go_loop [5, 6, 7] (fun s t i => ∃ k X T : Nat, k ≤ n ∧ k ≤ 9 ∧ Hid (X < 128 ^ k ∧ T = 128 ^ k ∧ r = Vi.rd (bs.drop k) k X) ∧ T ≤ 9223372036854775808 ∧ X < 9223372036854775808 ∧ s = .int .u64 X ∧ t = .int .u64 T ∧ i = .int .i64 k) (fun _ _ i => 10 - (intOf i).toNat)
  case atStart => exact ⟨0, 0, 1, by omega, by omega, ⟨by simp, rfl, HRR.out.symm⟩, by omega, by omega, rfl, rfl, rfl⟩
  case round =>
    obtain ⟨k, X, T, hk, hk9, HK, hT, hXb, rfl, rfl, rfl⟩ := hrel
    have hT1 : 0 < T := by rw [HK.out.2.1]; exact Vi.pow_pos' k
    have g10 : (k : Int) < 10 := by omega
    by_cases hlt : k < n
    · have hlt' : k < bs.length := by rw [HN.out]; exact hlt
      obtain ⟨b, off, rfl, _, hc⟩ := hS.at hlt'
      obtain ⟨y, hyy⟩ : ∃ y, bs[k] = y := ⟨_, rfl⟩
      have hy : y < 256 := by rw [← hyy]; exact hbs _ (List.getElem_mem hlt')
      have hne : ((k : Int) == (n : Int)) = false := by simp; omega
      rw [hyy] at hc
      by_cases hov : k = 9 ∧ 1 < y
      · have HR2 : Hid (r = (0, 0, 11)) := HK.out.2.2.trans (Vi.rd_over hlt' hov.1 (by rw [hyy]; exact hov.2))
        have e9 : ((k : Int) == 9) = true := by simp; omega
        have e1 : (1 : Int) < (y : Int) := by omega
        clear hyy hov HK HRR
        go_wp2
        go_ret3
        exact ⟨by rw [HR2.out]; rfl, Below.refl _ _⟩
      · by_cases hze : k ≠ 0 ∧ y = 0
        · have HR2 : Hid (r = (0, 0, 12)) := HK.out.2.2.trans (Vi.rd_zero hlt' hze.1 (by rw [hyy]; exact hze.2))
          have e0 : ((y : Int) == 0) = true := by simp; omega
          have e1 : (y : Int) ≤ 1 := by omega
          have e2 : (0 : Int) < (k : Int) := by omega
          have e3 : (y : Int) < 128 := by omega
          have HY := Lib.hid hze.2
          clear hyy hov HK HRR hze
          by_cases h9 : k = 9
          · have e9 : ((k : Int) == 9) = true := by simp; omega
            clear h9
            go_wp2
            go_ret3
            exact ⟨by rw [HR2.out]; rfl, Below.refl _ _⟩
          · have e9 : ((k : Int) == 9) = false := by simp; omega
            clear h9
            go_wp2
            go_ret3
            exact ⟨by rw [HR2.out]; rfl, Below.refl _ _⟩
        · have h9 : k = 9 → y ≤ 1 := fun h => by omega
          have h0 : k ≠ 0 → y ≠ 0 := fun h h' => hze ⟨h, h'⟩
          by_cases hy1 : y < 128
          · have HR2 : Hid (r = (X + y * T, k + 1, 0)) := by
              have := Vi.rd_last (x := X) hlt' (by rw [hyy]; exact h9) (by rw [hyy]; exact h0) (by rw [hyy]; exact hy1)
              rw [hyy, Nat.mod_eq_of_lt hy1, ← HK.out.2.1] at this
              exact HK.out.2.2.trans this
            obtain ⟨P, hP⟩ : ∃ P, y * T = P := ⟨_, rfl⟩
            have hPb : X + P < 18446744073709551616 := by
              by_cases hk9' : k = 9
              · have := h9 hk9'; have h5 : y * T ≤ 1 * T := Nat.mul_le_mul_right _ this; omega
              · have h6 := Vi.pow_le8 (i := k) (by omega); rw [← HK.out.2.1] at h6
                have h5 : y * T ≤ 127 * 72057594037927936 := Nat.mul_le_mul (by omega) h6
                omega
            have hPi : (y : Int) * (T : Int) = (P : Int) := by rw [← hP]; push_cast; rfl
            have e3 : (y : Int) < 128 := by omega
            rw [hP] at HR2
            have HP := Lib.hid hP
            clear hP
            by_cases hk9' : k = 9
            · have e9 : ((k : Int) == 9) = true := by simp; omega
              have e1 : (y : Int) ≤ 1 := by have := h9 hk9'; omega
              have e0 : ((y : Int) == 0) = false := by have := h0 (by omega); simp; omega
              clear hyy hov HK HRR hze h9 h0 hk9'
              go_wp2
              go_ret3
              exact ⟨by rw [HR2.out]; rfl, Below.refl _ _⟩
            · have e9 : ((k : Int) == 9) = false := by simp; omega
              by_cases hy0 : y = 0
              · have hk0 : k = 0 := by rcases Nat.eq_zero_or_pos k with h | h; exact h; exact absurd hy0 (h0 (by omega))
                have e0 : ((y : Int) == 0) = true := by simp; omega
                have ek : ¬ (0 : Int) < (k : Int) := by omega
                clear hyy hov HK HRR hze h9 h0 hk9' hy0 hk0
                go_wp2
                go_ret3
                exact ⟨by rw [HR2.out]; rfl, Below.refl _ _⟩
              · have e0 : ((y : Int) == 0) = false := by simp; omega
                clear hyy hov HK HRR hze h9 h0 hk9' hy0
                go_wp2
                go_ret3
                exact ⟨by rw [HR2.out]; rfl, Below.refl _ _⟩
          · have hk8 : k ≤ 8 := by omega
            have HR2 : Hid (r = Vi.rd (bs.drop (k + 1)) (k + 1) (X + (y - 128) * T)) := by
              have := Vi.rd_more (x := X) hlt' (by rw [hyy]; exact h9) (by rw [hyy]; exact h0) (by rw [hyy]; omega)
              rw [hyy, ← HK.out.2.1, show y % 128 = y - 128 from by omega] at this
              exact HK.out.2.2.trans this
            have hg := Vi.grow (y := y) HK.out.1
            rw [← HK.out.2.1, show y % 128 = y - 128 from by omega] at hg
            obtain ⟨P, hP⟩ : ∃ P, (y - 128) * T = P := ⟨_, rfl⟩
            rw [hP] at HR2 hg
            have h6 := Vi.pow_le8 (i := k) hk8
            rw [← HK.out.2.1] at h6
            have hPb : P ≤ 127 * 72057594037927936 := by rw [← hP]; exact Nat.mul_le_mul (by omega) h6
            have hPi : ((y : Int) - 128) * (T : Int) = (P : Int) := by rw [← hP, show (y : Int) - 128 = ((y - 128 : Nat) : Int) from by omega]; push_cast; rfl
            have HS := Lib.hid (pow_step HK.out.2.1)
            have hXT : X < 72057594037927936 := Nat.lt_of_lt_of_le HK.out.1 (by rw [← HK.out.2.1]; exact h6)
            have HG := Lib.hid hg
            have e3 : (128 : Int) ≤ (y : Int) := by omega
            have e9 : ((k : Int) == 9) = false := by simp; omega
            clear hyy hov HK HRR hze h9 h0 hP hg
            go_wp2
            exact ⟨⟨k + 1, X + P, T * 128, by omega, by omega, ⟨HG.out, HS.out, HR2.out⟩, by omega, by omega, by go_num, by go_num, by go_num⟩, by simp [intOf]; omega⟩
    · obtain rfl : k = n := by omega
      have HR2 : Hid (r = (0, 0, 10)) := HK.out.2.2.trans (by rw [List.drop_of_length_le (by rw [HN.out]; exact Nat.le_refl _)]; rfl)
      have hne : ((k : Int) == (k : Int)) = true := by simp
      clear HK HRR hlt
      go_wp2
      go_ret3
      exact ⟨by rw [HR2.out]; rfl, Below.refl _ _⟩

set_option maxRecDepth 100000 in
set_option maxHeartbeats 2000000 in
theorem refReadAll_any (a : Option Addr) (n c : Nat) (bs : List Nat) (hn : bs.length = n) (hbs : ∀ y ∈ bs, y < 256) (hnc : n ≤ c) (hcm : c ≤ maxLen) (hn5 : n ≤ 100000) (B : Nat) (w : World) (hS : Seen w B .u8 a bs) (hBw : B ≤ w.heap.size) :
    Calls Try.prog 31 #[.slice a n c] w fun e w' => ∃ v, e = .returned (.tuple #[v, .int .i64 (Vi.readAll bs).2]) ∧ w'.ownsRow w.heap.size 22 1 v (Vi.readAll bs).1.length ((Vi.readAll bs).1.map fun x : Nat => Value.int .u64 x) ∧ Below w.heap.size w w' := by
  unfold maxLen at hcm
  have HN := Lib.hid hn
  clear hn
  obtain ⟨i0, hi, hz0, hz1, hz2⟩ := info_parts infoNum
  go_enter Try.func31, Try.ntmps31
  go_wp2
  go_loopw [4, 5] (fun v i wr => ∃ (p f : Nat) (acc : List Nat), p ≤ n ∧ i = .int .i64 p ∧ acc.length ≤ p ∧ Hid (n - p ≤ f ∧ Vi.readAll bs = Vi.comb acc (Vi.ra f (bs.drop p))) ∧ wr.ownsRow w.heap.size 22 1 v acc.length (acc.map fun x : Nat => Value.int .u64 x) ∧ Below w.heap.size w wr) (fun _ i _ => n - (intOf i).toNat)
  case atStart => exact ⟨0, n, [], by omega, rfl, by simp, ⟨by omega, by rw [List.drop_zero, Vi.comb_nil (Vi.ra_err _ _), Vi.readAll, HN.out]⟩, World.ownsRow_nil _ _ _ _, Below.refl _ _⟩
  case round =>
    obtain ⟨p, f, acc, hp, rfl, hap, HR, hrow, hB⟩ := hrel
    have hbs2 := hB.size
    by_cases hlt : p < n
    · obtain ⟨b, off, rfl, _, _⟩ := hS.at (i := 0) (by have := HN.out; omega)
      have hS2 := seen_drop (hS.below (hB.mono hBw)) p
      have hl2 : Hid ((bs.drop p).length = n - p) := by show _ = _; rw [List.length_drop, HN.out]
      have h02 : Hid (bs.drop p ≠ []) := by intro h; have := hl2.out; rw [h] at this; simp at this; omega
      have hb2 : ∀ y ∈ bs.drop p, y < 256 := fun y hy => hbs y (List.mem_of_mem_drop hy)
      have hcp : Hid (¬ c = p) := by show ¬ _; omega
      have hpc : p < c := by omega
      obtain ⟨r, hr⟩ : ∃ r, Vi.read (bs.drop p) = r := ⟨_, rfl⟩
      obtain ⟨z, m, er⟩ := r
      have HR2 := Lib.hid hr
      by_cases her : er = 0
      · subst her
        obtain ⟨hz64, hf, hm0, hml⟩ := Vi.read_back hb2 hr
        rw [hl2.out] at hml
        have HN2 : Hid (n - (p + m) ≤ f - 1 ∧ Vi.readAll bs = Vi.comb (acc ++ [z]) (Vi.ra (f - 1) (bs.drop (p + m)))) := by
          have h1 := HR.out
          refine ⟨by omega, ?_⟩
          rw [h1.2, Vi.ra_good acc (by rw [hl2.out]; exact h1.1) h02.out hr, List.drop_drop]
        clear hr hf HR
        go_wp2_with (first
          | (go_at_call 30; refine (refRead_any _ _ _ _ (bs.drop p) hl2.out _ HR2.out hb2 _ hS2 (by omega)).mono ?_; rintro e w4 ⟨rfl, hB4⟩; have hrow4 := own_below hrow hB4)
          | (at_builtin; refine wpList_append_own _ rfl _ _ 27 rfl w.heap.size 22 i0 (.int .u64 0) 1 8 Try.underlying27 hi hz0 hz1 hz2 rfl (by decide) _ _ _ rfl (hrow4.alloc _) ⟨w4.heap.size, 0, none⟩ 1 1 [.int .u64 (z : Int)] rfl rfl (cell_one_new _ _ _) (by simp [Value.oneCell']) (by unfold maxLen; omega) (by omega) (by have := hB4.size; simp; omega) ?_; intro v2 w1 hown' hgrow _; obtain ⟨g', cap', rfl⟩ := ownsRow_succ hown'))
        have hBz : Below w.heap.size w w1 := ((hB.trans (hB4.mono hbs2)).alloc (Nat.le_trans hbs2 hB4.size) _).grown hgrow (by have := hB4.size; simp; omega) (fun k ek => (hrow4.lt k ek).1)
        refine ⟨⟨p + m, f - 1, acc ++ [z], by omega, by go_num, by simp; omega, HN2, by simpa using hown', hBz⟩, by simp [intOf]; omega⟩
      · have HF : Hid (Vi.readAll bs = ([], er)) := by
          have h1 := HR.out
          rw [h1.2, Vi.ra_bad (by rw [hl2.out]; exact h1.1) h02.out hr her]; simp [Vi.comb, her, Hid]
        have hne : ((er : Int) != 0) = true := by simp [her]
        clear hr her HR
        go_wp2_with (go_at_call 30; refine (refRead_any _ _ _ _ (bs.drop p) hl2.out _ HR2.out hb2 _ hS2 (by omega)).mono ?_; rintro e w4 ⟨rfl, hB4⟩; have hrow4 := own_below hrow hB4)
        go_ret2
        exact ⟨.slice none 0 0, by rw [HF.out]; rfl, by rw [HF.out]; exact World.ownsRow_nil _ _ _ _, hB.trans (hB4.mono hbs2)⟩
    · obtain rfl : p = n := by omega
      have HF : Hid (Vi.readAll bs = (acc, 0)) := by
        have h1 := HR.out
        rw [h1.2, List.drop_of_length_le (by have := HN.out; omega), Vi.ra_nil]; simp [Vi.comb, Hid]
      clear HR
      go_wp2
      go_ret2
      exact ⟨_, by rw [HF.out]; rfl, by rw [HF.out]; exact hrow, hB⟩

theorem refReadAll_at (a : Option Addr) (n c : Nat) (bs : List Nat) (hn : bs.length = n) (ks : List Nat) (m : Nat) (er : Int) (hr : Vi.readAll bs = (ks, er)) (hm : ks.length = m) (hbs : ∀ y ∈ bs, y < 256) (hnc : n ≤ c) (hcm : c ≤ maxLen) (hn5 : n ≤ 100000) (B : Nat) (w : World) (hS : Seen w B .u8 a bs) (hBw : B ≤ w.heap.size) :
    Calls Try.prog 31 #[.slice a n c] w fun e w' => ∃ a' c', e = .returned (.tuple #[.slice a' m c', .int .i64 er]) ∧ Seen w' w'.heap.size .u64 a' ks ∧ m ≤ c' ∧ c' ≤ maxLen ∧ Below w.heap.size w w' := by
  refine (refReadAll_any a n c bs hn hbs hnc hcm hn5 B w hS hBw).mono ?_
  rintro e w' ⟨v, rfl, hown, hB⟩
  rw [hr] at hown ⊢
  simp only [hm] at hown
  obtain ⟨a', c', rfl, h1, h2⟩ := own_slice hown
  exact ⟨a', c', rfl, Seen.of_own (k := .u64) hown, h1, h2, hB⟩

set_option maxRecDepth 100000 in
set_option maxHeartbeats 2000000 in
theorem refWriteAll_any (a : Option Addr) (n c : Nat) (xs : List Nat) (hn : xs.length = n) (hx : ∀ x ∈ xs, x < 2 ^ 64) (hxl : n ≤ 100000) (B : Nat) (w : World) (hS : Seen w B .u64 a xs) (hBw : B ≤ w.heap.size) :
    Calls Try.prog 34 #[.slice a n c] w fun e w' => ∃ v, e = .returned v ∧ w'.ownsRow w.heap.size 5 1 v (Vi.forms xs).length ((Vi.forms xs).map fun x : Nat => Value.int .u8 x) ∧ Below w.heap.size w w' := by
  subst hn
  obtain ⟨i0, hi, hz0, hz1, hz2⟩ := info_parts infoB
  go_enter Try.func34, Try.ntmps34
  go_wp2
  go_loopw [3, 4] (fun v i wr => ∃ k : Nat, k ≤ xs.length ∧ i = .int .i64 k ∧ wr.ownsRow w.heap.size 5 1 v (Vi.forms (xs.take k)).length ((Vi.forms (xs.take k)).map fun x : Nat => Value.int .u8 x) ∧ Below w.heap.size w wr) (fun _ i _ => xs.length - (intOf i).toNat)
  case atStart => exact ⟨0, by omega, rfl, by simpa [Vi.forms] using World.ownsRow_nil _ _ _ _, Below.refl _ _⟩
  case round =>
    obtain ⟨k, hk, rfl, hrow, hB⟩ := hrel
    have hbs := hB.size
    by_cases hlt : k < xs.length
    · obtain ⟨b, off, rfl, _, hc⟩ := (hS.below (hB.mono hBw)).at hlt
      have hxk := hx _ (List.getElem_mem hlt)
      have hs1 := Vi.sizes_take_le xs k hx hk
      rw [← Vi.forms_len] at hs1
      have HF : Hid (Vi.forms (xs.take (k + 1)) = Vi.forms (xs.take k) ++ Vi.form xs[k]) := by rw [Vi.take_snoc xs k hlt, Vi.forms_append, Vi.forms_one]; rfl
      obtain ⟨x, hxe⟩ : ∃ x, xs[k] = x := ⟨_, rfl⟩
      rw [hxe] at hc hxk HF
      clear hxe
      have hl10 := Vi.form_len10 x hxk
      have hlp := Vi.form_pos x
      go_wp2_with (first
        | (go_at_call 26; refine (refWrite_any x hxk _).mono ?_; rintro e w4 ⟨v4, rfl, hown4, hB4⟩; obtain ⟨g4, c4, rfl⟩ := own_form hown4 hlp; have hrow4 := own_below hrow hB4; have S4 := Seen.of_own (k := .u8) hown4)
        | (at_builtin; refine wpList_append_own _ rfl _ _ 25 rfl w.heap.size 5 i0 (.int .u8 0) 1 1 Try.underlying25 hi hz0 hz1 hz2 rfl (by decide) _ _ _ rfl hrow4 _ _ _ ((Vi.form x).map fun x : Nat => Value.int .u8 x) rfl (by simp) (seen_cells S4) (by intro u hu; obtain ⟨z, _, rfl⟩ := List.mem_map.1 hu; rfl) (by unfold maxLen; omega) (by omega) (Nat.le_trans hbs hB4.size) ?_; intro v5 w5 hown5 hgrow5 _))
      have hB5 : Below w.heap.size w w5 := (hB.trans (hB4.mono hbs)).grown hgrow5 (Nat.le_trans hbs hB4.size) (fun j ej => (hrow4.lt j ej).1)
      exact ⟨⟨k + 1, by omega, by go_num, by rw [HF.out, List.length_append, List.map_append]; exact hown5, hB5⟩, by simp [intOf]; omega⟩
    · obtain rfl : k = xs.length := by omega
      rw [List.take_length] at hrow
      go_wp2
      go_ret
      exact ⟨_, rfl, hrow, hB⟩

end Go.Proofs.Ythcagiamieeggaa
