/-
  quantumref01.Read (a seat without the lists of numbers).
-/
import Derived.WalkMore
import Derived.Laws.ShiftsVarLaws
import Derived.Test.YtdemlifjhlpclaaKit
namespace Go.Proofs.Ytdemlifjhlpclaa
open Go.RowKit
set_option linter.unusedVariables false

theorem pow_step {k T : Nat} (h : T = 128 ^ k) : T * 128 = 128 ^ (k + 1) := by rw [h, Nat.pow_succ]

set_option maxRecDepth 100000 in
set_option maxHeartbeats 4000000 in
theorem refRead_any (w : World) (a : Option Addr) (n c : Nat) (bs : List Nat) (hn : bs.length = n) (r : Nat × Nat × Int) (hr : Vi.read bs = r) (hbs : ∀ y ∈ bs, y < 256) (B : Nat) (hS : Seen w B .u8 a bs) (hlen : n ≤ 9223372036854775807) :
    Calls Try.prog 65 #[.slice a n c] w fun e w' => e = .returned (.tuple #[.int .u64 r.1, .int .i64 r.2.1, .int .i64 r.2.2]) ∧ Below w.heap.size w w' := by
  have HN := Lib.hid hn
  have HRR := Lib.hid hr
  clear hn hr
  go_enter Try.func65, Try.ntmps65
  go_wp2
  go_loop [5, 6, 7] (fun s t i => ∃ k X T : Nat, k ≤ n ∧ k ≤ 9 ∧ Hid (X < 128 ^ k ∧ T = 128 ^ k ∧ r = Vi.rd (bs.drop k) k X) ∧ T ≤ 9223372036854775808 ∧ X < 9223372036854775808 ∧ s = .int .u64 X ∧ t = .int .u64 T ∧ i = .int .i64 k) (fun _ _ i => 10 - (intOf i).toNat)
  case atStart => exact ⟨0, 0, 1, by omega, by omega, ⟨by simp, rfl, HRR.out.symm⟩, by omega, by omega, rfl, rfl, rfl⟩
  case round =>
    obtain ⟨k, X, T, hk, hk9, HK, hT, hXb, rfl, rfl, rfl⟩ := hrel
    have hT1 : 0 < T := by rw [HK.out.2.1]; exact Vi.pow_pos' k
    have g10 : (k : Int) < 10 := by omega
    by_cases hlt : k < n
    · have hlt' : k < bs.length := by rw [HN.out]; exact hlt
      obtain ⟨b, off, rfl, _, hc⟩ := hS.at hlt'
      obtain ⟨y, hyy⟩ : ∃ y, bs[k] = y := ⟨_, rfl⟩
      have hy : y < 256 := by rw [← hyy]; exact hbs _ (List.getElem_mem hlt')
      have hne : ((k : Int) == (n : Int)) = false := by simp; omega
      rw [hyy] at hc
      by_cases hov : k = 9 ∧ 1 < y
      · have HR2 : Hid (r = (0, 0, 11)) := HK.out.2.2.trans (Vi.rd_over hlt' hov.1 (by rw [hyy]; exact hov.2))
        have e9 : ((k : Int) == 9) = true := by simp; omega
        have e1 : (1 : Int) < (y : Int) := by omega
        clear hyy hov HK HRR
        go_wp2
        go_ret3
        exact ⟨by rw [HR2.out]; rfl, Below.refl _ _⟩
      · by_cases hze : k ≠ 0 ∧ y = 0
        · have HR2 : Hid (r = (0, 0, 12)) := HK.out.2.2.trans (Vi.rd_zero hlt' hze.1 (by rw [hyy]; exact hze.2))
          have e0 : ((y : Int) == 0) = true := by simp; omega
          have e1 : (y : Int) ≤ 1 := by omega
          have e2 : (0 : Int) < (k : Int) := by omega
          have e3 : (y : Int) < 128 := by omega
          have HY := Lib.hid hze.2
          clear hyy hov HK HRR hze
          by_cases h9 : k = 9
          · have e9 : ((k : Int) == 9) = true := by simp; omega
            clear h9
            go_wp2
            go_ret3
            exact ⟨by rw [HR2.out]; rfl, Below.refl _ _⟩
          · have e9 : ((k : Int) == 9) = false := by simp; omega
            clear h9
            go_wp2
            go_ret3
            exact ⟨by rw [HR2.out]; rfl, Below.refl _ _⟩
        · have h9 : k = 9 → y ≤ 1 := fun h => by omega
          have h0 : k ≠ 0 → y ≠ 0 := fun h h' => hze ⟨h, h'⟩
          by_cases hy1 : y < 128
          · have HR2 : Hid (r = (X + y * T, k + 1, 0)) := by
              have := Vi.rd_last (x := X) hlt' (by rw [hyy]; exact h9) (by rw [hyy]; exact h0) (by rw [hyy]; exact hy1)
              rw [hyy, Nat.mod_eq_of_lt hy1, ← HK.out.2.1] at this
              exact HK.out.2.2.trans this
            obtain ⟨P, hP⟩ : ∃ P, y * T = P := ⟨_, rfl⟩
            have hPb : X + P < 18446744073709551616 := by
              by_cases hk9' : k = 9
              · have := h9 hk9'; have h5 : y * T ≤ 1 * T := Nat.mul_le_mul_right _ this; omega
              · have h6 := Vi.pow_le8 (i := k) (by omega); rw [← HK.out.2.1] at h6
                have h5 : y * T ≤ 127 * 72057594037927936 := Nat.mul_le_mul (by omega) h6
                omega
            have hPi : (y : Int) * (T : Int) = (P : Int) := by rw [← hP]; push_cast; rfl
            have e3 : (y : Int) < 128 := by omega
            rw [hP] at HR2
            have HP := Lib.hid hP
            clear hP
            by_cases hk9' : k = 9
            · have e9 : ((k : Int) == 9) = true := by simp; omega
              have e1 : (y : Int) ≤ 1 := by have := h9 hk9'; omega
              have e0 : ((y : Int) == 0) = false := by have := h0 (by omega); simp; omega
              clear hyy hov HK HRR hze h9 h0 hk9'
              go_wp2
              go_ret3
              exact ⟨by rw [HR2.out]; rfl, Below.refl _ _⟩
            · have e9 : ((k : Int) == 9) = false := by simp; omega
              by_cases hy0 : y = 0
              · have hk0 : k = 0 := by rcases Nat.eq_zero_or_pos k with h | h; exact h; exact absurd hy0 (h0 (by omega))
                have e0 : ((y : Int) == 0) = true := by simp; omega
                have ek : ¬ (0 : Int) < (k : Int) := by omega
                clear hyy hov HK HRR hze h9 h0 hk9' hy0 hk0
                go_wp2
                go_ret3
                exact ⟨by rw [HR2.out]; rfl, Below.refl _ _⟩
              · have e0 : ((y : Int) == 0) = false := by simp; omega
                clear hyy hov HK HRR hze h9 h0 hk9' hy0
                go_wp2
                go_ret3
                exact ⟨by rw [HR2.out]; rfl, Below.refl _ _⟩
          · have hk8 : k ≤ 8 := by omega
            have HR2 : Hid (r = Vi.rd (bs.drop (k + 1)) (k + 1) (X + (y - 128) * T)) := by
              have := Vi.rd_more (x := X) hlt' (by rw [hyy]; exact h9) (by rw [hyy]; exact h0) (by rw [hyy]; omega)
              rw [hyy, ← HK.out.2.1, show y % 128 = y - 128 from by omega] at this
              exact HK.out.2.2.trans this
            have hg := Vi.grow (y := y) HK.out.1
            rw [← HK.out.2.1, show y % 128 = y - 128 from by omega] at hg
            obtain ⟨P, hP⟩ : ∃ P, (y - 128) * T = P := ⟨_, rfl⟩
            rw [hP] at HR2 hg
            have h6 := Vi.pow_le8 (i := k) hk8
            rw [← HK.out.2.1] at h6
            have hPb : P ≤ 127 * 72057594037927936 := by rw [← hP]; exact Nat.mul_le_mul (by omega) h6
            have hPi : ((y : Int) - 128) * (T : Int) = (P : Int) := by rw [← hP, show (y : Int) - 128 = ((y - 128 : Nat) : Int) from by omega]; push_cast; rfl
            have HS := Lib.hid (pow_step HK.out.2.1)
            have hXT : X < 72057594037927936 := Nat.lt_of_lt_of_le HK.out.1 (by rw [← HK.out.2.1]; exact h6)
            have HG := Lib.hid hg
            have e3 : (128 : Int) ≤ (y : Int) := by omega
            have e9 : ((k : Int) == 9) = false := by simp; omega
            clear hyy hov HK HRR hze h9 h0 hP hg
            go_wp2
            exact ⟨⟨k + 1, X + P, T * 128, by omega, by omega, ⟨HG.out, HS.out, HR2.out⟩, by omega, by omega, by go_num, by go_num, by go_num⟩, by simp [intOf]; omega⟩
    · obtain rfl : k = n := by omega
      have HR2 : Hid (r = (0, 0, 10)) := HK.out.2.2.trans (by rw [List.drop_of_length_le (by rw [HN.out]; exact Nat.le_refl _)]; rfl)
      have hne : ((k : Int) == (k : Int)) = true := by simp
      clear HK HRR hlt
      go_wp2
      go_ret3
      exact ⟨by rw [HR2.out]; rfl, Below.refl _ _⟩

end Go.Proofs.Ytdemlifjhlpclaa
