/-
  Rank, Count.
-/
import Derived.Test.YtkochcolmkgkgaaDoorHas
namespace Go.Proofs.YtkochcolmkgkgaaDoor
open Go.RowKit
set_option linter.unusedVariables false

section
variable (N : Nat) (a : Option Addr) (n c : Nat) (xs : List Nat) (hn : xs.length = n) (hc : n ≤ c) (hcm : c ≤ maxLen) (hR : Bm.Rt N xs) (w : World) (B : Nat) (hS : Seen w B .u64 a xs) (hB : B ≤ w.heap.size)
include hn hR hS hB

set_option maxRecDepth 100000 in
set_option maxHeartbeats 1000000 in
theorem rank_low (i : Int) (hi : i ≤ 0) :
    Calls Tryd.prog 25 #[.agg #[.int .i64 N, .slice a n c], .int .i64 i] w fun e w' => e = .returned (.int .i64 0) ∧ Below w.heap.size w w' := by
  have HR : Hid (Bm.Rt N xs) := hR
  have HN := Lib.hid hn
  have HS : Hid (Seen w B .u64 a xs) := hS
  have HB := Lib.hid hB
  have h1 : decide (i ≤ 0) = true := by simp; omega
  clear hn hR hS
  go_enter Tryd.func25, Tryd.ntmps25
  go_wp2_with (go_at_call 34; ((with_reducible refine (right_yes N a n c xs HN.out HR.out _ B (HS.out.alloc HB.out _) (by simp; omega)).mono ?_); rintro e w1 ⟨rfl, hb1⟩; have HB1 := Lib.hid hb1; obtain ⟨hc1, hf1⟩ := bcell hb1; clear hb1))
  go_ret
  exact ⟨rfl, below_alloc HB1.out⟩

include hc hcm
set_option maxRecDepth 100000 in
set_option maxHeartbeats 1000000 in
theorem rank_high (i : Nat) (hi : 0 < i) (r : Nat) (hr : Bm.cnt (Bm.val xs) i = r) :
    Calls Tryd.prog 25 #[.agg #[.int .i64 N, .slice a n c], .int .i64 i] w fun e w' => e = .returned (.int .i64 r) ∧ Below w.heap.size w w' := by
  have HR : Hid (Bm.Rt N xs) := hR
  have HN := Lib.hid hn
  have HS : Hid (Seen w B .u64 a xs) := hS
  have HB := Lib.hid hB
  unfold maxLen at hcm
  have hN : (N : Int) ≤ 65536 := by have := hR.1; omega
  have h1 : decide ((i : Int) ≤ 0) = false := by simp; omega
  have h1' : ¬ i = 0 := by omega
  have h1'' : decide (i = 0) = false := by simp; omega
  obtain ⟨m, hm⟩ : ∃ m : Nat, min i N = m := ⟨_, rfl⟩
  have hmi : min (i : Int) (N : Int) = (m : Int) := by omega
  have hmN : (m : Int) ≤ 65536 := by omega
  have HM : Hid (Bm.cnt (Bm.val xs) m = r) := by
    show _ = _
    rw [← hr]
    rcases Nat.le_total i N with h | h
    · rw [← hm, Nat.min_eq_left h]
    · rw [← hm, Nat.min_eq_right h, Bm.cnt_past hR.2.2.2 h]
  obtain ⟨q, hq⟩ : ∃ q, m / 64 = q := ⟨_, rfl⟩
  obtain ⟨u, hu⟩ : ∃ u, m % 64 = u := ⟨_, rfl⟩
  have hqi : (m : Int) / 64 = (q : Int) := by omega
  have hui : (m : Int) % 64 = (u : Int) := by omega
  have hqn : q ≤ n := by have := hR.2.1; omega
  have hqc : (q : Int) ≤ (c : Int) := by omega
  have hqc' : q ≤ c := by omega
  have hqb : (q : Int) ≤ 1024 := by omega
  have HQU : Hid (64 * q + u = m ∧ u < 64 ∧ (0 < u → q < n)) := ⟨by omega, by omega, by have := hR.2.1; omega⟩
  clear hn hR hS hr hm hq hu hi
  go_enter Tryd.func25, Tryd.ntmps25
  go_wp2_with (go_at_call 34; ((with_reducible refine (right_yes N a n c xs HN.out HR.out _ B (HS.out.alloc HB.out _) (by simp; omega)).mono ?_); rintro e w1 ⟨rfl, hb1⟩; have HB1 := Lib.hid hb1; obtain ⟨hc1, hf1⟩ := bcell hb1; clear hb1))
  have HW1 : Hid (Below w.heap.size w w1) := below_alloc HB1.out
  have HS1 : Hid (Seen w1 B .u64 a xs) := HS.out.below (HW1.out.mono HB.out)
  have hsz : w.heap.size < w1.heap.size := by have := HB1.out.size; simp at this; omega
  have hx0 : w1.cell? ⟨w.heap.size, 0, none⟩ = some (.int .i64 N) := (hc1 _ _ (by simp)).trans (by simp [go_sem])
  have hx1 : w1.cell? ⟨w.heap.size, 1, none⟩ = some (.slice a n c) := (hc1 _ _ (by simp)).trans (by simp [go_sem])
  clear hc1 hf1 HB1
  go_loopw [6, 27] (fun rv iv wr => ∃ k s : Nat, k ≤ q ∧ iv = .int .i64 k ∧ rv = .int .i64 s ∧ s ≤ 64 * k ∧ Hid (Bm.cnt (Bm.val xs) (64 * k) = s) ∧ w1 = wr) (fun _ i _ => q - (intOf i).toNat)
  case atStart => exact ⟨0, 0, Nat.zero_le _, rfl, rfl, by omega, rfl, rfl⟩
  case round =>
    obtain ⟨k, s, hk, rfl, rfl, hs, HK, rfl⟩ := hrel
    by_cases hkn : k < q
    · have hkl : k < xs.length := by rw [HN.out]; omega
      obtain ⟨b, off, rfl, hb, hcell⟩ := HS1.out.at hkl
      obtain ⟨z, hz⟩ : ∃ z, xs[k] = z := ⟨_, rfl⟩
      rw [hz] at hcell
      have hz64 : z < 2 ^ 64 := by rw [← hz]; exact HR.out.2.2.1 _ (List.getElem_mem _)
      have HZ : Hid ((z : Int) ≤ 18446744073709551615) := by show _ ≤ _; omega
      obtain ⟨t, ht⟩ : ∃ t, Bm.cnt z 64 = t := ⟨_, rfl⟩
      have htl : t ≤ 64 := by rw [← ht]; exact Bm.cnt_le _ _
      have HT1 := Lib.hid ht
      have HK1 : Hid (Bm.cnt (Bm.val xs) (64 * (k + 1)) = s + t) := by
        show _ = _
        rw [Nat.mul_add, Nat.mul_one, Bm.cnt_word xs HR.out.2.2.1 k 64 (Nat.le_refl _) z (by rw [List.getElem?_eq_getElem hkl, hz]), HK.out, ht]
      clear hz hz64 ht hkl
      go_wp2_with (go_at_call 57; ((with_reducible refine (ones_any z HZ.out _).mono ?_); rintro e w3 ⟨rfl, rfl⟩; rw [HT1.out]))
      exact ⟨⟨k + 1, s + t, hkn, rfl, by go_num, by omega, HK1, trivial⟩, by simp [intOf]; omega⟩
    · obtain rfl : k = q := by omega
      by_cases hu0 : u = 0
      · have HE : Hid (s = r) := by show _ = _; rw [← HK.out, ← HM.out]; congr 1; have := HQU.out.1; omega
        subst hu0
        go_wp2
        go_ret
        exact ⟨ret_int (congrArg _ HE.out), HW1.out⟩
      · have hun : (u : Int) ≠ 0 := by omega
        have hunb : ((u : Int) != 0) = true := by simp; omega
        have hkn2 : k < n := HQU.out.2.2 (by omega)
        have hkl : k < xs.length := by rw [HN.out]; omega
        obtain ⟨b, off, rfl, hb, hcell⟩ := HS1.out.at hkl
        obtain ⟨z, hz⟩ : ∃ z, xs[k] = z := ⟨_, rfl⟩
        rw [hz] at hcell
        obtain ⟨v, hv⟩ : ∃ v, 64 - u = v := ⟨_, rfl⟩
        have hu64 := HQU.out.2.1
        have hvi : 64 - (u : Int) = (v : Int) := by omega
        have hvb : (v : Int) < 64 := by omega
        obtain ⟨y, hy⟩ : ∃ y, z * 2 ^ v % 2 ^ 64 = y := ⟨_, rfl⟩
        have hyi : IntKind.u64.wrap ((z : Int) * (2 : Int) ^ v) = (y : Int) := by
          rw [IntKind.wrap_u64, ← cast_pow, ← hy]; omega
        have HY : Hid ((y : Int) ≤ 18446744073709551615) := by show _ ≤ _; omega
        obtain ⟨t, ht⟩ : ∃ t, Bm.cnt y 64 = t := ⟨_, rfl⟩
        have htl : t ≤ 64 := by rw [← ht]; exact Bm.cnt_le _ _
        have HT1 := Lib.hid ht
        have HE : Hid (s + t = r) := by
          show _ = _
          rw [← HM.out, ← HQU.out.1, Bm.cnt_word xs HR.out.2.2.1 k u (by omega) z (by rw [List.getElem?_eq_getElem hkl, hz]), HK.out, ← ht, ← hy, ← hv, Bm.cnt_up z u (by omega)]
        clear hz ht hkl hy hv hun hmi
        go_wp2_with (go_at_call 57; ((with_reducible refine (ones_any y HY.out _).mono ?_); rintro e w3 ⟨rfl, rfl⟩; rw [HT1.out]))
        go_ret
        exact ⟨ret_int (by have := HE.out; omega), HW1.out⟩

theorem rank_any (i : Int) (r : Nat) (hr : Bm.cnt (Bm.val xs) i.toNat = r) :
    Calls Tryd.prog 25 #[.agg #[.int .i64 N, .slice a n c], .int .i64 i] w fun e w' => e = .returned (.int .i64 r) ∧ Below w.heap.size w w' := by
  by_cases hi : i ≤ 0
  · obtain rfl : r = 0 := by rw [← hr, Int.toNat_eq_zero.2 hi]; rfl
    exact rank_low N a n c xs hn hR w B hS hB i hi
  · obtain ⟨j, rfl⟩ : ∃ j : Nat, i = (j : Int) := ⟨i.toNat, by omega⟩
    exact rank_high N a n c xs hn hc hcm hR w B hS hB j (by omega) r hr
end
end Go.Proofs.YtkochcolmkgkgaaDoor
