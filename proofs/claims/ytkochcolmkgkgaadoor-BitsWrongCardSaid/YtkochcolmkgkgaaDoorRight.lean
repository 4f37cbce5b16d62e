/-
  words, Right.
-/
import Derived.Test.YtkochcolmkgkgaaDoorLeast
import Derived.Test.YtkochcolmkgkgaaDoorKitB
import Derived.WalkKit
import Derived.Deep.QuietTactic
import Derived.BigQuiet
namespace Go.Proofs.YtkochcolmkgkgaaDoor
open Go.RowKit
set_option linter.unusedVariables false

namespace Bm
/-- A right set. -/
def Rt (N : Nat) (xs : List Nat) : Prop := N ≤ 65536 ∧ xs.length = (N + 63) / 64 ∧ (∀ x ∈ xs, x < 2 ^ 64) ∧ val xs < 2 ^ N
theorem Rt.last {N : Nat} {xs : List Nat} (h : Rt N xs) (hu : N % 64 ≠ 0) : ∃ z, xs[N / 64]? = some z ∧ z < 2 ^ (N % 64) ∧ xs.length = N / 64 + 1 := by
  obtain ⟨h1, h2, h3, h4⟩ := h
  have hl : xs.length = N / 64 + 1 := by omega
  obtain ⟨z, hz⟩ : ∃ z, xs[N / 64]? = some z := ⟨_, List.getElem?_eq_getElem (by omega)⟩
  refine ⟨z, hz, ?_, hl⟩
  have := (val_top xs h3 (N / 64) (N % 64) hl z hz).1
  rw [show 64 * (N / 64) + N % 64 = N by omega] at this
  exact this h4
theorem Rt.of_whole {N : Nat} {xs : List Nat} (h1 : N ≤ 65536) (h2 : xs.length = (N + 63) / 64) (h3 : ∀ x ∈ xs, x < 2 ^ 64) (hu : N % 64 = 0) : Rt N xs := by
  refine ⟨h1, h2, h3, ?_⟩
  have := val_lt xs h3
  rw [h2, show 64 * ((N + 63) / 64) = N by omega] at this
  exact this
theorem Rt.of_last {N : Nat} {xs : List Nat} (h1 : N ≤ 65536) (h2 : xs.length = (N + 63) / 64) (h3 : ∀ x ∈ xs, x < 2 ^ 64) (hu : N % 64 ≠ 0) {z : Nat} (hz : xs[N / 64]? = some z) (hzl : z < 2 ^ (N % 64)) : Rt N xs := by
  refine ⟨h1, h2, h3, ?_⟩
  have := (val_top xs h3 (N / 64) (N % 64) (by omega) z hz).2 hzl
  rwa [show 64 * (N / 64) + N % 64 = N by omega] at this
end Bm

theorem words_any (N : Nat) (hN : (N : Int) ≤ 65536) (q : Nat) (hq : (N + 63) / 64 = q) (w : World) :
    Calls Tryd.prog 55 #[.int .i64 N] w fun e w' => e = .returned (.int .i64 q) ∧ w' = w := by
  have e : ((N : Int) + 64 - 1) / 64 = (q : Int) := by omega
  clear hq
  go_enter Tryd.func55, Tryd.ntmps55
  go_wp2
  go_ret
  exact ⟨ret_int e, rfl⟩

set_option maxRecDepth 100000 in
set_option maxHeartbeats 1000000 in
theorem right_yes (N : Nat) (a : Option Addr) (n c : Nat) (xs : List Nat) (hn : xs.length = n) (hR : Bm.Rt N xs) (w : World) (B : Nat) (hS : Seen w B .u64 a xs) (hB : B ≤ w.heap.size) :
    Calls Tryd.prog 34 #[.agg #[.int .i64 N, .slice a n c]] w fun e w' => e = .returned (.bool true) ∧ Below w.heap.size w w' := by
  have hN : (N : Int) ≤ 65536 := by have := hR.1; omega
  have g1 : decide ((N : Int) < 0) = false := by simp
  have g1' : ¬ (N : Int) < 0 := by omega
  have g2 : decide ((65536 : Int) < (N : Int)) = false := by simp; omega
  have g2' : ¬ (65536 : Int) < (N : Int) := by omega
  have hnq : (N + 63) / 64 = n := by rw [← hn]; exact hR.2.1.symm
  have HNQ := Lib.hid hnq
  by_cases hu : N % 64 = 0
  · have hui : (N : Int) % 64 = 0 := by omega
    clear hS hR hnq hn
    go_enter Tryd.func34, Tryd.ntmps34
    go_wp2
    go_quiet ((go_at_call 55; exact Calls.quiet_of_same (words_any N hN n HNQ.out _)))
    go_wp2
    go_ret
    exact ⟨rfl, below_drewN ((Below.refl _ w).alloc (Nat.le_refl _) _) _⟩
  · obtain ⟨z, hz, hzl, hl⟩ := hR.last hu
    obtain ⟨q, hq⟩ : ∃ q, N / 64 = q := ⟨_, rfl⟩
    obtain ⟨u, huu⟩ : ∃ u, N % 64 = u := ⟨_, rfl⟩
    rw [hq] at hz hl
    rw [huu] at hzl
    have hui : (N : Int) % 64 = (u : Int) := by omega
    have hu0 : ¬ (u : Int) = 0 := by omega
    have hu0b : ((u : Int) == 0) = false := by simp; omega
    obtain ⟨b, off, rfl, hb, hcell⟩ := hS q z hz
    have hqn : n = q + 1 := by omega
    subst hqn
    have hqi : ((q + 1 : Nat) : Int) - 1 = (q : Int) := by omega
    have hdiv : (z : Int) / (2 : Int) ^ u = 0 := by
      rw [← cast_pow]
      generalize 2 ^ u = P at hzl
      exact Int.ediv_eq_zero_of_lt (by omega) (by omega)
    have hqb : (q : Int) ≤ 65536 := by omega
    have hui2 : (u : Int) < 64 := by omega
    have hbw : b < w.heap.size := by omega
    clear hS hR hnq hn hz hzl hl hq huu hu
    go_enter Tryd.func34, Tryd.ntmps34
    go_wp2
    go_quiet ((go_at_call 55; exact Calls.quiet_of_same (words_any N hN (q + 1) HNQ.out _)))
    go_wp2
    go_ret
    exact ⟨rfl, below_drewN ((Below.refl _ w).alloc (Nat.le_refl _) _) _⟩

/-- What is no right set. -/
def NotRt (N : Int) (xs : List Nat) : Prop := ∀ M : Nat, N = (M : Int) → ¬ Bm.Rt M xs

set_option maxRecDepth 100000 in
set_option maxHeartbeats 1000000 in
theorem right_no (N : Int) (a : Option Addr) (n c : Nat) (xs : List Nat) (hn : xs.length = n) (hx : ∀ x ∈ xs, x < 2 ^ 64) (hR : NotRt N xs) (w : World) (B : Nat) (hS : Seen w B .u64 a xs) (hB : B ≤ w.heap.size) :
    Calls Tryd.prog 34 #[.agg #[.int .i64 N, .slice a n c]] w fun e w' => e = .returned (.bool false) ∧ Below w.heap.size w w' := by
  by_cases hneg : N < 0
  · have g1 : decide ((N : Int) < 0) = true := by simp; omega
    clear hR hS hn hx
    go_enter Tryd.func34, Tryd.ntmps34
    go_wp2
    go_quiet (fail)
    go_wp2
    go_ret
    exact ⟨rfl, below_drewN ((Below.refl _ w).alloc (Nat.le_refl _) _) _⟩
  · have g1 : decide ((N : Int) < 0) = false := by simp; omega
    by_cases hbig : 65536 < N
    · have g2 : decide ((65536 : Int) < N) = true := by simp; omega
      clear hR hS hn hx
      go_enter Tryd.func34, Tryd.ntmps34
      go_wp2
      go_quiet (fail)
      go_wp2
      go_ret
      exact ⟨rfl, below_drewN ((Below.refl _ w).alloc (Nat.le_refl _) _) _⟩
    · obtain ⟨M, rfl⟩ : ∃ M : Nat, N = (M : Int) := ⟨N.toNat, by omega⟩
      have hM := hR M rfl
      have hN : (M : Int) ≤ 65536 := by omega
      have g2 : decide ((65536 : Int) < (M : Int)) = false := by simp; omega
      obtain ⟨q, hq⟩ : ∃ q, (M + 63) / 64 = q := ⟨_, rfl⟩
      have HQ := Lib.hid hq
      by_cases hnq : n = q
      · have hu : M % 64 ≠ 0 := fun hu => hM (Bm.Rt.of_whole (by omega) (by omega) hx hu)
        obtain ⟨z, hz⟩ : ∃ z, xs[M / 64]? = some z := ⟨_, List.getElem?_eq_getElem (by omega)⟩
        have hzl : ¬ z < 2 ^ (M % 64) := fun hzl => hM (Bm.Rt.of_last (by omega) (by omega) hx hu hz hzl)
        obtain ⟨p, hp⟩ : ∃ p, M / 64 = p := ⟨_, rfl⟩
        obtain ⟨u, huu⟩ : ∃ u, M % 64 = u := ⟨_, rfl⟩
        rw [hp] at hz
        rw [huu] at hzl
        have hui : (M : Int) % 64 = (u : Int) := by omega
        have hu0 : ¬ (u : Int) = 0 := by omega
        have hu0b : ((u : Int) == 0) = false := by simp; omega
        obtain ⟨b, off, rfl, hb, hcell⟩ := hS p z hz
        have hqn : n = p + 1 := by omega
        subst hqn
        have hqi : ((p + 1 : Nat) : Int) - 1 = (p : Int) := by omega
        have hdiv : ((z : Int) / (2 : Int) ^ u == 0) = false := by
          rw [← cast_pow]
          have hP : 0 < 2 ^ u := Nat.pow_pos (by decide)
          generalize 2 ^ u = P at hzl hP
          rw [← Int.natCast_ediv]
          have := Nat.div_pos (show P ≤ z by omega) hP
          simp; omega
        have hqb : (p : Int) ≤ 65536 := by omega
        have hui2 : (u : Int) < 64 := by omega
        have hbw : b < w.heap.size := by omega
        have HQ' : Hid ((M + 63) / 64 = p + 1) := HQ.out.trans hnq.symm
        clear hM hR hS hnq hn hz hzl hp huu hu hq hx
        go_enter Tryd.func34, Tryd.ntmps34
        go_wp2
        go_quiet ((go_at_call 55; exact Calls.quiet_of_same (words_any M hN (p + 1) HQ'.out _)))
        go_wp2
        go_ret
        first
        | exact ⟨rfl, below_drewN ((Below.refl _ w).alloc (Nat.le_refl _) _) _⟩
        | (refine ⟨?_, below_drewN ((Below.refl _ w).alloc (Nat.le_refl _) _) _⟩; trace_state; sorry)
      · have g3 : ((n : Int) == (q : Int)) = false := by simp; omega
        have g3' : ¬ (n : Int) = (q : Int) := by omega
        have g3'' : ((n : Int) != (q : Int)) = true := by simp; omega
        clear hM hR hS hnq hn hq hx
        go_enter Tryd.func34, Tryd.ntmps34
        go_wp2
        go_quiet ((go_at_call 55; exact Calls.quiet_of_same (words_any M hN q HQ.out _)))
        go_wp2
        go_ret
        exact ⟨rfl, below_drewN ((Below.refl _ w).alloc (Nat.le_refl _) _) _⟩

end Go.Proofs.YtkochcolmkgkgaaDoor
