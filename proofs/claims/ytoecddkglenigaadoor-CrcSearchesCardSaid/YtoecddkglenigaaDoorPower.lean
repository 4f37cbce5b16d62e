/-
  Power.
-/
import Derived.Test.YtoecddkglenigaaDoorOrder
import Derived.Test.YtoecddkglenigaaDoorIrr
namespace Go.Proofs.YtoecddkglenigaaDoor
open Go.RowKit
set_option linter.unusedVariables false

theorem i64_and1 (n : Int) : bits .and .i64 n 1 = n % 2 := by
  have h1 : (BitVec.ofInt 64 1).toNat = 2 ^ 1 - 1 := by decide
  have key : (BitVec.ofInt 64 n &&& BitVec.ofInt 64 1).toNat = (n % ((2 ^ 64 : Nat) : Int)).toNat % 2 ^ 1 := by
    rw [BitVec.toNat_and, BitVec.toNat_ofInt, h1, Nat.and_two_pow_sub_one_eq_mod]
  show IntKind.i64.wrap ((BitVec.ofInt 64 n &&& BitVec.ofInt 64 1).toNat : Nat) = n % 2
  rw [key, IntKind.wrap_i64]
  omega
theorem bit_int (n j : Nat) : bits .and .i64 ((n : Int) / (2 : Int) ^ j) 1 = ((n / 2 ^ j % 2 : Nat) : Int) := by
  rw [i64_and1, div_pow_cast]; omega

theorem pw_ppow (m : Nat) (k : Nat) : pw m k = Gf.ppow m 2 k := by
  induction k with
  | zero => rfl
  | succ k ih =>
    show Gf.pmod (2 * pw m k) m = Gf.pmod (Gf.pmul 2 (Gf.ppow m 2 k)) m
    rw [ih, two_pmul1, Gf.pmul_comm]
theorem pw_add {m : Nat} (hm : m ≠ 0) (i k : Nat) : pw m (i + k) = Gf.pmod (Gf.pmul (pw m i) (pw m k)) m := by
  rw [pw_ppow, pw_ppow, pw_ppow, Gf.ppow_add hm]

theorem bits_len (n : Nat) (hn : n < 2 ^ 63) (l : Int) (hl : (Gf.len n : Int) = l) (w : World) : Calls Tryd.prog 53 #[.int .u64 n] w fun e w' => e = .returned (.int .i64 l) ∧ w = w' := by
  subst hl
  have HN : Hid (n < 2 ^ 64) := by show _ < _; omega
  clear hn
  go_enter Tryd.func53, Tryd.ntmps53
  go_wp2_with (go_at_call 76; ((with_reducible refine (len64_any n HN.out _).mono ?_); rintro e w1 ⟨rfl, rfl⟩))
  go_ret
  exact ⟨rfl, rfl⟩

set_option maxRecDepth 100000 in
theorem square_any (B M y m r : Nat) (hm : m < 2 ^ 64) (h0 : m ≠ 0) (hy : Gf.len y < Gf.len m) (hr : Gf.pmod (Gf.pmul y y) m = r) (w : World)
    (hB : w.heap[B]? = some (.cells #[.int .u64 y] 73 (0, 0))) (hM : w.heap[M]? = some (.cells #[.int .u64 m] 73 (0, 0))) :
    Calls Tryd.prog 84 #[.pointer (some ⟨B, 0, none⟩), .pointer (some ⟨M, 0, none⟩)] w fun e w' => e = .returned (.tuple #[]) ∧ w.setCell ⟨B, 0, none⟩ (.int .u64 r) = w' := by
  have cB := cell_of_one hB
  have fB := free_of_one hB
  have cM := cell_of_one hM
  have HM := Lib.hid hm
  have H0 := Lib.hid h0
  have HY := Lib.hid hy
  have HY64 : Hid (y < 2 ^ 64) := Gf.len_le.1 (by have := len_64 hm; omega)
  have HR := Lib.hid hr
  clear hB hM hm h0 hy hr
  go_enter Tryd.func84, Tryd.ntmps84
  go_wp2_with (go_at_call 63; ((with_reducible refine (mulMod_any y y m HY.out HY64.out HM.out H0.out r HR.out _).mono ?_); rintro e w1 ⟨rfl, rfl⟩))
  go_end0
  exact ⟨rfl, rfl⟩
theorem mod_1by (m r : Nat) (hm : m < 2 ^ 64) (h0 : m ≠ 0) (hr : Gf.pmod 1 m = r) (w : World) : Calls Tryd.prog 64 #[.int .u64 1, .int .u64 m] w fun e w' => e = .returned (.int .u64 r) ∧ w = w' := mod_any 1 m (by decide) hm h0 r hr w
theorem pw_double {m : Nat} (hm : m ≠ 0) (k : Nat) : Gf.pmod (Gf.pmul (pw m k) (pw m k)) m = pw m (2 * k) := by
  rw [← pw_add hm, Nat.two_mul]
theorem half (n j : Nat) : n / 2 ^ j = 2 * (n / 2 ^ (j + 1)) + n / 2 ^ j % 2 := by
  rw [Nat.pow_succ, ← Nat.div_div_eq_div_mul]; omega

set_option maxRecDepth 100000 in
set_option maxHeartbeats 2000000 in
theorem power_any (n m : Nat) (hn : n < 2 ^ 63) (hm : m < 2 ^ 64) (h0 : m ≠ 0) (r : Nat) (hr : pw m n = r) (w : World) :
    Calls Tryd.prog 66 #[.int .i64 n, .int .u64 m] w fun e w' => e = .returned (.tuple #[.int .u64 r, .int .i64 0]) ∧ Below w.heap.size w w' := by
  have hmI : ((m : Int) == 0) = false := by simp; omega
  have hnI : ¬ ((n : Int) < 0) := by omega
  have hnw : IntKind.u64.wrap (n : Int) = (n : Int) := wrap_nat _ (by omega)
  have hnlo : (0 : Int) ≤ (n : Int) := by omega
  have hnhi : (n : Int) ≤ 9223372036854775807 := by omega
  obtain ⟨l, hl⟩ : ∃ l : Int, (Gf.len n : Int) = l := ⟨_, rfl⟩
  have hl64 : Gf.len n ≤ 63 := Gf.len_le.2 hn
  have hlI : l ≤ 64 := by omega
  have hlI0 : 0 ≤ l := by omega
  have HN := Lib.hid hn
  have HM := Lib.hid hm
  have H0 := Lib.hid h0
  have HR := Lib.hid hr
  have HLN := Lib.hid hl
  have HL64 := Lib.hid hl64
  obtain ⟨x0, hx0⟩ : ∃ x0, Gf.pmod 1 m = x0 := ⟨_, rfl⟩
  have HX0 := Lib.hid hx0
  clear hn hm h0 hr hl hl64 hx0
  have hmf : ∀ (fn : Fn) (first cap : Array Value) (w : World), (Instr.makeFunc fn first cap).run Tryd.prog w = .ok (.func fn first cap) w := fun _ _ _ _ => rfl
  go_enter Tryd.func66, Tryd.ntmps66
  go_wp2_with (first
    | (go_at_call 64; ((with_reducible refine (mod_1by m x0 HM.out H0.out HX0.out _).mono ?_); rintro e w1 ⟨rfl, rfl⟩))
    | (go_at_call 53; ((with_reducible refine (bits_len n HN.out l HLN.out _).mono ?_); rintro e w1 ⟨rfl, rfl⟩)))
  go_loopw [8] (fun i wr => ∃ k x : Nat, i = .int .i64 ((k : Int) - 1) ∧ k ≤ Gf.len n ∧ Hid (pw m (n / 2 ^ k) = x) ∧ wr.heap[w.heap.size + 1]? = some (.cells #[.int .u64 x] 73 (0, 0)) ∧ wr.heap[w.heap.size]? = some (.cells #[.int .u64 m] 73 (0, 0)) ∧ Below w.heap.size w wr) (fun i _ => (intOf i + 1).toNat)
  case atStart =>
    refine ⟨Gf.len n, x0, by rw [HLN.out], Nat.le_refl _, ?_, ?_, ?_, ?_⟩
    · show _ = _; rw [Nat.div_eq_of_lt (Gf.len_le.1 (Nat.le_refl _))]; exact HX0.out
    · have := heap_alloc_new (w.alloc (.cells #[.int .u64 m] 73)) (.cells #[.int .u64 x0] 73)
      simpa using this
    · have h := heap_alloc_new w (.cells #[.int .u64 m] 73)
      exact (Below.heap_alloc _ _ _ (by simp)).trans h
    · exact ((Below.refl _ w).alloc (Nat.le_refl _) _).alloc (by simp) _
  case round =>
    obtain ⟨k, x, rfl, hk, HX, hB, hMm, hbel⟩ := hrel
    have cB := cell_of_one hB
    have fB := free_of_one hB
    have cM := cell_of_one hMm
    have HB := Lib.hid hB
    have HMm := Lib.hid hMm
    have HBE := Lib.hid hbel
    clear hB hMm hbel
    by_cases hk0 : k = 0
    · have hkI : ¬ (0 : Int) ≤ (k : Int) - 1 := by omega
      have HE : Hid (x = r) := by
        have h := HX.out
        rw [hk0, Nat.pow_zero, Nat.div_one, HR.out] at h
        exact h.symm
      obtain rfl : x = r := HE.out
      clear hk0
      go_wp2
      go_ret2
      exact ⟨rfl, HBE.out⟩
    · obtain ⟨j, rfl⟩ : ∃ j, k = j + 1 := ⟨k - 1, by omega⟩
      have hj : ((j + 1 : Nat) : Int) - 1 = (j : Int) := by omega
      have hj0 : (0 : Int) ≤ (j : Int) := by omega
      have hj64 : (j : Int) < 64 := by have := HL64.out; omega
      rw [hj]
      obtain ⟨z, hz⟩ : ∃ z, Gf.pmod (Gf.pmul x x) m = z := ⟨_, rfl⟩
      have HZ := Lib.hid hz
      have HXL : Hid (Gf.len x < Gf.len m) := by show _ < _; rw [← HX.out]; exact pw_len m H0.out _
      have hz2 : pw m (2 * (n / 2 ^ (j + 1))) = z := by rw [← pw_double H0.out, HX.out]; exact hz
      have hhalf := half n j
      have hbit := bit_int n j
      have HJ := Lib.hid hk
      clear hk0 hj hz hk
      by_cases hodd : n / 2 ^ j % 2 = 1
      · rw [hodd] at hhalf hbit
        have hb1 : (bits .and .i64 ((n : Int) / (2 : Int) ^ j) 1 == 1) = true := by rw [hbit]; rfl
        obtain ⟨y, hy⟩ : ∃ y, Gf.pmod (2 * z) m = y := ⟨_, rfl⟩
        have HY := Lib.hid hy
        have HPY : Hid (pw m (n / 2 ^ j) = y) := by show _ = _; rw [hhalf, pw, hz2]; exact hy
        have HZ63 : Hid (z < 2 ^ 63) := by show _ < _; rw [← hz2]; exact pw_63 m H0.out HM.out _
        clear hodd hhalf hbit hy hz2
        go_wp2_with (first
          | (go_at_call 84; ((with_reducible refine (square_any (w.heap.size + 1) w.heap.size x m z HM.out H0.out HXL.out HZ.out _ HB.out HMm.out).mono ?_); rintro e w1 ⟨rfl, hw1⟩; have hB1 := (congrArg (fun v => v.heap[w.heap.size + 1]?) hw1).symm.trans (one_setCell HB.out); have hM1 := (congrArg (fun v => v.heap[w.heap.size]?) hw1).symm.trans ((Below.heap_setCell _ _ _ _ (by show w.heap.size ≠ w.heap.size + 1; omega)).trans HMm.out); have cB1 := cell_of_one hB1; have fB1 := free_of_one hB1; have cM1 := cell_of_one hM1))
          | (go_at_call 81; ((with_reducible refine (timesX_any z m HZ63.out HM.out H0.out y HY.out _).mono ?_); rintro e w2 ⟨rfl, rfl⟩)))
        go_roundw
        case rel =>
          refine ⟨j, y, rfl, Nat.le_of_succ_le HJ.out, HPY, ?_, ?_, ?_⟩
          · exact one_setCell hB1
          · exact (Below.heap_setCell _ _ _ _ (by show w.heap.size ≠ w.heap.size + 1; omega)).trans hM1
          · have h : Below w.heap.size w w1 := by rw [← hw1]; exact HBE.out.setCell (by show w.heap.size ≤ w.heap.size + 1; omega) _
            exact h.setCell (by show w.heap.size ≤ w.heap.size + 1; omega) _
        case measure => simp [intOf]
      · rw [show n / 2 ^ j % 2 = 0 by omega] at hhalf hbit
        have hb1 : (bits .and .i64 ((n : Int) / (2 : Int) ^ j) 1 == 1) = false := by rw [hbit]; rfl
        have HPZ : Hid (pw m (n / 2 ^ j) = z) := by show _ = _; rw [hhalf]; exact hz2
        clear hodd hhalf hbit hz2
        go_wp2_with (go_at_call 84; ((with_reducible refine (square_any (w.heap.size + 1) w.heap.size x m z HM.out H0.out HXL.out HZ.out _ HB.out HMm.out).mono ?_); rintro e w1 ⟨rfl, hw1⟩))
        go_roundw
        case rel =>
          refine ⟨j, z, rfl, Nat.le_of_succ_le HJ.out, HPZ, ?_, ?_, ?_⟩
          · rw [← hw1]; exact one_setCell HB.out
          · rw [← hw1]; exact (Below.heap_setCell _ _ _ _ (by show w.heap.size ≠ w.heap.size + 1; omega)).trans HMm.out
          · rw [← hw1]; exact HBE.out.setCell (by show w.heap.size ≤ w.heap.size + 1; omega) _
        case measure => simp [intOf]

end Go.Proofs.YtoecddkglenigaaDoor
