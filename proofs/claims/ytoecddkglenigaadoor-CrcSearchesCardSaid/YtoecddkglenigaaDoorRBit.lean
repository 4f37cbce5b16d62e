/-
  The reference's Bit.
-/
import Derived.Test.YtoecddkglenigaaDoorRSealed
namespace Go.Proofs.YtoecddkglenigaaDoor
open Go.RowKit
set_option linter.unusedVariables false

set_option maxRecDepth 100000 in
set_option maxHeartbeats 1000000 in
theorem rbit_arg (n k : Int) (h : n < 1 ∨ 16777216 < n ∨ k < 0 ∨ 8 * n ≤ k) (w : World) :
    Calls Tryd.prog 42 #[.int .i64 n, .int .i64 k] w fun e w' => e = .returned (.tuple #[.int .u32 0, .int .i64 2]) ∧ w = w' := by
  by_cases h1 : n < 1
  · clear h
    go_enter Tryd.func42, Tryd.ntmps42
    go_wp2
    go_ret2
    exact ⟨rfl, rfl⟩
  · have h1b : decide (n < 1) = false := decide_eq_false h1
    by_cases h2 : 16777216 < n
    · clear h
      go_enter Tryd.func42, Tryd.ntmps42
      go_wp2
      go_ret2
      exact ⟨rfl, rfl⟩
    · have h2b : decide (16777216 < n) = false := decide_eq_false h2
      by_cases h3 : k < 0
      · clear h
        go_enter Tryd.func42, Tryd.ntmps42
        go_wp2
        go_ret2
        exact ⟨rfl, rfl⟩
      · have h3b : decide (k < 0) = false := decide_eq_false h3
        have h4 : 8 * n ≤ k := by omega
        clear h
        go_enter Tryd.func42, Tryd.ntmps42
        go_wp2
        go_ret2
        exact ⟨rfl, rfl⟩

set_option maxRecDepth 100000 in
set_option maxHeartbeats 1000000 in
theorem rbit_any (n k : Nat) (hn1 : 1 ≤ n) (hn : n ≤ 300) (hk : k < 8 * n) (r : Nat) (hr : Crc.part n k = r) (w : World) :
    Calls Tryd.prog 42 #[.int .i64 n, .int .i64 k] w fun e w' => e = .returned (.tuple #[.int .u32 r, .int .i64 0]) ∧ Below w.heap.size w w' := by
  obtain ⟨i0, hi, hz0, hz1, hz2⟩ := info_parts infoB
  obtain ⟨q, hq⟩ : ∃ q, k / 8 = q := ⟨_, rfl⟩
  obtain ⟨e, he⟩ : ∃ e, k % 8 = e := ⟨_, rfl⟩
  obtain ⟨y, hy⟩ : ∃ y, 2 ^ e = y := ⟨_, rfl⟩
  have hqn : q < n := by omega
  have hy256 : y < 256 := by rw [← hy]; exact (Nat.pow_lt_pow_right (by decide : 1 < 2) (by omega : e < 8) : 2 ^ e < 2 ^ 8)
  have hyi : (2 : Int) ^ e = (y : Int) := by rw [← hy]; exact (cast_pow e).symm
  have hym : (y : Int) % 256 = (y : Int) := by omega
  have hq1 : (k : Int) / 8 = (q : Int) := by omega
  have hq2 : (k : Int).tdiv 8 = (q : Int) := by rw [Int.tdiv_eq_ediv_of_nonneg (by omega)]; exact hq1
  have he1 : (k : Int) % 8 = (e : Int) := by omega
  have he2 : (k : Int).tmod 8 = (e : Int) := by rw [Int.tmod_eq_emod_of_nonneg (by omega)]; exact he1
  have he8 : (e : Int) < 8 := by omega
  have hqi : (q : Int) < (n : Int) := by omega
  have h1 : ¬ (n : Int) < 1 := by omega
  have h1b : decide ((n : Int) < 1) = false := decide_eq_false h1
  have h2 : ¬ (16777216 : Int) < (n : Int) := by omega
  have h2b : decide ((16777216 : Int) < (n : Int)) = false := decide_eq_false h2
  have h3 : ¬ (k : Int) < 0 := by omega
  have h3b : decide ((k : Int) < 0) = false := decide_eq_false h3
  have h4 : ¬ 8 * (n : Int) ≤ (k : Int) := by omega
  have h4b : decide (8 * (n : Int) ≤ (k : Int)) = false := decide_eq_false h4
  have hni : (n : Int) ≤ 300 := by omega
  have HL : Hid (((List.replicate n 0).set q y).length = n) := by show _ = _; rw [List.length_set, List.length_replicate]
  have HLB : Hid (∀ z ∈ (List.replicate n 0).set q y, z < 256) := fun z hz => by
    rcases List.mem_or_eq_of_mem_set hz with h | h
    · rw [List.eq_of_mem_replicate h]; decide
    · rw [h]; exact hy256
  have HR : Hid (Crc.reg 0 ((List.replicate n 0).set q y) = r) := by
    show _ = _
    have h := Crc.reg_bit (List.replicate n 0) k 0 0 (by rw [List.length_replicate]; exact hk) (by rw [List.getElem?_replicate, if_pos (by omega)])
    rw [Nat.zero_xor, hq, he, hy, Crc.reg_zeros, Crc.sts_zero, Nat.zero_xor, List.length_replicate] at h
    rw [h]; exact hr
  have HN3 : Hid (n ≤ 300) := hn
  clear hq he hy hr
  go_enter Tryd.func42, Tryd.ntmps42
  go_wp2_with (first
    | (at_make; refine wpList_make_full _ rfl _ _ 22 rfl w.heap.size 5 i0 (.int .u8 0) 1 Tryd.underlying22 hi hz0 hz1 .i64 .i64 _ _ n rfl rfl rfl rfl (by rw [hz2]; omega) (by unfold maxLen; omega) (Nat.le_refl _) ?_; intro w1 hown1 hgrow1; have HO1 := Lib.hid (zeros_row hown1); have HB1 : Hid (Below w.heap.size w w1) := (Below.refl _ _).grown hgrow1 (Nat.le_refl _) (fun k e => by cases e); have hfr := HO1.out.frozenAt q; have hcl : w1.cell? ⟨w.heap.size, q, none⟩ = some (.int .u8 ((0 : Nat) : Int)) := (by rw [HO1.out.cellAt q (by omega), List.getElem?_map, List.getElem?_replicate, if_pos hqn]; rfl); have HO2 : Hid ((w1.setCell ⟨w.heap.size, q, none⟩ (.int .u8 (y : Int))).ownsRow w.heap.size 5 1 (.slice (some ⟨w.heap.size, 0, none⟩) n n) n (((List.replicate n 0).set q y).map fun x : Nat => Value.int .u8 x)) := (by show World.ownsRow _ _ _ _ _ _ _; rw [List.map_set]; exact (HO1.out.stored q _).1); have HB2 : Hid (Below w.heap.size w (w1.setCell ⟨w.heap.size, q, none⟩ (.int .u8 (y : Int)))) := HB1.out.setCell (Nat.le_refl _) _; clear hown1 hgrow1)
    | (go_at_call 39; ((with_reducible refine (rlin_any (some ⟨w.heap.size, 0, none⟩) n n _ HL.out HN3.out HLB.out _ _ (Seen.of_own HO2.out) (Nat.le_refl _) r HR.out).mono ?_); rintro e w2 ⟨rfl, hb2⟩)))
  go_ret2
  exact ⟨rfl, HB2.out.trans (hb2.mono HB2.out.size)⟩

end Go.Proofs.YtoecddkglenigaaDoor
