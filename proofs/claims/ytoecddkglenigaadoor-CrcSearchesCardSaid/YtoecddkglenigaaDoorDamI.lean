/-
  Damages, and the reference's, of bits that there are not, and of too many.
-/
import Derived.Test.YtoecddkglenigaaDoorRBit
import Derived.Test.YtoecddkglenigaaDoorDam
namespace Go.Proofs.YtoecddkglenigaaDoor
open Go.RowKit
set_option linter.unusedVariables false

/-- A slice that reads as integers. -/
def SeenI (w : World) (B : Nat) (a : Option Addr) (zs : List Int) : Prop := ∀ i z, zs[i]? = some z → ∃ b off, a = some ⟨b, off, none⟩ ∧ b < B ∧ w.cell? ⟨b, off + i, none⟩ = some (.int .i64 z)
theorem SeenI.below {w w' : World} {B : Nat} {a : Option Addr} {zs : List Int} (h : SeenI w B a zs) (hb : Below B w w') : SeenI w' B a zs := fun i z hi => by
  obtain ⟨b, off, e, h1, h2⟩ := h i z hi
  exact ⟨b, off, e, h1, (hb.cell (p := ⟨b, off + i, none⟩) h1).trans h2⟩
theorem SeenI.more {w : World} {B B' : Nat} {a : Option Addr} {zs : List Int} (h : SeenI w B a zs) (hb : B ≤ B') : SeenI w B' a zs := fun i z hi => by
  obtain ⟨b, off, e, h1, h2⟩ := h i z hi
  exact ⟨b, off, e, by omega, h2⟩
theorem SeenI.at' {w : World} {B : Nat} {a : Option Addr} {zs : List Int} (h : SeenI w B a zs) {i : Nat} (hi : i < zs.length) : ∃ b off z, a = some ⟨b, off, none⟩ ∧ zs[i]? = some z ∧ z ∈ zs ∧ w.cell? ⟨b, off + i, none⟩ = some (.int .i64 z) := by
  obtain ⟨b, off, e, _, h2⟩ := h i _ (List.getElem?_eq_getElem hi)
  exact ⟨b, off, _, e, List.getElem?_eq_getElem hi, List.getElem_mem hi, h2⟩
/-- The bits that there are. -/
def good (n : Nat) (z : Int) : Prop := 0 ≤ z ∧ z < 8 * (n : Int)

set_option maxRecDepth 100000 in
set_option maxHeartbeats 1000000 in
theorem damages_not (n : Nat) (h4 : 4 ≤ n) (hn : n ≤ 16777216) (a : Option Addr) (m cap : Nat) (zs : List Int) (hm : zs.length = m) (hm4 : m ≤ 100000) (f : Int) (hf : (¬ (∀ z ∈ zs, good n z) ∧ f = 2) ∨ ((∀ z ∈ zs, good n z) ∧ 4096 < m ∧ f = 5)) (B : Nat) (w : World)
    (hS : SeenI w B a zs) (hB : B ≤ w.heap.size) :
    Calls Tryd.prog 25 #[.int .i64 n, .slice a m cap] w fun e w' => e = .returned (.tuple #[.bool false, .int .i64 f]) ∧ w = w' := by
  have h1 : ¬ (n : Int) < 4 := by omega
  have h1b : decide ((n : Int) < 4) = false := by simp; omega
  have h2 : ¬ (16777216 : Int) < (n : Int) := by omega
  have h2b : decide ((16777216 : Int) < (n : Int)) = false := by simp; omega
  have hmi : (m : Int) ≤ 100000 := by omega
  have HM := Lib.hid hm
  have HF : Hid ((¬ (∀ z ∈ zs, good n z) ∧ f = 2) ∨ ((∀ z ∈ zs, good n z) ∧ 4096 < m ∧ f = 5)) := hf
  have hN0 : (0 : Int) ≤ (n : Int) := by omega
  have HNI : Hid ((n : Int) ≤ 16777216) := by show _ ≤ _; omega
  have HS : Hid (SeenI w B a zs) := hS
  clear hm h4 hn hB hS hf
  go_enter Tryd.func25, Tryd.ntmps25
  go_wp2
  go_loopw [19] (fun iv wr => ∃ k : Nat, k ≤ m ∧ iv = .int .i64 k ∧ Hid (∀ z ∈ zs.take k, good n z) ∧ w = wr) (fun i _ => m - (intOf i).toNat)
  case atStart => exact ⟨0, Nat.zero_le _, rfl, (fun z hz => by rw [List.take_zero] at hz; cases hz), rfl⟩
  case round =>
    obtain ⟨k, hk, rfl, HG, rfl⟩ := hrel
    by_cases hkm : k < m
    · have hkl : k < zs.length := by rw [HM.out]; exact hkm
      obtain ⟨b, off, x, rfl, hzx, hmem, hcell⟩ := HS.out.at' hkl
      by_cases hx : 0 ≤ x ∧ x < 8 * (n : Int)
      · have HH : Hid (decide (0 ≤ x ∧ x < 8 * (n : Int)) = true) := decide_eq_true hx
        have HG2 : Hid (∀ z ∈ zs.take (k + 1), good n z) := fun z hz => by
          rw [List.take_add_one, hzx] at hz
          rcases List.mem_append.1 hz with h | h
          · exact HG.out z h
          · have : z = x := by simpa using h
            rw [this]; exact hx
        clear hx hkl hzx hmem
        go_wp2_with (go_at_call 49; ((with_reducible refine (hasBit_any n x hN0 HNI.out true HH.out _).mono ?_); rintro e w1 ⟨rfl, rfl⟩))
        exact ⟨⟨k + 1, hkm, rfl, HG2, trivial⟩, by simp [intOf]; omega⟩
      · have HH : Hid (decide (0 ≤ x ∧ x < 8 * (n : Int)) = false) := decide_eq_false hx
        have HF2 : Hid (f = 2) := by
          rcases HF.out with h | h
          · exact h.2
          · exact absurd (h.1 x hmem) hx
        clear hx hkl hzx hmem
        go_wp2_with (go_at_call 49; ((with_reducible refine (hasBit_any n x hN0 HNI.out false HH.out _).mono ?_); rintro e w1 ⟨rfl, rfl⟩))
        go_ret2
        exact ⟨by rw [HF2.out]; rfl, rfl⟩
    · obtain rfl : k = m := by omega
      have hall : ∀ z ∈ zs, good n z := by
        have h := HG.out
        rw [← HM.out, List.take_length] at h
        exact h
      have h45 : 4096 < k ∧ f = 5 := by
        rcases HF.out with h | h
        · exact absurd hall h.1
        · exact h.2
      have h46 : (4096 : Int) < (k : Int) := by omega
      have HF5 := Lib.hid h45.2
      clear hk hkm hall h45
      go_wp2
      go_ret2
      exact ⟨by rw [HF5.out]; rfl, rfl⟩

set_option maxRecDepth 100000 in
set_option maxHeartbeats 1000000 in
theorem rdamages_arg (n : Int) (hn : n < 4 ∨ 16777216 < n) (v : Value) (w : World) :
    Calls Tryd.prog 43 #[.int .i64 n, v] w fun e w' => e = .returned (.tuple #[.bool false, .int .i64 2]) ∧ w = w' := by
  rcases hn with h | h
  · go_enter Tryd.func43, Tryd.ntmps43
    go_wp2
    go_ret2
    exact ⟨rfl, rfl⟩
  · have h0 : ¬ n < 4 := by omega
    have h0b : decide (n < 4) = false := decide_eq_false h0
    go_enter Tryd.func43, Tryd.ntmps43
    go_wp2
    go_ret2
    exact ⟨rfl, rfl⟩

set_option maxRecDepth 100000 in
set_option maxHeartbeats 1000000 in
theorem rdamages_not (n : Nat) (h4 : 4 ≤ n) (hn : n ≤ 16777216) (a : Option Addr) (m cap : Nat) (zs : List Int) (hm : zs.length = m) (hm4 : m ≤ 100000) (f : Int) (hf : (¬ (∀ z ∈ zs, good n z) ∧ f = 2) ∨ ((∀ z ∈ zs, good n z) ∧ 4096 < m ∧ f = 5)) (B : Nat) (w : World)
    (hS : SeenI w B a zs) (hB : B ≤ w.heap.size) :
    Calls Tryd.prog 43 #[.int .i64 n, .slice a m cap] w fun e w' => e = .returned (.tuple #[.bool false, .int .i64 f]) ∧ w = w' := by
  have h1 : ¬ (n : Int) < 4 := by omega
  have h1b : decide ((n : Int) < 4) = false := by simp; omega
  have h2 : ¬ (16777216 : Int) < (n : Int) := by omega
  have h2b : decide ((16777216 : Int) < (n : Int)) = false := by simp; omega
  have hmi : (m : Int) ≤ 100000 := by omega
  have hni : (n : Int) ≤ 16777216 := by omega
  have HM := Lib.hid hm
  have HF : Hid ((¬ (∀ z ∈ zs, good n z) ∧ f = 2) ∨ ((∀ z ∈ zs, good n z) ∧ 4096 < m ∧ f = 5)) := hf
  have hN0 : (0 : Int) ≤ (n : Int) := by omega
  have HS : Hid (SeenI w B a zs) := hS
  clear hm h4 hn hB hS hf
  go_enter Tryd.func43, Tryd.ntmps43
  go_wp2
  go_loopw [6] (fun iv wr => ∃ k : Nat, k ≤ m ∧ iv = .int .i64 k ∧ Hid (∀ z ∈ zs.take k, good n z) ∧ w = wr) (fun i _ => m - (intOf i).toNat)
  case atStart => exact ⟨0, Nat.zero_le _, rfl, (fun z hz => by rw [List.take_zero] at hz; cases hz), rfl⟩
  case round =>
    obtain ⟨k, hk, rfl, HG, rfl⟩ := hrel
    by_cases hkm : k < m
    · have hkl : k < zs.length := by rw [HM.out]; exact hkm
      have hkmi : (k : Int) < (m : Int) := by omega
      obtain ⟨b, off, x, rfl, hzx, hmem, hcell⟩ := HS.out.at' hkl
      by_cases hx : 0 ≤ x ∧ x < 8 * (n : Int)
      · have hx1 : ¬ x < 0 := by omega
        have hx1b : decide (x < 0) = false := decide_eq_false hx1
        have hx2 : ¬ 8 * (n : Int) ≤ x := by omega
        have hx2b : decide (8 * (n : Int) ≤ x) = false := decide_eq_false hx2
        have HG2 : Hid (∀ z ∈ zs.take (k + 1), good n z) := fun z hz => by
          rw [List.take_add_one, hzx] at hz
          rcases List.mem_append.1 hz with h | h
          · exact HG.out z h
          · have : z = x := by simpa using h
            rw [this]; exact hx
        clear hx hkl hzx hmem
        go_wp2
        exact ⟨⟨k + 1, hkm, rfl, HG2, trivial⟩, by simp [intOf]; omega⟩
      · have HF2 : Hid (f = 2) := by
          rcases HF.out with h | h
          · exact h.2
          · exact absurd (h.1 x hmem) hx
        by_cases hx1 : x < 0
        · clear hx hkl hzx hmem
          go_wp2
          go_ret2
          exact ⟨by rw [HF2.out]; rfl, rfl⟩
        · have hx1b : decide (x < 0) = false := decide_eq_false hx1
          have hx2 : 8 * (n : Int) ≤ x := by omega
          clear hx hkl hzx hmem
          go_wp2
          go_ret2
          exact ⟨by rw [HF2.out]; rfl, rfl⟩
    · obtain rfl : k = m := by omega
      have hall : ∀ z ∈ zs, good n z := by
        have h := HG.out
        rw [← HM.out, List.take_length] at h
        exact h
      have h45 : 4096 < k ∧ f = 5 := by
        rcases HF.out with h | h
        · exact absurd hall h.1
        · exact h.2
      have h46 : (4096 : Int) < (k : Int) := by omega
      have HF5 := Lib.hid h45.2
      clear hk hkm hall h45
      go_wp2
      go_ret2
      exact ⟨by rw [HF5.out]; rfl, rfl⟩

end Go.Proofs.YtoecddkglenigaaDoor
