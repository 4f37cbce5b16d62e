/-
  Damages.
-/
import Derived.Test.YtoecddkglenigaaDoorCrc
namespace Go.Proofs.YtoecddkglenigaaDoor
open Go.RowKit
set_option linter.unusedVariables false

/-- The linear part of some bits. -/
def parts (n : Nat) (ks : List Nat) : Nat := ks.foldl (fun c k => c ^^^ Crc.part n k) 0
theorem parts_snoc (n : Nat) (ks : List Nat) (k : Nat) : parts n (ks ++ [k]) = parts n ks ^^^ Crc.part n k := by simp [parts, List.foldl_append]
theorem parts_lt (n : Nat) (ks : List Nat) : parts n ks < 2 ^ 32 := by
  unfold parts
  suffices h : ∀ (l : List Nat) (c : Nat), c < 2 ^ 32 → l.foldl (fun c k => c ^^^ Crc.part n k) c < 2 ^ 32 from h ks 0 (by decide)
  intro l
  induction l with
  | nil => intro c h; exact h
  | cons k l ih => intro c h; exact ih _ (Gf.xor_lt h (Crc.part_lt n k))

theorem damages_arg (n : Int) (hn : n < 4 ∨ 16777216 < n) (v : Value) (w : World) :
    Calls Tryd.prog 25 #[.int .i64 n, v] w fun e w' => e = .returned (.tuple #[.bool false, .int .i64 2]) ∧ w = w' := by
  rcases hn with h | h
  · go_enter Tryd.func25, Tryd.ntmps25
    go_wp2
    go_ret2
    exact ⟨rfl, rfl⟩
  · have h0 : ¬ n < 4 := by omega
    have h0b : decide (n < 4) = false := by simp; omega
    go_enter Tryd.func25, Tryd.ntmps25
    go_wp2
    go_ret2
    exact ⟨rfl, rfl⟩

set_option maxHeartbeats 1000000 in
set_option maxRecDepth 100000 in
theorem damages_any (n : Nat) (h4 : 4 ≤ n) (hn : n ≤ 16777216) (a : Option Addr) (m cap : Nat) (ks : List Nat) (hks : ∀ k ∈ ks, k < 8 * n) (hm : ks.length = m) (hm4 : m ≤ 4096) (r : Bool) (hr : decide (parts n ks ≠ 0) = r) (B : Nat) (w : World)
    (hS : Seen w B .i64 a ks) (hB : B ≤ w.heap.size) :
    Calls Tryd.prog 25 #[.int .i64 n, .slice a m cap] w fun e w' => e = .returned (.tuple #[.bool r, .int .i64 0]) ∧ Below w.heap.size w w' := by
  have h1 : ¬ (n : Int) < 4 := by omega
  have h1b : decide ((n : Int) < 4) = false := by simp; omega
  have h2 : ¬ (16777216 : Int) < (n : Int) := by omega
  have h2b : decide ((16777216 : Int) < (n : Int)) = false := by simp; omega
  have h3 : ¬ (4096 : Int) < (m : Int) := by omega
  have h3b : decide ((4096 : Int) < (m : Int)) = false := by simp; omega
  have HK : Hid (∀ k ∈ ks, k < 8 * n) := hks
  have HM := Lib.hid hm
  have HN := Lib.hid hn
  have HR := Lib.hid hr
  have hN0 : (0 : Int) ≤ (n : Int) := by omega
  have HNI : Hid ((n : Int) ≤ 16777216) := by show _ ≤ _; omega
  have HBB := Lib.hid hB
  have HS : Hid (Seen w B .i64 a ks) := hS
  clear hks hm h4 hn hr hB hS
  go_enter Tryd.func25, Tryd.ntmps25
  go_wp2
  go_loopw [19] (fun iv wr => ∃ k : Nat, k ≤ m ∧ iv = .int .i64 k ∧ w = wr) (fun i _ => m - (intOf i).toNat)
  case atStart => exact ⟨0, Nat.zero_le _, rfl, rfl⟩
  case round =>
    obtain ⟨k, hk, rfl, rfl⟩ := hrel
    by_cases hkm : k < m
    · have hkl : k < ks.length := by rw [HM.out]; exact hkm
      obtain ⟨b, off, rfl, hb, hcell⟩ := HS.out.at hkl
      obtain ⟨x, hx⟩ : ∃ x, ks[k] = x := ⟨_, rfl⟩
      rw [hx] at hcell
      have HH : Hid (decide (0 ≤ (x : Int) ∧ (x : Int) < 8 * (n : Int)) = true) := by
        show _ = _
        have := HK.out x (by rw [← hx]; exact List.getElem_mem _)
        simp; omega
      clear hx
      go_wp2_with (go_at_call 49; ((with_reducible refine (hasBit_any n x hN0 HNI.out true HH.out _).mono ?_); rintro e w1 ⟨rfl, rfl⟩))
      exact ⟨⟨k + 1, hkm, rfl, trivial⟩, by simp [intOf]; omega⟩
    · obtain rfl : k = m := by omega
      clear hk hkm
      go_wp2
      go_loopw [8, 33] (fun cv iv wr => ∃ j s : Nat, j ≤ k ∧ iv = .int .i64 j ∧ cv = .int .u32 s ∧ Hid (parts n (ks.take j) = s) ∧ Below w.heap.size w wr) (fun _ i _ => k - (intOf i).toNat)
      case atStart => exact ⟨0, 0, Nat.zero_le _, rfl, rfl, rfl, Below.refl _ _⟩
      case round =>
        obtain ⟨j, s, hj, rfl, rfl, HJ, hbel⟩ := hrel
        have HBE := Lib.hid hbel
        clear hbel
        by_cases hjk : j < k
        · have hkl : j < ks.length := by rw [HM.out]; exact hjk
          obtain ⟨b, off, rfl, hb, hcell⟩ := (HS.out.below (HBE.out.mono HBB.out)).at hkl
          obtain ⟨x, hx⟩ : ∃ x, ks[j] = x := ⟨_, rfl⟩
          rw [hx] at hcell
          have HXK : Hid (x < 8 * n) := by
            show _ < _
            rw [← hx]; exact HK.out _ (List.getElem_mem _)
          obtain ⟨p, hp⟩ : ∃ p, pw Crc.G (8 * n - 1 - x + 32) = p := ⟨_, rfl⟩
          have HP := Lib.hid hp
          have HPL : Hid (p < 2 ^ 64) := by show _ < _; rw [← hp]; have := Crc.pw_G (8 * n - 1 - x + 32); omega
          obtain ⟨q, hq⟩ : ∃ q, Crc.part n x = q := ⟨_, rfl⟩
          have HQ : Hid (rvN p 32 = q) := by show _ = _; rw [← hp, Crc.rv_part n x HXK.out]; exact hq
          obtain ⟨z, hz⟩ : ∃ z, s ^^^ q = z := ⟨_, rfl⟩
          have hzz : bits .xor .u32 (s : Int) (q : Int) = (z : Int) := xb (by rw [← HJ.out]; exact parts_lt _ _) (by rw [← hq]; exact Crc.part_lt _ _) hz
          have HZ : Hid (parts n (ks.take (j + 1)) = z) := by
            show _ = _
            rw [List.take_succ_eq_append_getElem hkl, hx, parts_snoc, HJ.out, hq, hz]
          have HNN : Hid (n ≤ 16777216) := by show _ ≤ _; have := HNI.out; omega
          clear hx hp hq hz hkl
          go_wp2_with (first
            | (go_at_call 50; ((with_reducible refine (bitPower_any n x HNN.out HXK.out p HP.out _).mono ?_); rintro e w2 ⟨rfl, hb2⟩))
            | (go_at_call 48; ((with_reducible refine (number_any p HPL.out q HQ.out _).mono ?_); rintro e w4 ⟨rfl, rfl⟩)))
          exact ⟨⟨j + 1, z, hjk, rfl, rfl, HZ, HBE.out.trans (hb2.mono HBE.out.size)⟩, by simp [intOf]; omega⟩
        · obtain rfl : j = k := by omega
          have hsr : ((s : Int) != 0) = r := by
            rw [← HR.out, ← HJ.out, ← HM.out, List.take_length, Bool.eq_iff_iff]
            simp
          clear hjk hj
          go_wp2
          go_ret2
          first
            | exact ⟨rfl, HBE.out⟩
            | exact ⟨by rw [hsr], HBE.out⟩

theorem damages_bad (x : Int) (hx : x < 0 ∨ 160 ≤ x) (W : World) :
    Calls Tryd.prog 25 #[.int .i64 20, .slice (some ⟨W.heap.size, 0, none⟩) 1 1] (W.alloc (.cells #[.int .i64 x] 3)) fun e w' => e = .returned (.tuple #[.bool false, .int .i64 2]) ∧ W.alloc (.cells #[.int .i64 x] 3) = w' := by
  have HH : Hid (decide (0 ≤ x ∧ x < 8 * 20) = false) := by
    show _ = _
    simp; omega
  have hc : (W.alloc (.cells #[.int .i64 x] 3)).cell? ⟨W.heap.size, 0, none⟩ = some (.int .i64 x) := cell_of_one (heap_alloc_new W _)
  clear hx
  go_enter Tryd.func25, Tryd.ntmps25
  go_wp2
  go_loopw [19] (fun iv wr => iv = .int .i64 0 ∧ W.alloc (.cells #[.int .i64 x] 3) = wr) (fun i _ => 0)
  case atStart => exact ⟨rfl, rfl⟩
  case round =>
    obtain ⟨rfl, rfl⟩ := hrel
    go_wp2_with (go_at_call 49; ((with_reducible refine (hasBit_any 20 x (by decide) (by decide) false HH.out _).mono ?_); rintro e w1 ⟨rfl, rfl⟩))
    go_ret2
    exact ⟨rfl, rfl⟩

end Go.Proofs.YtoecddkglenigaaDoor
