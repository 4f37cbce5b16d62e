/-
  The checksum of bytes in memory.
-/
import Derived.Test.YtoecddkglenigaaDoorSt
import Derived.Test.YtoecddkglenigaaDoorWords
import Derived.Lib.LaidTab
namespace Go.Proofs.YtoecddkglenigaaDoor
open Go.RowKit
set_option linter.unusedVariables false

/-- The table of the numbers of four bits in memory. -/
def HT (w : World) : Prop := ∀ i : Nat, i < 16 → w.cell? ⟨0, i, none⟩ = some (.int .u32 (Crc.hv i))
theorem HT.pos {w : World} (h : HT w) : 0 < w.heap.size := by
  have h1 := h 0 (by decide)
  rcases Nat.eq_zero_or_pos w.heap.size with h0 | h0
  · rw [World.cell?] at h1
    simp [h0] at h1
  · exact h0
theorem HT.below {w w' : World} (h : HT w) (hb : Below w.heap.size w w') : HT w' := fun i hi => (hb.cell (p := ⟨0, i, none⟩) h.pos).trans (h i hi)

theorem xb {a b r : Nat} (ha : a < 2 ^ 32) (hb : b < 2 ^ 32) (h : a ^^^ b = r) : bits .xor .u32 (a : Int) (b : Int) = (r : Int) := by rw [u32_xor_nat a b ha hb, h]
theorem wrap32 (a : Nat) (h : a < 2 ^ 32) : IntKind.u32.wrap (a : Int) = (a : Int) := by rw [IntKind.wrap_u32]; omega

set_option maxRecDepth 100000 in
theorem register_any (c : Nat) (hc : c < 2 ^ 32) (a : Option Addr) (n cap : Nat) (xs : List Nat) (hxs : ∀ y ∈ xs, y < 256) (hn : xs.length = n) (hlen : n ≤ maxLen) (r : Nat) (hr : Crc.reg c xs = r) (w : World) (B : Nat)
    (hS : Seen w B .u8 a xs) (hT : HT w) : Calls Tryd.prog 56 #[.int .u32 c, .slice a n cap] w fun e w' => e = .returned (.int .u32 r) ∧ w = w' := by
  have HX : Hid (∀ y ∈ xs, y < 256) := hxs
  have HN := Lib.hid hn
  have HR := Lib.hid hr
  have HC := Lib.hid hc
  unfold maxLen at hlen
  clear hxs hn hr hc
  go_enter Tryd.func56, Tryd.ntmps56
  go_wp2
  go_loopw [0, 9] (fun cv iv wr => ∃ k s : Nat, k ≤ n ∧ iv = .int .i64 k ∧ cv = .int .u32 s ∧ Hid (s < 2 ^ 32) ∧ Hid (Crc.reg c (xs.take k) = s) ∧ w = wr) (fun _ i _ => n - (intOf i).toNat)
  case atStart =>
    exact ⟨0, c, Nat.zero_le _, rfl, rfl, HC, rfl, rfl⟩
  case round =>
    obtain ⟨k, s, hk, rfl, rfl, HS, HK, rfl⟩ := hrel
    by_cases hkn : k < n
    · have hkl : k < xs.length := by rw [HN.out]; exact hkn
      obtain ⟨b, off, rfl, hb, hcell⟩ := hS.at hkl
      obtain ⟨x, hx⟩ : ∃ x, xs[k] = x := ⟨_, rfl⟩
      rw [hx] at hcell
      have HX8 : Hid (x < 256) := by show _ < _; rw [← hx]; exact HX.out _ (List.getElem_mem _)
      obtain ⟨u, hu⟩ : ∃ u, s ^^^ x = u := ⟨_, rfl⟩
      have hxu : bits .xor .u32 (s : Int) (x : Int) = (u : Int) := xb HS.out (Nat.lt_trans HX8.out (by decide)) hu
      have HU : Hid (u < 2 ^ 32) := by show _ < _; rw [← hu]; exact Gf.xor_lt HS.out (Nat.lt_trans HX8.out (by decide))
      have hwx : IntKind.u32.wrap (x : Int) = (x : Int) := wrap32 x (Nat.lt_trans HX8.out (by decide))
      have HST : Hid (Crc.reg c (xs.take (k + 1)) = Crc.sts 8 u) := by
        show _ = _
        rw [List.take_succ_eq_append_getElem hkl, hx, Crc.reg_snoc, HK.out, hu]
      clear hx hu
      go_wp2
      go_loopw [0, 17] (fun cv jv wr => ∃ j y : Nat, j ≤ 2 ∧ jv = .int .i64 j ∧ cv = .int .u32 y ∧ Hid (y < 2 ^ 32) ∧ Hid (Crc.sts (4 * j) u = y) ∧ w = wr) (fun _ i _ => 2 - (intOf i).toNat)
      case atStart =>
        exact ⟨0, u, by omega, rfl, rfl, HU, rfl, rfl⟩
      case round =>
        obtain ⟨j, y, hj, rfl, rfl, HY, HJ, rfl⟩ := hrel
        by_cases hj2 : j < 2
        · have ht := hT (y % 16) (Nat.mod_lt _ (by decide))
          obtain ⟨z, hz⟩ : ∃ z, y / 16 ^^^ Crc.hv (y % 16) = z := ⟨_, rfl⟩
          have hzz : bits .xor .u32 ((y : Int) / 16) (Crc.hv (y % 16) : Int) = (z : Int) := xb (a := y / 16) (by have := HY.out; omega) (Crc.hv_lt _) hz
          have HZ : Hid (Crc.sts (4 * (j + 1)) u = z) := by
            show _ = _
            rw [show 4 * (j + 1) = 4 + 4 * j by omega, Crc.sts_add, HJ.out, Crc.nib, hz]
          have HZL : Hid (z < 2 ^ 32) := by show _ < _; rw [← HZ.out]; exact Crc.sts_lt _ HU.out
          clear hz
          go_wp2
          exact ⟨⟨j + 1, z, hj2, rfl, rfl, HZL, HZ, trivial⟩, by simp [intOf]; omega⟩
        · obtain rfl : j = 2 := by omega
          have HE : Hid (Crc.reg c (xs.take (k + 1)) = y) := by
            show _ = _
            rw [HST.out, ← HJ.out]
          go_wp2
          exact ⟨⟨k + 1, y, hkn, rfl, rfl, HY, HE, trivial⟩, by simp [intOf]; omega⟩
    · obtain rfl : k = n := by omega
      have HE : Hid (s = r) := by
        show _ = _
        rw [← HR.out, ← HK.out, ← HN.out, List.take_length]
      obtain rfl : s = r := HE.out
      go_wp2
      go_ret
      exact ⟨rfl, rfl⟩
end Go.Proofs.YtoecddkglenigaaDoor
