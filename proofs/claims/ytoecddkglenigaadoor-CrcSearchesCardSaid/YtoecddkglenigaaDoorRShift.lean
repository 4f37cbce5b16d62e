/-
  The reference's Shift.
-/
import Derived.Test.YtoecddkglenigaaDoorRLin
namespace Go.Proofs.YtoecddkglenigaaDoor
open Go.RowKit
set_option linter.unusedVariables false

namespace Crc
theorem sts8_low (c : Nat) : c / 256 ^^^ reg 0 [c % 256] = sts 8 c := by
  have h : c = (2 ^ 8 * (c / 256)) ^^^ (c % 256) := by
    rw [← add_xor _ _ _ (show c % 256 < 2 ^ 8 by omega)]; omega
  rw [reg_cons, reg_nil, Nat.zero_xor]
  conv => rhs; rw [h, sts_xor, sts_pow]
end Crc

set_option maxRecDepth 100000 in
set_option maxHeartbeats 1000000 in
theorem rshift_arg (c n : Int) (hn : n < 0 ∨ 16777216 < n) (w : World) :
    Calls Tryd.prog 41 #[.int .u32 c, .int .i64 n] w fun e w' => e = .returned (.tuple #[.int .u32 0, .int .i64 2]) ∧ w = w' := by
  rcases hn with h | h
  · go_enter Tryd.func41, Tryd.ntmps41
    go_wp2
    go_ret2
    exact ⟨rfl, rfl⟩
  · have h0 : ¬ n < 0 := by omega
    have h0b : decide (n < 0) = false := by simp; omega
    go_enter Tryd.func41, Tryd.ntmps41
    go_wp2
    go_ret2
    exact ⟨rfl, rfl⟩

set_option maxRecDepth 100000 in
set_option maxHeartbeats 1000000 in
theorem rshift_any (c n : Nat) (hc : c < 2 ^ 32) (hn : n ≤ 400) (r : Nat) (hr : Crc.sts (8 * n) c = r) (w : World) :
    Calls Tryd.prog 41 #[.int .u32 c, .int .i64 n] w fun e w' => e = .returned (.tuple #[.int .u32 r, .int .i64 0]) ∧ Below w.heap.size w w' := by
  have h1 : ¬ (n : Int) < 0 := by omega
  have h1b : decide ((n : Int) < 0) = false := by simp
  have h2 : ¬ (16777216 : Int) < (n : Int) := by omega
  have h2b : decide ((16777216 : Int) < (n : Int)) = false := by simp; omega
  have hn5 : (n : Int) ≤ 400 := by omega
  have HC := Lib.hid hc
  have HR := Lib.hid hr
  clear hc hr
  go_enter Tryd.func41, Tryd.ntmps41
  go_wp2
  go_loopw [0, 6] (fun cv iv wr => ∃ k t : Nat, k ≤ n ∧ iv = .int .i64 k ∧ cv = .int .u32 t ∧ Hid (Crc.sts (8 * k) c = t) ∧ Hid (t < 2 ^ 32) ∧ Below w.heap.size w wr) (fun _ i _ => n - (intOf i).toNat)
  case atStart => exact ⟨0, c, Nat.zero_le _, rfl, rfl, rfl, HC, Below.refl _ _⟩
  case round =>
    obtain ⟨k, t, hk, rfl, rfl, HT, HL, hbel⟩ := hrel
    have HBE := Lib.hid hbel
    clear hbel
    by_cases hkn : k < n
    · have hkni : (k : Int) < (n : Int) := by omega
      obtain ⟨d, hd⟩ : ∃ d, t / 256 = d := ⟨_, rfl⟩
      obtain ⟨x, hx⟩ : ∃ x, t % 256 = x := ⟨_, rfl⟩
      obtain ⟨R, hR⟩ : ∃ R, Crc.reg 0 [x] = R := ⟨_, rfl⟩
      obtain ⟨t2, ht2⟩ : ∃ t2, Crc.sts 8 t = t2 := ⟨_, rfl⟩
      have hx256 : x < 256 := by omega
      have HXB : Hid (∀ y ∈ [x], y < 256) := by intro y hy; obtain rfl := List.mem_singleton.1 hy; exact hx256
      have hlow := Crc.sts8_low t
      rw [hd, hx, hR, ht2] at hlow
      have hxor : bits .xor .u32 (d : Int) (R : Int) = (t2 : Int) := xb (by have := HL.out; omega) (by rw [← hR]; exact Crc.reg_lt HXB.out (by decide)) hlow
      have hd1 : (t : Int) / 256 = (d : Int) := by omega
      have hd2 : (t : Int).tdiv 256 = (d : Int) := by rw [Int.tdiv_eq_ediv_of_nonneg (by omega)]; exact hd1
      have hd4 : (d : Int) % 4294967296 = (d : Int) := by have := HL.out; omega
      have hx1 : (t : Int) % 256 = (x : Int) := by omega
      have hx2 : (t : Int).tmod 256 = (x : Int) := by rw [Int.tmod_eq_emod_of_nonneg (by omega)]; exact hx1
      have hx3 : (x : Int) < 256 := by omega
      have hx4 : (x : Int) % 256 = (x : Int) := by omega
      have HR2 := Lib.hid hR
      have HT2 : Hid (Crc.sts (8 * (k + 1)) c = t2) := by
        show _ = _
        rw [show 8 * (k + 1) = 8 + 8 * k by omega, Crc.sts_add, HT.out]; exact ht2
      have HL2 : Hid (t2 < 2 ^ 32) := by show _ < _; rw [← ht2]; exact Crc.sts_lt _ HL.out
      have HA1 : Hid (Below wr.heap.size wr (wr.alloc (.cells #[.int .u8 x] 5))) := (Below.refl _ wr).alloc (Nat.le_refl _) _
      have HS1 : Hid (Seen (wr.alloc (.cells #[.int .u8 x] 5)) (wr.heap.size + 1) .u8 (some ⟨wr.heap.size, 0, none⟩) [x]) := seen_new wr [x] _ _ _ rfl _ rfl
      have HSZ : Hid (wr.heap.size + 1 ≤ (wr.alloc (.cells #[.int .u8 x] 5)).heap.size) := by show _ ≤ _; simp
      clear hd hx hR ht2 hlow
      go_wp2_with (go_at_call 39; ((with_reducible refine (rlin_any (some ⟨wr.heap.size, 0, none⟩) 1 1 [x] rfl (by decide) HXB.out (wr.heap.size + 1) _ HS1.out HSZ.out R HR2.out).mono ?_); rintro e w2 ⟨rfl, hb2⟩; have HB2 := Lib.hid (HA1.out.trans (hb2.mono HA1.out.size)); clear hb2))
      exact ⟨⟨k + 1, t2, hkn, rfl, rfl, HT2, HL2, HBE.out.trans (HB2.out.mono HBE.out.size)⟩, by simp [intOf]; omega⟩
    · obtain rfl : k = n := by omega
      obtain rfl : t = r := HT.out.symm.trans HR.out
      go_wp2
      go_ret2
      exact ⟨rfl, HBE.out⟩

set_option maxRecDepth 100000 in
set_option maxHeartbeats 1000000 in
theorem shifts_any (a b : Nat) (n : Int) (ha : a < 2 ^ 32) (hb : b < 2 ^ 32) (hn : n ≤ 400 ∨ 16777216 < n) (w : World) :
    Calls Tryd.prog 17 #[.int .u32 a, .int .u32 b, .int .i64 n] w fun e w' => e = .returned (.bool true) ∧ Below w.heap.size w w' := by
  have HA := Lib.hid ha
  have HB := Lib.hid hb
  clear ha hb
  by_cases h : n < 0 ∨ 16777216 < n
  · have HN := Lib.hid h
    clear h hn
    go_enter Tryd.func17, Tryd.ntmps17
    go_wp2_with (first
      | (go_at_call 22; ((with_reducible refine (shift_arg _ n HN.out _).mono ?_); rintro e w1 ⟨rfl, rfl⟩))
      | (go_at_call 41; ((with_reducible refine (rshift_arg _ n HN.out _).mono ?_); rintro e w1 ⟨rfl, rfl⟩))
      | (go_at_call 34; ((with_reducible refine (join_arg _ _ n HN.out _).mono ?_); rintro e w1 ⟨rfl, rfl⟩)))
    go_ret
    exact ⟨rfl, Below.refl _ _⟩
  · obtain ⟨m, rfl⟩ : ∃ m : Nat, n = (m : Int) := ⟨n.toNat, by omega⟩
    obtain ⟨s, hs⟩ : ∃ s, Crc.sts (8 * m) a = s := ⟨_, rfl⟩
    have hsl : s < 2 ^ 32 := by rw [← hs]; exact Crc.sts_lt _ HA.out
    obtain ⟨j, hj⟩ : ∃ j, s ^^^ b = j := ⟨_, rfl⟩
    have hx : bits .xor .u32 (s : Int) (b : Int) = (j : Int) := xb hsl HB.out hj
    have HS := Lib.hid hs
    have HJ : Hid (Crc.sts (8 * m) a ^^^ b = j) := by show _ = _; rw [hs]; exact hj
    have HM : Hid (m ≤ 400) := by show _ ≤ _; omega
    have HM2 : Hid (m ≤ 16777216) := by show _ ≤ _; omega
    clear h hn hs hj hsl
    go_enter Tryd.func17, Tryd.ntmps17
    go_wp2_with (first
      | (go_at_call 22; ((with_reducible refine (shift_any a m HA.out HM2.out s HS.out _).mono ?_); rintro e w1 ⟨rfl, hb1⟩; have HB1 := Lib.hid hb1; clear hb1))
      | (go_at_call 41; ((with_reducible refine (rshift_any a m HA.out HM.out s HS.out _).mono ?_); rintro e w2 ⟨rfl, hb2⟩; have HB2 := Lib.hid (HB1.out.trans (hb2.mono HB1.out.size)); clear hb2))
      | (go_at_call 34; ((with_reducible refine (join_any a b m HA.out HB.out HM2.out j HJ.out _).mono ?_); rintro e w3 ⟨rfl, hb3⟩; have HB3 := Lib.hid (HB2.out.trans (hb3.mono HB2.out.size)); clear hb3)))
    go_ret
    exact ⟨rfl, HB3.out⟩

set_option maxRecDepth 100000 in
set_option maxHeartbeats 1000000 in
theorem cshifts_law (a b : Nat) (n : Int) (ha : a < 2 ^ 32) (hb : b < 2 ^ 32) (w : World) (hT : HT w) :
    Calls Tryd.prog 4 #[.int .u32 a, .int .u32 b, .int .i64 n] w fun e w' => e = .returned (.bool true) ∧ Below w.heap.size w w' := by
  have HA := Lib.hid ha
  have HB := Lib.hid hb
  have HTT : Hid (HT w) := hT
  clear ha hb hT
  by_cases h1 : 400 < n
  · by_cases h2 : n ≤ 16777216
    · go_enter Tryd.func4, Tryd.ntmps4
      go_wp2_with (go_at_call 15; ((with_reducible refine (awake_any _ HTT.out).mono ?_); rintro e w1 ⟨rfl, hb1⟩))
      go_ret
      exact ⟨rfl, hb1⟩
    · have h2b : decide (n ≤ 16777216) = false := by simp; omega
      have HN : Hid (n ≤ 400 ∨ 16777216 < n) := by show _ ∨ _; omega
      go_enter Tryd.func4, Tryd.ntmps4
      go_wp2_with (first
        | (go_at_call 17; ((with_reducible refine (shifts_any a b n HA.out HB.out HN.out _).mono ?_); rintro e w1 ⟨rfl, hb1⟩; have HB1 := Lib.hid hb1; clear hb1))
        | (go_at_call 15; ((with_reducible refine (awake_any _ (HTT.out.below HB1.out)).mono ?_); rintro e w2 ⟨rfl, hb2⟩)))
      go_ret
      exact ⟨rfl, HB1.out.trans (hb2.mono HB1.out.size)⟩
  · have h1b : decide (400 < n) = false := by simp; omega
    have HN : Hid (n ≤ 400 ∨ 16777216 < n) := by show _ ∨ _; omega
    go_enter Tryd.func4, Tryd.ntmps4
    go_wp2_with (first
      | (go_at_call 17; ((with_reducible refine (shifts_any a b n HA.out HB.out HN.out _).mono ?_); rintro e w1 ⟨rfl, hb1⟩; have HB1 := Lib.hid hb1; clear hb1))
      | (go_at_call 15; ((with_reducible refine (awake_any _ (HTT.out.below HB1.out)).mono ?_); rintro e w2 ⟨rfl, hb2⟩)))
    go_ret
    exact ⟨rfl, HB1.out.trans (hb2.mono HB1.out.size)⟩

theorem cshifts_walk (a0 a1 a2 : Int) (w : World) (w0 : (Lit.int .u32 a0).wf = true) (w1 : (Lit.int .u32 a1).wf = true) (w2 : (Lit.int .i64 a2).wf = true) (wx : HT w) :
    Calls Tryd.prog 4 #[.int .u32 a0, .int .u32 a1, .int .i64 a2] w fun e w' => e = .returned (.bool true) ∧ Below w.heap.size w w' := by
  have b0 := bounds_u32 w0
  have b1 := bounds_u32 w1
  obtain ⟨x0, rfl⟩ : ∃ x : Nat, a0 = (x : Int) := ⟨a0.toNat, by omega⟩
  obtain ⟨x1, rfl⟩ : ∃ x : Nat, a1 = (x : Int) := ⟨a1.toNat, by omega⟩
  exact cshifts_law x0 x1 a2 (by omega) (by omega) w wx

end Go.Proofs.YtoecddkglenigaaDoor
