/-
  The reference's linear part.
-/
import Derived.Test.YtoecddkglenigaaDoorRBits
namespace Go.Proofs.YtoecddkglenigaaDoor
open Go.RowKit
set_option linter.unusedVariables false

namespace Crc
/-- The first k bits in the opposite order. -/
def up (r : Nat) : Nat → Nat
  | 0 => 0
  | k + 1 => 2 * up r k + r / 2 ^ k % 2
theorem up_lt (r : Nat) : ∀ k, up r k < 2 ^ k
  | 0 => by show 0 < 2 ^ 0; decide
  | k + 1 => by
    have h1 := up_lt r k
    show 2 * up r k + r / 2 ^ k % 2 < _
    rw [Nat.pow_succ]; omega
theorem up_xor (a b : Nat) : ∀ k, up (a ^^^ b) k = up a k ^^^ up b k
  | 0 => by show 0 = 0 ^^^ 0; rfl
  | k + 1 => by
    have e (r : Nat) : up r (k + 1) = (2 ^ 1 * up r k) ^^^ (r / 2 ^ k % 2) := by
      rw [← add_xor _ _ _ (by omega)]; rfl
    rw [e, e a, e b, up_xor a b k]
    have h1 : (a ^^^ b) / 2 ^ k % 2 = (a / 2 ^ k % 2) ^^^ (b / 2 ^ k % 2) := by
      have h := sum_bit a b 0 k
      rw [Nat.pow_zero, Nat.mul_one, if_pos (Nat.zero_le _), Nat.sub_zero] at h
      rw [h]
      have h3 : a / 2 ^ k % 2 = 0 ∨ a / 2 ^ k % 2 = 1 := by omega
      have h4 : b / 2 ^ k % 2 = 0 ∨ b / 2 ^ k % 2 = 1 := by omega
      rcases h3 with h3 | h3 <;> rcases h4 with h4 | h4 <;> rw [h3, h4] <;> rfl
    rw [h1, Nat.pow_one, Gf.two_xor]
    ac_rfl
theorem up_32 (r : Nat) (h : r < 2 ^ 32) : up r 32 = rvN r 32 := by
  refine lin (fun r => up r 32) (fun r => rvN r 32) (fun a b => up_xor a b 32) (fun a b => rvN_xor a b) 32 ?_ r h
  intro i hi
  have h : ∀ i : Fin 32, up (2 ^ i.val) 32 = rvN (2 ^ i.val) 32 := by decide +kernel
  exact h ⟨i, hi⟩
theorem up_more (r n : Nat) (h : r < 2 ^ n) : ∀ j, up r (n + j) = 2 ^ j * up r n
  | 0 => by simp
  | j + 1 => by
    show 2 * up r (n + j) + r / 2 ^ (n + j) % 2 = _
    rw [up_more r n h j, Nat.div_eq_of_lt (Nat.lt_of_lt_of_le h (Nat.pow_le_pow_right (by decide) (by omega))), Nat.pow_succ, Nat.mul_comm (2 ^ j) 2, Nat.mul_assoc]; rfl
theorem up_end (r n : Nat) (hn : Gf.len r = n) (h : n ≤ 32) : 2 ^ (32 - n) * up r n = rvN r 32 := by
  have hr : r < 2 ^ n := Gf.len_le.1 (Nat.le_of_eq hn)
  rw [← up_more r n hr, show n + (32 - n) = 32 by omega]
  exact up_32 r (Nat.lt_of_lt_of_le hr (Nat.pow_le_pow_right (by decide) h))
theorem up_part (r k : Nat) (hk : k < 32) : 2 ^ (32 - k) * up r k + 2 ^ (31 - k) * (r / 2 ^ k % 2) = 2 ^ (32 - (k + 1)) * up r (k + 1) := by
  show _ = _ * (2 * up r k + r / 2 ^ k % 2)
  rw [show 32 - k = (31 - k) + 1 by omega, show 32 - (k + 1) = 31 - k by omega, Nat.pow_succ, Nat.mul_add, Nat.mul_assoc]
theorem up_bound (r k : Nat) (hk : k ≤ 32) : 2 ^ (32 - k) * up r k < 2 ^ 32 := by
  have h := Nat.mul_lt_mul_of_pos_left (up_lt r k) (Nat.pow_pos (n := 32 - k) (show 0 < 2 by decide))
  rw [← Nat.pow_add, show 32 - k + k = 32 by omega] at h
  exact h
end Crc

theorem of_G (w : World) : Calls Tryd.prog 61 #[.int .u64 4374732215] w fun e w' => ∃ v, e = .returned v ∧ w'.ownsRow w.heap.size 3 1 v 33 ((bq 4374732215 33).map fun x : Nat => Value.int .i64 x) ∧ Below w.heap.size w w' := by
  have h := of_any 4374732215 (by decide) w
  exact h.mono fun e w' h => by
    obtain ⟨v, n, h1, h2, h3, h4⟩ := h
    obtain rfl : n = 33 := h2.symm.trans Crc.len_G
    exact ⟨v, h1, h3, h4⟩

set_option maxRecDepth 100000 in
set_option maxHeartbeats 2000000 in
theorem rlin_any (a : Option Addr) (c m : Nat) (xs : List Nat) (hm : xs.length = m) (hm5 : m ≤ 300) (hbs : ∀ y ∈ xs, y < 256) (B : Nat) (w : World) (hS : Seen w B .u8 a xs) (hB : B ≤ w.heap.size) (R : Nat) (hR : Crc.reg 0 xs = R) :
    Calls Tryd.prog 39 #[.slice a m c] w fun e w' => e = .returned (.int .u32 R) ∧ Below w.heap.size w w' := by
  obtain ⟨S, hSv⟩ : ∃ S, 4294967296 * Crc.hb xs (8 * m) = S := ⟨_, rfl⟩
  obtain ⟨r0, hr0⟩ : ∃ r, Gf.pmod S Crc.G = r := ⟨_, rfl⟩
  have HR0 := Lib.hid hr0
  have HRV : Hid (rvN r0 32 = R) := by
    show _ = _
    rw [← hr0, ← hSv, Crc.linear_def xs hbs m hm, hR]
  have HM := Lib.hid hm
  have HM5 := Lib.hid hm5
  have HS : Hid (Seen w B .u8 a xs) := hS
  have HB := Lib.hid hB
  have HSV := Lib.hid hSv
  have HBS : Hid (∀ y ∈ xs, y < 256) := hbs
  have HG : Hid (4374732215 < 2 ^ 64) := by show _ < _; decide
  have HL33 : Hid (Gf.len 4374732215 = 33) := Crc.len_G
  have HG0 : Hid (4374732215 ≠ 0) := Crc.G_ne
  clear hm hm5 hS hB hbs hSv hr0 hR
  go_enter Tryd.func39, Tryd.ntmps39
  go_wp2_with (first
    | (go_at_call 60; ((with_reducible refine (bits_any a c m xs HM.out HM5.out HBS.out B _ HS.out HB.out S HSV.out).mono ?_); rintro e w1 ⟨g, cap, n, rfl, hn, hn3, hSn, hb1⟩; have HN := Lib.hid hn; have HN3 := Lib.hid hn3; have HSN : Hid (Seen w1 w1.heap.size .i64 (some ⟨g, 0, none⟩) (bq S n)) := hSn; have HB1 := Lib.hid hb1; clear hn hn3 hSn hb1))
    | (go_at_call 61; ((with_reducible refine (of_G _).mono ?_); rintro e w2 ⟨v2, rfl, hown2, hb2⟩; have HB2 := Lib.hid hb2; obtain ⟨Q2, cq2, rfl, hSQ2, _, _, _⟩ := own_slice hown2; have HSQ2 : Hid (Seen w2 w2.heap.size .i64 Q2 (bq 4374732215 33)) := hSQ2; clear hown2 hb2 hSQ2))
    | (go_at_call 59; ((with_reducible refine (divide_any S 4374732215 n 33 HN.out HL33.out HG0.out HN3.out (by decide) _ Q2 cap cq2 w2 ((HSN.out.below HB2.out).more HB2.out.size) HSQ2.out).mono ?_); rintro e w3 ⟨Qq, cqq, Rr, crr, qq, rr, lq, lr, rfl, _, hrr, _, hlr, _, hSR, hb3⟩; have HRR : Hid (rr = r0) := hrr.symm.trans HR0.out; have HLR := Lib.hid hlr; have HSR : Hid (Seen w3 w3.heap.size .i64 Rr (bq rr lr)) := hSR; have HB3 : Hid (Below w.heap.size w w3) := (HB1.out.trans (HB2.out.mono HB1.out.size)).trans (hb3.mono (Nat.le_trans HB1.out.size HB2.out.size)); clear hrr hlr hSR hb3)))
  have hlr : lr ≤ 32 := by
    have h1 : rr < 2 ^ 32 := by rw [HRR.out, ← HR0.out]; exact Crc.pmod_G S
    have h2 := Gf.len_le.2 h1
    have h3 := HLR.out
    omega
  have HUE : Hid (2 ^ (32 - lr) * Crc.up rr lr = R) := by
    show _ = _
    rw [Crc.up_end rr lr HLR.out hlr, HRR.out]; exact HRV.out
  go_loopw [5, 6] (fun cv iv wr => ∃ k t : Nat, k ≤ lr ∧ iv = .int .i64 k ∧ cv = .int .u32 t ∧ Hid (2 ^ (32 - k) * Crc.up rr k = t) ∧ w3 = wr) (fun _ i _ => lr - (intOf i).toNat)
  case atStart => exact ⟨0, 0, Nat.zero_le _, rfl, rfl, Nat.mul_zero _, rfl⟩
  case round =>
    obtain ⟨k, t, hk, rfl, rfl, HT, rfl⟩ := hrel
    by_cases hkl : k < lr
    · obtain ⟨bA, off, rfl, _, hcell0⟩ := HSR.out.at (i := k) (by rw [bq_len]; exact hkl)
      have hcell : w3.cell? ⟨bA, off + k, none⟩ = some (.int .i64 ((rr / 2 ^ k % 2 : Nat) : Int)) := by rw [hcell0]; simp [bq]
      clear hcell0
      have hkli : (k : Int) < (lr : Int) := by omega
      obtain ⟨t2, ht2⟩ : ∃ t2, 2 ^ (32 - (k + 1)) * Crc.up rr (k + 1) = t2 := ⟨_, rfl⟩
      have hup := Crc.up_part rr k (by omega)
      have hub := Crc.up_bound rr (k + 1) (by omega)
      rw [HT.out, ht2] at hup
      rw [ht2] at hub
      have HT2 := Lib.hid ht2
      by_cases hb : rr / 2 ^ k % 2 = 0
      · rw [hb] at hcell
        rw [hb, Nat.mul_zero, Nat.add_zero] at hup
        subst hup
        clear hb hub ht2
        go_wp2
        exact ⟨⟨k + 1, t, hkl, rfl, rfl, HT2, trivial⟩, by simp [intOf]; omega⟩
      · have hb1 : rr / 2 ^ k % 2 = 1 := by omega
        rw [hb1] at hcell
        rw [hb1, Nat.mul_one] at hup
        obtain ⟨j, hj⟩ : ∃ j, 31 - k = j := ⟨_, rfl⟩
        have hji : (31 : Int) - (k : Int) = (j : Int) := by omega
        obtain ⟨s, hs⟩ : ∃ s, 2 ^ j = s := ⟨_, rfl⟩
        rw [hj, hs] at hup
        have hsi : (2 : Int) ^ j = (s : Int) := by rw [← hs]; exact (cast_pow j).symm
        have hti : (t : Int) + (s : Int) = (t2 : Int) := by omega
        have ht5 : (t2 : Int) < 4294967296 := by omega
        have hs5 : (s : Int) < 4294967296 := by omega
        have hmod : (t2 : Int) % 4294967296 = (t2 : Int) := by omega
        have hmods : (s : Int) % 4294967296 = (s : Int) := by omega
        clear hb hb1 hub ht2 hup hs hj
        go_wp2
        exact ⟨⟨k + 1, t2, hkl, rfl, rfl, HT2, trivial⟩, by simp [intOf]; omega⟩
    · obtain rfl : k = lr := by omega
      obtain rfl : t = R := HT.out.symm.trans HUE.out
      go_wp2
      go_ret
      exact ⟨rfl, HB3.out⟩

end Go.Proofs.YtoecddkglenigaaDoor
