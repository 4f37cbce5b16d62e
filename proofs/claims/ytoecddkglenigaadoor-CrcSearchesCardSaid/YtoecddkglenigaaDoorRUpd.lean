/-
  The reference's Update, Sum.
-/
import Derived.Test.YtoecddkglenigaaDoorRShift
namespace Go.Proofs.YtoecddkglenigaaDoor
open Go.RowKit
set_option linter.unusedVariables false

namespace Crc
theorem compl (c : Nat) (h : c < 2 ^ 32) : 4294967295 - c = c ^^^ 4294967295 := by
  have e : (4294967295 - c) = (c ^^^ 4294967295) := by
    have h1 : ∀ n, ∀ c, c < 2 ^ n → (2 ^ n - 1) - c = c ^^^ (2 ^ n - 1) := by
      intro n
      induction n with
      | zero => intro c hc; obtain rfl : c = 0 := by simpa using hc
                rfl
      | succ n ih =>
        intro c hc
        have hp : 2 ^ (n + 1) = 2 * 2 ^ n := by rw [Nat.pow_succ]; omega
        have hpos : 0 < 2 ^ n := Nat.pow_pos (by decide)
        have i := ih (c / 2) (by omega)
        have e1 : 2 ^ (n + 1) - 1 = (2 ^ 1 * (2 ^ n - 1)) ^^^ 1 := by rw [← add_xor _ _ _ (by decide)]; omega
        have e2 : c = (2 ^ 1 * (c / 2)) ^^^ (c % 2) := by rw [← add_xor _ _ _ (show c % 2 < 2 ^ 1 by omega)]; omega
        have e3 : c ^^^ (2 ^ (n + 1) - 1) = (2 ^ 1 * ((2 ^ n - 1) - c / 2)) ^^^ (c % 2 ^^^ 1) := by
          conv => lhs; rw [e1, e2]
          rw [i, Nat.pow_one, Gf.two_xor]
          ac_rfl
        have h2 : c % 2 = 0 ∨ c % 2 = 1 := by omega
        rw [e3]
        rcases h2 with h2 | h2 <;> rw [h2, ← add_xor _ _ _ (by decide)]
        · show _ = _ + 1; omega
        · show _ = _ + 0; omega
    exact h1 32 c h
  exact e
theorem sts8_in (t x : Nat) (hx : x < 256) : t / 256 ^^^ reg 0 [t % 256 ^^^ x] = sts 8 (t ^^^ x) := by
  have h := sts8_low (t ^^^ x)
  have e1 : (t ^^^ x) / 256 = t / 256 := by
    have := Nat.xor_div_two_pow (a := t) (b := x) (n := 8)
    rw [show (2 : Nat) ^ 8 = 256 from rfl] at this
    rw [this, show x / 256 = 0 by omega, Nat.xor_zero]
  have e2 : (t ^^^ x) % 256 = t % 256 ^^^ x := by
    have := Nat.xor_mod_two_pow (a := t) (b := x) (n := 8)
    rw [show (2 : Nat) ^ 8 = 256 from rfl] at this
    rw [this, show x % 256 = x by omega]
  rw [e1, e2] at h
  exact h
end Crc

set_option maxRecDepth 100000 in
set_option maxHeartbeats 1000000 in
theorem rupd_any (c : Nat) (hc : c < 2 ^ 32) (a : Option Addr) (m cap : Nat) (xs : List Nat) (hm : xs.length = m) (hm5 : m ≤ 300) (hbs : ∀ y ∈ xs, y < 256) (B : Nat) (w : World) (hS : Seen w B .u8 a xs) (hB : B ≤ w.heap.size) (r : Nat) (hr : Crc.upd c xs = r) :
    Calls Tryd.prog 38 #[.int .u32 c, .slice a m cap] w fun e w' => e = .returned (.int .u32 r) ∧ Below w.heap.size w w' := by
  obtain ⟨c0, hc0⟩ : ∃ c0, 4294967295 - c = c0 := ⟨_, rfl⟩
  have hci : 4294967295 - (c : Int) = (c0 : Int) := by omega
  have hc0l : (c0 : Int) < 4294967296 := by omega
  have hc0m : (c0 : Int) % 4294967296 = (c0 : Int) := by omega
  have HC0 : Hid (Crc.reg c0 (xs.take 0) = c0) := by show _ = _; rw [List.take_zero]; rfl
  have HCL : Hid (c0 < 2 ^ 32) := by show _ < _; omega
  have HR : Hid (Crc.reg c0 xs ^^^ 4294967295 = r) := by show _ = _; rw [← hc0, Crc.compl c hc]; exact hr
  have HM := Lib.hid hm
  have HS : Hid (Seen w B .u8 a xs) := hS
  have HB := Lib.hid hB
  have HBS : Hid (∀ y ∈ xs, y < 256) := hbs
  have hm5i : (m : Int) ≤ 300 := by omega
  clear hc hm hS hB hbs hr hc0
  go_enter Tryd.func38, Tryd.ntmps38
  go_wp2
  go_loopw [0, 5] (fun cv iv wr => ∃ k t : Nat, k ≤ m ∧ iv = .int .i64 k ∧ cv = .int .u32 t ∧ Hid (Crc.reg c0 (xs.take k) = t) ∧ Hid (t < 2 ^ 32) ∧ Below w.heap.size w wr) (fun _ i _ => m - (intOf i).toNat)
  case atStart => exact ⟨0, c0, Nat.zero_le _, rfl, rfl, HC0, HCL, Below.refl _ _⟩
  case round =>
    obtain ⟨k, t, hk, rfl, rfl, HT, HL, hbel⟩ := hrel
    have HBE := Lib.hid hbel
    clear hbel
    by_cases hkn : k < m
    · have hkni : (k : Int) < (m : Int) := by omega
      obtain ⟨bA, off, hab, _, hcell⟩ := (HS.out.below (HBE.out.mono HB.out)).at (i := k) (by rw [HM.out]; exact hkn)
      subst hab
      have hxq : xs[k]? = some (xs[k]'(by rw [HM.out]; exact hkn)) := List.getElem?_eq_getElem _
      obtain ⟨y, hy⟩ : ∃ y, xs[k]'(by rw [HM.out]; exact hkn) = y := ⟨_, rfl⟩
      rw [hy] at hcell hxq
      have hy2 : y < 256 := by rw [← hy]; exact HBS.out _ (List.getElem_mem _)
      obtain ⟨d, hd⟩ : ∃ d, t / 256 = d := ⟨_, rfl⟩
      obtain ⟨x0, hx0⟩ : ∃ x0, t % 256 = x0 := ⟨_, rfl⟩
      obtain ⟨x, hx⟩ : ∃ x, x0 ^^^ y = x := ⟨_, rfl⟩
      obtain ⟨R, hR⟩ : ∃ R, Crc.reg 0 [x] = R := ⟨_, rfl⟩
      obtain ⟨t2, ht2⟩ : ∃ t2, Crc.sts 8 (t ^^^ y) = t2 := ⟨_, rfl⟩
      have hx0l : x0 < 256 := by omega
      have hx256 : x < 256 := by rw [← hx]; exact Gf.xor_lt (n := 8) hx0l hy2
      have hxor8 : bits .xor .u8 (x0 : Int) (y : Int) = (x : Int) := by rw [u8_xor_nat x0 y hx0l hy2, hx]
      have HXB : Hid (∀ y ∈ [x], y < 256) := by intro y hy; obtain rfl := List.mem_singleton.1 hy; exact hx256
      have hlow := Crc.sts8_in t y hy2
      rw [hd, hx0, hx, hR, ht2] at hlow
      have hxor : bits .xor .u32 (d : Int) (R : Int) = (t2 : Int) := xb (by have := HL.out; omega) (by rw [← hR]; exact Crc.reg_lt HXB.out (by decide)) hlow
      have hd1 : (t : Int) / 256 = (d : Int) := by omega
      have hd2 : (t : Int).tdiv 256 = (d : Int) := by rw [Int.tdiv_eq_ediv_of_nonneg (by omega)]; exact hd1
      have hd4 : (d : Int) % 4294967296 = (d : Int) := by have := HL.out; omega
      have hx1 : (t : Int) % 256 = (x0 : Int) := by omega
      have hx2 : (t : Int).tmod 256 = (x0 : Int) := by rw [Int.tmod_eq_emod_of_nonneg (by omega)]; exact hx1
      have hx3 : (x0 : Int) < 256 := by omega
      have hx4 : (x0 : Int) % 256 = (x0 : Int) := by omega
      have HR2 := Lib.hid hR
      have HT2 : Hid (Crc.reg c0 (xs.take (k + 1)) = t2) := by
        show _ = _
        rw [List.take_add_one, hxq]
        show Crc.reg c0 (_ ++ [y]) = _
        rw [Crc.reg_snoc, HT.out]; exact ht2
      have HL2 : Hid (t2 < 2 ^ 32) := by show _ < _; rw [← ht2]; exact Crc.sts_lt _ (Gf.xor_lt HL.out (by omega))
      have HA1 : Hid (Below wr.heap.size wr (wr.alloc (.cells #[.int .u8 x] 5))) := (Below.refl _ wr).alloc (Nat.le_refl _) _
      have HS1 : Hid (Seen (wr.alloc (.cells #[.int .u8 x] 5)) (wr.heap.size + 1) .u8 (some ⟨wr.heap.size, 0, none⟩) [x]) := seen_new wr [x] _ _ _ rfl _ rfl
      have HSZ : Hid (wr.heap.size + 1 ≤ (wr.alloc (.cells #[.int .u8 x] 5)).heap.size) := by show _ ≤ _; simp
      clear hd hx0 hx hR ht2 hlow hxq hy
      go_wp2_with (go_at_call 39; ((with_reducible refine (rlin_any (some ⟨wr.heap.size, 0, none⟩) 1 1 [x] rfl (by decide) HXB.out (wr.heap.size + 1) _ HS1.out HSZ.out R HR2.out).mono ?_); rintro e w2 ⟨rfl, hb2⟩; have HB2 := Lib.hid (HA1.out.trans (hb2.mono HA1.out.size)); clear hb2))
      exact ⟨⟨k + 1, t2, hkn, rfl, rfl, HT2, HL2, HBE.out.trans (HB2.out.mono HBE.out.size)⟩, by simp [intOf]; omega⟩
    · obtain rfl : k = m := by omega
      have hrr : 4294967295 - (t : Int) = (r : Int) := by
        have h1 := HR.out
        have h2 := HT.out
        rw [← HM.out, List.take_length] at h2
        rw [h2, ← Crc.compl t HL.out] at h1
        have := HL.out
        omega
      have hrm : (r : Int) % 4294967296 = (r : Int) := by have := HL.out; omega
      go_wp2
      go_ret
      exact ⟨rfl, HBE.out⟩

theorem rsum4_any (a : Option Addr) (m cap : Nat) (xs : List Nat) (hm : xs.length = m) (hm5 : m ≤ 300) (hbs : ∀ y ∈ xs, y < 256) (B : Nat) (w : World) (hS : Seen w B .u8 a xs) (hB : B ≤ w.heap.size) (r : Nat) (hr : Crc.upd 0 xs = r) :
    Calls Tryd.prog 37 #[.slice a m cap] w fun e w' => e = .returned (.int .u32 r) ∧ Below w.heap.size w w' := by
  have hU : Calls Tryd.prog 38 #[.int .u32 0, .slice a m cap] w fun e w' => e = .returned (.int .u32 r) ∧ Below w.heap.size w w' := rupd_any 0 (by decide) a m cap xs hm hm5 hbs B w hS hB r hr
  have HU : Hid (Calls Tryd.prog 38 #[.int .u32 0, .slice a m cap] w fun e w' => e = .returned (.int .u32 r) ∧ Below w.heap.size w w') := hU
  clear hU hm hm5 hbs hS hB hr
  go_enter Tryd.func37, Tryd.ntmps37
  go_wp2_with (go_at_call 38; ((with_reducible refine HU.out.mono ?_); rintro e w2 ⟨rfl, hb2⟩))
  go_ret
  exact ⟨rfl, hb2⟩

end Go.Proofs.YtoecddkglenigaaDoor
