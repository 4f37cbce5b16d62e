/-
  Linear, Update, Sum, Sealed.
-/
import Derived.Test.YtoecddkglenigaaDoorReg
namespace Go.Proofs.YtoecddkglenigaaDoor
open Go.RowKit
set_option linter.unusedVariables false

theorem register_zero (a : Option Addr) (n cap : Nat) (xs : List Nat) (hxs : ∀ y ∈ xs, y < 256) (hn : xs.length = n) (hlen : n ≤ maxLen) (r : Nat) (hr : Crc.reg 0 xs = r) (w : World) (B : Nat)
    (hS : Seen w B .u8 a xs) (hT : HT w) : Calls Tryd.prog 56 #[.int .u32 0, .slice a n cap] w fun e w' => e = .returned (.int .u32 r) ∧ w = w' := register_any 0 (by decide) a n cap xs hxs hn hlen r hr w B hS hT

section
variable (a : Option Addr) (n cap : Nat) (xs : List Nat) (hxs : ∀ y ∈ xs, y < 256) (hn : xs.length = n) (hlen : n ≤ maxLen) (w : World) (B : Nat) (hS : Seen w B .u8 a xs) (hT : HT w)
include hxs hn hlen hS hT

theorem linear_any (r : Nat) (hr : Crc.reg 0 xs = r) : Calls Tryd.prog 31 #[.slice a n cap] w fun e w' => e = .returned (.int .u32 r) ∧ w = w' := by
  have HX : Hid (∀ y ∈ xs, y < 256) := hxs
  have HN := Lib.hid hn
  have HR := Lib.hid hr
  have HL := Lib.hid hlen
  have HS : Hid (Seen w B .u8 a xs) := hS
  have HT' : Hid (HT w) := hT
  clear hxs hn hlen hr hS hT
  go_enter Tryd.func31, Tryd.ntmps31
  go_wp2_with (go_at_call 56; ((with_reducible refine (register_zero a n cap xs HX.out HN.out HL.out r HR.out _ B HS.out HT'.out).mono ?_); rintro e w1 ⟨rfl, rfl⟩))
  go_ret
  exact ⟨rfl, rfl⟩

theorem update_any (c : Nat) (hc : c < 2 ^ 32) (r : Nat) (hr : Crc.upd c xs = r) : Calls Tryd.prog 35 #[.int .u32 c, .slice a n cap] w fun e w' => e = .returned (.int .u32 r) ∧ w = w' := by
  obtain ⟨c', hc'⟩ : ∃ c', c ^^^ 4294967295 = c' := ⟨_, rfl⟩
  obtain ⟨r', hr'⟩ : ∃ r', Crc.reg c' xs = r' := ⟨_, rfl⟩
  have hl : c' < 2 ^ 32 := by rw [← hc']; exact Gf.xor_lt hc (by decide)
  have hrl : r' < 2 ^ 32 := by rw [← hr']; exact Crc.reg_lt hxs hl
  have hcx : bits .xor .u32 IntKind.u32.max (c : Int) = (c' : Int) := xb (a := 4294967295) (by decide) hc (by rw [Nat.xor_comm]; exact hc')
  have hrx : bits .xor .u32 IntKind.u32.max (r' : Int) = (r : Int) := xb (a := 4294967295) (by decide) hrl (by rw [Nat.xor_comm, ← hr', ← hc', ← hr]; rfl)
  have HC' := Lib.hid hl
  have HR' := Lib.hid hr'
  have HX : Hid (∀ y ∈ xs, y < 256) := hxs
  have HN := Lib.hid hn
  have HL := Lib.hid hlen
  have HS : Hid (Seen w B .u8 a xs) := hS
  have HT' : Hid (HT w) := hT
  clear hxs hn hlen hr hS hT hc hc' hr' hl hrl
  go_enter Tryd.func35, Tryd.ntmps35
  go_wp2_with (go_at_call 56; ((with_reducible refine (register_any c' HC'.out a n cap xs HX.out HN.out HL.out r' HR'.out _ B HS.out HT'.out).mono ?_); rintro e w1 ⟨rfl, rfl⟩))
  go_ret
  exact ⟨rfl, rfl⟩

theorem update_zero (r : Nat) (hr : Crc.upd 0 xs = r) : Calls Tryd.prog 35 #[.int .u32 0, .slice a n cap] w fun e w' => e = .returned (.int .u32 r) ∧ w = w' :=
  update_any a n cap xs hxs hn hlen w B hS hT 0 (by decide) r hr

theorem sum_any (r : Nat) (hr : Crc.upd 0 xs = r) : Calls Tryd.prog 32 #[.slice a n cap] w fun e w' => e = .returned (.int .u32 r) ∧ w = w' := by
  have HX : Hid (∀ y ∈ xs, y < 256) := hxs
  have HN := Lib.hid hn
  have HR := Lib.hid hr
  have HL := Lib.hid hlen
  have HS : Hid (Seen w B .u8 a xs) := hS
  have HT' : Hid (HT w) := hT
  clear hxs hn hlen hr hS hT
  go_enter Tryd.func32, Tryd.ntmps32
  go_wp2_with (go_at_call 35; ((with_reducible refine (update_zero a n cap xs HX.out HN.out HL.out _ B HS.out HT'.out r HR.out).mono ?_); rintro e w1 ⟨rfl, rfl⟩))
  go_ret
  exact ⟨rfl, rfl⟩

theorem sealed_any (r : Bool) (hr : decide (4 ≤ n ∧ Crc.upd 0 xs = 558161692) = r) : Calls Tryd.prog 27 #[.slice a n cap] w fun e w' => e = .returned (.bool r) ∧ w = w' := by
  have HX : Hid (∀ y ∈ xs, y < 256) := hxs
  have HN := Lib.hid hn
  have HL := Lib.hid hlen
  have HS : Hid (Seen w B .u8 a xs) := hS
  have HT' : Hid (HT w) := hT
  obtain ⟨s, hs⟩ : ∃ s, Crc.upd 0 xs = s := ⟨_, rfl⟩
  rw [hs] at hr
  have HSM := Lib.hid hs
  unfold maxLen at hlen
  by_cases h4 : n < 4
  · have hr2 : r = false := by rw [← hr]; simp; omega
    subst hr2
    have h4i : ¬ (4 : Int) ≤ (n : Int) := by omega
    have h4b : decide ((4 : Int) ≤ (n : Int)) = false := by simp; omega
    clear hxs hn hlen hS hT hs hr
    go_enter Tryd.func27, Tryd.ntmps27
    go_wp2
    go_ret
    exact ⟨rfl, rfl⟩
  · have h4i : (4 : Int) ≤ (n : Int) := by omega
    have hsb : ((s : Int) == 558161692) = r := by
      rw [← hr, Bool.eq_iff_iff]
      simp
      omega
    clear hxs hn hlen hS hT hs hr
    go_enter Tryd.func27, Tryd.ntmps27
    go_wp2_with (go_at_call 32; ((with_reducible refine (sum_any a n cap xs HX.out HN.out HL.out _ B HS.out HT'.out s HSM.out).mono ?_); rintro e w1 ⟨rfl, rfl⟩))
    go_ret
    first
      | exact ⟨rfl, rfl⟩
      | exact ⟨congrArg (fun b => Ending.returned (Value.bool b)) hsb, rfl⟩
end
end Go.Proofs.YtoecddkglenigaaDoor
