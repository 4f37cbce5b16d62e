/-
  The lowest bit of a word; a word without it.
-/
import Derived.Test.YtkochcolmkgkgaaDoorPop
import Derived.Test.YtkochcolmkgkgaaDoorWords
import Derived.Laws.BitsAllLaws
import Derived.IntWalk
namespace Go.Proofs.YtkochcolmkgkgaaDoor
open Go.RowKit
set_option linter.unusedVariables false

/-- The table of TrailingZeros64 in memory. -/
def HT (w : World) : Prop := ∀ i : Nat, i < 64 → w.cell? ⟨0, i, none⟩ = some (.int .u8 (Lib.deBruijn64tab.getD i 0))
theorem HT.pos {w : World} (h : HT w) : 0 < w.heap.size := by
  have h1 := h 0 (by decide)
  rcases Nat.eq_zero_or_pos w.heap.size with h0 | h0
  · rw [World.cell?] at h1
    simp [h0] at h1
  · exact h0
theorem HT.below {w w' : World} {B : Nat} (h : HT w) (hb : Below B w w') (hB : 0 < B) : HT w' := fun i hi => (hb.cell (p := ⟨0, i, none⟩) hB).trans (h i hi)

theorem tz_key (x a : Nat) (hx : x < 18446744073709551616) (hx0 : x ≠ 0) (hlow : x &&& (18446744073709551616 - x) = a) :
    IntKind.u64.wrap (bits BinOp.and IntKind.u64 (x : Int) (IntKind.u64.wrap (-(x : Int))) * 285870213051353865) / 288230376151711744 = ((a * 285870213051353865 % 18446744073709551616 / 288230376151711744 : Nat) : Int) := by
  have e1 : IntKind.u64.wrap (-(x : Int)) = ((18446744073709551616 - x : Nat) : Int) := by rw [IntKind.wrap_u64]; omega
  rw [e1, bits_and_u64_nat x _ hx (by omega), hlow, IntKind.wrap_u64]
  omega
theorem tz_core (x k idx : Nat) (w : World) (hx0 : ((x : Int) == 0) = false)
    (key : IntKind.u64.wrap (bits BinOp.and IntKind.u64 (x : Int) (IntKind.u64.wrap (-(x : Int))) * 285870213051353865) / 288230376151711744 = (idx : Int))
    (hi : idx < 64) (hk : k < 64) (hcell : w.cell? ⟨0, idx, none⟩ = some (.int .u8 k)) :
    Calls Tryd.prog 70 #[.int .u64 x] w fun e w' => e = .returned (.int .i64 k) ∧ w = w' := by
  go_enter Tryd.func70, Tryd.ntmps70
  go_wp2_with (simp only [key])
  go_ret
  exact ⟨rfl, rfl⟩
theorem tz_any (x : Nat) (hx : x < 2 ^ 64) (h0 : x ≠ 0) (w : World) (hT : HT w) :
    Calls Tryd.prog 70 #[.int .u64 x] w fun e w' => e = .returned (.int .i64 (Lib.ctz 64 x)) ∧ w = w' := by
  obtain ⟨hlow, hk⟩ := Lib.lowest_bit 64 x h0 hx
  obtain ⟨hi, htab⟩ := Lib.deBruijn64_at _ hk
  have hcell := hT _ hi
  rw [htab] at hcell
  exact tz_core x _ _ w (by simp; omega) (tz_key x _ hx h0 hlow) hi hk hcell
theorem least_any (x k : Nat) (hx : x < 2 ^ 64) (h0 : x ≠ 0) (hk : Lib.ctz 64 x = k) (w : World) (hT : HT w) :
    Calls Tryd.prog 59 #[.int .u64 x] w fun e w' => e = .returned (.int .i64 k) ∧ w = w' := by
  subst hk
  have HX := Lib.hid hx
  have H0 := Lib.hid h0
  have HTT : Hid (HT w) := hT
  clear hx h0 hT
  go_enter Tryd.func59, Tryd.ntmps59
  go_wp2_with (go_at_call 70; ((with_reducible refine (tz_any x HX.out H0.out _ HTT.out).mono ?_); rintro e w1 ⟨rfl, rfl⟩))
  go_ret
  exact ⟨rfl, rfl⟩
theorem without_any (x r : Nat) (hx : x < 2 ^ 64) (h0 : x ≠ 0) (hr : Bm.wl x = r) (w : World) :
    Calls Tryd.prog 58 #[.int .u64 x] w fun e w' => e = .returned (.int .u64 r) ∧ w = w' := by
  have e1 : IntKind.u64.wrap ((x : Int) - 1) = ((x - 1 : Nat) : Int) := by rw [IntKind.wrap_u64]; omega
  have e2 : bits .and .u64 (x : Int) ((x - 1 : Nat) : Int) = (r : Int) := by
    rw [← hr]; exact bits_and_u64_nat x (x - 1) hx (by omega)
  clear hr hx h0
  go_enter Tryd.func58, Tryd.ntmps58
  go_wp2
  go_ret
  first
  | exact ⟨rfl, rfl⟩
  | exact ⟨by rw [e1, e2], rfl⟩
  | (trace_state; sorry)

end Go.Proofs.YtkochcolmkgkgaaDoor
