/-
  Has.
-/
import Derived.Test.YtkochcolmkgkgaaDoorRight
namespace Go.Proofs.YtkochcolmkgkgaaDoor
open Go.RowKit
set_option linter.unusedVariables false

theorem bcell {W w1 : World} (hb : Below W.heap.size W w1) : (∀ b o, b < W.heap.size → w1.cell? ⟨b, o, none⟩ = W.cell? ⟨b, o, none⟩) ∧ (∀ b o, b < W.heap.size → w1.frozen? ⟨b, o, none⟩ = W.frozen? ⟨b, o, none⟩) :=
  ⟨fun b o h => hb.cell (p := ⟨b, o, none⟩) h, fun b o h => hb.frozen (p := ⟨b, o, none⟩) h⟩
theorem below_alloc {w w' : World} {o : Obj} (h : Below (w.alloc o).heap.size (w.alloc o) w') : Below w.heap.size w w' := ((Below.refl _ w).alloc (Nat.le_refl _) _).trans (h.mono (by simp))

section
variable (N : Nat) (a : Option Addr) (n c : Nat) (xs : List Nat) (hn : xs.length = n) (hR : Bm.Rt N xs) (w : World) (B : Nat) (hS : Seen w B .u64 a xs) (hB : B ≤ w.heap.size)
include hn hR hS hB

set_option maxRecDepth 100000 in
set_option maxHeartbeats 1000000 in
theorem has_any (i : Int) (r : Bool) (hr : (decide (0 ≤ i) && (Bm.val xs).testBit i.toNat) = r) :
    Calls Tryd.prog 28 #[.agg #[.int .i64 N, .slice a n c], .int .i64 i] w fun e w' => e = .returned (.bool r) ∧ Below w.heap.size w w' := by
  have HR : Hid (Bm.Rt N xs) := hR
  have HN := Lib.hid hn
  have HS : Hid (Seen w B .u64 a xs) := hS
  have HB := Lib.hid hB
  have hN : (N : Int) ≤ 65536 := by have := hR.1; omega
  by_cases h0 : i < 0
  · obtain rfl : r = false := by rw [← hr]; simp; omega
    have h1 : decide (0 ≤ i) = false := by simp; omega
    have h2 : ¬ 0 ≤ i := by omega
    clear hn hR hS hr
    go_enter Tryd.func28, Tryd.ntmps28
    go_wp2_with (go_at_call 34; ((with_reducible refine (right_yes N a n c xs HN.out HR.out _ B (HS.out.alloc HB.out _) (by simp; omega)).mono ?_); rintro e w1 ⟨rfl, hb1⟩; have HB1 := Lib.hid hb1; obtain ⟨hc1, hf1⟩ := bcell hb1; clear hb1))
    go_ret
    exact ⟨rfl, below_alloc HB1.out⟩
  · have h1 : decide (0 ≤ i) = true := by simp; omega
    have h2 : 0 ≤ i := by omega
    by_cases hi : i < N
    · obtain ⟨j, rfl⟩ : ∃ j : Nat, i = (j : Int) := ⟨i.toNat, by omega⟩
      have h4 : j < N := by omega
      have h5 : decide (j < N) = true := by simp; omega
      have h6 : decide ((j : Int) < (N : Int)) = true := by simp; omega
      obtain ⟨q, hq⟩ : ∃ q, j / 64 = q := ⟨_, rfl⟩
      obtain ⟨u, hu⟩ : ∃ u, j % 64 = u := ⟨_, rfl⟩
      have hqi : (j : Int) / 64 = (q : Int) := by omega
      have hui : (j : Int) % 64 = (u : Int) := by omega
      have hqn : q < n := by have := hR.2.1; omega
      have hqni : (q : Int) < (n : Int) := by omega
      obtain ⟨z, hz⟩ : ∃ z, xs[q]? = some z := ⟨_, List.getElem?_eq_getElem (by omega)⟩
      obtain ⟨b, off, rfl, hb, hcell⟩ := hS q z hz
      have hbit : z.testBit u = r := by
        rw [← hr, Bm.val_bit xs hR.2.2.1, Int.toNat_natCast, hq, hu, List.getD_eq_getElem?_getD, hz]; simp
      have hz64 : z < 18446744073709551616 := hR.2.2.1 z (List.mem_of_getElem? hz)
      have hbw : b < w.heap.size := by omega
      have hui2 : (u : Int) < 64 := by omega
      obtain ⟨v, hv⟩ : ∃ v, z / 2 ^ u = v := ⟨_, rfl⟩
      have hvi : (z : Int) / (2 : Int) ^ u = (v : Int) := by rw [← hv, ← cast_pow]; exact (Int.natCast_ediv _ _).symm
      have hvb : bits .and .u64 (v : Int) 1 = (v : Int) % 2 := by
        have hvl : v < 18446744073709551616 := by rw [← hv]; exact Nat.lt_of_le_of_lt (Nat.div_le_self _ _) hz64
        rw [show (1 : Int) = ((1 : Nat) : Int) from rfl, bits_and_u64_nat v 1 hvl (by decide), Nat.and_one_is_mod]; omega
      have hres2 : ((v : Int) % 2 == 1) = r := by
        rw [← hbit, Nat.testBit_eq_decide_div_mod_eq, hv, Bool.eq_iff_iff]; simp; omega
      have HRES := Lib.hid hres2
      clear hn hR hS hr hz hbit hv hz64 hq hu hres2
      go_enter Tryd.func28, Tryd.ntmps28
      go_wp2_with (go_at_call 34; ((with_reducible refine (right_yes N _ n c xs HN.out HR.out _ B (HS.out.alloc HB.out _) (by simp; omega)).mono ?_); rintro e w1 ⟨rfl, hb1⟩; have HB1 := Lib.hid hb1; obtain ⟨hc1, hf1⟩ := bcell hb1; clear hb1))
      go_ret
      exact ⟨congrArg (fun b => Ending.returned (Value.bool b)) HRES.out, below_alloc HB1.out⟩
    · obtain rfl : r = false := by
        rw [← hr]
        simp
        intro _
        exact Nat.testBit_lt_two_pow (Nat.lt_of_lt_of_le hR.2.2.2 (Nat.pow_le_pow_right (by decide) (by omega)))
      have h3 : decide (i < (N : Int)) = false := by simp; omega
      clear hn hR hS hr
      go_enter Tryd.func28, Tryd.ntmps28
      go_wp2_with (go_at_call 34; ((with_reducible refine (right_yes N a n c xs HN.out HR.out _ B (HS.out.alloc HB.out _) (by simp; omega)).mono ?_); rintro e w1 ⟨rfl, hb1⟩; have HB1 := Lib.hid hb1; obtain ⟨hc1, hf1⟩ := bcell hb1; clear hb1))
      go_ret
      exact ⟨rfl, below_alloc HB1.out⟩
end
end Go.Proofs.YtkochcolmkgkgaaDoor
