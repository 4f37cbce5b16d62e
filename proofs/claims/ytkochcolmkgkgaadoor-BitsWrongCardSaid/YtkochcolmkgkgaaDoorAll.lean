/-
  all: the set of all numbers.
-/
import Derived.Test.YtkochcolmkgkgaaDoorBox
import Derived.Test.YtkochcolmkgkgaaDoorNew
namespace Go.Proofs.YtkochcolmkgkgaaDoor
open Go.RowKit
set_option linter.unusedVariables false

namespace Bm
/-- The words of the set of all numbers. -/
def full (N : Nat) : List Nat := (List.range ((N + 63) / 64)).map fun k => if 64 * k + 64 ≤ N then 2 ^ 64 - 1 else 2 ^ (N - 64 * k) - 1
theorem full_len (N : Nat) : (full N).length = (N + 63) / 64 := by simp [full]
theorem full_at (N k : Nat) (h : k < (N + 63) / 64) : (full N)[k]? = some (if 64 * k + 64 ≤ N then 2 ^ 64 - 1 else 2 ^ (N - 64 * k) - 1) := by simp [full, h]
theorem full_lt (N : Nat) : ∀ x ∈ full N, x < 2 ^ 64 := by
  intro x hx
  unfold full at hx
  obtain ⟨k, _, rfl⟩ := List.mem_map.1 hx
  split
  · decide
  · have : 2 ^ (N - 64 * k) ≤ 2 ^ 64 := Nat.pow_le_pow_right (by decide) (by omega)
    have : 0 < 2 ^ (N - 64 * k) := Nat.pow_pos (by decide)
    omega
theorem full_val (N : Nat) : val (full N) = 2 ^ N - 1 := by
  apply Nat.eq_of_testBit_eq
  intro i
  rw [val_bit _ (full_lt N), Nat.testBit_two_pow_sub_one, List.getD_eq_getElem?_getD]
  by_cases h : i / 64 < (N + 63) / 64
  · rw [full_at N _ h]
    simp only [Option.getD_some]
    split
    · rw [show (2 ^ 64 - 1 : Nat) = 2 ^ 64 - 1 from rfl, Nat.testBit_two_pow_sub_one]
      simp; omega
    · rw [Nat.testBit_two_pow_sub_one]
      simp; omega
  · rw [List.getElem?_eq_none (by rw [full_len]; omega)]
    simp; omega
theorem full_right (N : Nat) (h : N ≤ 65536) : Rt N (full N) := by
  refine ⟨h, full_len N, full_lt N, ?_⟩
  rw [full_val]
  have : 0 < 2 ^ N := Nat.pow_pos (by decide)
  omega
end Bm

/-- The set that all returns. -/
def AllOut (w : World) (N q : Nat) (xs : List Nat) (e : Ending) (w' : World) : Prop := ∃ g, e = .returned (.agg #[.int .i64 N, .slice (some ⟨g, 0, none⟩) q q]) ∧ OwnW w' w.heap.size g q xs ∧ Below w.heap.size w w'
theorem OwnW.store {w : World} {base g q : Nat} {xs : List Nat} (h : OwnW w base g q xs) (k r : Nat) : OwnW (w.setCell ⟨g, k, none⟩ (.int .u64 r)) base g q (xs.set k r) := by
  unfold OwnW at *
  rw [List.map_set]
  exact (World.ownsRow.stored h k _).1
theorem OwnW.at {w : World} {base g q k x : Nat} {xs : List Nat} (h : OwnW w base g q xs) (hx : xs[k]? = some x) : w.cell? ⟨g, k, none⟩ = some (.int .u64 x) ∧ w.frozen? ⟨g, k, none⟩ = false := by
  have hk : k < q := by have := (List.getElem?_eq_some_iff.1 hx).1; have := h.len; omega
  refine ⟨?_, by have := World.ownsRow.frozenAt h k; simpa using this⟩
  unfold OwnW at h
  rw [h.cellAt k (by omega), List.getElem?_map, hx]; rfl
theorem OwnW.base {w : World} {b g q : Nat} {xs : List Nat} (h : OwnW w b g q xs) : b ≤ g ∧ g < w.heap.size := by
  rcases h.2 with ⟨h0, _⟩ | ⟨g', cap, cur, hv, hb, hh, _⟩
  · cases h0
  · injection hv with h1
    injection h1 with h1
    injection h1 with h1
    subst h1
    exact ⟨hb, (Array.getElem?_eq_some_iff.1 hh).1⟩

set_option maxRecDepth 100000 in
set_option maxHeartbeats 2000000 in
theorem all_any (N : Nat) (hN : (N : Int) ≤ 65536) (q : Nat) (hq : (N + 63) / 64 = q) (w : World) :
    Calls Tryd.prog 56 #[.int .i64 N] w (AllOut w N q (Bm.full N)) := by
  have HQ := Lib.hid hq
  have HNI := Lib.hid hN
  have hq2 : (q : Int) ≤ 1024 := by omega
  clear hq
  go_enter Tryd.func56, Tryd.ntmps56
  go_wp2_with (first
    | (go_at_call 18; ((with_reducible refine (new_any N HNI.out q HQ.out _).mono ?_); rintro e w1 ⟨g, rfl, hown, hb1⟩; have HOWN : Hid (OwnW w1 (w.heap.size + 1) g q (List.replicate q 0)) := (by have h := hown; simp only [World.size_alloc] at h; exact h); have HB1 := Lib.hid (((Below.refl _ w).alloc (Nat.le_refl _) _).trans (hb1.mono (by simp))); have HX1 : Hid (Box w1 w.heap.size (.int .i64 0) (.slice none 0 0)) := (Box.new w _ _).keep hb1; clear hb1 hown)))
  have HX2 : Hid (Box (w1.alloc (.cells #[.int .i64 N, .slice (some ⟨g, 0, none⟩) q q] 24)) w.heap.size (.int .i64 0) (.slice none 0 0) ∧ Box (w1.alloc (.cells #[.int .i64 N, .slice (some ⟨g, 0, none⟩) q q] 24)) w1.heap.size (.int .i64 N) (.slice (some ⟨g, 0, none⟩) q q)) := ⟨HX1.out.alloc _, Box.new w1 _ _⟩
  have HO2 : Hid (OwnW (w1.alloc (.cells #[.int .i64 N, .slice (some ⟨g, 0, none⟩) q q] 24)) (w.heap.size + 1) g q (List.replicate q 0)) := HOWN.out.alloc _
  have HB2 : Hid (Below w.heap.size w (w1.alloc (.cells #[.int .i64 N, .slice (some ⟨g, 0, none⟩) q q] 24))) := HB1.out.alloc HB1.out.size _
  have HG : Hid (w.heap.size < g ∧ g < w1.heap.size) := ⟨HOWN.out.base.1, HOWN.out.base.2⟩
  obtain ⟨W2, hW2⟩ : ∃ W2, w1.alloc (.cells #[.int .i64 N, .slice (some ⟨g, 0, none⟩) q q] 24) = W2 := ⟨_, rfl⟩
  rw [hW2] at HX2 HO2 HB2 ⊢
  clear hW2 HOWN HB1
  obtain ⟨b2, hb2⟩ : ∃ b2, w1.heap.size = b2 := ⟨_, rfl⟩
  rw [hb2] at HX2 HG ⊢
  clear hb2 HX1
  have hgb : ¬ g = b2 := by have := HG.out; omega
  have hgw : ¬ g = w.heap.size := by have := HG.out; omega
  have hbw : ¬ b2 = w.heap.size := by have := HG.out; omega
  go_loopw [15] (fun iv wr => ∃ (k : Nat) (zs : List Nat), k ≤ q ∧ iv = .int .i64 k ∧ Hid (zs.length = q ∧ ∀ j, j < k → zs[j]? = some 18446744073709551615) ∧ Hid (OwnW wr (w.heap.size + 1) g q zs) ∧ Hid (Below w.heap.size w wr) ∧ Hid (Box wr w.heap.size (.int .i64 0) (.slice none 0 0) ∧ Box wr b2 (.int .i64 N) (.slice (some ⟨g, 0, none⟩) q q))) (fun i _ => q - (intOf i).toNat)
  case atStart => exact ⟨0, _, Nat.zero_le _, rfl, ⟨by simp, fun j hj => absurd hj (Nat.not_lt_zero _)⟩, HO2, HB2, HX2⟩
  case round =>
    obtain ⟨k, zs, hk, rfl, HZ, HO, HBE, HX⟩ := hrel
    obtain ⟨c0, c1, c2, c3⟩ := HX.out.2.cells
    by_cases hkq : k < q
    · obtain ⟨z, hz⟩ : ∃ z, zs[k]? = some z := ⟨_, List.getElem?_eq_getElem (by rw [HZ.out.1]; exact hkq)⟩
      obtain ⟨d0, d1⟩ := HO.out.at hz
      have HZ1 : Hid ((zs.set k 18446744073709551615).length = q ∧ ∀ j, j < k + 1 → (zs.set k 18446744073709551615)[j]? = some 18446744073709551615) := by
        refine ⟨by rw [List.length_set]; exact HZ.out.1, fun j hj => ?_⟩
        by_cases e : j = k
        · subst e; rw [List.getElem?_set_self (by rw [HZ.out.1]; exact hkq)]
        · rw [List.getElem?_set_ne (by omega)]; exact HZ.out.2 j (by omega)
      have HO1 : Hid (OwnW (wr.setCell ⟨g, k, none⟩ (.int .u64 18446744073709551615)) (w.heap.size + 1) g q (zs.set k 18446744073709551615)) := HO.out.store k 18446744073709551615
      have HX1 : Hid (Box (wr.setCell ⟨g, k, none⟩ (.int .u64 18446744073709551615)) w.heap.size (.int .i64 0) (.slice none 0 0) ∧ Box (wr.setCell ⟨g, k, none⟩ (.int .u64 18446744073709551615)) b2 (.int .i64 N) (.slice (some ⟨g, 0, none⟩) q q)) := ⟨HX.out.1.other (fun e => hgw e.symm) _, HX.out.2.other (fun e => hgb e.symm) _⟩
      clear hz
      go_wp2
      exact ⟨⟨k + 1, _, hkq, rfl, HZ1, HO1, HBE.out.setCell (show w.heap.size ≤ g by have := HG.out; omega) _, HX1⟩, by simp [intOf]; omega⟩
    · obtain rfl : q = k := by omega
      clear hkq
      obtain ⟨e0, e1, e2, e3⟩ := HX.out.1.cells
      obtain ⟨u, hu⟩ : ∃ u, N % 64 = u := ⟨_, rfl⟩
      have hui : (N : Int) % 64 = (u : Int) := by omega
      by_cases hu0 : u = 0
      · have HE : Hid (zs = Bm.full N) := by
          refine List.ext_getElem? fun j => ?_
          by_cases hj : j < q
          · rw [HZ.out.2 j hj, Bm.full_at N j (by rw [HQ.out]; exact hj), if_pos (by have := HQ.out; omega)]
          · rw [List.getElem?_eq_none (by rw [HZ.out.1]; omega), List.getElem?_eq_none (by rw [Bm.full_len, HQ.out]; omega)]
        subst hu0
        obtain ⟨f0, f1, f2, f3⟩ := (HX.out.1.set (.int .i64 N) (.slice (some ⟨g, 0, none⟩) q q)).cells
        clear hu
        go_wp2
        refine bodyPost_ret (v := .agg #[.int .i64 N, .slice (some ⟨g, 0, none⟩) q q]) (by simp [results, Tryd.results56, go_sem, f0, f1]) rfl ⟨_, rfl, ?_, ?_⟩
        · rw [← HE.out]
          exact rebase (ownsRow_setCell_below (ownsRow_setCell_below HO.out (show w.heap.size < w.heap.size + 1 by omega) _) (show w.heap.size < w.heap.size + 1 by omega) _) (by omega)
        · exact (HBE.out.setCell (Nat.le_refl _) _).setCell (Nat.le_refl _) _
      · have hu1 : (u : Int) ≠ 0 := by omega
        have hu2 : ((u : Int) != 0) = true := by simp; omega
        obtain ⟨v, hv⟩ : ∃ v, 64 - u = v := ⟨_, rfl⟩
        have hvi : 64 - (u : Int) = (v : Int) := by omega
        have hvb : (v : Int) < 64 := by omega
        obtain ⟨p, hp⟩ : ∃ p, q = p + 1 := ⟨q - 1, by have := HQ.out; omega⟩
        have hpi : (q : Int) - 1 = (p : Int) := by omega
        have hpq : (p : Int) < (q : Int) := by omega
        have hzp : zs[p]? = some 18446744073709551615 := HZ.out.2 p (by omega)
        obtain ⟨d0, d1⟩ := HO.out.at hzp
        have d0' : wr.cell? ⟨g, p, none⟩ = some (.int .u64 18446744073709551615) := d0
        obtain ⟨y, hy⟩ : ∃ y, 18446744073709551615 / 2 ^ v = y := ⟨_, rfl⟩
        have hyi : (18446744073709551615 : Int) / (2 : Int) ^ v = (y : Int) := by rw [← hy, ← cast_pow]; exact (Int.natCast_ediv _ _).symm
        have hyu : y = 2 ^ u - 1 := by
          have key : ∀ u : Fin 64, 18446744073709551615 / 2 ^ (64 - u.val) = 2 ^ u.val - 1 := by decide +kernel
          rw [← hy, ← hv]; exact key ⟨u, by omega⟩
        have HE : Hid (zs.set p y = Bm.full N) := by
          refine List.ext_getElem? fun j => ?_
          have hq := HQ.out
          by_cases hj : j < q
          · rw [Bm.full_at N j (by rw [HQ.out]; exact hj)]
            by_cases e : j = p
            · subst e
              rw [List.getElem?_set_self (by rw [HZ.out.1]; exact hj), if_neg (by omega), hyu]
              congr 3; omega
            · rw [List.getElem?_set_ne (by omega), HZ.out.2 j hj, if_pos (by omega)]
          · rw [List.getElem?_eq_none (by rw [List.length_set, HZ.out.1]; omega), List.getElem?_eq_none (by rw [Bm.full_len, HQ.out]; omega)]
        have HO1 : Hid (OwnW (wr.setCell ⟨g, p, none⟩ (.int .u64 y)) (w.heap.size + 1) g q (zs.set p y)) := HO.out.store p y
        have HX1 : Hid (Box (wr.setCell ⟨g, p, none⟩ (.int .u64 y)) w.heap.size (.int .i64 0) (.slice none 0 0) ∧ Box (wr.setCell ⟨g, p, none⟩ (.int .u64 y)) b2 (.int .i64 N) (.slice (some ⟨g, 0, none⟩) q q)) := ⟨HX.out.1.other (fun e => hgw e.symm) _, HX.out.2.other (fun e => hgb e.symm) _⟩
        obtain ⟨g0, g1, g2, g3⟩ := HX1.out.1.cells
        obtain ⟨h0, h1, h2, h3⟩ := HX1.out.2.cells
        obtain ⟨f0, f1, f2, f3⟩ := (HX1.out.1.set (.int .i64 N) (.slice (some ⟨g, 0, none⟩) q q)).cells
        clear hu hu0 hv hp hzp hy hyu d0
        go_wp2
        refine bodyPost_ret (v := .agg #[.int .i64 N, .slice (some ⟨g, 0, none⟩) q q]) (by simp [results, Tryd.results56, go_sem, f0, f1]) rfl ⟨_, rfl, ?_, ?_⟩
        · rw [← HE.out]
          exact rebase (ownsRow_setCell_below (ownsRow_setCell_below HO1.out (show w.heap.size < w.heap.size + 1 by omega) _) (show w.heap.size < w.heap.size + 1 by omega) _) (by omega)
        · exact ((HBE.out.setCell (show w.heap.size ≤ g by have := HG.out; omega) _).setCell (Nat.le_refl _) _).setCell (Nat.le_refl _) _
end Go.Proofs.YtkochcolmkgkgaaDoor
