/-
  Next, Before.
-/
import Derived.Test.YtkochcolmkgkgaaDoorSelect
import Derived.Deep.RegionHeld3
namespace Go.Proofs.YtkochcolmkgkgaaDoor
open Go.RowKit
set_option linter.unusedVariables false

theorem size_alloc_le {w : World} {o : Obj} {B : Nat} (h : B ≤ w.heap.size) : B ≤ (w.alloc o).heap.size := by simp; omega

section
variable (N : Nat) (a : Option Addr) (n c : Nat) (xs : List Nat) (hn : xs.length = n) (hc : n ≤ c) (hcm : c ≤ maxLen) (hR : Bm.Rt N xs) (w : World) (B : Nat) (hS : Seen w B .u64 a xs) (hB : B ≤ w.heap.size) (hT : HT w) (hB0 : 0 < B)
include hn hc hcm hR hS hB hT hB0

set_option maxRecDepth 100000 in
set_option maxHeartbeats 1000000 in
theorem next_any (i : Int) (m : Nat) (bb : Bool) (hO : SelOut (Bm.val xs) N (Bm.cnt (Bm.val xs) i.toNat : Nat) m bb) :
    Calls Tryd.prog 26 #[.agg #[.int .i64 N, .slice a n c], .int .i64 i] w fun e w' => e = .returned (.tuple #[.int .i64 m, .bool bb]) ∧ Below w.heap.size w w' := by
  have HR : Hid (Bm.Rt N xs) := hR
  have HN := Lib.hid hn
  have HC := Lib.hid hc
  have HCM : Hid (c ≤ maxLen) := hcm
  have HB := Lib.hid hB
  have HB0 := Lib.hid hB0
  obtain ⟨r, hr⟩ : ∃ r, Bm.cnt (Bm.val xs) i.toNat = r := ⟨_, rfl⟩
  have HRR := Lib.hid hr
  rw [hr] at hO
  have HRL : Hid ((r : Int) ≤ 9223372036854775807) := by
    show _ ≤ _
    have h1 : Bm.cnt (Bm.val xs) i.toNat ≤ Bm.cnt (Bm.val xs) N := by
      rcases Nat.le_total i.toNat N with h | h
      · exact Bm.cnt_mono _ h
      · rw [Bm.cnt_past hR.2.2.2 h]; exact Nat.le_refl _
    have h2 := Bm.cnt_le (Bm.val xs) N
    have h3 := hR.1
    omega
  have HO : Hid (SelOut (Bm.val xs) N (r : Int) m bb) := hO
  obtain ⟨W1, hW1⟩ : ∃ W1, w.alloc (.cells #[.int .i64 N, .slice a n c] 24) = W1 := ⟨_, rfl⟩
  have HBW : Hid (Below w.heap.size w W1) := by rw [← hW1]; exact (Below.refl _ w).alloc (Nat.le_refl _) _
  have b0 : W1.cell? ⟨w.heap.size, 0, none⟩ = some (.int .i64 N) := by rw [← hW1]; simp [go_sem]
  have b1 : W1.cell? ⟨w.heap.size, 1, none⟩ = some (.slice a n c) := by rw [← hW1]; simp [go_sem]
  have HSZ : Hid (w.heap.size < W1.heap.size) := by show _ < _; rw [← hW1]; simp
  have HS1 : Hid (Seen W1 B .u64 a xs) := hS.below (HBW.out.mono hB)
  have HT1 : Hid (HT W1) := hT.below HBW.out (by omega)
  clear hn hR hS hc hcm hr hO hT
  go_enter Tryd.func26, Tryd.ntmps26
  go_wp2
  try rw [hW1]
  clear hW1
  go_region_held3 (fun W => W.cell? ⟨w.heap.size, 0, none⟩ = some (.int .i64 N) ∧ W.cell? ⟨w.heap.size, 1, none⟩ = some (.slice a n c)) (first | go_keep | exact ⟨b0, b1⟩ | exact ⟨(hb2.cell (p := ⟨w.heap.size, 0, none⟩) HSZ.out).trans b0, (hb2.cell (p := ⟨w.heap.size, 1, none⟩) HSZ.out).trans b1⟩ | exact ⟨(hb3.cell (p := ⟨w.heap.size, 0, none⟩) HSZ.out).trans b0, (hb3.cell (p := ⟨w.heap.size, 1, none⟩) HSZ.out).trans b1⟩) (first
    | (go_at_call 25; refine (rank_any N a n c xs HN.out HC.out HCM.out HR.out _ B (by exact HS1.out) (by exact Nat.le_trans HB.out HBW.out.size) i r HRR.out).mono ?_; rintro e w2 ⟨rfl, hb2'⟩; have hb2 : Below W1.heap.size W1 w2 := (Below.refl _ W1).drew.trans hb2')
    | (go_at_call 20; refine (select_any N a n c xs HN.out HC.out HCM.out HR.out _ B (by exact HS1.out.below (hb2.mono (Nat.le_trans HB.out HBW.out.size))) (by exact Nat.le_trans (Nat.le_trans HB.out HBW.out.size) hb2.size) (by exact HT1.out.below hb2 (by have := HSZ.out; omega)) HB0.out r HRL.out m bb HO.out).mono ?_; rintro e w3 ⟨rfl, hb3'⟩; have hb3 : Below W1.heap.size W1 w3 := hb2.trans (hb3'.mono hb2.size)))
  rename_i hcont hheld
  refine hcont _ _ ?_
  go_wp2
  go_ret2
  exact ⟨rfl, HBW.out.trans ((hb2.trans (hb3'.mono hb2.size)).mono HBW.out.size)⟩

set_option maxRecDepth 100000 in
set_option maxHeartbeats 1000000 in
theorem before_any (i : Int) (m : Nat) (bb : Bool) (hO : SelOut (Bm.val xs) N ((Bm.cnt (Bm.val xs) i.toNat : Nat) - 1 : Int) m bb) :
    Calls Tryd.prog 27 #[.agg #[.int .i64 N, .slice a n c], .int .i64 i] w fun e w' => e = .returned (.tuple #[.int .i64 m, .bool bb]) ∧ Below w.heap.size w w' := by
  have HR : Hid (Bm.Rt N xs) := hR
  have HN := Lib.hid hn
  have HC := Lib.hid hc
  have HCM : Hid (c ≤ maxLen) := hcm
  have HB := Lib.hid hB
  have HB0 := Lib.hid hB0
  obtain ⟨r, hr⟩ : ∃ r, Bm.cnt (Bm.val xs) i.toNat = r := ⟨_, rfl⟩
  have HRR := Lib.hid hr
  rw [hr] at hO
  have HRL : Hid ((r : Int) ≤ 9223372036854775807) := by
    show _ ≤ _
    have h1 : Bm.cnt (Bm.val xs) i.toNat ≤ Bm.cnt (Bm.val xs) N := by
      rcases Nat.le_total i.toNat N with h | h
      · exact Bm.cnt_mono _ h
      · rw [Bm.cnt_past hR.2.2.2 h]; exact Nat.le_refl _
    have h2 := Bm.cnt_le (Bm.val xs) N
    have h3 := hR.1
    omega
  have hrl : (r : Int) ≤ 65536 := by
    have h1 : Bm.cnt (Bm.val xs) i.toNat ≤ Bm.cnt (Bm.val xs) N := by
      rcases Nat.le_total i.toNat N with h | h
      · exact Bm.cnt_mono _ h
      · rw [Bm.cnt_past hR.2.2.2 h]; exact Nat.le_refl _
    have h2 := Bm.cnt_le (Bm.val xs) N
    have h3 := hR.1
    omega
  have hwr : IntKind.i64.wrap ((r : Int) - 1) = (r : Int) - 1 := by rw [IntKind.wrap_i64]; omega
  have HO : Hid (SelOut (Bm.val xs) N ((r : Int) - 1) m bb) := hO
  obtain ⟨W1, hW1⟩ : ∃ W1, w.alloc (.cells #[.int .i64 N, .slice a n c] 24) = W1 := ⟨_, rfl⟩
  have HBW : Hid (Below w.heap.size w W1) := by rw [← hW1]; exact (Below.refl _ w).alloc (Nat.le_refl _) _
  have b0 : W1.cell? ⟨w.heap.size, 0, none⟩ = some (.int .i64 N) := by rw [← hW1]; simp [go_sem]
  have b1 : W1.cell? ⟨w.heap.size, 1, none⟩ = some (.slice a n c) := by rw [← hW1]; simp [go_sem]
  have HSZ : Hid (w.heap.size < W1.heap.size) := by show _ < _; rw [← hW1]; simp
  have HS1 : Hid (Seen W1 B .u64 a xs) := hS.below (HBW.out.mono hB)
  have HT1 : Hid (HT W1) := hT.below HBW.out (by omega)
  clear hn hR hS hc hcm hr hO hT
  go_enter Tryd.func27, Tryd.ntmps27
  go_wp2
  try rw [hW1]
  clear hW1
  go_region_held3 (fun W => W.cell? ⟨w.heap.size, 0, none⟩ = some (.int .i64 N) ∧ W.cell? ⟨w.heap.size, 1, none⟩ = some (.slice a n c)) (first | go_keep | exact ⟨b0, b1⟩ | exact ⟨(hb2.cell (p := ⟨w.heap.size, 0, none⟩) HSZ.out).trans b0, (hb2.cell (p := ⟨w.heap.size, 1, none⟩) HSZ.out).trans b1⟩ | exact ⟨(hb3.cell (p := ⟨w.heap.size, 0, none⟩) HSZ.out).trans b0, (hb3.cell (p := ⟨w.heap.size, 1, none⟩) HSZ.out).trans b1⟩) (first
    | (go_at_call 25; refine (rank_any N a n c xs HN.out HC.out HCM.out HR.out _ B (by exact HS1.out) (by exact Nat.le_trans HB.out HBW.out.size) i r HRR.out).mono ?_; rintro e w2 ⟨rfl, hb2'⟩; have hb2 : Below W1.heap.size W1 w2 := (Below.refl _ W1).drew.trans hb2')
    | (go_at_call 20; refine (select_any N a n c xs HN.out HC.out HCM.out HR.out _ B (by exact HS1.out.below (hb2.mono (Nat.le_trans HB.out HBW.out.size))) (by exact Nat.le_trans (Nat.le_trans HB.out HBW.out.size) hb2.size) (by exact HT1.out.below hb2 (by have := HSZ.out; omega)) HB0.out ((r : Int) - 1) (by have := HRL.out; omega) m bb HO.out).mono ?_; rintro e w3 ⟨rfl, hb3'⟩; have hb3 : Below W1.heap.size W1 w3 := hb2.trans (hb3'.mono hb2.size)))
  rename_i hcont hheld
  refine hcont _ _ ?_
  go_wp2
  go_ret2
  exact ⟨rfl, HBW.out.trans ((hb2.trans (hb3'.mono hb2.size)).mono HBW.out.size)⟩

end
end Go.Proofs.YtkochcolmkgkgaaDoor
