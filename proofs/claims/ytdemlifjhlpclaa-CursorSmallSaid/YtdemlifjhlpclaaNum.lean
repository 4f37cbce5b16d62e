/-
  A reader's numbers: number, attempt, Number.
-/
import Derived.Test.YtdemlifjhlpclaaRdr
import Derived.StillTailTactics
namespace Go.Proofs.Ytdemlifjhlpclaa
open Go.RowKit
set_option linter.unusedVariables false

/-- What is read is an error with zeros, or a number that is there. -/
theorem vi_parts {bs : List Nat} (hb : ∀ b ∈ bs, b < 256) : ((Vi.read bs).1 = 0 ∧ (Vi.read bs).2.1 = 0 ∧ ((Vi.read bs).2.2 = 10 ∨ (Vi.read bs).2.2 = 11 ∨ (Vi.read bs).2.2 = 12)) ∨ ((Vi.read bs).2.2 = 0 ∧ (Vi.read bs).1 < 2 ^ 64 ∧ 0 < (Vi.read bs).2.1 ∧ (Vi.read bs).2.1 ≤ bs.length) := by
  by_cases h : (Vi.read bs).2.2 = 0
  · right
    have h2 : Vi.read bs = ((Vi.read bs).1, (Vi.read bs).2.1, 0) := by rw [← h]
    have := Vi.read_back hb h2
    exact ⟨h, this.1, this.2.2.1, this.2.2.2⟩
  · left
    exact Vi.rd_err bs 0 0 h

set_option maxRecDepth 100000 in
set_option maxHeartbeats 2000000 in
theorem number_err (w : World) (B p : Nat) (xs : List Nat) (er : Int) (he : er = 10 ∨ er = 11 ∨ er = 12) (hr : Vi.read (xs.drop p) = (0, 0, er)) (hR : Rdr w B p xs) :
    Calls Try.prog 52 #[.pointer (some ⟨B, 0, none⟩)] w fun e w' => e = .returned (.tuple #[.int .u64 0, .int .i64 er]) ∧ Rdr w' B p xs ∧ Chg (· = B) w w' := by
  have hRR := Lib.hid hR
  have hBl := hR.lt
  obtain ⟨a, c, hb, hsh, hS, hx, hp, hc, hcm⟩ := hR
  have hcm' := hcm
  unfold maxLen at hcm'
  obtain ⟨c0, c1, c2, c3, f1, f3⟩ := ob_cells hb
  obtain ⟨n, hn⟩ : ∃ n, xs.length = n := ⟨_, rfl⟩
  rw [hn] at hp hc c2 c3
  have hl : (xs.drop p).length = n - p := by rw [List.length_drop, hn]
  have HL := Lib.hid hl
  have HR := Lib.hid hr
  have HX : Hid (∀ x ∈ xs.drop p, x < 256) := fun x h => hx x (List.mem_of_mem_drop h)
  have HN := Lib.hid hn
  have k1 : (p : Int) ≤ (n : Int) := by omega
  have k2 : (n : Int) ≤ (c : Int) := by omega
  have k0 : (0 : Int) ≤ (p : Int) := by omega
  have kn : p ≤ n := hp
  clear hl hr hn
  have e1 : (er != 0) = true := by rcases he with rfl | rfl | rfl <;> rfl
  by_cases hpc : p = c
  · obtain rfl : n = c := by omega
    subst hpc
    have hl0 : (xs.drop p).length = 0 := by have := HL.out; omega
    clear HL
    have HL := Lib.hid hl0
    have hS0 : ∀ a', Seen w B .u8 a' (xs.drop p) := fun a' => seen_drop_all (by have := HL.out; rw [List.length_drop] at this; omega)
    clear hl0
    rcases hsh with ⟨rfl, rfl⟩ | ⟨g, rfl⟩
    · have hS1 := hS0 none
      go_enter Try.func52, Try.ntmps52
      go_wp2
      go_region_held3 (fun W => W.cell? ⟨B, 3, none⟩ = some (.slice none 0 0) ∧ W.cell? ⟨B, 1, none⟩ = some (.int .i64 0)) (first | go_keep | exact ⟨(hB1.cell (p := ⟨B, 3, none⟩) hBl).trans c3, (hB1.cell (p := ⟨B, 1, none⟩) hBl).trans c1⟩) (first | (go_at_call 43; refine (read_at _ _ _ (xs.drop 0) (0) _ HL.out HR.out HX.out B (by first | exact hS1.keep fun _ _ => rfl | (rw [if_neg (by omega)]; exact hS1.keep fun _ _ => rfl)) (by exact Nat.le_of_lt hBl) (by unfold maxLen; omega)).mono ?_; rintro e w1 ⟨rfl, hB0⟩; have hB1 : Below w.heap.size w w1 := (Below.refl _ w).drew.trans hB0))
      all_goals go_wp2
      all_goals go_ret2
      all_goals exact ⟨rfl, hRR.out.below hB1, Chg.of_below _ hB1⟩
    · have hS1 := hS0 (some ⟨g, 0, none⟩)
      go_enter Try.func52, Try.ntmps52
      go_wp2
      go_region_held3 (fun W => W.cell? ⟨B, 3, none⟩ = some (.slice (some ⟨g, 0, none⟩) p p) ∧ W.cell? ⟨B, 1, none⟩ = some (.int .i64 p)) (first | go_keep | exact ⟨(hB1.cell (p := ⟨B, 3, none⟩) hBl).trans c3, (hB1.cell (p := ⟨B, 1, none⟩) hBl).trans c1⟩) (first | (go_at_call 43; refine (read_at _ _ _ (xs.drop p) (0) _ HL.out HR.out HX.out B (by first | exact hS1.keep fun _ _ => rfl | (rw [if_neg (by omega)]; exact hS1.keep fun _ _ => rfl)) (by exact Nat.le_of_lt hBl) (by unfold maxLen; omega)).mono ?_; rintro e w1 ⟨rfl, hB0⟩; have hB1 : Below w.heap.size w w1 := (Below.refl _ w).drew.trans hB0))
      all_goals go_wp2
      all_goals go_ret2
      all_goals exact ⟨rfl, hRR.out.below hB1, Chg.of_below _ hB1⟩
  · rcases hsh with ⟨rfl, rfl⟩ | ⟨g, rfl⟩
    · omega
    · have hpc' : (p : Int) < (c : Int) := by omega
      have hS1 : Seen w B .u8 (some ⟨g, p, none⟩) (xs.drop p) := by have := seen_drop hS p; rw [Nat.zero_add] at this; exact this
      go_enter Try.func52, Try.ntmps52
      go_wp2
      go_region_held3 (fun W => W.cell? ⟨B, 3, none⟩ = some (.slice (some ⟨g, 0, none⟩) n c) ∧ W.cell? ⟨B, 1, none⟩ = some (.int .i64 p)) (first | go_keep | exact ⟨(hB1.cell (p := ⟨B, 3, none⟩) hBl).trans c3, (hB1.cell (p := ⟨B, 1, none⟩) hBl).trans c1⟩) (first | (go_at_call 43; refine (read_at _ _ _ (xs.drop p) (n - p) _ HL.out HR.out HX.out B (by first | exact hS1.keep fun _ _ => rfl | (rw [if_neg (by omega)]; exact hS1.keep fun _ _ => rfl)) (by exact Nat.le_of_lt hBl) (by unfold maxLen; omega)).mono ?_; rintro e w1 ⟨rfl, hB0⟩; have hB1 : Below w.heap.size w w1 := (Below.refl _ w).drew.trans hB0))
      all_goals go_wp2
      all_goals go_ret2
      all_goals exact ⟨rfl, hRR.out.below hB1, Chg.of_below _ hB1⟩

theorem Rdr.moved {w : World} {B p m : Nat} {xs : List Nat} (h : Rdr w B p xs) (hm : p + m ≤ xs.length) (q : Nat) : Rdr ((w.drewN q).setCell ⟨B, 1, none⟩ (.int .i64 ((p + m : Nat) : Int))) B (p + m) xs := by
  obtain ⟨a, c, hb, hsh, hS, hx, hp, hc, hcm⟩ := h
  exact ⟨a, c, ob_set1 (w := w.drewN q) hb _, hsh, hS.past hb (chg_set w B q 1 _), hx, hm, hc, hcm⟩

set_option maxRecDepth 100000 in
set_option maxHeartbeats 2000000 in
theorem number_ok (w : World) (B p : Nat) (xs : List Nat) (x m : Nat) (hm0 : 0 < m) (hpm0 : p + m ≤ xs.length) (hr : Vi.read (xs.drop p) = (x, m, 0)) (hR : Rdr w B p xs) :
    Calls Try.prog 52 #[.pointer (some ⟨B, 0, none⟩)] w fun e w' => e = .returned (.tuple #[.int .u64 x, .int .i64 0]) ∧ Rdr w' B (p + m) xs ∧ Chg (· = B) w w' := by
  have hRR := Lib.hid hR
  have hBl := hR.lt
  obtain ⟨a, c, hb, hsh, hS, hx, hp, hc, hcm⟩ := hR
  have hcm' := hcm
  unfold maxLen at hcm'
  obtain ⟨c0, c1, c2, c3, f1, f3⟩ := ob_cells hb
  obtain ⟨n, hn⟩ : ∃ n, xs.length = n := ⟨_, rfl⟩
  rw [hn] at hp hc c2 c3
  have hpm := hpm0
  rw [hn] at hpm
  have hl : (xs.drop p).length = n - p := by rw [List.length_drop, hn]
  have HL := Lib.hid hl
  have HR := Lib.hid hr
  have HX : Hid (∀ x ∈ xs.drop p, x < 256) := fun x h => hx x (List.mem_of_mem_drop h)
  have HN := Lib.hid hn
  have k1 : (p : Int) ≤ (n : Int) := by omega
  have k2 : (n : Int) ≤ (c : Int) := by omega
  have k0 : (0 : Int) ≤ (p : Int) := by omega
  have kn : p ≤ n := hp
  clear hl hr hn
  by_cases hpc : p = c
  · obtain rfl : n = c := by omega
    subst hpc
    have hl0 : (xs.drop p).length = 0 := by have := HL.out; omega
    clear HL
    have HL := Lib.hid hl0
    have hS0 : ∀ a', Seen w B .u8 a' (xs.drop p) := fun a' => seen_drop_all (by have := HL.out; rw [List.length_drop] at this; omega)
    clear hl0
    rcases hsh with ⟨rfl, rfl⟩ | ⟨g, rfl⟩
    · omega
    · omega
  · rcases hsh with ⟨rfl, rfl⟩ | ⟨g, rfl⟩
    · omega
    · have hpc' : (p : Int) < (c : Int) := by omega
      have hS1 : Seen w B .u8 (some ⟨g, p, none⟩) (xs.drop p) := by have := seen_drop hS p; rw [Nat.zero_add] at this; exact this
      go_enter Try.func52, Try.ntmps52
      go_wp2
      go_region_held3 (fun W => W.cell? ⟨B, 3, none⟩ = some (.slice (some ⟨g, 0, none⟩) n c) ∧ W.cell? ⟨B, 1, none⟩ = some (.int .i64 p)) (first | go_keep | exact ⟨(hB1.cell (p := ⟨B, 3, none⟩) hBl).trans c3, (hB1.cell (p := ⟨B, 1, none⟩) hBl).trans c1⟩) (first | (go_at_call 43; refine (read_at _ _ _ (xs.drop p) (n - p) _ HL.out HR.out HX.out B (by first | exact hS1.keep fun _ _ => rfl | (rw [if_neg (by omega)]; exact hS1.keep fun _ _ => rfl)) (by exact Nat.le_of_lt hBl) (by unfold maxLen; omega)).mono ?_; rintro e w1 ⟨rfl, hB0⟩; have hB1 : Below w.heap.size w w1 := (Below.refl _ w).drew.trans hB0))
      all_goals go_wp2_with (go_at_call 56; refine (pass_ok w1 B p n m hpm (by omega) ((hB1.cell (p := ⟨B, 1, none⟩) hBl).trans c1) ((hB1.cell (p := ⟨B, 2, none⟩) hBl).trans c2) ((hB1.frozen (p := ⟨B, 1, none⟩) hBl).trans f1)).mono ?_; rintro e w2 ⟨rfl, q, rfl⟩)
      all_goals go_ret2
      all_goals exact ⟨rfl, (hRR.out.below hB1).moved (by rw [HN.out]; exact hpm) q, (Chg.of_below _ hB1).trans (chg_set w1 B q 1 _)⟩

end Go.Proofs.Ytdemlifjhlpclaa
