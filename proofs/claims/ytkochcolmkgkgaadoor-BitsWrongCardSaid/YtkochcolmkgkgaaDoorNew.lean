/-
  New.
-/
import Derived.Test.YtkochcolmkgkgaaDoorNext
import Derived.OwnWalk
import Derived.IntWalk
import Derived.Laws.OwnMore
namespace Go.Proofs.YtkochcolmkgkgaaDoor
open Go.RowKit
set_option linter.unusedVariables false

theorem infoW : (Tryd.prog.info? 30).map (fun i => (i.zero, i.size, i.bytes)) = some (some (.int .u64 0), 1, 8) := by kernel_rfl
theorem info_parts {o : Option TypeInfo} {z : Option Value} {s b : Nat} (h : o.map (fun i => (i.zero, i.size, i.bytes)) = some (z, s, b)) : ∃ i0, o = some i0 ∧ i0.zero = z ∧ i0.size = s ∧ i0.bytes = b := by
  obtain ⟨i, hi, he⟩ := Option.map_eq_some_iff.1 h
  injection he with h1 h2
  injection h2 with h2 h3
  exact ⟨i, hi, h1, h2, h3⟩
/-- A row of its own that holds words. -/
def OwnW (w : World) (base g q : Nat) (xs : List Nat) : Prop := w.ownsRow base 30 1 (.slice (some ⟨g, 0, none⟩) q q) q (xs.map fun x : Nat => Value.int .u64 x)
theorem OwnW.seen {w : World} {base g q : Nat} {xs : List Nat} (h : OwnW w base g q xs) : Seen w w.heap.size .u64 (some ⟨g, 0, none⟩) xs := Seen.of_own h
theorem OwnW.len {w : World} {base g q : Nat} {xs : List Nat} (h : OwnW w base g q xs) : xs.length = q := by simpa using h.1
theorem zeros_w {w : World} {base g q : Nat} (h : w.ownsRow base 30 1 (.slice (some ⟨g, 0, none⟩) q q) q (madeCells (Value.int .u64 0).cells (q * 1)).toList) : OwnW w base g q (List.replicate q 0) := by
  unfold OwnW
  rw [show (Value.int IntKind.u64 0).cells = #[.int .u64 0] from rfl, toList_madeCells_one, Nat.mul_one] at h
  rw [List.map_replicate]
  exact h
/-- What New returns. -/
def NewOut (w : World) (N q : Nat) (xs : List Nat) (e : Ending) (w' : World) : Prop := ∃ g, e = .returned (.tuple #[.agg #[.int .i64 N, .slice (some ⟨g, 0, none⟩) q q], .int .i64 0]) ∧ OwnW w' w.heap.size g q xs ∧ Below w.heap.size w w'
theorem below_own {w w' : World} {base : Nat} {o : Option Nat} (h : w.grownBy w' o) (hg : ∀ g, o = some g → base ≤ g) (hb : base ≤ w.heap.size) : Below base w w' := (Below.refl base w).grown h hb hg

set_option maxRecDepth 100000 in
theorem new_any (N : Nat) (hN : (N : Int) ≤ 65536) (q : Nat) (hq : (N + 63) / 64 = q) (w : World) :
    Calls Tryd.prog 18 #[.int .i64 N] w (NewOut w N q (List.replicate q 0)) := by
  obtain ⟨i0, hi, hz0, hz1, hz2⟩ := info_parts infoW
  have HQ := Lib.hid hq
  have hq2 : q ≤ 1024 := by omega
  have g1 : decide ((N : Int) < 0) = false := by simp
  have g2 : decide ((65536 : Int) < (N : Int)) = false := by simp; omega
  clear hq
  go_enter Tryd.func18, Tryd.ntmps18
  go_wp2_with (first
    | (go_at_call 55; ((with_reducible refine (words_any N hN q HQ.out _).mono ?_); rintro e w1 ⟨rfl, rfl⟩))
    | (at_make; refine wpList_make_full _ rfl _ _ 22 rfl (w.heap.size + 1) 30 i0 (.int .u64 0) 1 Tryd.underlying22 hi hz0 hz1 .i64 .i64 _ _ q rfl rfl rfl rfl (by rw [hz2]; omega) (by unfold maxLen; omega) (by simp) ?_; intro w2 hown2 hgrow2; have hb2 := below_own hgrow2 (fun g e => by cases e) (Nat.le_refl _); obtain ⟨hc2, hf2⟩ := bcell hb2; have HB2 := Lib.hid hb2; have HOWN := Lib.hid hown2; clear hb2 hown2 hgrow2))
  refine bodyPost_ret (v := .tuple #[.agg #[.int .i64 N, .slice (some ⟨w.heap.size + 1, 0, none⟩) q q], .int .i64 0]) (by simp [results, Tryd.results18, go_sem, hc2]) rfl ⟨_, rfl, ?_, ?_⟩
  · have h := HOWN.out
    simp only [World.size_alloc] at h
    exact rebase (zeros_w (ownsRow_setCell_below (ownsRow_setCell_below h (by show _ < _; simp) _) (by show _ < _; simp) _)) (by omega)
  · exact ((below_alloc HB2.out).setCell (Nat.le_refl _) _).setCell (Nat.le_refl _) _

set_option maxRecDepth 100000 in
theorem new_no (N : Int) (hN : N < 0 ∨ 65536 < N) (w : World) :
    Calls Tryd.prog 18 #[.int .i64 N] w fun e w' => e = .returned (.tuple #[.agg #[.int .i64 0, .slice none 0 0], .int .i64 2]) ∧ Below w.heap.size w w' := by
  by_cases h : N < 0
  · have g1 : decide (N < 0) = true := by simp; omega
    clear hN
    go_enter Tryd.func18, Tryd.ntmps18
    go_wp2
    exact bodyPost_ret (v := .tuple #[.agg #[.int .i64 0, .slice none 0 0], .int .i64 2]) (by simp [results, Tryd.results18, go_sem]) rfl ⟨rfl, (Below.refl _ w).alloc (Nat.le_refl _) _⟩
  · have g1 : decide (N < 0) = false := by simp; omega
    have g2 : decide (65536 < N) = true := by simp; omega
    clear hN
    go_enter Tryd.func18, Tryd.ntmps18
    go_wp2
    exact bodyPost_ret (v := .tuple #[.agg #[.int .i64 0, .slice none 0 0], .int .i64 2]) (by simp [results, Tryd.results18, go_sem]) rfl ⟨rfl, (Below.refl _ w).alloc (Nat.le_refl _) _⟩

end Go.Proofs.YtkochcolmkgkgaaDoor
