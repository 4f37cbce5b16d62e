/-
  The reference's lists of coefficients: trim.
-/
import Derived.Test.YtoecddkglenigaaDoorBursts
namespace Go.Proofs.YtoecddkglenigaaDoor
open Go.RowKit
set_option linter.unusedVariables false

/-- The first m coefficients. -/
def bq (s m : Nat) : List Nat := (List.range m).map fun i => s / 2 ^ i % 2
theorem bq_len (s m : Nat) : (bq s m).length = m := by simp [bq]
theorem bq_at (s m i : Nat) (h : i < m) : (bq s m)[i]? = some (s / 2 ^ i % 2) := by simp [bq, h]
theorem bq_take (s m k : Nat) (h : k ≤ m) : (bq s m).take k = bq s k := by
  unfold bq
  rw [← List.map_take, List.take_range, Nat.min_eq_left h]
theorem bq_succ (s m : Nat) : bq s (m + 1) = bq s m ++ [s / 2 ^ m % 2] := by simp [bq, List.range_succ]
def lenV : Value → Nat
  | .slice _ n _ => n
  | _ => 0
/-- A row's beginning. -/
theorem own_take {w : World} {base g n cap k : Nat} {e : TypeId} {xs : List Value} (h : w.ownsRow base e 1 (.slice (some ⟨g, 0, none⟩) n cap) n xs) (hk : k ≤ n) : w.ownsRow base e 1 (.slice (some ⟨g, 0, none⟩) k cap) k (xs.take k) := by
  rcases h with ⟨hl, hr⟩
  refine ⟨by rw [List.length_take, hl]; omega, ?_⟩
  rcases hr with ⟨h0, _⟩ | ⟨g', cap', cur, hv, hb, hh, h1, h2, h3, h4⟩
  · cases h0
  · injection hv with h5 _ h6
    refine .inr ⟨g', cap', cur, by rw [h5, h6], hb, hh, by omega, h2, h3, ?_⟩
    rw [← h4, List.take_take]
    congr 1
    omega
theorem top_zero {s k : Nat} (h : s < 2 ^ (k + 1)) (h0 : s / 2 ^ k % 2 = 0) : s < 2 ^ k := by
  have hp : 0 < 2 ^ k := Nat.pow_pos (by decide)
  have h1 : s / 2 ^ k < 2 := Nat.div_lt_of_lt_mul (by rw [Nat.pow_succ] at h; exact h)
  have h2 : s / 2 ^ k = 0 := by
    generalize s / 2 ^ k = v at h0 h1
    omega
  exact Nat.lt_of_div_eq_zero hp h2
theorem top_one {s k : Nat} (h : s < 2 ^ (k + 1)) (h0 : s / 2 ^ k % 2 = 1) : Gf.len s = k + 1 := by
  refine Gf.len_eq ?_ h
  rcases Nat.lt_or_ge s (2 ^ k) with h1 | h1
  · rw [Nat.div_eq_of_lt h1] at h0; cases h0
  · exact h1

set_option maxRecDepth 100000 in
theorem trim_any (base g m c s : Nat) (hs : s < 2 ^ m) (hm : m ≤ 100000) (w : World) (hrow : w.ownsRow base 3 1 (.slice (some ⟨g, 0, none⟩) m c) m ((bq s m).map fun x : Nat => Value.int .i64 x)) :
    Calls Tryd.prog 79 #[.slice (some ⟨g, 0, none⟩) m c] w fun e w' => e = .returned (.slice (some ⟨g, 0, none⟩) (Gf.len s) c) ∧ w = w' := by
  have hc := own_cap hrow
  have HROW := Lib.hid hrow
  have HS := Lib.hid hs
  have hmc : m ≤ c := hc.1
  have hcm : (c : Int) ≤ 9223372036854775807 := by have := hc.2; unfold maxLen at this; omega
  clear hs hrow hc
  go_enter Tryd.func79, Tryd.ntmps79
  go_wp2
  go_loopw [0] (fun pv wr => ∃ k : Nat, k ≤ m ∧ pv = .slice (some ⟨g, 0, none⟩) k c ∧ Hid (s < 2 ^ k) ∧ w = wr) (fun pv _ => lenV pv)
  case atStart => exact ⟨m, Nat.le_refl _, rfl, HS, rfl⟩
  case round =>
    obtain ⟨k, hk, rfl, HK, rfl⟩ := hrel
    by_cases hk0 : k = 0
    · have h1 : ¬ (0 : Int) < (k : Int) := by omega
      have h1b : decide ((0 : Int) < (k : Int)) = false := by simp; omega
      have HE : Hid (Gf.len s = k) := by
        have h := HK.out
        rw [hk0] at h
        have : s = 0 := by simpa using h
        show _ = _
        rw [this, hk0]; rfl
      clear hk0
      go_wp2
      go_ret
      exact ⟨by rw [HE.out]; rfl, rfl⟩
    · obtain ⟨j, rfl⟩ : ∃ j, k = j + 1 := ⟨k - 1, by omega⟩
      have hji : ((j + 1 : Nat) : Int) - 1 = (j : Int) := by omega
      have h1 : (0 : Int) < ((j + 1 : Nat) : Int) := by omega
      have hjc : j ≤ c := by omega
      have hjci : (j : Int) ≤ (c : Int) := by omega
      have hj5 : (j : Int) ≤ 100000 := by omega
      have hcell : w.cell? ⟨g, j, none⟩ = some (.int .i64 ((s / 2 ^ j % 2 : Nat) : Int)) := by
        rw [HROW.out.cellAt j (by omega), List.getElem?_map, bq_at s m j (by omega)]; rfl
      by_cases hb : s / 2 ^ j % 2 = 0
      · rw [hb] at hcell
        have HJ : Hid (s < 2 ^ j) := top_zero HK.out hb
        clear hb hk0
        go_wp2
        exact ⟨⟨j, by omega, rfl, HJ, trivial⟩, by simp [lenV]⟩
      · have hb1 : s / 2 ^ j % 2 = 1 := by omega
        rw [hb1] at hcell
        have HE : Hid (Gf.len s = j + 1) := top_one HK.out hb1
        clear hb hb1 hk0
        go_wp2
        go_ret
        exact ⟨by rw [HE.out]; rfl, rfl⟩

theorem trim_nil (w : World) :
    Calls Tryd.prog 79 #[.slice none 0 0] w fun e w' => e = .returned (.slice none 0 0) ∧ w = w' := by
  go_enter Tryd.func79, Tryd.ntmps79
  go_wp2
  go_loopw [0] (fun pv wr => pv = .slice none 0 0 ∧ w = wr) (fun pv _ => 0)
  case atStart => exact ⟨rfl, rfl⟩
  case round =>
    obtain ⟨rfl, rfl⟩ := hrel
    go_wp2
    go_ret
    exact ⟨rfl, rfl⟩

end Go.Proofs.YtoecddkglenigaaDoor
