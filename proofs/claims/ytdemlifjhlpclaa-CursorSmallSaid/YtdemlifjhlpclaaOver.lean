/-
  quantumkit.OverBytes.
-/
import Derived.Test.YtdemlifjhlpclaaLent
namespace Go.Proofs.Ytdemlifjhlpclaa
open Go.RowKit
set_option linter.unusedVariables false

def SomeByte (w : World) (e : Ending) (w' : World) : Prop := ∃ v : Int, e = .returned (.int .u8 v) ∧ w = w'
set_option maxRecDepth 100000 in
theorem mark2 (i : Nat) (w : World) (h1 : i ≤ 100000) : Calls Try.prog 57 #[.int .i64 2, .int .i64 i] w (SomeByte w) := by
  go_enter Try.func57, Try.ntmps57
  go_wp2
  go_ret
  exact ⟨_, rfl, rfl⟩

set_option maxRecDepth 100000 in
set_option maxHeartbeats 1000000 in
theorem over_any (w : World) (base g n cap : Nat) (vs : List Value) (hrow : w.ownsRow base 5 1 (.slice (some ⟨g, 0, none⟩) (n + 12) cap) (n + 12) vs) (hn : n ≤ 50000) (hc : n + 12 ≤ cap) (hcm : cap ≤ maxLen) :
    Calls Try.prog 37 #[.slice (some ⟨g, 0, none⟩) n cap] w fun e w' => e = .returned (.tuple #[]) ∧ Chg (· = g) w w' := by
  unfold maxLen at hcm
  have hmn : (if (n : Int) + 12 < (cap : Int) then (n : Int) + 12 else (cap : Int)) = (n : Int) + 12 := by split <;> omega
  have hc1 : (n : Int) + 12 ≤ (cap : Int) := by omega
  go_enter Try.func37, Try.ntmps37
  go_wp2
  go_loopw [3] (fun i wr => ∃ (k : Nat) (us : List Value), k ≤ n + 12 ∧ i = .int .i64 k ∧ wr.ownsRow base 5 1 (.slice (some ⟨g, 0, none⟩) (n + 12) cap) (n + 12) us ∧ Chg (· = g) w wr) (fun i _ => n + 12 - (intOf i).toNat)
  case atStart => exact ⟨0, vs, Nat.zero_le _, rfl, hrow, Chg.refl _ _⟩
  case round =>
    obtain ⟨k, us, hk, rfl, hr, hK⟩ := hrel
    by_cases hlt : k < n + 12
    · have hul : us.length = n + 12 := by have := hr.1; omega
      obtain ⟨u, hu⟩ : ∃ u, us[k]? = some u := ⟨_, List.getElem?_eq_getElem (by omega)⟩
      have hcell := hr.cellAt k (by omega)
      rw [hu] at hcell
      have hfz := hr.frozenAt k
      have i1 : (k : Int) < (n : Int) + 12 := by omega
      have i0' : (0 : Int) ≤ (k : Int) := by omega
      clear hu hul
      go_wp2_with (go_at_call 57; ((with_reducible refine (mark2 k _ (by omega)).mono ?_); rintro e w' ⟨v, rfl, rfl⟩; have hst := Lib.hid (hr.stored k (.int .u8 v)); have hK2 : Chg (· = g) w (wr.setCell ⟨g, k, none⟩ (.int .u8 v)) := hK.setCell (p := ⟨g, k, none⟩) rfl _))
      exact ⟨⟨k + 1, _, by omega, by go_num, hst.out.1, hK2⟩, by simp [intOf]; omega⟩
    · obtain rfl : k = n + 12 := by omega
      go_wp2
      go_end0
      exact ⟨rfl, hK⟩

end Go.Proofs.Ytdemlifjhlpclaa
