/-
  known, Name.
-/
import Derived.Test.YtainjicbmjfnkaaDoorKinds
import Derived.WalkKit
import Derived.Lib.Hide
namespace Go.Proofs.YtainjicbmjfnkaaDoor
open Go.RowKit
set_option linter.unusedVariables false

theorem known_any (k : Nat) (hk : k < 256) (r : Bool) (hr : decide (1 ≤ k ∧ k ≤ 10) = r) (w : World) : Calls Tryd.prog 43 #[.int .u8 k] w fun e w' => e = .returned (.bool r) ∧ w' = w := by
  by_cases h1 : 1 ≤ k
  · by_cases h2 : k ≤ 10
    · have hr' : r = true := by rw [← hr]; simp; omega
      subst hr'
      have g1 : decide ((1 : Int) ≤ (k : Int)) = true := by rw [decide_eq_true_eq]; omega
      have g2 : (1 : Int) ≤ (k : Int) := by omega
      have g3 : decide ((k : Int) ≤ 10) = true := by rw [decide_eq_true_eq]; omega
      have g4 : (k : Int) ≤ 10 := by omega
      clear hr
      go_enter Tryd.func43, Tryd.ntmps43
      go_wp2
      go_ret
      exact ⟨rfl, rfl⟩
    · have hr' : r = false := by rw [← hr]; simp; omega
      subst hr'
      have g1 : decide ((1 : Int) ≤ (k : Int)) = true := by rw [decide_eq_true_eq]; omega
      have g2 : (1 : Int) ≤ (k : Int) := by omega
      have g3 : decide ((k : Int) ≤ 10) = false := by rw [decide_eq_false_iff_not]; omega
      have g4 : ¬ (k : Int) ≤ 10 := by omega
      clear hr
      go_enter Tryd.func43, Tryd.ntmps43
      go_wp2
      go_ret
      exact ⟨rfl, rfl⟩
  · have hr' : r = false := by rw [← hr]; simp; omega
    subst hr'
    have hk0 : k = 0 := by omega
    subst hk0
    clear hr
    go_enter Tryd.func43, Tryd.ntmps43
    go_wp2
    go_ret
    exact ⟨rfl, rfl⟩
namespace Ev
def kname (k : Nat) : List UInt8 := if 1 ≤ k ∧ k ≤ 10 then (tab.getD k ([], [])).1 else []
def kfs (k : Nat) : List Nat := if 1 ≤ k ∧ k ≤ 10 then (tab.getD k ([], [])).2 else []
theorem HE.kind {w : World} (h : HE w) {k : Nat} (h1 : 1 ≤ k) (h2 : k ≤ 10) : KindAt w k (kname k) (kfs k) := by
  have hk : tab[k]? = some (tab.getD k ([], [])) := by
    rw [List.getD_eq_getElem?_getD, List.getElem?_eq_getElem (show k < tab.length from Nat.lt_succ_of_le h2)]; rfl
  unfold kname kfs
  rw [if_pos ⟨h1, h2⟩, if_pos ⟨h1, h2⟩]
  exact h.2.1 k _ _ hk
end Ev
theorem name_any (k : Nat) (hk : k < 256) (w : World) (hE : Ev.HE w) : Calls Tryd.prog 23 #[.int .u8 k] w fun e w' => e = .returned (.string (Ev.str (Ev.kname k))) ∧ w' = w := by
  obtain ⟨r, hr⟩ : ∃ r, decide (1 ≤ k ∧ k ≤ 10) = r := ⟨_, rfl⟩
  have HR := Lib.hid hr
  have HKB := Lib.hid hk
  cases r with
  | true =>
    have hb : 1 ≤ k ∧ k ≤ 10 := by simpa using hr
    obtain ⟨c0, _⟩ := hE.kind hb.1 hb.2
    have hk11 : (k : Int) < 11 := by omega
    have c1 : w.cell? ⟨0, k * 2, none⟩ = some (.string (Ev.str (Ev.kname k))) := by rw [Nat.mul_comm]; exact c0
    clear hr hb c0
    go_enter Tryd.func23, Tryd.ntmps23
    go_wp2_with (go_at_call 43; ((with_reducible refine (known_any k HKB.out true HR.out w).mono ?_); rintro e w' ⟨rfl, rfl⟩))
    go_ret
    exact ⟨rfl, rfl⟩
  | false =>
    have hb : ¬ (1 ≤ k ∧ k ≤ 10) := by simpa using hr
    have e1 : Ev.str (Ev.kname k) = ⟨#[]⟩ := by unfold Ev.kname; rw [if_neg hb]; rfl
    rw [e1]
    clear hr hb e1
    go_enter Tryd.func23, Tryd.ntmps23
    go_wp2_with (go_at_call 43; ((with_reducible refine (known_any k HKB.out false HR.out w).mono ?_); rintro e w' ⟨rfl, rfl⟩))
    go_ret
    exact ⟨rfl, rfl⟩
end Go.Proofs.YtainjicbmjfnkaaDoor
