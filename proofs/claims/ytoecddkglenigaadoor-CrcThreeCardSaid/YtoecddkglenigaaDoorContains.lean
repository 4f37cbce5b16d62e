/-
  slices.Contains over ints.
-/
import Derived.Test.YtoecddkglenigaaDoorDam
namespace Go.Proofs.YtoecddkglenigaaDoor
open Go.RowKit
set_option linter.unusedVariables false

set_option maxRecDepth 100000 in
theorem index_no (a : Option Addr) (n c : Nat) (ks : List Nat) (hn : ks.length = n) (hl : n ≤ 1000000) (v : Nat) (hv : v ∉ ks) (B : Nat) (w : World) (hS : Seen w B .i64 a ks) :
    Calls Tryd.prog 51 #[.slice a n c, .int .i64 v] w fun e w' => e = .returned (.int .i64 (-1)) ∧ w = w' := by
  have HN := Lib.hid hn
  have HV : Hid (v ∉ ks) := hv
  clear hn hv
  go_enter Tryd.func51, Tryd.ntmps51
  go_wp2
  go_loopw [8] (fun iv wr => ∃ k : Nat, k ≤ n ∧ iv = .int .i64 k ∧ w = wr) (fun i _ => n - (intOf i).toNat)
  case atStart => exact ⟨0, Nat.zero_le _, rfl, rfl⟩
  case round =>
    obtain ⟨k, hk, rfl, rfl⟩ := hrel
    by_cases hkn : k < n
    · have hkl : k < ks.length := by rw [HN.out]; exact hkn
      obtain ⟨b, off, rfl, hb, hcell⟩ := hS.at hkl
      obtain ⟨x, hx⟩ : ∃ x, ks[k] = x := ⟨_, rfl⟩
      rw [hx] at hcell
      have hne : v ≠ x := fun e => HV.out (by rw [e, ← hx]; exact List.getElem_mem _)
      have hnb : ((v : Int) == (x : Int)) = false := by simp; omega
      clear hx
      go_wp2
      exact ⟨⟨k + 1, hkn, rfl, trivial⟩, by simp [intOf]; omega⟩
    · go_wp2
      go_ret
      exact ⟨rfl, rfl⟩

set_option maxRecDepth 100000 in
theorem index_yes (a : Option Addr) (n c : Nat) (ks : List Nat) (hn : ks.length = n) (hl : n ≤ 1000000) (v : Nat) (hv : v ∈ ks) (B : Nat) (w : World) (hS : Seen w B .i64 a ks) :
    Calls Tryd.prog 51 #[.slice a n c, .int .i64 v] w fun e w' => (∃ j : Nat, e = .returned (.int .i64 j)) ∧ w = w' := by
  have HN := Lib.hid hn
  have HV : Hid (v ∈ ks) := hv
  clear hn hv
  go_enter Tryd.func51, Tryd.ntmps51
  go_wp2
  go_loopw [8] (fun iv wr => ∃ k : Nat, k ≤ n ∧ iv = .int .i64 k ∧ Hid (v ∉ ks.take k) ∧ w = wr) (fun i _ => n - (intOf i).toNat)
  case atStart => exact ⟨0, Nat.zero_le _, rfl, (by show _ ∉ _; simp), rfl⟩
  case round =>
    obtain ⟨k, hk, rfl, HNO, rfl⟩ := hrel
    by_cases hkn : k < n
    · have hkl : k < ks.length := by rw [HN.out]; exact hkn
      obtain ⟨b, off, rfl, hb, hcell⟩ := hS.at hkl
      obtain ⟨x, hx⟩ : ∃ x, ks[k] = x := ⟨_, rfl⟩
      rw [hx] at hcell
      by_cases hne : v = x
      · have hnb : ((v : Int) == (x : Int)) = true := by rw [hne]; simp
        clear hx
        go_wp2
        go_ret
        exact ⟨⟨k, rfl⟩, rfl⟩
      · have hnb : ((v : Int) == (x : Int)) = false := by simp; omega
        have HN2 : Hid (v ∉ ks.take (k + 1)) := by
          show _ ∉ _
          rw [List.take_succ_eq_append_getElem hkl, hx]
          intro h
          rcases List.mem_append.1 h with h | h
          · exact HNO.out h
          · exact hne (List.mem_singleton.1 h)
        clear hx
        go_wp2
        exact ⟨⟨k + 1, hkn, rfl, HN2, trivial⟩, by simp [intOf]; omega⟩
    · exfalso
      have := HNO.out
      rw [List.take_of_length_le (by rw [HN.out]; omega)] at this
      exact this HV.out

theorem contains_any (a : Option Addr) (n c : Nat) (ks : List Nat) (hn : ks.length = n) (hl : n ≤ 1000000) (v : Nat) (r : Bool) (hr : decide (v ∈ ks) = r) (B : Nat) (w : World) (hS : Seen w B .i64 a ks) :
    Calls Tryd.prog 28 #[.slice a n c, .int .i64 v] w fun e w' => e = .returned (.bool r) ∧ w = w' := by
  have HN := Lib.hid hn
  have HL := Lib.hid hl
  have HS : Hid (Seen w B .i64 a ks) := hS
  cases r with
  | true =>
    have HV : Hid (v ∈ ks) := (of_decide_eq_true hr : v ∈ ks)
    clear hn hl hS hr
    go_enter Tryd.func28, Tryd.ntmps28
    go_wp2_with (go_at_call 51; ((with_reducible refine (index_yes a n c ks HN.out HL.out v HV.out B _ HS.out).mono ?_); rintro e w1 ⟨⟨j, rfl⟩, rfl⟩))
    go_ret
    exact ⟨by simp, rfl⟩
  | false =>
    have HV : Hid (v ∉ ks) := (of_decide_eq_false hr : v ∉ ks)
    clear hn hl hS hr
    go_enter Tryd.func28, Tryd.ntmps28
    go_wp2_with (go_at_call 51; ((with_reducible refine (index_no a n c ks HN.out HL.out v HV.out B _ HS.out).mono ?_); rintro e w1 ⟨rfl, rfl⟩))
    go_ret
    exact ⟨rfl, rfl⟩

end Go.Proofs.YtoecddkglenigaaDoor
