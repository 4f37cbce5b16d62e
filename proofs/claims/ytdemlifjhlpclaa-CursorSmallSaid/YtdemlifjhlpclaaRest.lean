/-
  What is left: left, pass, none.
-/
import Derived.Test.YtdemlifjhlpclaaKit
import Derived.Test.YtdemlifjhlpclaaCurSpec
namespace Go.Proofs.Ytdemlifjhlpclaa
open Go.RowKit
set_option linter.unusedVariables false

set_option maxRecDepth 100000 in
theorem left_any (w : World) (B p n : Nat) (hp : p ≤ n) (hn : n ≤ 9223372036854775807) (h1 : w.cell? ⟨B, 1, none⟩ = some (.int .i64 p)) (h2 : w.cell? ⟨B, 2, none⟩ = some (.int .i64 n)) :
    Calls Try.prog 49 #[.pointer (some ⟨B, 0, none⟩)] w fun e w' => e = .returned (.int .i64 ((n : Int) - p)) ∧ ∃ q, w' = w.drewN q := by
  have hw : IntKind.i64.wrap ((n : Int) - (p : Int)) = (n : Int) - p := IntWalk.i64_in _ (by omega)
  go_enter Try.func49, Try.ntmps49
  go_wp2
  go_quiet (fail)
  go_wp2
  go_ret
  exact ⟨rfl, _, rfl⟩

set_option maxRecDepth 100000 in
theorem noneR_any (w : World) (B : Nat) (h0 : w.cell? ⟨B, 0, none⟩ = some (.bool true)) :
    Calls Try.prog 48 #[.pointer (some ⟨B, 0, none⟩)] w fun e w' => e = .returned (.bool false) ∧ w = w' := by
  go_enter Try.func48, Try.ntmps48
  go_wp2
  go_ret
  exact ⟨rfl, rfl⟩
set_option maxRecDepth 100000 in
theorem noneW_any (w : World) (B : Nat) (h0 : w.cell? ⟨B, 0, none⟩ = some (.bool true)) :
    Calls Try.prog 46 #[.pointer (some ⟨B, 0, none⟩)] w fun e w' => e = .returned (.bool false) ∧ w = w' := by
  go_enter Try.func46, Try.ntmps46
  go_wp2
  go_ret
  exact ⟨rfl, rfl⟩

set_option maxRecDepth 100000 in
theorem pass_no (w : World) (B p n k : Nat) (hp : p ≤ n) (hn : n ≤ 9223372036854775807) (hk : n < p + k) (h1 : w.cell? ⟨B, 1, none⟩ = some (.int .i64 p)) (h2 : w.cell? ⟨B, 2, none⟩ = some (.int .i64 n)) :
    Calls Try.prog 56 #[.pointer (some ⟨B, 0, none⟩), .int .i64 k] w fun e w' => e = .returned (.bool false) ∧ ∃ q, w' = w.drewN q := by
  have ht : (n : Int) - (p : Int) < (k : Int) := by omega
  go_enter Try.func56, Try.ntmps56
  go_wp2_with (go_at_call 49; refine (left_any _ _ _ _ hp hn h1 h2).mono ?_; rintro e w1 ⟨rfl, q, rfl⟩)
  go_ret
  exact ⟨rfl, _, rfl⟩
set_option maxRecDepth 100000 in
theorem pass_ok (w : World) (B p n k : Nat) (hk : p + k ≤ n) (hn : n ≤ 9223372036854775807) (h1 : w.cell? ⟨B, 1, none⟩ = some (.int .i64 p)) (h2 : w.cell? ⟨B, 2, none⟩ = some (.int .i64 n)) (hf : w.frozen? ⟨B, 1, none⟩ = false) :
    Calls Try.prog 56 #[.pointer (some ⟨B, 0, none⟩), .int .i64 k] w fun e w' => e = .returned (.bool true) ∧ ∃ q, w' = (w.drewN q).setCell ⟨B, 1, none⟩ (.int .i64 ((p + k : Nat) : Int)) := by
  have ht : (k : Int) ≤ (n : Int) - (p : Int) := by omega
  have hp : p ≤ n := by omega
  go_enter Try.func56, Try.ntmps56
  go_wp2_with (go_at_call 49; refine (left_any _ _ _ _ hp hn h1 h2).mono ?_; rintro e w1 ⟨rfl, q, rfl⟩)
  go_ret
  exact ⟨rfl, q, by push_cast; rfl⟩

end Go.Proofs.Ytdemlifjhlpclaa
