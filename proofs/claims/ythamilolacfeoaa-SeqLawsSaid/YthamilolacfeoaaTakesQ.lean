/-
  The closures of Union, Common, Without.
-/
import Derived.Test.YthamilolacfeoaaKitQ
namespace Go.Proofs.Ythamilolacfeoaa
open Go.RowKit Sq
set_option linter.unusedVariables false
namespace Sq
def fOr (x y : Bool) : Bool := x || y
def fAnd (x y : Bool) : Bool := x && y
def fNot (x y : Bool) : Bool := x && !y
end Sq
set_option maxRecDepth 100000 in
theorem takes_or (x y : Bool) (w : World) : Calls Try.prog 50 #[.bool x, .bool y] w fun e w' => e = .returned (.bool (fOr x y)) ∧ w' = w := by
  cases x <;> cases y
  all_goals
    go_enter Try.func50, Try.ntmps50
    go_wp2
    go_ret
    exact ⟨rfl, rfl⟩
set_option maxRecDepth 100000 in
theorem takes_and (x y : Bool) (w : World) : Calls Try.prog 51 #[.bool x, .bool y] w fun e w' => e = .returned (.bool (fAnd x y)) ∧ w' = w := by
  cases x <;> cases y
  all_goals
    go_enter Try.func51, Try.ntmps51
    go_wp2
    go_ret
    exact ⟨rfl, rfl⟩
set_option maxRecDepth 100000 in
theorem takes_not (x y : Bool) (w : World) : Calls Try.prog 52 #[.bool x, .bool y] w fun e w' => e = .returned (.bool (fNot x y)) ∧ w' = w := by
  cases x <;> cases y
  all_goals
    go_enter Try.func52, Try.ntmps52
    go_wp2
    go_ret
    exact ⟨rfl, rfl⟩
end Go.Proofs.Ythamilolacfeoaa
