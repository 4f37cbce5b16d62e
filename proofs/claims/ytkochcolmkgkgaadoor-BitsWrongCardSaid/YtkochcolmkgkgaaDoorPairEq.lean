/-
  Two pairs that are compared.
-/
import Derived.Test.YtkochcolmkgkgaaDoorProg
import Derived.Laws.StructEq
namespace Go.Proofs.YtkochcolmkgkgaaDoor
set_option linter.unusedVariables false

set_option maxRecDepth 100000 in
theorem run_equal_pair (w : World) (a b : Int) : (Op.equalIn 10000 50 (.agg #[.int .i64 a, .int .i64 b]) (.agg #[.int .i64 a, .int .i64 b])).run Tryd.prog w = .ok true w := by
  have h1 : Tryd.prog.underlying 50 = some (.array 2 3) := Tryd.underlying50
  have h2 := Tryd.underlying3
  have he : ∀ (a : Int) (w : World), (Op.equalIn 9999 3 (.int .i64 a) (.int .i64 a)).run Tryd.prog w = .ok true w := by
    intro a w
    have := run_equalIn_int (P := Tryd.prog) w 9998 3 .i64 .i64 a a h2
    rw [beq_self_eq_true] at this
    exact this
  show (Op.equalIn (9998 + 1 + 1) _ _ _).run _ _ = _
  unfold Op.equalIn
  simp [run_underlying h1, go_sem]
  rw [show List.range' 0 2 = [0, 1] from rfl]
  simp [List.forIn_cons, isAgg, run_underlying h2, he, go_sem]
end Go.Proofs.YtkochcolmkgkgaaDoor
