/-
  The examples of the chapter.
-/
import Derived.Test.YtnnakoljbdlhoaaDoorText
import Derived.Test.YtnnakoljbdlhoaaDoorOrder
namespace Go.Proofs.YtnnakoljbdlhoaaDoor
open Go.RowKit
set_option linter.unusedVariables false

theorem pmul33 : Gf.pmul 3 3 = 5 := by decide +kernel
theorem div19 : Gf.pdiv 19 5 = 5 ∧ Gf.pmod 19 5 = 2 := by decide +kernel
theorem gcd59 : Gf.pgcd 5 9 = 3 := by decide +kernel
theorem irr19 : irr 19 = true := by decide +kernel
theorem irr5 : irr 5 = false := by decide +kernel
theorem rev6 : revI 6 / 2 ^ (64 - 4) = 6 := by decide +kernel
theorem rev1 : revI 1 / 2 ^ (64 - 4) = 8 := by decide +kernel
theorem ord19 : pw 19 15 = 1 ∧ ∀ k, 1 ≤ k → k < 15 → pw 19 k ≠ 1 := by
  refine ⟨by decide +kernel, fun k h1 h2 => ?_⟩
  have h : ∀ k : Fin 15, 1 ≤ k.val → pw 19 k.val ≠ 1 := by decide +kernel
  exact h ⟨k, h2⟩ h1
theorem ord5 : pw 5 2 = 1 ∧ ∀ k, 1 ≤ k → k < 2 → pw 5 k ≠ 1 := by
  refine ⟨by decide +kernel, fun k h1 h2 => ?_⟩
  have : k = 1 := by omega
  subst this; decide +kernel
theorem ord3 : pw 3 1 = 1 := by decide +kernel
theorem text19 : strT (Lib.join ((degs 19).map termT) [43]) = ⟨#[120, 94, 52, 43, 120, 43, 49]⟩ := by
  have e : degs 19 = [4, 1, 0] := by
    rw [degs_cons (by decide), show Gf.len 19 - 1 = 4 by decide +kernel, show 19 ^^^ 2 ^ 4 = 3 by decide, degs_cons (by decide), show Gf.len 3 - 1 = 1 by decide +kernel, show 3 ^^^ 2 ^ 1 = 1 by decide, degs_cons (by decide), show Gf.len 1 - 1 = 0 by decide +kernel, show 1 ^^^ 2 ^ 0 = 0 by decide, degs_zero]
  have e4 : termT 4 = [120, 94, 52] := by
    show [120, 94] ++ Lib.decDigits 4 = _
    rw [Lib.decDigits]; rfl
  rw [e, List.map_cons, List.map_cons, List.map_cons, List.map_nil, e4]
  rfl

theorem c_mul (w : World) : Calls Tryd.prog 20 #[.int .u64 3, .int .u64 3] w fun e w' => e = .returned (.tuple #[.int .u64 5, .int .i64 0]) ∧ Below w.heap.size w w' :=
  mul_any 3 3 (by decide) (by decide) (by decide +kernel) 5 pmul33 w
theorem c_div (w : World) : Calls Tryd.prog 22 #[.int .u64 19, .int .u64 5] w fun e w' => e = .returned (.tuple #[.int .u64 5, .int .u64 2, .int .i64 0]) ∧ w = w' :=
  by have h := div_any 19 5 (by decide) (by decide) (by decide) w; rw [div19.1, div19.2] at h; exact h
theorem c_ord19 (w : World) : Calls Tryd.prog 26 #[.int .u64 19] w fun e w' => e = .returned (.tuple #[.int .i64 15, .int .i64 0]) ∧ w = w' :=
  order_is 19 15 (by decide) (by decide +kernel) (by decide +kernel) (by decide +kernel) (by decide) (by decide) ord19.1 ord19.2 w
theorem c_ord5 (w : World) : Calls Tryd.prog 26 #[.int .u64 5] w fun e w' => e = .returned (.tuple #[.int .i64 2, .int .i64 0]) ∧ w = w' :=
  order_is 5 2 (by decide) (by decide +kernel) (by decide +kernel) (by decide +kernel) (by decide) (by decide) ord5.1 ord5.2 w
theorem c_ord3 (w : World) : Calls Tryd.prog 26 #[.int .u64 3] w fun e w' => e = .returned (.tuple #[.int .i64 1, .int .i64 0]) ∧ w = w' :=
  order_is 3 1 (by decide) (by decide +kernel) (by decide +kernel) (by decide +kernel) (by decide) (by decide) ord3 (fun k h1 h2 => by omega) w
theorem c_rev6 (w : World) : Calls Tryd.prog 28 #[.int .u64 6, .int .i64 4] w fun e w' => e = .returned (.tuple #[.int .u64 6, .int .i64 0]) ∧ w = w' :=
  reverse_any 6 4 (by decide) 6 rev6 w
theorem c_rev1 (w : World) : Calls Tryd.prog 28 #[.int .u64 1, .int .i64 4] w fun e w' => e = .returned (.tuple #[.int .u64 8, .int .i64 0]) ∧ w = w' :=
  reverse_any 1 4 (by decide) 8 rev1 w
theorem c_gcd (w : World) : Calls Tryd.prog 24 #[.int .u64 5, .int .u64 9] w fun e w' => e = .returned (.int .u64 3) ∧ w = w' :=
  gcd_any 5 9 (by decide) (by decide) 3 gcd59 w
theorem c_irr19 (w : World) : Calls Tryd.prog 27 #[.int .u64 19] w fun e w' => e = .returned (.bool true) ∧ w = w' :=
  irr_any 19 (by decide) true irr19 w
theorem c_irr5 (w : World) : Calls Tryd.prog 27 #[.int .u64 5] w fun e w' => e = .returned (.bool false) ∧ w = w' :=
  irr_any 5 (by decide) false irr5 w
theorem c_text (w : World) : Calls Tryd.prog 18 #[.int .u64 19] w fun e w' => e = .returned (.string ⟨#[120, 94, 52, 43, 120, 43, 49]⟩) ∧ Below w.heap.size w w' :=
  text_any 19 (by decide) (by decide) _ text19 w

set_option maxRecDepth 100000 in
set_option maxHeartbeats 4000000 in
theorem awake_any (w : World) : Calls Tryd.prog 14 #[] w fun e w' => e = .returned (.bool true) ∧ Below w.heap.size w w' := by
  go_enter Tryd.func14, Tryd.ntmps14
  go_wp2_with (first
    | (go_at_call 20; ((with_reducible refine (c_mul _).mono ?_); rintro e w1 ⟨rfl, hB1⟩))
    | (go_at_call 22; ((with_reducible refine (c_div _).mono ?_); rintro e w2 ⟨rfl, rfl⟩))
    | (go_at_call 26; ((with_reducible refine (c_ord19 _).mono ?_); rintro e w2 ⟨rfl, rfl⟩))
    | (go_at_call 26; ((with_reducible refine (c_ord5 _).mono ?_); rintro e w2 ⟨rfl, rfl⟩))
    | (go_at_call 26; ((with_reducible refine (c_ord3 _).mono ?_); rintro e w2 ⟨rfl, rfl⟩))
    | (go_at_call 28; ((with_reducible refine (c_rev6 _).mono ?_); rintro e w2 ⟨rfl, rfl⟩))
    | (go_at_call 28; ((with_reducible refine (c_rev1 _).mono ?_); rintro e w2 ⟨rfl, rfl⟩))
    | (go_at_call 24; ((with_reducible refine (c_gcd _).mono ?_); rintro e w2 ⟨rfl, rfl⟩))
    | (go_at_call 27; ((with_reducible refine (c_irr19 _).mono ?_); rintro e w2 ⟨rfl, rfl⟩))
    | (go_at_call 27; ((with_reducible refine (c_irr5 _).mono ?_); rintro e w2 ⟨rfl, rfl⟩))
    | (go_at_call 18; ((with_reducible refine (c_text _).mono ?_); rintro e w3 ⟨rfl, hB3⟩)))
  go_ret
  exact ⟨rfl, hB1.trans (hB3.mono hB1.size)⟩

end Go.Proofs.YtnnakoljbdlhoaaDoor
