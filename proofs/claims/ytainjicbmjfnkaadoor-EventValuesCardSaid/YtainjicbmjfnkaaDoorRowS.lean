/-
  Numbers as texts, and rows of texts of the call's own.
-/
import Derived.Test.YtainjicbmjfnkaaDoorTextNo
namespace Go.Proofs.YtainjicbmjfnkaaDoor
open Go.RowKit Go.Sort Go.Lib
set_option linter.unusedVariables false

/-- The table of powers of ten, as it lies in a world. -/
def Pw (w : World) : Prop := Lib.TabIs Tryd.prog w "internal/strconv.uint64pow10" .u64 Lib.pow10Tab
theorem Pw.below {w w' : World} (h : Pw w) (hb : Below w.heap.size w w') : Pw w' := Lib.tabBelow_of_tabIs h w' hb
theorem fmt_b (u : Nat) (hu : u < 18446744073709551616) (w : World) (hP : Pw w) : Calls Tryd.prog 40 #[.int .u64 u, .int .i64 10] w fun e w' => e = .returned (.string (Ev.str (Lib.decDigits u))) ∧ Below w.heap.size w w' := by
  refine (fmt_any u hu w hP).mono ?_
  rintro e w' ⟨rfl, k, os, rfl⟩
  exact ⟨rfl, Lib.below_grow _ _ (Nat.le_refl _) _ _⟩
theorem itoa_b (n : Int) (h0 : -9223372036854775808 ≤ n) (h1 : n ≤ 9223372036854775807) (w : World) (hP : Pw w) : Calls Tryd.prog 39 #[.int .i64 n] w fun e w' => e = .returned (.string (Ev.str (Lib.itoa n))) ∧ Below w.heap.size w w' := by
  refine (Tryd.strconv_Itoa n h0 h1 w hP).mono ?_
  rintro e w' ⟨rfl, k, os, rfl⟩
  exact ⟨rfl, Lib.below_grow _ _ (Nat.le_refl _) _ _⟩
theorem infoS : (Tryd.prog.info? 9).map (fun i => (i.zero, i.size, i.bytes)) = some (some (.string ⟨#[]⟩), 1, 16) := by kernel_rfl
def strV (l : List UInt8) : Value := .string (Ev.str l)
/-- append of one text to an owned row of texts. -/
theorem app_str (w : World) {ops : Array Oper} {rest : List Oper} {o : Oper} {a : Act} {Q : Exit → Act → World → Prop}
    (hg : o.guard = none) (s x : Operand) (hop : o.op = Op.call { callee := Callee.builtin Builtin.append, args := #[s, x], argTypes := #[43, 43] })
    (base n : Nat) (v : Value) (ys : List (List UInt8)) (hs : a.eval s = v) (hown : w.ownsRow base 9 1 v n (ys.map strV))
    (ad : Addr) (y : List UInt8) (hx : a.eval x = .slice (some ad) 1 1) (hc : ∀ j z, [strV y][j]? = some z → w.cell? (ad.add j) = some z) (hlen : n ≤ 1000000) (hb : base ≤ w.heap.size)
    (hK : ∀ v' w', w'.ownsRow base 9 1 v' (n + 1) ((ys ++ [y]).map strV) → Below base w w' → wpList Tryd.prog ops Q rest (a.put o.dst v') w') : wpList Tryd.prog ops Q (o :: rest) a w := by
  obtain ⟨i0, hi, hz0, hz1, hz2⟩ := info_parts infoS
  refine wpList_append_own w hg s x 43 hop base 9 i0 (.string ⟨#[]⟩) 1 16 Tryd.underlying43 hi hz0 hz1 hz2 rfl (by decide) _ _ _ hs hown _ _ _ [strV y] hx rfl hc (by intro u hu; simp at hu; subst hu; rfl) (by unfold maxLen; omega) (by omega) hb ?_
  intro v2 w2 hown2 hgrow2 _
  refine hK v2 w2 (by rw [List.map_append]; exact hown2) ?_
  exact (Below.refl base w).grown hgrow2 hb (fun k e => (hown.lt k e).1)
theorem own_sliceS {w : World} {base n : Nat} {v : Value} {xs : List (List UInt8)} (h : w.ownsRow base 9 1 v n (xs.map strV)) :
    ∃ a c, v = .slice a n c ∧ w.ownsRow base 9 1 (.slice a n c) n (xs.map strV) := by
  rcases h.2 with ⟨rfl, rfl⟩ | ⟨g, cap, cur, rfl, _⟩
  · exact ⟨none, 0, rfl, h⟩
  · exact ⟨_, cap, rfl, h⟩
end Go.Proofs.YtainjicbmjfnkaaDoor
