/-
  The table of TrailingZeros64 out of the row's condition; forms of a law's parameters.
-/
import Derived.Test.YtkochcolmkgkgaaDoorLeast
import Derived.Test.YtkochcolmkgkgaaDoorRows
import Derived.Test.YtkochcolmkgkgaaDoorArgs
import Derived.MakeChecks
import Derived.Lib.LaidTab
namespace Go.Proofs.YtkochcolmkgkgaaDoor
open Go.RowKit

theorem ht_of_laid (W : World) (h : laidMetH Tryd.prog [("math/bits.deBruijn64tab", Rows.laid_math_bits_deBruijn64tab)] W) : HT W := by
  rw [MakeChecks.laidMetH_plain _ _ _ (by kernel_rfl)] at h
  have hT := Lib.tabIs_of_head (k := .u8) (zs := Lib.deBruijn64tab.map fun x : Nat => (x : Int))
    (g := 0) (t := 107) (e := 5) (n := 64) (by kernel_rfl) (by kernel_rfl) (by kernel_rfl) (by kernel_rfl) (by kernel_rfl) (by kernel_rfl) h
  intro i hi
  rw [hT.cell (g := 0) (by kernel_rfl) i (by rw [List.length_map]; exact hi)]
  have e : ∀ i : Fin 64, (Lib.deBruijn64tab.map fun x : Nat => (x : Int)).getD i.val 0 = ((Lib.deBruijn64tab.getD i.val 0 : Nat) : Int) := by decide +kernel
  rw [e ⟨i, hi⟩]
end Go.Proofs.YtkochcolmkgkgaaDoor
