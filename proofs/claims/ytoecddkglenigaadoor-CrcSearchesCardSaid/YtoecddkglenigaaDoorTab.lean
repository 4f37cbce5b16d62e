/-
  The table out of the row's condition.
-/
import Derived.Test.YtoecddkglenigaaDoorReg
import Derived.Test.YtoecddkglenigaaDoorRows
import Derived.Test.YtoecddkglenigaaDoorArgs
import Derived.MakeChecks
namespace Go.Proofs.YtoecddkglenigaaDoor
open Go.RowKit

theorem ht_of_laid (W : World) (h : laidMetH Tryd.prog [("quantum/crc.halves", Rows.laid_quantum_crc_halves)] W) : HT W := by
  rw [MakeChecks.laidMetH_plain _ _ _ (by kernel_rfl)] at h
  have hT := Lib.tabIs_of_head (k := .u32) (zs := [0, 498536548, 997073096, 651767980, 1994146192, 1802195444, 1303535960, 1342533948, 3988292384, 4027552580, 3604390888, 3412177804, 2607071920, 2262029012, 2685067896, 3183342108])
    (g := 0) (t := 105) (e := 23) (n := 16) (by kernel_rfl) (by kernel_rfl) (by kernel_rfl) (by kernel_rfl) (by kernel_rfl) (by kernel_rfl) h
  intro i hi
  rw [hT.cell (g := 0) (by kernel_rfl) i (by simpa using hi)]
  have e : ∀ i : Fin 16, [(0 : Int), 498536548, 997073096, 651767980, 1994146192, 1802195444, 1303535960, 1342533948, 3988292384, 4027552580, 3604390888, 3412177804, 2607071920, 2262029012, 2685067896, 3183342108].getD i.val 0 = (Crc.hv i.val : Int) := by decide +kernel
  rw [e ⟨i, hi⟩]

end Go.Proofs.YtoecddkglenigaaDoor
