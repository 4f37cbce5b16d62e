/-
  The walk of the examples.
-/
import Derived.Test.YtkochcolmkgkgaaDoorAwake5
namespace Go.Proofs.YtkochcolmkgkgaaDoor
open Go.RowKit
set_option linter.unusedVariables false

set_option maxRecDepth 100000 in
set_option maxHeartbeats 4000000 in
theorem awake_any (w : World) (hT : HT w) : Calls Tryd.prog 13 #[] w fun e w' => e = .returned (.bool true) ∧ Below w.heap.size w w' := by
  have HT0 : Hid (HT w) := hT
  have HW0 : Hid (0 < w.heap.size) := hT.pos
  clear hT
  go_enter Tryd.func13, Tryd.ntmps13
  go_wp2_with (first
    | (go_at_call 35; ((with_reducible refine (ex_of4 w _).mono ?_); rintro e w1 ⟨g, rfl, hown, hb1⟩; have HB1 := Lib.hid (below_alloc hb1); have HO1 := Lib.hid hown.seen; clear hb1 hown)))
  have hsz : (w1.alloc (.cells #[.int .i64 70, .slice (some ⟨g, 0, none⟩) 2 2] 24)).heap.size = w1.heap.size + 1 := by simp
  have HBX : Hid (Box (w1.alloc (.cells #[.int .i64 70, .slice (some ⟨g, 0, none⟩) 2 2] 24)) w1.heap.size (.int .i64 70) (.slice (some ⟨g, 0, none⟩) 2 2)) := Box.new _ _ _
  have HSA : Hid (Seen (w1.alloc (.cells #[.int .i64 70, .slice (some ⟨g, 0, none⟩) 2 2] 24)) (w1.alloc (.cells #[.int .i64 70, .slice (some ⟨g, 0, none⟩) 2 2] 24)).heap.size .u64 (some ⟨g, 0, none⟩) [10, 3]) := (HO1.out.alloc (Nat.le_refl _) _).more (by simp)
  have HBA : Hid (Below w.heap.size w (w1.alloc (.cells #[.int .i64 70, .slice (some ⟨g, 0, none⟩) 2 2] 24))) := HB1.out.alloc HB1.out.size _
  obtain ⟨A, hA⟩ : ∃ A, w1.alloc (.cells #[.int .i64 70, .slice (some ⟨g, 0, none⟩) 2 2] 24) = A := ⟨_, rfl⟩
  rw [hA] at hsz HBX HSA HBA ⊢
  have HTA : Hid (HT A) := HT0.out.below HBA.out HW0.out
  have HPA : Hid (0 < A.heap.size) := HTA.out.pos
  clear hA
  refine (same_lit1 g _ A HSA.out _ hsz).mono ?_
  rintro e w2 ⟨rfl, hb2⟩
  have HB2 := Lib.hid hb2
  clear hb2 hsz
  obtain ⟨b, hb⟩ : ∃ b, w1.heap.size = b := ⟨_, rfl⟩
  rw [hb] at HBX ⊢
  clear hb HO1 HB1
  obtain ⟨c20, c21, _, _⟩ := (HBX.out.keep HB2.out).cells
  go_wp2_with (first
    | (go_at_call 21; ((with_reducible refine (ex_count g w2 A.heap.size (HSA.out.below HB2.out) HB2.out.size).mono ?_); rintro e w3 ⟨rfl, hb3⟩; have HB3 := Lib.hid (HB2.out.trans (hb3.mono HB2.out.size)); obtain ⟨c30, c31, _, _⟩ := (HBX.out.keep HB3.out).cells; clear hb3))
    | (go_at_call 25; ((with_reducible refine (ex_rank1 g w3 A.heap.size (HSA.out.below HB3.out) HB3.out.size).mono ?_); rintro e w4 ⟨rfl, hb4⟩; have HB4 := Lib.hid (HB3.out.trans (hb4.mono HB3.out.size)); obtain ⟨c40, c41, _, _⟩ := (HBX.out.keep HB4.out).cells; clear hb4))
    | (go_at_call 25; ((with_reducible refine (ex_rank2 g w4 A.heap.size (HSA.out.below HB4.out) HB4.out.size).mono ?_); rintro e w5 ⟨rfl, hb5⟩; have HB5 := Lib.hid (HB4.out.trans (hb5.mono HB4.out.size)); obtain ⟨c50, c51, _, _⟩ := (HBX.out.keep HB5.out).cells; clear hb5))
    | (go_at_call 20; ((with_reducible refine (ex_select g w5 A.heap.size (HSA.out.below HB5.out) HB5.out.size (HTA.out.below HB5.out HPA.out) HPA.out).mono ?_); rintro e w6 ⟨rfl, hb6⟩; have HB6 := Lib.hid (HB5.out.trans (hb6.mono HB5.out.size)); obtain ⟨c60, c61, _, _⟩ := (HBX.out.keep HB6.out).cells; clear hb6))
    | (go_at_call 26; ((with_reducible refine (ex_next g w6 A.heap.size (HSA.out.below HB6.out) HB6.out.size (HTA.out.below HB6.out HPA.out) HPA.out).mono ?_); rintro e w7 ⟨rfl, hb7⟩; have HB7 := Lib.hid (HB6.out.trans (hb7.mono HB6.out.size)); obtain ⟨c70, c71, _, _⟩ := (HBX.out.keep HB7.out).cells; clear hb7))
    | (go_at_call 27; ((with_reducible refine (ex_before g w7 A.heap.size (HSA.out.below HB7.out) HB7.out.size (HTA.out.below HB7.out HPA.out) HPA.out).mono ?_); rintro e w8 ⟨rfl, hb8⟩; have HB8 := Lib.hid (HB7.out.trans (hb8.mono HB7.out.size)); obtain ⟨c80, c81, _, _⟩ := (HBX.out.keep HB8.out).cells; clear hb8))
    | (go_at_call 22; ((with_reducible refine (ex_runs g w8 A.heap.size (HSA.out.below HB8.out) HB8.out.size (HTA.out.below HB8.out HPA.out) HPA.out).mono ?_); rintro e w9 ⟨ar, cr, rfl, hsr, hb9⟩; have HB9 := Lib.hid (HB8.out.trans (hb9.mono HB8.out.size)); have HSR : Hid (SeenP w9 w9.heap.size ar [(1, 2), (3, 4), (64, 66)]) := hsr; obtain ⟨c90, c91, _, _⟩ := (HBX.out.keep HB9.out).cells; clear hb9 hsr))
    | (go_at_call 47; ((with_reducible refine (runs_lit ar cr w9 HSR.out _).mono ?_); rintro e w10 ⟨rfl, hb10⟩; have HB10 := Lib.hid (HB9.out.trans (hb10.mono HB9.out.size)); obtain ⟨c100, c101, _, _⟩ := (HBX.out.keep HB10.out).cells; clear hb10))
    | (go_at_call 37; ((with_reducible refine (ex_without g w10 A.heap.size (HSA.out.below HB10.out) HB10.out.size).mono ?_); rintro e w11 ⟨g11, rfl, ho11, hb11⟩; have HB11 := Lib.hid (HB10.out.trans (hb11.mono HB10.out.size)); have HO11 := Lib.hid ho11.seen; clear hb11 ho11))
    | (go_at_call 18; ((with_reducible refine (ex_new _).mono ?_); rintro e w12 ⟨g12, rfl, ho12, hb12⟩; have HA11 := Lib.hid ((Below.refl w11.heap.size w11).alloc (Nat.le_refl _) (.cells #[.int .i64 70, .slice (some ⟨g11, 0, none⟩) 2 2] 24)); have HX11 := Lib.hid ((Box.new w11 (.int .i64 70) (.slice (some ⟨g11, 0, none⟩) 2 2)).keep hb12); have HB112 := Lib.hid (HA11.out.trans (hb12.mono HA11.out.size)); have HB12 := Lib.hid (HB11.out.trans (HB112.out.mono HB11.out.size)); have HO12 := Lib.hid ho12.seen; obtain ⟨d0, d1, _, _⟩ := (HBX.out.keep HB12.out).cells; have hl12 := (HBX.out.keep HB12.out).lt; clear hb12 ho12))
    | (go_at_call 30; ((with_reducible refine (ex_or g _ w12.heap.size (((HSA.out.below HB12.out).more HB12.out.size).alloc (Nat.le_refl _) _) (by simp) g12 (HO12.out.alloc (Nat.le_refl _) _)).mono ?_); rintro e w13 ⟨rfl, hb13⟩; have HB123 := Lib.hid (below_alloc hb13); have HX13 := Lib.hid ((HX11.out.keep HB123.out)); have HB13 := Lib.hid (HB12.out.trans (HB123.out.mono HB12.out.size)); obtain ⟨e0, e1, _, _⟩ := HX13.out.cells; have hl13 := HX13.out.lt; have HO13 : Hid (Seen (w13.alloc (.cells #[.int .i64 0, .slice none 0 0] 24)) (w13.alloc (.cells #[.int .i64 0, .slice none 0 0] 24)).heap.size .u64 (some ⟨g11, 0, none⟩) [10, 2]) := ((((HO11.out.below HB112.out).more HB112.out.size).below HB123.out).more HB123.out.size).alloc (Nat.le_refl _) _ |>.more (by simp); clear hb13))
    | (go_at_call 33; ((with_reducible refine (same_lit2 g11 _ _ HO13.out _ (by simp)).mono ?_); rintro e w14 ⟨rfl, hb14⟩; have HB14 := Lib.hid (HB13.out.trans ((below_alloc hb14).mono HB13.out.size)); clear hb14))
    | (go_at_call 34; ((with_reducible refine (right_lit w14 _).mono ?_); rintro e w15 ⟨rfl, hb15⟩; have HB15 := Lib.hid (HB14.out.trans (hb15.mono HB14.out.size)); clear hb15)))
  go_ret
  exact ⟨rfl, HBA.out.trans (HB15.out.mono HBA.out.size)⟩
end Go.Proofs.YtkochcolmkgkgaaDoor
