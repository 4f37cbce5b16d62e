/-
  The walk of CursorWrites.
-/
import Derived.Test.YtdemlifjhlpclaaWrites
import Derived.Test.YtdemlifjhlpclaaCAwake
namespace Go.Proofs.Ytdemlifjhlpclaa
open Go.RowKit
set_option linter.unusedVariables false

theorem actB_of_row {w : World} {t : Act0} {zs : List Int} (h : IsRow .u8 w t.sa t.sn t.sc zs) : ActB w w.heap.size t := by
  obtain ⟨xs, hxl, hS, hx, hlc, hcm⟩ := row_u8 h
  exact ⟨hlc, hcm, xs, hxl, hS⟩

set_option maxRecDepth 100000 in
set_option maxHeartbeats 1000000 in
theorem cwrites_walk (a0 : Int) (a1 : Option Addr) (len1 cap1 : Nat) (w : World) (w0 : (Lit.int .i64 a0).wf = true) (w1 : ActsIn w a1 len1 cap1) :
    Calls Try.prog 4 #[.int .i64 a0, .slice a1 len1 cap1] w fun e w' => e = .returned (.bool true) ∧ Below w.heap.size w w' := by
  have hb0 := bounds_i64 w0
  obtain ⟨hmm, hmc, l, hl, hA, hlo⟩ := w1
  have HLO : Hid (∀ t ∈ l, t.ok) := fun t ht => (hlo t ht).1
  have HLB : Hid (∀ t ∈ l, ActB w w.heap.size t) := fun t ht => by
    obtain ⟨_, zs, hz⟩ := hlo t ht
    exact actB_of_row hz
  have HL := Lib.hid hl
  clear hlo hl
  go_enter Try.func4, Try.ntmps4
  go_wp2_with (first
    | (go_at_call 13; ((with_reducible refine (writes_any _ a0 hb0.1 hb0.2 a1 len1 cap1 l HL.out HLO.out _ (Nat.le_refl _) HLB.out hmc hmm _ hA (Nat.le_refl _)).mono ?_); rintro e w2 ⟨rfl, hB2⟩))
    | (go_at_call 12; ((with_reducible refine (awake_any _).mono ?_); rintro e w3 ⟨rfl, hB3⟩)))
  go_ret
  exact ⟨rfl, hB2.trans (hB3.mono hB2.size)⟩

end Go.Proofs.Ytdemlifjhlpclaa
