/-
  The walk of CursorReads.
-/
import Derived.Test.YtdemlifjhlpclaaActs
import Derived.Test.YtdemlifjhlpclaaCAwake
namespace Go.Proofs.Ytdemlifjhlpclaa
open Go.RowKit
set_option linter.unusedVariables false

set_option maxRecDepth 100000 in
set_option maxHeartbeats 1000000 in
theorem creads_walk (a0 : Option Addr) (len0 cap0 : Nat) (z0 : List Int) (a1 : Option Addr) (len1 cap1 : Nat) (w : World) (w0 : IsRow .u8 w a0 len0 cap0 z0) (w1 : ActsIn w a1 len1 cap1) :
    Calls Try.prog 3 #[.slice a0 len0 cap0, .slice a1 len1 cap1] w fun e w' => e = .returned (.bool true) ∧ Below w.heap.size w w' := by
  have hsn : a0 = none → cap0 = 0 := fun e => by
    rcases w0 with ⟨_, _, h, _⟩ | ⟨x, h, _⟩
    · exact h
    · rw [e] at h; cases h
  obtain ⟨xs, hxl, hS, hx, hlc, hcm⟩ := row_u8 w0
  obtain ⟨hmm, hmc, l, hl, hA, hlo⟩ := w1
  have HLO : Hid (∀ t ∈ l, t.ok) := fun t ht => (hlo t ht).1
  have HX := Lib.hid hx
  have HXL := Lib.hid hxl
  have HL := Lib.hid hl
  have HSN := Lib.hid hsn
  clear hlo hx hxl hl hsn w0
  go_enter Try.func3, Try.ntmps3
  go_wp2_with (first
    | (go_at_call 11; ((with_reducible refine (reads_any _ a0 len0 cap0 xs HXL.out HX.out hlc hcm HSN.out _ hS (Nat.le_refl _) a1 len1 cap1 l HL.out HLO.out hmc hmm _ hA (Nat.le_refl _)).mono ?_); rintro e w2 ⟨rfl, hB2⟩))
    | (go_at_call 12; ((with_reducible refine (awake_any _).mono ?_); rintro e w3 ⟨rfl, hB3⟩)))
  go_ret
  exact ⟨rfl, hB2.trans (hB3.mono hB2.size)⟩

end Go.Proofs.Ytdemlifjhlpclaa
