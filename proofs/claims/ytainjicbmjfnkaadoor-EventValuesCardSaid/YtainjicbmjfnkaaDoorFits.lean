/-
  between, leastGroup, leastGot, fits.
-/
import Derived.Test.YtainjicbmjfnkaaDoorPlace
import Derived.Deep.QuietTactic
import Derived.BigQuiet
import Derived.WalkSmall
namespace Go.Proofs.YtainjicbmjfnkaaDoor
open Go.RowKit
set_option linter.unusedVariables false

theorem between_any (a x b : Int) (r : Bool) (hr : decide (a ≤ x ∧ x ≤ b) = r) (w : World) : Calls Tryd.prog 63 #[.int .i64 a, .int .i64 x, .int .i64 b] w fun e w' => e = .returned (.bool r) ∧ w' = w := by
  by_cases h1 : a ≤ x
  · by_cases h2 : x ≤ b
    · obtain rfl : true = r := by rw [← hr]; simp; omega
      have g1 : decide (a ≤ x) = true := by rw [decide_eq_true_eq]; omega
      have g2 : decide (x ≤ b) = true := by rw [decide_eq_true_eq]; omega
      clear hr
      go_enter Tryd.func63, Tryd.ntmps63
      go_wp2
      go_ret
      exact ⟨rfl, rfl⟩
    · obtain rfl : false = r := by rw [← hr]; simp; omega
      have g1 : decide (a ≤ x) = true := by rw [decide_eq_true_eq]; omega
      have g2 : decide (x ≤ b) = false := by rw [decide_eq_false_iff_not]; omega
      clear hr
      go_enter Tryd.func63, Tryd.ntmps63
      go_wp2
      go_ret
      exact ⟨rfl, rfl⟩
  · obtain rfl : false = r := by rw [← hr]; simp; omega
    have g1 : decide (a ≤ x) = false := by rw [decide_eq_false_iff_not]; omega
    clear hr
    go_enter Tryd.func63, Tryd.ntmps63
    go_wp2
    go_ret
    exact ⟨rfl, rfl⟩
namespace Ev
def lg (kd : Nat) : Int := if kd = 8 then 1 else 0
def lt (kd : Nat) : Int := if kd = 5 ∨ kd = 6 then 0 else 1
/-- A field is within its limits. -/
def fits (cp kd : Nat) (tk gr to_ wg tc : Int) (mk : Nat) (gt : Int) (f : Nat) : Bool := match f with
  | 0 => decide (1 ≤ tk ∧ tk ≤ 65535) | 1 => decide (lg kd ≤ gr ∧ gr ≤ 255) | 2 => decide (0 ≤ to_ ∧ to_ ≤ 63) && !(to_ == (cp : Int)) | 3 => decide (1 ≤ wg ∧ wg ≤ 65536) | 4 => decide (1 ≤ tc ∧ tc ≤ 4294967295)
  | 5 => decide ((mk : Int) / 2 ^ cp % 2 = 1) | _ => decide (lt kd ≤ gt ∧ gt ≤ 65535)
end Ev
theorem lg_any (kd : Nat) (g : Int) (hg : Ev.lg kd = g) (w : World) : Calls Tryd.prog 76 #[.int .u8 kd] w fun e w' => e = .returned (.int .i64 g) ∧ w' = w := by
  unfold Ev.lg at hg
  by_cases h : kd = 8
  · subst h
    obtain rfl : 1 = g := hg
    go_enter Tryd.func76, Tryd.ntmps76
    go_wp2
    go_ret
    exact ⟨rfl, rfl⟩
  · obtain rfl : 0 = g := by rw [← hg, if_neg h]
    have h1 : ((kd : Int) == 8) = false := by simp; omega
    have h2 : (kd == 8) = false := by simp; omega
    clear hg h
    go_enter Tryd.func76, Tryd.ntmps76
    go_wp2
    go_ret
    exact ⟨rfl, rfl⟩
theorem lt_any (kd : Nat) (g : Int) (hg : Ev.lt kd = g) (w : World) : Calls Tryd.prog 77 #[.int .u8 kd] w fun e w' => e = .returned (.int .i64 g) ∧ w' = w := by
  unfold Ev.lt at hg
  by_cases h : kd = 5
  · subst h
    obtain rfl : 0 = g := hg
    go_enter Tryd.func77, Tryd.ntmps77
    go_wp2
    go_ret
    exact ⟨rfl, rfl⟩
  · have h1 : ((kd : Int) == 5) = false := by simp; omega
    have h2 : (kd == 5) = false := by simp; omega
    by_cases h' : kd = 6
    · subst h'
      obtain rfl : 0 = g := hg
      go_enter Tryd.func77, Tryd.ntmps77
      go_wp2
      go_ret
      exact ⟨rfl, rfl⟩
    · obtain rfl : 1 = g := by rw [← hg, if_neg (fun e => e.elim h h')]
      have h3 : ((kd : Int) == 6) = false := by simp; omega
      have h4 : (kd == 6) = false := by simp; omega
      clear hg h h'
      go_enter Tryd.func77, Tryd.ntmps77
      go_wp2
      go_ret
      exact ⟨rfl, rfl⟩
set_option maxRecDepth 100000 in
set_option maxHeartbeats 2000000 in
theorem fits_any (sq tm : Int) (cp kd : Nat) (tk gr to_ wg tc : Int) (mk : Nat) (gt : Int) (hcp : cp < 256) (hmk : mk < 2 ^ 64) (f : Nat) (hf : f < 7) (r : Bool) (hr : Ev.fits cp kd tk gr to_ wg tc mk gt f = r) (w : World) : Calls Tryd.prog 64 #[.agg #[.int .i64 sq, .int .i64 tm, .int .u8 cp, .int .u8 kd, .int .i64 tk, .int .i64 gr, .int .i64 to_, .int .i64 wg, .int .i64 tc, .int .u64 mk, .int .i64 gt], .int .u8 f] w fun e w' => e = .returned (.bool r) ∧ Below w.heap.size w w' := by
  have HX := Lib.hid (EBox.new w sq tm cp kd tk gr to_ wg tc mk gt)
  have HBW : Hid (Below w.heap.size w (w.alloc (.cells #[.int .i64 sq, .int .i64 tm, .int .u8 cp, .int .u8 kd, .int .i64 tk, .int .i64 gr, .int .i64 to_, .int .i64 wg, .int .i64 tc, .int .u64 mk, .int .i64 gt] 24))) := (Below.refl _ w).alloc (Nat.le_refl _) _
  obtain ⟨x0, x1, x2, x3, x4, x5, x6, x7, x8, x9, x10⟩ := HX.out.cells
  have HCP := Lib.hid hcp
  have HMK : Hid (mk < 2 ^ 64) := hmk
  clear hmk
  rcases (show f = 0 ∨ f = 1 ∨ f = 2 ∨ f = 3 ∨ f = 4 ∨ f = 5 ∨ f = 6 by omega) with rfl | rfl | rfl | rfl | rfl | rfl | rfl
  · have HR : Hid (decide (1 ≤ tk ∧ tk ≤ 65535) = r) := hr
    clear hr hf
    go_enter Tryd.func64, Tryd.ntmps64
    go_wp2_with (go_at_call 63; ((with_reducible refine (between_any 1 tk 65535 r HR.out _).mono ?_); rintro e w' ⟨rfl, rfl⟩))
    go_ret
    exact ⟨rfl, HBW.out⟩
  · obtain ⟨g, hg⟩ : ∃ g, Ev.lg kd = g := ⟨_, rfl⟩
    have HG := Lib.hid hg
    have HR : Hid (decide (g ≤ gr ∧ gr ≤ 255) = r) := by show _ = _; rw [← hr, ← hg]; rfl
    clear hr hf hg
    go_enter Tryd.func64, Tryd.ntmps64
    go_wp2
    go_quiet (first
      | (go_at_call 76; exact Calls.quiet_of_same (lg_any kd g HG.out _))
      | (go_at_call 63; exact Calls.quiet_of_same (between_any g gr 255 r HR.out _)))
    go_wp2
    go_ret
    exact ⟨rfl, below_drewN HBW.out _⟩
  · cases h1 : decide (0 ≤ to_ ∧ to_ ≤ 63) with
    | false =>
      have HR := Lib.hid h1
      have hr2 : false = r := by rw [← hr]; simp only [Ev.fits, h1, Bool.false_and]
      subst hr2
      clear hr hf h1
      go_enter Tryd.func64, Tryd.ntmps64
      go_wp2_with (go_at_call 63; ((with_reducible refine (between_any 0 to_ 63 false HR.out _).mono ?_); rintro e w' ⟨rfl, rfl⟩))
      go_ret
      exact ⟨rfl, HBW.out⟩
    | true =>
      have HR := Lib.hid h1
      have hcw : IntKind.i64.wrap (cp : Int) = (cp : Int) := by rw [IntKind.wrap_i64]; omega
      obtain ⟨t, ht⟩ : ∃ t, (to_ == (cp : Int)) = t := ⟨_, rfl⟩
      have hr2 : (!t) = r := by rw [← hr, ← ht]; simp only [Ev.fits, h1, Bool.true_and]
      subst hr2
      have ht2 : (to_ != (cp : Int)) = !t := by rw [bne, ht]
      clear hr hf h1 ht
      go_enter Tryd.func64, Tryd.ntmps64
      go_wp2_with (go_at_call 63; ((with_reducible refine (between_any 0 to_ 63 true HR.out _).mono ?_); rintro e w' ⟨rfl, rfl⟩))
      go_ret
      exact ⟨by first | rfl | (show Ending.returned (.bool (to_ != (cp : Int))) = _; rw [ht2]), HBW.out⟩
  · have HR : Hid (decide (1 ≤ wg ∧ wg ≤ 65536) = r) := hr
    clear hr hf
    go_enter Tryd.func64, Tryd.ntmps64
    go_wp2_with (go_at_call 63; ((with_reducible refine (between_any 1 wg 65536 r HR.out _).mono ?_); rintro e w' ⟨rfl, rfl⟩))
    go_ret
    exact ⟨rfl, HBW.out⟩
  · have HR : Hid (decide (1 ≤ tc ∧ tc ≤ 4294967295) = r) := hr
    clear hr hf
    go_enter Tryd.func64, Tryd.ntmps64
    go_wp2_with (go_at_call 63; ((with_reducible refine (between_any 1 tc 4294967295 r HR.out _).mono ?_); rintro e w' ⟨rfl, rfl⟩))
    go_ret
    exact ⟨rfl, HBW.out⟩
  · obtain ⟨d, hd⟩ : ∃ d : Nat, mk / 2 ^ cp = d := ⟨_, rfl⟩
    have hr2 : decide (d % 2 = 1) = r := by
      rw [← hr]
      show decide (d % 2 = 1) = decide ((mk : Int) / 2 ^ cp % 2 = 1)
      have e : (mk : Int) / 2 ^ cp = (d : Int) := by rw [← hd]; norm_cast
      rw [e, decide_eq_decide]; omega
    have h5 : (bits .and .u64 ((mk : Int) / 2 ^ min cp 64) 1 == 1) = r := by
      have e0 : mk / 2 ^ min cp 64 = d := by
        rw [← hd]
        rcases Nat.le_total cp 64 with h | h
        · rw [Nat.min_eq_left h]
        · rw [Nat.min_eq_right h, Nat.div_eq_of_lt HMK.out, Nat.div_eq_of_lt (Nat.lt_of_lt_of_le HMK.out (Nat.pow_le_pow_right (by decide) h))]
      have e : (mk : Int) / 2 ^ min cp 64 = (d : Int) := by rw [← e0]; norm_cast
      have hdl : d < 18446744073709551616 := by rw [← hd]; exact Nat.lt_of_le_of_lt (Nat.div_le_self _ _) HMK.out
      rw [e, and_one_u64 _ (by omega) (by omega), ← hr2]
      rw [Bool.eq_iff_iff]
      simp
      omega
    clear hr hf hr2
    go_enter Tryd.func64, Tryd.ntmps64
    go_wp2
    go_ret
    exact ⟨by first | rfl | (show Ending.returned (.bool (bits .and .u64 ((mk : Int) / 2 ^ min cp 64) 1 == 1)) = _; rw [h5]), HBW.out⟩
  · obtain ⟨g, hg⟩ : ∃ g, Ev.lt kd = g := ⟨_, rfl⟩
    have HG := Lib.hid hg
    have HR : Hid (decide (g ≤ gt ∧ gt ≤ 65535) = r) := by show _ = _; rw [← hr, ← hg]; rfl
    clear hr hf hg
    go_enter Tryd.func64, Tryd.ntmps64
    go_wp2
    go_quiet (first
      | (go_at_call 77; exact Calls.quiet_of_same (lt_any kd g HG.out _))
      | (go_at_call 63; exact Calls.quiet_of_same (between_any g gt 65535 r HR.out _)))
    go_wp2
    go_ret
    exact ⟨rfl, below_drewN HBW.out _⟩
end Go.Proofs.YtainjicbmjfnkaaDoor
