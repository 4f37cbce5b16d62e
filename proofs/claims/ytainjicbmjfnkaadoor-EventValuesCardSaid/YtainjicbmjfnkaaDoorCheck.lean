/-
  Check.
-/
import Derived.Test.YtainjicbmjfnkaaDoorOther
namespace Go.Proofs.YtainjicbmjfnkaaDoor
open Go.RowKit
set_option linter.unusedVariables false

namespace Ev
/-- What Go's types ask of an event's fields. -/
def WF (sq tm : Int) (cp kd : Nat) (tk gr to_ wg tc : Int) (mk : Nat) (gt : Int) : Prop := I64 sq ∧ I64 tm ∧ cp < 256 ∧ kd < 256 ∧ I64 tk ∧ I64 gr ∧ I64 to_ ∧ I64 wg ∧ I64 tc ∧ mk < 2 ^ 64 ∧ I64 gt
/-- P6.1 as a number. -/
def check (sq tm : Int) (cp kd : Nat) (tk gr to_ wg tc : Int) (mk : Nat) (gt : Int) : Nat := if 1 ≤ kd ∧ kd ≤ 10 then (if within sq tm cp kd tk gr to_ wg tc mk gt = true then (if other (kfs kd) tk gr to_ wg tc mk gt = true then 62 else 0) else 61) else 60
end Ev
set_option maxRecDepth 100000 in
set_option maxHeartbeats 1000000 in
theorem check_any (sq tm : Int) (cp kd : Nat) (tk gr to_ wg tc : Int) (mk : Nat) (gt : Int) (hw : Ev.WF sq tm cp kd tk gr to_ wg tc mk gt) (r : Nat) (hr : Ev.check sq tm cp kd tk gr to_ wg tc mk gt = r) (w : World) (hE : Ev.HE w) : Calls Tryd.prog 17 #[.agg #[.int .i64 sq, .int .i64 tm, .int .u8 cp, .int .u8 kd, .int .i64 tk, .int .i64 gr, .int .i64 to_, .int .i64 wg, .int .i64 tc, .int .u64 mk, .int .i64 gt]] w fun e w' => e = .returned (.int .i64 r) ∧ Below w.heap.size w w' := by
  have HX := Lib.hid (EBox.new w sq tm cp kd tk gr to_ wg tc mk gt)
  have HBW : Hid (Below w.heap.size w (w.alloc (.cells #[.int .i64 sq, .int .i64 tm, .int .u8 cp, .int .u8 kd, .int .i64 tk, .int .i64 gr, .int .i64 to_, .int .i64 wg, .int .i64 tc, .int .u64 mk, .int .i64 gt] 24))) := (Below.refl _ w).alloc (Nat.le_refl _) _
  have HEW := Lib.hid (hE.below HBW.out)
  obtain ⟨q1, q2, q3, q4, q5, q6, q7, q8, q9, q10, q11⟩ := hw
  have Q3 := Lib.hid q3
  have Q4 := Lib.hid q4
  have Q5 : Hid (Ev.I64 tk) := q5
  have Q6 : Hid (Ev.I64 gr) := q6
  have Q7 : Hid (Ev.I64 to_) := q7
  have Q8 : Hid (Ev.I64 wg) := q8
  have Q9 : Hid (Ev.I64 tc) := q9
  have Q10 : Hid (mk < 2 ^ 64) := q10
  have Q11 : Hid (Ev.I64 gt) := q11
  clear q1 q2 q3 q4 q5 q6 q7 q8 q9 q10 q11
  unfold Ev.check at hr
  clear hE
  obtain ⟨x0, x1, x2, x3, x4, x5, x6, x7, x8, x9, x10⟩ := HX.out.cells
  obtain ⟨b1, hb1⟩ : ∃ b, decide (1 ≤ kd ∧ kd ≤ 10) = b := ⟨_, rfl⟩
  have HB1 := Lib.hid hb1
  cases b1 with
  | false =>
    have hr2 : r = 60 := by rw [decide_eq_false_iff_not] at hb1; rw [← hr, if_neg hb1]
    subst hr2
    clear hr hb1
    go_enter Tryd.func17, Tryd.ntmps17
    go_wp2_with (go_at_call 43; ((with_reducible refine (known_any kd Q4.out false HB1.out _).mono ?_); rintro e w' ⟨rfl, rfl⟩))
    go_ret
    exact ⟨rfl, HBW.out⟩
  | true =>
    rw [decide_eq_true_eq] at hb1
    rw [if_pos hb1] at hr
    have HK1 := Lib.hid hb1.1
    have HK2 := Lib.hid hb1.2
    obtain ⟨b2, hb2⟩ : ∃ b, Ev.within sq tm cp kd tk gr to_ wg tc mk gt = b := ⟨_, rfl⟩
    have HB2 := Lib.hid hb2
    rw [hb2] at hr
    obtain ⟨b3, hb3⟩ : ∃ b, Ev.other (Ev.kfs kd) tk gr to_ wg tc mk gt = b := ⟨_, rfl⟩
    have HB3 := Lib.hid hb3
    rw [hb3] at hr
    clear hb1 hb2 hb3
    cases b2 with
    | false =>
      obtain rfl : 61 = r := hr
      go_enter Tryd.func17, Tryd.ntmps17
      go_wp2_with (first
        | (go_at_call 43; ((with_reducible refine (known_any kd Q4.out true HB1.out _).mono ?_); rintro e w' ⟨rfl, rfl⟩))
        | (go_at_call 44; ((with_reducible refine (within_any sq tm cp kd tk gr to_ wg tc mk gt Q3.out Q10.out HK1.out HK2.out false HB2.out _ HEW.out).mono ?_); rintro e w2 ⟨rfl, hb⟩; have HW2 := Lib.hid (HBW.out.trans (hb.mono HBW.out.size)); clear hb)))
      go_ret
      exact ⟨rfl, HW2.out⟩
    | true =>
      obtain ⟨r', hr'⟩ : ∃ r' : Nat, (if b3 = true then 62 else 0) = r' := ⟨_, rfl⟩
      obtain rfl : r' = r := hr'.symm.trans hr
      clear hr
      cases b3 with
      | false =>
        obtain rfl : 0 = r' := hr'
        go_enter Tryd.func17, Tryd.ntmps17
        go_wp2_with (first
          | (go_at_call 43; ((with_reducible refine (known_any kd Q4.out true HB1.out _).mono ?_); rintro e w' ⟨rfl, rfl⟩))
          | (go_at_call 44; ((with_reducible refine (within_any sq tm cp kd tk gr to_ wg tc mk gt Q3.out Q10.out HK1.out HK2.out true HB2.out _ HEW.out).mono ?_); rintro e w2 ⟨rfl, hb⟩; have HW2 := Lib.hid (HBW.out.trans (hb.mono HBW.out.size)); have HE2 := Lib.hid (HEW.out.below hb); have HX2 := Lib.hid (HX.out.keep hb); obtain ⟨y0, y1, y2, y3, y4, y5, y6, y7, y8, y9, y10⟩ := HX2.out.cells; clear hb))
          | (go_at_call 45; ((with_reducible refine (hasOther_any sq tm cp kd tk gr to_ wg tc mk gt Q3.out Q5.out Q6.out Q7.out Q8.out Q9.out Q11.out HK1.out HK2.out false HB3.out _ HE2.out).mono ?_); rintro e w3 ⟨rfl, hb⟩; have HW3 := Lib.hid (HW2.out.trans (hb.mono HW2.out.size)); clear hb)))
        go_ret
        exact ⟨rfl, HW3.out⟩
      | true =>
        obtain rfl : 62 = r' := hr'
        go_enter Tryd.func17, Tryd.ntmps17
        go_wp2_with (first
          | (go_at_call 43; ((with_reducible refine (known_any kd Q4.out true HB1.out _).mono ?_); rintro e w' ⟨rfl, rfl⟩))
          | (go_at_call 44; ((with_reducible refine (within_any sq tm cp kd tk gr to_ wg tc mk gt Q3.out Q10.out HK1.out HK2.out true HB2.out _ HEW.out).mono ?_); rintro e w2 ⟨rfl, hb⟩; have HW2 := Lib.hid (HBW.out.trans (hb.mono HBW.out.size)); have HE2 := Lib.hid (HEW.out.below hb); have HX2 := Lib.hid (HX.out.keep hb); obtain ⟨y0, y1, y2, y3, y4, y5, y6, y7, y8, y9, y10⟩ := HX2.out.cells; clear hb))
          | (go_at_call 45; ((with_reducible refine (hasOther_any sq tm cp kd tk gr to_ wg tc mk gt Q3.out Q5.out Q6.out Q7.out Q8.out Q9.out Q11.out HK1.out HK2.out true HB3.out _ HE2.out).mono ?_); rintro e w3 ⟨rfl, hb⟩; have HW3 := Lib.hid (HW2.out.trans (hb.mono HW2.out.size)); clear hb)))
        go_ret
        exact ⟨rfl, HW3.out⟩
end Go.Proofs.YtainjicbmjfnkaaDoor
