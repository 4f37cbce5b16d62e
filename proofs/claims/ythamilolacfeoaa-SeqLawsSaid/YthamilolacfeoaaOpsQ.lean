/-
  Union, Common, Without, Missing, First.
-/
import Derived.Test.YthamilolacfeoaaJoinQ
import Derived.Test.YthamilolacfeoaaTakesQ
namespace Go.Proofs.Ythamilolacfeoaa
open Go.RowKit Sq
set_option linter.unusedVariables false

/-- What a call returns that makes a set. -/
def SetOut (w : World) (P : Rs → Prop) (e : Ending) (w' : World) : Prop := (∃ a c L, e = .returned (.tuple #[.slice a L.length c, .int .i64 0]) ∧ w'.ownsRow w.heap.size 34 2 (.slice a L.length c) L.length (flat L) ∧ P L) ∧ Below w.heap.size w w'
def ErrOut (w : World) (k : Int) (e : Ending) (w' : World) : Prop := e = .returned (.tuple #[.slice none 0 0, .int .i64 k]) ∧ Below w.heap.size w w'
section
variable (a1 a2 : Option Addr) (n m c1 c2 : Nat) (a b : Rs) (hn : a.length = n) (hm : b.length = m) (w : World) (B : Nat) (hS1 : SeenR w B a1 a) (hS2 : SeenR w B a2 b) (hB : B ≤ w.heap.size)
include hn hm hS1 hS2 hB
theorem join_any (ha : Rt a) (hb : Rt b) (F : Nat) (f : Bool → Bool → Bool) (h0 : f false false = false) (hE : ∀ args W, (callFunc F args).run Try.prog W = .ok (.enter F args) W) (hF : ∀ (x y : Bool) (W : World), Calls Try.prog F #[.bool x, .bool y] W fun e w' => e = .returned (.bool (f x y)) ∧ w' = W) :
    Calls Try.prog 49 #[.slice a1 n c1, .slice a2 m c2, .func (.func F) #[] #[]] w (SetOut w (Made f a b)) :=
  ((callsIn_wide (n := 9)).1 (join_in a1 a2 n m c1 c2 a b hn hm ha hb w B hS1 hS2 hB F f h0 hE hF)).mono fun e w' h => by
    obtain ⟨⟨v, L, h1, h2, h3⟩, h4⟩ := h
    obtain ⟨a', c', rfl, _⟩ := own_runs h2
    exact ⟨⟨a', c', L, h1, h2, h3⟩, h4⟩
set_option maxRecDepth 100000 in
theorem join_no (v : Value) (hnl : n ≤ maxLen) (hml : m ≤ maxLen) (hi : I64L a) (hj : I64L b) (hR : ¬ (Rt a ∧ Rt b)) (F : Nat) :
    Calls Try.prog 49 #[.slice a1 n c1, .slice a2 m c2, .func (.func F) #[] #[]] w (ErrOut w 90) := by
  have HNA := Lib.hid hn
  have HNB := Lib.hid hm
  have HS1 : Hid (SeenR w B a1 a) := hS1
  have HS2 : Hid (SeenR w B a2 b) := hS2
  have HB := Lib.hid hB
  have HI : Hid (I64L a) := hi
  have HJ : Hid (I64L b) := hj
  have HNL : Hid (n ≤ maxLen) := hnl
  have HML : Hid (m ≤ maxLen) := hml
  by_cases ha : Rt a
  · have hb : ¬ Rt b := fun h => hR ⟨ha, h⟩
    have HA : Hid (Rt a) := ha
    have HB' : Hid (¬ Rt b) := hb
    clear hn hm hS1 hS2 hB hi hj hR hnl hml ha hb
    go_enter Try.func49, Try.ntmps49
    go_wp2_with (first
      | (go_at_call 22; ((with_reducible refine (right_yes a1 n c1 a HNA.out HA.out _ B (HS1.out.alloc HB.out _) (by simp; have := HB.out; omega)).mono ?_); rintro e w1 ⟨rfl, hb1⟩; have HB1 := Lib.hid (below_alloc hb1); clear hb1))
      | (go_at_call 22; ((with_reducible refine (right_no a2 m c2 b HNB.out HML.out HJ.out HB'.out w1 B (HS2.out.below (HB1.out.mono HB.out)) (Nat.le_trans HB.out HB1.out.size)).mono ?_); rintro e w2 ⟨rfl, hb2⟩; have HB2 := Lib.hid (HB1.out.trans (hb2.mono HB1.out.size)); clear hb2)))
    go_ret2
    exact ⟨rfl, HB2.out⟩
  · have HA : Hid (¬ Rt a) := ha
    clear hn hm hS1 hS2 hB hi hj hR hnl hml ha
    go_enter Try.func49, Try.ntmps49
    go_wp2_with (go_at_call 22; ((with_reducible refine (right_no a1 n c1 a HNA.out HNL.out HI.out HA.out _ B (HS1.out.alloc HB.out _) (by simp; have := HB.out; omega)).mono ?_); rintro e w1 ⟨rfl, hb1⟩; have HB1 := Lib.hid (below_alloc hb1); clear hb1))
    go_ret2
    exact ⟨rfl, HB1.out⟩
set_option maxRecDepth 100000 in
theorem union_any (ha : Rt a) (hb : Rt b) : Calls Try.prog 19 #[.slice a1 n c1, .slice a2 m c2] w (SetOut w (Made fOr a b)) := by
  have HJ := Lib.hid (join_any a1 a2 n m c1 c2 a b hn hm w B hS1 hS2 hB ha hb 50 fOr rfl (enters_of Try.func50 (by kernel_rfl) rfl) takes_or)
  clear hn hm hS1 hS2 hB ha hb
  go_enter Try.func19, Try.ntmps19
  go_wp2_with (go_at_call 49; ((with_reducible refine HJ.out.mono ?_); rintro e w1 ⟨⟨a', c', L, rfl, hown, hm'⟩, hb1⟩))
  go_ret2
  exact ⟨⟨a', c', L, rfl, hown, hm'⟩, hb1⟩
set_option maxRecDepth 100000 in
theorem union_no (hnl : n ≤ maxLen) (hml : m ≤ maxLen) (hi : I64L a) (hj : I64L b) (hR : ¬ (Rt a ∧ Rt b)) : Calls Try.prog 19 #[.slice a1 n c1, .slice a2 m c2] w (ErrOut w 90) := by
  have HJ := Lib.hid (join_no a1 a2 n m c1 c2 a b hn hm w B hS1 hS2 hB undef hnl hml hi hj hR 50)
  clear hn hm hS1 hS2 hB hnl hml hi hj hR
  go_enter Try.func19, Try.ntmps19
  go_wp2_with (go_at_call 49; ((with_reducible refine HJ.out.mono ?_); rintro e w1 ⟨rfl, hb1⟩))
  go_ret2
  exact ⟨rfl, hb1⟩
set_option maxRecDepth 100000 in
theorem common_any (ha : Rt a) (hb : Rt b) : Calls Try.prog 20 #[.slice a1 n c1, .slice a2 m c2] w (SetOut w (Made fAnd a b)) := by
  have HJ := Lib.hid (join_any a1 a2 n m c1 c2 a b hn hm w B hS1 hS2 hB ha hb 51 fAnd rfl (enters_of Try.func51 (by kernel_rfl) rfl) takes_and)
  clear hn hm hS1 hS2 hB ha hb
  go_enter Try.func20, Try.ntmps20
  go_wp2_with (go_at_call 49; ((with_reducible refine HJ.out.mono ?_); rintro e w1 ⟨⟨a', c', L, rfl, hown, hm'⟩, hb1⟩))
  go_ret2
  exact ⟨⟨a', c', L, rfl, hown, hm'⟩, hb1⟩
set_option maxRecDepth 100000 in
theorem common_no (hnl : n ≤ maxLen) (hml : m ≤ maxLen) (hi : I64L a) (hj : I64L b) (hR : ¬ (Rt a ∧ Rt b)) : Calls Try.prog 20 #[.slice a1 n c1, .slice a2 m c2] w (ErrOut w 90) := by
  have HJ := Lib.hid (join_no a1 a2 n m c1 c2 a b hn hm w B hS1 hS2 hB undef hnl hml hi hj hR 51)
  clear hn hm hS1 hS2 hB hnl hml hi hj hR
  go_enter Try.func20, Try.ntmps20
  go_wp2_with (go_at_call 49; ((with_reducible refine HJ.out.mono ?_); rintro e w1 ⟨rfl, hb1⟩))
  go_ret2
  exact ⟨rfl, hb1⟩
set_option maxRecDepth 100000 in
theorem without_any (ha : Rt a) (hb : Rt b) : Calls Try.prog 21 #[.slice a1 n c1, .slice a2 m c2] w (SetOut w (Made fNot a b)) := by
  have HJ := Lib.hid (join_any a1 a2 n m c1 c2 a b hn hm w B hS1 hS2 hB ha hb 52 fNot rfl (enters_of Try.func52 (by kernel_rfl) rfl) takes_not)
  clear hn hm hS1 hS2 hB ha hb
  go_enter Try.func21, Try.ntmps21
  go_wp2_with (go_at_call 49; ((with_reducible refine HJ.out.mono ?_); rintro e w1 ⟨⟨a', c', L, rfl, hown, hm'⟩, hb1⟩))
  go_ret2
  exact ⟨⟨a', c', L, rfl, hown, hm'⟩, hb1⟩
set_option maxRecDepth 100000 in
theorem without_no (hnl : n ≤ maxLen) (hml : m ≤ maxLen) (hi : I64L a) (hj : I64L b) (hR : ¬ (Rt a ∧ Rt b)) : Calls Try.prog 21 #[.slice a1 n c1, .slice a2 m c2] w (ErrOut w 90) := by
  have HJ := Lib.hid (join_no a1 a2 n m c1 c2 a b hn hm w B hS1 hS2 hB undef hnl hml hi hj hR 52)
  clear hn hm hS1 hS2 hB hnl hml hi hj hR
  go_enter Try.func21, Try.ntmps21
  go_wp2_with (go_at_call 49; ((with_reducible refine HJ.out.mono ?_); rintro e w1 ⟨rfl, hb1⟩))
  go_ret2
  exact ⟨rfl, hb1⟩
end
end Go.Proofs.Ythamilolacfeoaa
