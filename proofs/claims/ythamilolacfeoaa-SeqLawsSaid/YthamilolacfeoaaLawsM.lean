/-
  The laws of sets; the closures of SeqLaws.
-/
import Derived.Test.YthamilolacfeoaaSetsQ
import Derived.Test.YthamilolacfeoaaArgs
namespace Go.Proofs.Ythamilolacfeoaa
open Go.RowKit Sq
set_option linter.unusedVariables false

namespace Sq
/-- How many numbers below N a function tells. -/
def cu (f : Int → Bool) : Nat → Int
  | 0 => 0
  | N + 1 => cu f N + (if f N then 1 else 0)
theorem cu_congr {f g : Int → Bool} (h : ∀ n, f n = g n) : ∀ N, cu f N = cu g N
  | 0 => rfl
  | N + 1 => by show cu f N + _ = cu g N + _; rw [cu_congr h N, h]
theorem cu_or_and (f g : Int → Bool) : ∀ N, cu (fun n => f n || g n) N + cu (fun n => f n && g n) N = cu f N + cu g N
  | 0 => rfl
  | N + 1 => by
    have := cu_or_and f g N
    have key : ∀ a b : Bool, (if (a || b) = true then (1 : Int) else 0) + (if (a && b) = true then 1 else 0) = (if a = true then 1 else 0) + (if b = true then 1 else 0) := by decide
    have k := key (f N) (g N)
    show cu (fun n => f n || g n) N + (if (f N || g N) = true then 1 else 0) + (cu (fun n => f n && g n) N + (if (f N && g N) = true then 1 else 0)) = cu f N + (if f N = true then 1 else 0) + (cu g N + (if g N = true then 1 else 0))
    generalize (if (f N || g N) = true then (1 : Int) else 0) = u1 at *
    generalize (if (f N && g N) = true then (1 : Int) else 0) = u2 at *
    generalize (if f N = true then (1 : Int) else 0) = u3 at *
    generalize (if g N = true then (1 : Int) else 0) = u4 at *
    omega
theorem cu_none : ∀ N, cu (fun _ => false) N = 0
  | 0 => rfl
  | N + 1 => by show cu (fun _ => false) N + 0 = 0; rw [cu_none N]; rfl
theorem cu_run (r : Int × Int) (h1 : 0 ≤ r.1) (h2 : 0 ≤ r.2) : ∀ N : Nat, cu (inR r) N = (if (N : Int) ≤ r.1 then 0 else if (N : Int) ≤ r.1 + r.2 then (N : Int) - r.1 else r.2)
  | 0 => by rw [if_pos (by simpa using h1)]; rfl
  | N + 1 => by
    show cu (inR r) N + (if inR r N = true then 1 else 0) = _
    rw [cu_run r h1 h2 N]
    push_cast
    by_cases h : r.1 ≤ (N : Int) ∧ (N : Int) < r.1 + r.2
    · rw [if_pos (inR_iff.2 h)]
      (repeat' split) <;> omega
    · rw [if_neg (fun e => h (inR_iff.1 e))]
      (repeat' split) <;> omega
theorem sm_cu : ∀ {l : Rs} {s : Int}, RtF s l → 0 ≤ s → ∀ N : Nat, 281474976710657 ≤ (N : Int) → cu (hs l) N = sm l
  | [], s, _, _, N, _ => cu_none N
  | r :: t, s, h, h0, N, hN => by
    have h1 := h.1; have h2 := h.2.1; have h3 := h.2.2.1
    have ih := sm_cu h.2.2.2 (by omega) N hN
    have ho := cu_or_and (inR r) (hs t) N
    have ha : cu (fun n => inR r n && hs t n) N = 0 := by
      rw [cu_congr (g := fun _ => false) (fun n => ?_) N, cu_none]
      rw [Bool.eq_false_iff]
      intro e
      rw [Bool.and_eq_true, inR_iff] at e
      rw [hs_low h.2.2.2 (by omega)] at e
      cases e.2
    have hr := cu_run r (by omega) (by omega) N
    rw [if_neg (by omega)] at hr
    have hrr : cu (inR r) N = r.2 := by
      rw [hr]; split <;> omega
    rw [sm_cons, ← ih]
    have : cu (hs (r :: t)) N = cu (fun n => inR r n || hs t n) N := cu_congr (fun n => hs_cons r t n) N
    omega
theorem sm_both {A B u c : Rs} (hA : RtF 1 A) (hB : RtF 1 B) (hu : Made fOr A B u) (hc : Made fAnd A B c) : sm u + sm c = sm A + sm B := by
  obtain ⟨N, hN⟩ : ∃ N : Nat, 281474976710657 ≤ (N : Int) := ⟨281474976710657, Int.le_refl _⟩
  have e1 := sm_cu hu.rt (by omega) N hN
  have e2 := sm_cu hc.rt (by omega) N hN
  have e3 := sm_cu hA (by omega) N hN
  have e4 := sm_cu hB (by omega) N hN
  have e5 := cu_or_and (hs A) (hs B) N
  have e6 : cu (hs u) N = cu (fun n => hs A n || hs B n) N := cu_congr hu.has N
  have e7 : cu (hs c) N = cu (fun n => hs A n && hs B n) N := cu_congr hc.has N
  omega
section
variable {A B C u c w x y z : Rs}
theorem law_again (hA : RtF 1 A) (hc : Made fAnd A B c) (hw : Made fNot A B w) (hx : Made fOr c w x) : x = A :=
  Sq.uniq hx.rt hA fun n => by rw [hx.has, hc.has, hw.has]; unfold fOr fAnd fNot; cases hs A n <;> cases hs B n <;> rfl
theorem law_apart (hc : Made fAnd A B c) (hw : Made fNot A B w) (hx : Made fAnd c w x) : x = [] :=
  Sq.uniq hx.rt (show RtF 1 [] from trivial) fun n => by rw [hx.has, hc.has, hw.has, hs_nil]; unfold fAnd fNot; cases hs A n <;> cases hs B n <;> rfl
theorem law_or (hx : Made fOr A B x) (hy : Made fOr B A y) : y = x :=
  Sq.uniq hy.rt hx.rt fun n => by rw [hx.has, hy.has]; unfold fOr; cases hs A n <;> cases hs B n <;> rfl
theorem law_and (hx : Made fAnd A B x) (hy : Made fAnd B A y) : y = x :=
  Sq.uniq hy.rt hx.rt fun n => by rw [hx.has, hy.has]; unfold fAnd; cases hs A n <;> cases hs B n <;> rfl
theorem law_or_self (hA : RtF 1 A) (hx : Made fOr A A x) : x = A :=
  Sq.uniq hx.rt hA fun n => by rw [hx.has]; unfold fOr; cases hs A n <;> rfl
theorem law_and_self (hA : RtF 1 A) (hx : Made fAnd A A x) : x = A :=
  Sq.uniq hx.rt hA fun n => by rw [hx.has]; unfold fAnd; cases hs A n <;> rfl
theorem law_not_self (hx : Made fNot A A x) : x = [] :=
  Sq.uniq hx.rt (show RtF 1 [] from trivial) fun n => by rw [hx.has, hs_nil]; unfold fNot; cases hs A n <;> rfl
theorem law_assoc (h1 : Made fOr A B u) (h2 : Made fOr u C x) (h3 : Made fOr B C w) (h4 : Made fOr A w y) : x = y :=
  Sq.uniq h2.rt h4.rt fun n => by rw [h2.has, h1.has, h4.has, h3.has]; unfold fOr; cases hs A n <;> cases hs B n <;> cases hs C n <;> rfl
theorem law_minus (h1 : Made fOr B C u) (h2 : Made fNot A u x) (h3 : Made fNot A B w) (h4 : Made fNot w C y) : x = y :=
  Sq.uniq h2.rt h4.rt fun n => by rw [h2.has, h1.has, h4.has, h3.has]; unfold fOr fNot; cases hs A n <;> cases hs B n <;> cases hs C n <;> rfl
theorem law_dist (h1 : Made fOr B C u) (h2 : Made fAnd A u x) (h3 : Made fAnd A B w) (h4 : Made fAnd A C z) (h5 : Made fOr w z y) : x = y :=
  Sq.uniq h2.rt h5.rt fun n => by rw [h2.has, h1.has, h5.has, h3.has, h4.has]; unfold fOr fAnd; cases hs A n <;> cases hs B n <;> cases hs C n <;> rfl
end
end Sq

/-- What the closure do returns. -/
def DoOut (w : World) (k : Nat) (P : Rs → Prop) (e : Ending) (w' : World) : Prop := (∃ a n c L, e = .returned (.slice a n c) ∧ SetIn w' a n c L ∧ P L ∧ n ≤ k) ∧ Below w.heap.size w w'
theorem box_same {w w' : World} {p : Nat} {t : TypeId} {v : Value} (h : Boxed w p t v) (hb : Below w.heap.size w w') : Boxed w' p t v := (hb.block p h.lt).trans h
/-- A store of what lies there changes nothing. -/
theorem below_again {w w' : World} {p : Nat} {t : TypeId} {v : Value} (h : Boxed w p t v) (hb : Below w.heap.size w w') : Below w.heap.size w (w'.setCell ⟨p, 0, none⟩ v) := by
  have h' := box_same h hb
  refine ⟨hb.os, hb.tape, hb.output, by rw [show (w'.setCell ⟨p, 0, none⟩ v).heap.size = w'.heap.size by simp [World.setCell]]; exact hb.size, fun k hk => ?_⟩
  by_cases e : k = p
  · subst e
    exact (h'.set v).trans h.symm
  · exact (Below.heap_setCell w' ⟨p, 0, none⟩ v k e).trans (hb.block k hk)
section
variable {w : World} {p : Nat} {a1 a2 : Option Addr} {n m c1 c2 : Nat} {A B : Rs}
set_option maxRecDepth 100000 in
theorem do_or (hbx : Boxed w p 37 (.int .i64 0)) (hA : SetIn w a1 n c1 A) (hB : SetIn w a2 m c2 B) (h : n + m ≤ 30000) : Calls Try.prog 26 #[.func (.func 19) #[] #[], .slice a1 n c1, .slice a2 m c2, .pointer (some ⟨p, 0, none⟩)] w (DoOut w (2 * (n + m)) (Made fOr A B)) := by
  have HC := Lib.hid (union_at hA hB h)
  have HBX : Hid (Boxed w p 37 (.int .i64 0)) := hbx
  have HL : Hid (A.length = n ∧ B.length = m) := ⟨hA.len, hB.len⟩
  clear hbx hA hB h
  go_enter Try.func26, Try.ntmps26
  go_wp2_with (go_at_call 19; (with_reducible refine HC.out.mono ?_); rintro e w1 ⟨⟨a3, n3, c3, L, rfl, hs, hm⟩, hb1⟩; have hc := (box_same HBX.out hb1).cell; have hf := (box_same HBX.out hb1).frozen; have HB1 := Lib.hid (below_again HBX.out hb1); have HK : Hid (SetIn (w1.setCell ⟨p, 0, none⟩ (.int .i64 0)) a3 n3 c3 L) := hs.keep (below_again (box_same HBX.out hb1) (Below.refl _ _)); have HM := Lib.hid hm; have HLN := Lib.hid hs.len; clear hb1 hs hm)
  go_ret
  exact ⟨⟨a3, n3, c3, L, rfl, HK.out, HM.out, by have h1 := HM.out.len; have h2 := HL.out.1; have h3 := HL.out.2; have h4 := HLN.out; omega⟩, HB1.out⟩
set_option maxRecDepth 100000 in
theorem do_and (hbx : Boxed w p 37 (.int .i64 0)) (hA : SetIn w a1 n c1 A) (hB : SetIn w a2 m c2 B) (h : n + m ≤ 30000) : Calls Try.prog 26 #[.func (.func 20) #[] #[], .slice a1 n c1, .slice a2 m c2, .pointer (some ⟨p, 0, none⟩)] w (DoOut w (2 * (n + m)) (Made fAnd A B)) := by
  have HC := Lib.hid (common_at hA hB h)
  have HBX : Hid (Boxed w p 37 (.int .i64 0)) := hbx
  have HL : Hid (A.length = n ∧ B.length = m) := ⟨hA.len, hB.len⟩
  clear hbx hA hB h
  go_enter Try.func26, Try.ntmps26
  go_wp2_with (go_at_call 20; (with_reducible refine HC.out.mono ?_); rintro e w1 ⟨⟨a3, n3, c3, L, rfl, hs, hm⟩, hb1⟩; have hc := (box_same HBX.out hb1).cell; have hf := (box_same HBX.out hb1).frozen; have HB1 := Lib.hid (below_again HBX.out hb1); have HK : Hid (SetIn (w1.setCell ⟨p, 0, none⟩ (.int .i64 0)) a3 n3 c3 L) := hs.keep (below_again (box_same HBX.out hb1) (Below.refl _ _)); have HM := Lib.hid hm; have HLN := Lib.hid hs.len; clear hb1 hs hm)
  go_ret
  exact ⟨⟨a3, n3, c3, L, rfl, HK.out, HM.out, by have h1 := HM.out.len; have h2 := HL.out.1; have h3 := HL.out.2; have h4 := HLN.out; omega⟩, HB1.out⟩
set_option maxRecDepth 100000 in
theorem do_not (hbx : Boxed w p 37 (.int .i64 0)) (hA : SetIn w a1 n c1 A) (hB : SetIn w a2 m c2 B) (h : n + m ≤ 30000) : Calls Try.prog 26 #[.func (.func 21) #[] #[], .slice a1 n c1, .slice a2 m c2, .pointer (some ⟨p, 0, none⟩)] w (DoOut w (2 * (n + m)) (Made fNot A B)) := by
  have HC := Lib.hid (without_at hA hB h)
  have HBX : Hid (Boxed w p 37 (.int .i64 0)) := hbx
  have HL : Hid (A.length = n ∧ B.length = m) := ⟨hA.len, hB.len⟩
  clear hbx hA hB h
  go_enter Try.func26, Try.ntmps26
  go_wp2_with (go_at_call 21; (with_reducible refine HC.out.mono ?_); rintro e w1 ⟨⟨a3, n3, c3, L, rfl, hs, hm⟩, hb1⟩; have hc := (box_same HBX.out hb1).cell; have hf := (box_same HBX.out hb1).frozen; have HB1 := Lib.hid (below_again HBX.out hb1); have HK : Hid (SetIn (w1.setCell ⟨p, 0, none⟩ (.int .i64 0)) a3 n3 c3 L) := hs.keep (below_again (box_same HBX.out hb1) (Below.refl _ _)); have HM := Lib.hid hm; have HLN := Lib.hid hs.len; clear hb1 hs hm)
  go_ret
  exact ⟨⟨a3, n3, c3, L, rfl, HK.out, HM.out, by have h1 := HM.out.len; have h2 := HL.out.1; have h3 := HL.out.2; have h4 := HLN.out; omega⟩, HB1.out⟩
set_option maxRecDepth 100000 in
theorem num_at (hbx : Boxed w p 37 (.int .i64 0)) (hA : SetIn w a1 n c1 A) {x : Int} (hx : sm A = x) : Calls Try.prog 27 #[.slice a1 n c1, .pointer (some ⟨p, 0, none⟩)] w fun e w' => e = .returned (.int .i64 x) ∧ Below w.heap.size w w' := by
  have HC := Lib.hid (count_at hA hx)
  have HBX : Hid (Boxed w p 37 (.int .i64 0)) := hbx
  clear hbx hA hx
  go_enter Try.func27, Try.ntmps27
  go_wp2_with (go_at_call 28; (with_reducible refine HC.out.mono ?_); rintro e w1 ⟨rfl, hb1⟩; have hc := (box_same HBX.out hb1).cell; have hf := (box_same HBX.out hb1).frozen; have HB1 := Lib.hid (below_again HBX.out hb1); clear hb1)
  go_ret
  exact ⟨rfl, HB1.out⟩
end
end Go.Proofs.Ythamilolacfeoaa
