/-
  Missing, First.
-/
import Derived.Test.YthamilolacfeoaaOpsQ
namespace Go.Proofs.Ythamilolacfeoaa
open Go.RowKit Sq
set_option linter.unusedVariables false

namespace Sq
/-- What a set lacks between two numbers. -/
structure Miss (l : Rs) (from_ next : Int) (L : Rs) : Prop where
  rt : RtF 1 L
  has : ∀ n, hs L n = ((decide (from_ ≤ n) && decide (n < next)) && !hs l n)
  len : L.length ≤ 2 + 2 * l.length
theorem miss_none {l : Rs} {f : Int} : Miss l f f [] := ⟨trivial, fun n => by
  rw [hs_nil, show (decide (f ≤ n) && decide (n < f)) = false by rw [Bool.eq_false_iff]; simp]; rfl, by simp⟩
theorem rt_one {f d : Int} (h1 : 1 ≤ f) (h2 : 1 ≤ d) (h3 : f + d ≤ 281474976710657) : Rt [(f, d)] := ⟨by simp, h1, h2, h3, trivial⟩
theorem miss_of {l L : Rs} {f n : Int} (h : Made fNot [(f, n - f)] l L) : Miss l f n L := ⟨h.rt, fun k => by
  rw [h.has, hs_cons, hs_nil, Bool.or_false]
  unfold fNot inR
  dsimp only
  rw [show f + (n - f) = n by omega], by have := h.len; simp only [List.length_cons, List.length_nil] at this; omega⟩
theorem Miss.uniq {l L L' : Rs} {f n : Int} (h : Miss l f n L) (h' : Miss l f n L') : L = L' := Sq.uniq h.rt h'.rt fun k => by rw [h.has, h'.has]
theorem miss_exists {l : Rs} (hl : RtF 1 l) {f x : Int} (h1 : 1 ≤ f) (h2 : f ≤ x) (h3 : x ≤ 281474976710657) : ∃ L, Miss l f x L := by
  by_cases he : f = x
  · subst he; exact ⟨[], miss_none⟩
  · obtain ⟨L, h⟩ := made_exists (f := fNot) rfl (rt_one h1 (show (1 : Int) ≤ x - f by omega) (by omega)).2 hl
    exact ⟨L, miss_of h⟩
def fstV : Rs → Int
  | [] => 0
  | r :: _ => r.1
def fstE : Rs → Int
  | [] => 6
  | _ :: _ => 0
end Sq
theorem seen_pair (w : World) (f d : Int) : SeenR (w.alloc (.cells #[.int .i64 f, .int .i64 d] 34)) (w.heap.size + 1) (some ⟨w.heap.size, 0, none⟩) [(f, d)] := by
  have := SeenR.of_block (off := 0) (l := [(f, d)]) (heap_alloc_new w (.cells #[.int .i64 f, .int .i64 d] 34)) (by
    intro i p hp
    match i, hp with
    | 0, hp =>
      obtain rfl : (f, d) = p := by simpa using hp
      exact ⟨rfl, rfl⟩
    | i + 1, hp => simp at hp)
  rw [World.size_alloc] at this
  exact this
section
variable (a : Option Addr) (n c : Nat) (l : Rs) (hl : l.length = n) (w : World) (B : Nat) (hS : SeenR w B a l) (hB : B ≤ w.heap.size)
include hl hS hB

set_option maxRecDepth 100000 in
set_option maxHeartbeats 2000000 in
theorem missing_any (hR : Rt l) (f x : Int) (h1 : 1 ≤ f) (h2 : f ≤ x) (h3 : x ≤ 281474976710657) :
    Calls Try.prog 31 #[.slice a n c, .int .i64 f, .int .i64 x] w (SetOut w (Miss l f x)) := by
  have HL := Lib.hid hl
  have HS : Hid (SeenR w B a l) := hS
  have HB := Lib.hid hB
  have HR : Hid (Rt l) := hR
  have g1 : ¬ f < 1 := by omega
  have g2 : ¬ x < f := by omega
  have g3 : ¬ 281474976710657 < x := by omega
  have g1' : decide (f < 1) = false := by simp; omega
  have g2' : decide (x < f) = false := by simp; omega
  have g3' : decide (281474976710657 < x) = false := by simp; omega
  by_cases he : f = x
  · subst he
    clear hl hS hB hR h1 h2 h3
    go_enter Try.func31, Try.ntmps31
    go_wp2_with (go_at_call 22; ((with_reducible refine (right_yes a n c l HL.out HR.out _ B HS.out HB.out).mono ?_); rintro e w2 ⟨rfl, hb2⟩))
    go_ret2
    exact ⟨⟨none, 0, [], rfl, World.ownsRow_nil _ _ _ _, miss_none⟩, hb2⟩
  · have he' : (f == x) = false := by simpa using he
    have hw : IntKind.i64.wrap (x - f) = x - f := wrap_i (by omega) (by omega)
    have HRT : Hid (Rt [(f, x - f)]) := rt_one h1 (by omega) (by omega)
    clear hl hS hB hR h1 h2 h3 he
    go_enter Try.func31, Try.ntmps31
    go_wp2_with (first
      | (go_at_call 22; ((with_reducible refine (right_yes a n c l HL.out HR.out _ B HS.out HB.out).mono ?_); rintro e w2 ⟨rfl, hb2⟩; have HB2 := Lib.hid hb2; clear hb2))
      | (go_at_call 21; ((with_reducible refine (without_any (some ⟨w2.heap.size, 0, none⟩) a 1 n 1 c [(f, x - f)] l rfl HL.out _ (w2.heap.size + 1) (seen_pair w2 f (x - f)) (((HS.out.below (HB2.out.mono HB.out)).alloc (Nat.le_trans HB.out HB2.out.size) _).more (Nat.le_trans (Nat.le_trans HB.out HB2.out.size) (Nat.le_succ _))) (by simp) HRT.out HR.out).mono ?_); rintro e w3 ⟨⟨a', c', L, rfl, hown, hm'⟩, hb3⟩)))
    go_ret2
    have hb4 := below_alloc hb3
    exact ⟨⟨a', c', L, rfl, rebase hown (by have := HB2.out.size; simp; omega), miss_of hm'⟩, HB2.out.trans (hb4.mono HB2.out.size)⟩
set_option maxRecDepth 100000 in
theorem missing_no (hn : n ≤ maxLen) (hI : I64L l) (hR : ¬ Rt l) (f x : Int) :
    Calls Try.prog 31 #[.slice a n c, .int .i64 f, .int .i64 x] w (ErrOut w 90) := by
  have HC := Lib.hid (right_no a n c l hl hn hI hR w B hS hB)
  clear hl hS hB hR hI hn
  go_enter Try.func31, Try.ntmps31
  go_wp2_with (go_at_call 22; ((with_reducible refine HC.out.mono ?_); rintro e w2 ⟨rfl, hb2⟩))
  go_ret2
  exact ⟨rfl, hb2⟩
set_option maxRecDepth 100000 in
theorem missing_arg (hR : Rt l) (f x : Int) (h : f < 1 ∨ x < f ∨ 281474976710657 < x) :
    Calls Try.prog 31 #[.slice a n c, .int .i64 f, .int .i64 x] w (ErrOut w 2) := by
  have HC := Lib.hid (right_yes a n c l hl hR w B hS hB)
  clear hl hS hB hR
  by_cases g1 : f < 1
  · have g1' : decide (f < 1) = true := by simpa using g1
    go_enter Try.func31, Try.ntmps31
    go_wp2_with (go_at_call 22; ((with_reducible refine HC.out.mono ?_); rintro e w2 ⟨rfl, hb2⟩))
    go_ret2
    exact ⟨rfl, hb2⟩
  · have g1' : decide (f < 1) = false := by simpa using g1
    by_cases g2 : x < f
    · have g2' : decide (x < f) = true := by simpa using g2
      go_enter Try.func31, Try.ntmps31
      go_wp2_with (go_at_call 22; ((with_reducible refine HC.out.mono ?_); rintro e w2 ⟨rfl, hb2⟩))
      go_ret2
      exact ⟨rfl, hb2⟩
    · have g2' : decide (x < f) = false := by simpa using g2
      have g3 : 281474976710657 < x := by omega
      have g3' : decide (281474976710657 < x) = true := by simpa using g3
      go_enter Try.func31, Try.ntmps31
      go_wp2_with (go_at_call 22; ((with_reducible refine HC.out.mono ?_); rintro e w2 ⟨rfl, hb2⟩))
      go_ret2
      exact ⟨rfl, hb2⟩
set_option maxRecDepth 100000 in
theorem first_any (hR : Rt l) (f x : Int) (h1 : 1 ≤ f) (h2 : f ≤ x) (h3 : x ≤ 281474976710657) :
    Calls Try.prog 32 #[.slice a n c, .int .i64 f, .int .i64 x] w fun e w' => (∃ L, e = .returned (.tuple #[.int .i64 (fstV L), .int .i64 (fstE L)]) ∧ Miss l f x L) ∧ Below w.heap.size w w' := by
  obtain ⟨L, hL⟩ := miss_exists hR.2 h1 h2 h3
  have HC : Hid (Calls Try.prog 31 #[.slice a n c, .int .i64 f, .int .i64 x] w fun e w' => (∃ a c, e = .returned (.tuple #[.slice a L.length c, .int .i64 0]) ∧ w'.ownsRow w.heap.size 34 2 (.slice a L.length c) L.length (flat L)) ∧ Below w.heap.size w w') :=
    (missing_any a n c l hl w B hS hB hR f x h1 h2 h3).mono fun e w' h => by
      obtain ⟨⟨a', c', L', h1, h2, h3⟩, h4⟩ := h
      obtain rfl := hL.uniq h3
      exact ⟨⟨a', c', h1, h2⟩, h4⟩
  have HM := Lib.hid hL
  clear hl hS hB hR h1 h2 h3 hL
  cases L with
  | nil =>
    go_enter Try.func32, Try.ntmps32
    go_wp2_with (go_at_call 31; ((with_reducible refine HC.out.mono ?_); rintro e w2 ⟨⟨a', c', rfl, hown⟩, hb2⟩; clear hown))
    go_ret2
    exact ⟨⟨[], rfl, HM.out⟩, hb2⟩
  | cons r t =>
    obtain ⟨k, hk⟩ : ∃ k, (r :: t).length = k := ⟨_, rfl⟩
    have h0 : 0 < k := by rw [← hk]; simp
    have h0' : ((k : Int) == 0) = false := by simp; omega
    have h0i : (0 : Int) < (k : Int) := by omega
    obtain ⟨q, hq⟩ : ∃ q, r.1 = q := ⟨_, rfl⟩
    have HQ : Hid (fstV (r :: t) = q ∧ fstE (r :: t) = 0) := ⟨hq, rfl⟩
    rw [hk] at HC
    clear hk h0
    go_enter Try.func32, Try.ntmps32
    go_wp2_with (go_at_call 31; ((with_reducible refine HC.out.mono ?_); rintro e w2 ⟨⟨a', c', rfl, hown⟩, hb2⟩; obtain ⟨b, off, rfl, hb, hc1, _⟩ := (SeenR.of_own hown) 0 r rfl; simp only [Nat.zero_mul, Nat.add_zero] at hc1; rw [hq] at hc1; clear hown))
    go_ret2
    exact ⟨⟨r :: t, by rw [HQ.out.1, HQ.out.2]; rfl, HM.out⟩, hb2⟩
set_option maxRecDepth 100000 in
theorem first_no (hn : n ≤ maxLen) (hI : I64L l) (hR : ¬ Rt l) (f x : Int) :
    Calls Try.prog 32 #[.slice a n c, .int .i64 f, .int .i64 x] w fun e w' => e = .returned (.tuple #[.int .i64 0, .int .i64 90]) ∧ Below w.heap.size w w' := by
  have HC := Lib.hid (missing_no a n c l hl w B hS hB hn hI hR f x)
  clear hl hS hB hR hI hn
  go_enter Try.func32, Try.ntmps32
  go_wp2_with (go_at_call 31; ((with_reducible refine HC.out.mono ?_); rintro e w2 ⟨rfl, hb2⟩))
  go_ret2
  exact ⟨rfl, hb2⟩
set_option maxRecDepth 100000 in
theorem first_arg (hR : Rt l) (f x : Int) (h : f < 1 ∨ x < f ∨ 281474976710657 < x) :
    Calls Try.prog 32 #[.slice a n c, .int .i64 f, .int .i64 x] w fun e w' => e = .returned (.tuple #[.int .i64 0, .int .i64 2]) ∧ Below w.heap.size w w' := by
  have HC := Lib.hid (missing_arg a n c l hl w B hS hB hR f x h)
  clear hl hS hB hR h
  go_enter Try.func32, Try.ntmps32
  go_wp2_with (go_at_call 31; ((with_reducible refine HC.out.mono ?_); rintro e w2 ⟨rfl, hb2⟩))
  go_ret2
  exact ⟨rfl, hb2⟩
end
end Go.Proofs.Ythamilolacfeoaa
