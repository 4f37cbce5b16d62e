/-
  Sets that a law holds.
-/
import Derived.Test.YthamilolacfeoaaAwkW9
import Derived.Test.YthamilolacfeoaaMadeQ
namespace Go.Proofs.Ythamilolacfeoaa
open Go.RowKit Sq
set_option linter.unusedVariables false

/-- A right set in the world w. -/
structure SetIn (w : World) (a : Option Addr) (n c : Nat) (L : Rs) : Prop where
  len : L.length = n
  rt : Rt L
  seen : SeenR w w.heap.size a L
theorem SetIn.keep {w w' : World} {a : Option Addr} {n c : Nat} {L : Rs} (h : SetIn w a n c L) (hb : Below w.heap.size w w') : SetIn w' a n c L := ⟨h.len, h.rt, (h.seen.below hb).more hb.size⟩
theorem SetIn.alloc {w : World} {a : Option Addr} {n c : Nat} {L : Rs} (h : SetIn w a n c L) (o : Obj) : SetIn (w.alloc o) a n c L := h.keep ((Below.refl _ w).alloc (Nat.le_refl _) _)
theorem SetIn.le {w : World} {a : Option Addr} {n c : Nat} {L : Rs} (h : SetIn w a n c L) : n ≤ 65536 := by rw [← h.len]; exact h.rt.1
theorem SetIn.new (w : World) (f d : Int) (h1 : 1 ≤ f) (h2 : 1 ≤ d) (h3 : f + d ≤ 281474976710657) : SetIn (w.alloc (.cells #[.int .i64 f, .int .i64 d] 34)) (some ⟨w.heap.size, 0, none⟩) 1 1 [(f, d)] :=
  ⟨rfl, rt_one h1 h2 h3, by have := seen_pair w f d; rw [World.size_alloc]; exact this⟩
section
variable {w : World} {a1 a2 : Option Addr} {n m c1 c2 : Nat} {A B : Rs}
/-- What a call returns that makes a set: the set in the new world. -/
def MadeOut (w : World) (P : Rs → Prop) (e : Ending) (w' : World) : Prop := (∃ a n c L, e = .returned (.tuple #[.slice a n c, .int .i64 0]) ∧ SetIn w' a n c L ∧ P L) ∧ Below w.heap.size w w'
theorem madeOut_of {P : Rs → Prop} (hP : ∀ L, P L → RtF 1 L ∧ L.length ≤ 65536) {e : Ending} {w' : World} (h : SetOut w P e w') : MadeOut w P e w' := by
  obtain ⟨⟨a, c, L, h1, h2, h3⟩, h4⟩ := h
  exact ⟨⟨a, _, c, L, h1, ⟨rfl, ⟨(hP L h3).2, (hP L h3).1⟩, SeenR.of_own h2⟩, h3⟩, h4⟩
theorem union_at (hA : SetIn w a1 n c1 A) (hB : SetIn w a2 m c2 B) (h : n + m ≤ 30000) : Calls Try.prog 19 #[.slice a1 n c1, .slice a2 m c2] w (MadeOut w (Made fOr A B)) :=
  (union_any a1 a2 n m c1 c2 A B hA.len hB.len w w.heap.size hA.seen hB.seen (Nat.le_refl _) hA.rt hB.rt).mono fun e w' h' => madeOut_of (fun L hL => ⟨hL.rt, by have := hL.len; have := hA.len; have := hB.len; omega⟩) h'
theorem common_at (hA : SetIn w a1 n c1 A) (hB : SetIn w a2 m c2 B) (h : n + m ≤ 30000) : Calls Try.prog 20 #[.slice a1 n c1, .slice a2 m c2] w (MadeOut w (Made fAnd A B)) :=
  (common_any a1 a2 n m c1 c2 A B hA.len hB.len w w.heap.size hA.seen hB.seen (Nat.le_refl _) hA.rt hB.rt).mono fun e w' h' => madeOut_of (fun L hL => ⟨hL.rt, by have := hL.len; have := hA.len; have := hB.len; omega⟩) h'
theorem without_at (hA : SetIn w a1 n c1 A) (hB : SetIn w a2 m c2 B) (h : n + m ≤ 30000) : Calls Try.prog 21 #[.slice a1 n c1, .slice a2 m c2] w (MadeOut w (Made fNot A B)) :=
  (without_any a1 a2 n m c1 c2 A B hA.len hB.len w w.heap.size hA.seen hB.seen (Nat.le_refl _) hA.rt hB.rt).mono fun e w' h' => madeOut_of (fun L hL => ⟨hL.rt, by have := hL.len; have := hA.len; have := hB.len; omega⟩) h'
theorem missing_at (hA : SetIn w a1 n c1 A) {f x : Int} {M : Rs} (hM : Miss A f x M) (h1 : 1 ≤ f) (h2 : f ≤ x) (h3 : x ≤ 281474976710657) (h : n ≤ 30000) : Calls Try.prog 31 #[.slice a1 n c1, .int .i64 f, .int .i64 x] w (MadeOut w fun L => L = M) :=
  (missing_any a1 n c1 A hA.len w w.heap.size hA.seen (Nat.le_refl _) hA.rt f x h1 h2 h3).mono fun e w' h' => by
    have := madeOut_of (fun L hL => ⟨hL.rt, by have := hL.len; have := hA.len; omega⟩) h'
    exact ⟨by obtain ⟨⟨a, n, c, L, h1, h2, h3⟩, _⟩ := this; exact ⟨a, n, c, L, h1, h2, h3.uniq hM⟩, this.2⟩
theorem first_at (hA : SetIn w a1 n c1 A) {f x : Int} {M : Rs} (hM : Miss A f x M) (h1 : 1 ≤ f) (h2 : f ≤ x) (h3 : x ≤ 281474976710657) {v e : Int} (hv : fstV M = v) (he : fstE M = e) : Calls Try.prog 32 #[.slice a1 n c1, .int .i64 f, .int .i64 x] w fun e' w' => e' = .returned (.tuple #[.int .i64 v, .int .i64 e]) ∧ Below w.heap.size w w' :=
  (first_any a1 n c1 A hA.len w w.heap.size hA.seen (Nat.le_refl _) hA.rt f x h1 h2 h3).mono fun e' w' h' => by
    obtain ⟨⟨L, h4, h5⟩, h6⟩ := h'
    obtain rfl := h5.uniq hM
    exact ⟨by rw [h4, hv, he], h6⟩
theorem right_at (hA : SetIn w a1 n c1 A) : Calls Try.prog 22 #[.slice a1 n c1] w fun e w' => e = .returned (.bool true) ∧ Below w.heap.size w w' :=
  right_yes a1 n c1 A hA.len hA.rt w w.heap.size hA.seen (Nat.le_refl _)
theorem count_at (hA : SetIn w a1 n c1 A) {x : Int} (hx : sm A = x) : Calls Try.prog 28 #[.slice a1 n c1] w fun e w' => e = .returned (.tuple #[.int .i64 x, .int .i64 0]) ∧ Below w.heap.size w w' :=
  count_yes a1 n c1 A hA.len w w.heap.size hA.seen (Nat.le_refl _) hA.rt x hx
theorem equal_at (hA : SetIn w a1 n c1 A) (hB : SetIn w a2 m c2 B) {r : Bool} (hr : decide (A = B) = r) : Calls Try.prog 29 #[.slice a1 n c1, .slice a2 m c2] w fun e w' => e = .returned (.bool r) ∧ Below w.heap.size w w' :=
  equalR_any a1 a2 n m c1 c2 A B hA.len hB.len (by have := hA.le; omega) (by have := hB.le; omega) w w.heap.size hA.seen hB.seen r hr
end
theorem made_at (a : Option Addr) (n c : Nat) (xs : List Nat) (hn : xs.length = n) (hx : ∀ x ∈ xs, x < 256) (hnc : n ≤ c) (hcm : c ≤ maxLen) (w : World) (B : Nat) (hS : Seen w B .u8 a xs) (hB : B ≤ w.heap.size) :
    Calls Try.prog 18 #[.slice a n c] w fun e w' => (∃ a' n' c' L, e = .returned (.slice a' n' c') ∧ SetIn w' a' n' c' L ∧ n' ≤ 30) ∧ Below w.heap.size w w' :=
  (made_any a n c xs hn hx hnc hcm w B hS hB).mono fun e w' h => by
    obtain ⟨⟨a', c', L, h1, h2, h3⟩, h4⟩ := h
    exact ⟨⟨a', _, c', L, h1, ⟨rfl, h3.rt, SeenR.of_own h2⟩, h3.2⟩, h4⟩
set_option maxRecDepth 100000 in
theorem within_any (p : Int) (w : World) : Calls Try.prog 30 #[.int .i64 p] w fun e w' => (∃ z : Int, e = .returned (.int .i64 z) ∧ 1 ≤ z ∧ z ≤ 16384) ∧ w' = w := by
  obtain ⟨r, hr⟩ : ∃ r, p.tmod 16384 = r := ⟨_, rfl⟩
  have hb : -16384 < r ∧ r < 16384 := by
    rw [← hr]
    have h1 := Int.tmod_lt_of_pos p (show (0 : Int) < 16384 by decide)
    have h2 := Int.tmod_lt_of_pos (-p) (show (0 : Int) < 16384 by decide)
    rw [Int.neg_tmod] at h2
    omega
  obtain ⟨s, hs⟩ : ∃ s, (r + 16384).tmod 16384 = s := ⟨_, rfl⟩
  have hsb : 0 ≤ s ∧ s < 16384 := by
    rw [← hs, Int.tmod_eq_emod_of_nonneg (by omega)]; omega
  have hs2 : (r + 16384) % 16384 = s := by rw [← hs, Int.tmod_eq_emod_of_nonneg (by omega)]
  obtain ⟨hb1, hb2⟩ := hb
  obtain ⟨hs3, hs4⟩ := hsb
  go_enter Try.func30, Try.ntmps30
  go_wp2
  go_ret
  exact ⟨⟨1 + s, rfl, by omega, by omega⟩, rfl⟩
end Go.Proofs.Ythamilolacfeoaa
