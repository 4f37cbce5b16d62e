/-
  A ring of ints in a law's own world: what is below the law's own memory stays.
-/
import Derived.Test.YtljodpdplmhdnaaAwake8
import Derived.Test.YtljodpdplmhdnaaArgs
namespace Go.Proofs.Ytljodpdplmhdnaa
open Go.RowKit
set_option linter.unusedVariables false
structure Stand (w wr : World) (B : Nat) (S : Nat → Prop) (cap : Nat) (l : List RI.RV) (op ac rf : Nat) : Prop where
  rng : RI.Rng wr B S cap l op ac rf
  own : ∀ k, S k → w.heap.size ≤ k
  bel : Below w.heap.size w wr
/-- What Put did. -/
def PutD (cap : Nat) (x : Int) (l l' : List RI.RV) (op op' ac ac' rf rf' b : Nat) : Prop :=
  (l.length < cap ∧ b = 0 ∧ l' = l ++ [(x, op)] ∧ op' = 0 ∧ ac' = ac + 1 ∧ rf' = rf) ∨ (l.length = cap ∧ b = 4 ∧ l' = l ∧ op' = op + 1 ∧ ac' = ac ∧ rf' = rf + 1)
section
variable {w wr : World} {B : Nat} {S : Nat → Prop} {cap : Nat} {l : List RI.RV} {op ac rf : Nat}
theorem Stand.below (h : Stand w wr B S cap l op ac rf) {w' : World} (hb : Below wr.heap.size wr w') : Stand w w' B S cap l op ac rf := ⟨h.rng.below hb, h.own, h.bel.trans (hb.mono h.bel.size)⟩
theorem Stand.made (w : World) (n : Nat) {w1 w2 : World} (hb : Below w.heap.size w w1) (h : RI.Rng w2 w1.heap.size (RI.RS w1.heap.size none) n [] 0 0 0) (hb2 : Below w1.heap.size w1 w2) : ∃ S, Stand w w2 w1.heap.size S n [] 0 0 0 :=
  ⟨_, h, (fun k hk => by rcases hk with rfl | ⟨P, h, _⟩; exact hb.size; cases h), hb.trans (hb2.mono hb.size)⟩
theorem Stand.put (h : Stand w wr B S cap l op ac rf) (hs : ac + rf ≤ 1000000) (x : Int) : Calls Try.prog 16 #[.pointer (some ⟨B, 0, none⟩), .int .i64 x] wr fun e w' => ∃ b S' l' op' ac' rf', e = .returned (.int .i64 ((b : Nat) : Int)) ∧ Stand w w' B S' cap l' op' ac' rf' ∧ PutD cap x l l' op op' ac ac' rf rf' b ∧ (Chg S wr w' ∧ ∀ k, S' k → S k ∨ wr.heap.size ≤ k) := by
  obtain ⟨hl, h0, h1, h2⟩ := h.rng.bounds
  by_cases hc : l.length < cap
  · refine (RI.put_ok wr B S cap l op ac rf h.rng hc (by omega) x).mono ?_
    rintro e w' ⟨rfl, S', h3, h4, h5⟩
    exact ⟨0, S', _, _, _, _, rfl, ⟨h3, fun k hk => by rcases h5 k hk with h6 | h6; exact h.own k h6; exact Nat.le_trans h.bel.size h6, h.bel.trans (h4.below h.own h.bel.size)⟩, .inl ⟨hc, rfl, rfl, rfl, rfl, rfl⟩, h4, h5⟩
  · have hc2 : l.length = cap := by omega
    refine (RI.put_no wr B S cap l op ac rf h.rng hc2 (by omega) x).mono ?_
    rintro e w' ⟨rfl, h3, h4⟩
    exact ⟨4, S, _, _, _, _, rfl, ⟨h3, h.own, h.bel.trans (h4.below h.own h.bel.size)⟩, .inr ⟨hc2, rfl, rfl, rfl, rfl, rfl⟩, h4, fun k hk => .inl hk⟩
theorem Stand.put_room (h : Stand w wr B S cap l op ac rf) (hl : l.length < cap) (hs : ac ≤ 1000000) (x : Int) : Calls Try.prog 16 #[.pointer (some ⟨B, 0, none⟩), .int .i64 x] wr fun e w' => ∃ S', e = .returned (.int .i64 0) ∧ Stand w w' B S' cap (l ++ [(x, op)]) 0 (ac + 1) rf ∧ Chg S wr w' ∧ ∀ k, S' k → S k ∨ wr.heap.size ≤ k := by
  refine (RI.put_ok wr B S cap l op ac rf h.rng hl hs x).mono ?_
  rintro e w' ⟨rfl, S', h3, h4, h5⟩
  exact ⟨S', rfl, ⟨h3, fun k hk => by rcases h5 k hk with h6 | h6; exact h.own k h6; exact Nat.le_trans h.bel.size h6, h.bel.trans (h4.below h.own h.bel.size)⟩, h4, h5⟩
theorem Stand.put_full (h : Stand w wr B S cap l op ac rf) (hl : l.length = cap) (hs : rf ≤ 1000000) (x : Int) : Calls Try.prog 16 #[.pointer (some ⟨B, 0, none⟩), .int .i64 x] wr fun e w' => e = .returned (.int .i64 4) ∧ Stand w w' B S cap l (op + 1) ac (rf + 1) ∧ Chg S wr w' := by
  refine (RI.put_no wr B S cap l op ac rf h.rng hl hs x).mono ?_
  rintro e w' ⟨rfl, h3, h4⟩
  exact ⟨rfl, ⟨h3, h.own, h.bel.trans (h4.below h.own h.bel.size)⟩, h4⟩
theorem Stand.take (h : Stand w wr B S cap l op ac rf) (k m : Nat) (hm : min k l.length = m) : Calls Try.prog 17 #[.pointer (some ⟨B, 0, none⟩), .int .i64 k] wr fun e w' => ∃ a c, e = .returned (.tuple #[.slice a m c, .int .i64 0]) ∧ RI.Sl w' wr.heap.size a m c (l.take m) ∧ Stand w w' B S cap (l.drop m) op ac rf ∧ RI.Apart S a := by
  refine (RI.take_ok wr B S cap l op ac rf h.rng k m hm).mono ?_
  rintro e w' ⟨v, rfl, h1, h2, h3⟩
  obtain ⟨a, c, rfl, h4, _⟩ := RI.sl_form h1
  exact ⟨a, c, rfl, h4, ⟨h2, h.own, h.bel.trans (h3.below h.own h.bel.size)⟩, h4.apart h.rng.size⟩
theorem Stand.drain (h : Stand w wr B S cap l op ac rf) (m : Nat) (hm : l.length = m) : Calls Try.prog 18 #[.pointer (some ⟨B, 0, none⟩)] wr fun e w' => ∃ a c, e = .returned (.tuple #[.slice a m c, .int .i64 op, .int .i64 0]) ∧ RI.Sl w' wr.heap.size a m c l ∧ Stand w w' B S cap [] 0 ac rf ∧ RI.Apart S a := by
  refine (RI.drain_ok wr B S cap l op ac rf h.rng m hm).mono ?_
  rintro e w' ⟨v, rfl, h1, h2, h3⟩
  obtain ⟨a, c, rfl, h4, _⟩ := RI.sl_form h1
  exact ⟨a, c, rfl, h4, ⟨h2, h.own, h.bel.trans (h3.below h.own h.bel.size)⟩, h4.apart h.rng.size⟩
theorem Stand.all (h : Stand w wr B S cap l op ac rf) (m : Nat) (hm : l.length = m) : Calls Try.prog 21 #[.pointer (some ⟨B, 0, none⟩)] wr fun e w' => ∃ a c, e = .returned (.slice a m c) ∧ RI.Sl w' wr.heap.size a m c l ∧ Stand w w' B S cap l op ac rf ∧ Below wr.heap.size wr w' ∧ RI.Apart S a := by
  refine (RI.all_ok wr B S cap l op ac rf h.rng m hm).mono ?_
  rintro e w' ⟨v, rfl, h1, h2⟩
  obtain ⟨a, c, rfl, h4, _⟩ := RI.sl_form h1
  exact ⟨a, c, rfl, h4, h.below h2, h2, h4.apart h.rng.size⟩
end
/-- A slice of bytes that came in. -/
def InB (w : World) (a : Option Addr) (xs : List Nat) : Prop := Seen w w.heap.size .u8 a xs
theorem InB.at {w wr : World} {a : Option Addr} {xs : List Nat} (h : InB w a xs) (hb : Below w.heap.size w wr) {i : Nat} (hi : i < xs.length) : ∃ b off, a = some ⟨b, off, none⟩ ∧ wr.cell? ⟨b, off + i, none⟩ = some (.int .u8 (xs[i])) := by
  obtain ⟨b, off, h1, h2, h3⟩ := h i _ (List.getElem?_eq_getElem hi)
  exact ⟨b, off, h1, (hb.cell (p := ⟨b, off + i, none⟩) h2).trans h3⟩
end Go.Proofs.Ytljodpdplmhdnaa
