/-
  awake: the chapter's examples.
-/
import Derived.Test.YtdemlifjhlpclaaFixed
import Derived.Test.YtdemlifjhlpclaaWFixed
namespace Go.Proofs.Ytdemlifjhlpclaa
open Go.RowKit
set_option linter.unusedVariables false

section
variable (w : World) (B p : Nat) (xs : List Nat)
theorem byte_at (y : Nat) (e : Int) (p' : Nat) (hr : Cu.rdByte p xs = (y, e, p')) (hR : Rdr w B p xs) :
    Calls Try.prog 28 #[.pointer (some ⟨B, 0, none⟩)] w fun r w' => r = .returned (.tuple #[.int .u8 y, .int .i64 e]) ∧ Rdr w' B p' xs ∧ Chg (· = B) w w' := byte_any w B p xs _ hr hR
theorem number_lit (mI : Int) (most : Nat) (hmI : mI = most) (y : Nat) (e : Int) (p' : Nat) (hr : Cu.rdNumber most p xs = (y, e, p')) (hR : Rdr w B p xs) :
    Calls Try.prog 27 #[.pointer (some ⟨B, 0, none⟩), .int .u64 mI] w fun r w' => r = .returned (.tuple #[.int .u64 y, .int .i64 e]) ∧ Rdr w' B p' xs ∧ Chg (· = B) w w' := by
  subst hmI; exact rnumber_any w B p most xs _ hr hR
theorem number_at (most : Nat) (y : Nat) (e : Int) (p' : Nat) (hr : Cu.rdNumber most p xs = (y, e, p')) (hR : Rdr w B p xs) :
    Calls Try.prog 27 #[.pointer (some ⟨B, 0, none⟩), .int .u64 most] w fun r w' => r = .returned (.tuple #[.int .u64 y, .int .i64 e]) ∧ Rdr w' B p' xs ∧ Chg (· = B) w w' := rnumber_any w B p most xs _ hr hR
theorem fixed_at (n : Int) (y : Nat) (e : Int) (p' : Nat) (hr : Cu.rdFixed n p xs = (y, e, p')) (hR : Rdr w B p xs) :
    Calls Try.prog 32 #[.pointer (some ⟨B, 0, none⟩), .int .i64 n] w fun r w' => r = .returned (.tuple #[.int .u64 y, .int .i64 e]) ∧ Rdr w' B p' xs ∧ Chg (· = B) w w' := fixed_any w B p n xs _ hr hR
theorem count_at (most size : Int) (y : Nat) (e : Int) (p' : Nat) (hr : Cu.rdCount most size p xs = (y, e, p')) (hm : most ≤ 9223372036854775807) (hs : size ≤ 9223372036854775807) (hxm : xs.length ≤ 1000000000) (hR : Rdr w B p xs) :
    Calls Try.prog 25 #[.pointer (some ⟨B, 0, none⟩), .int .i64 most, .int .i64 size] w fun r w' => r = .returned (.tuple #[.int .i64 y, .int .i64 e]) ∧ Rdr w' B p' xs ∧ Chg (· = B) w w' := count_any w B p most size xs _ hr hm hs hxm hR
end

theorem newWriter_lit (w : World) (lI : Int) (lim base : Nat) (h : lI = lim) (hl : lim ≤ 16777216) :
    Calls Try.prog 15 #[.int .i64 lI] w fun e w' => ∃ B, e = .returned (.tuple #[.pointer (some ⟨B, 0, none⟩), .int .i64 0]) ∧ w.heap.size ≤ B ∧ Wtr w' base B lim (.slice none 0 0) [] ∧ Below w.heap.size w w' := by
  subst h; exact newWriter_ok w lim base hl
section
variable (w : World) (base B lim : Nat) (v : Value) (xs : List Nat)
/-- A byte is written, or there is no room. -/
theorem wByte_ok (hW : Wtr w base B lim v xs) (hbase : base ≤ w.heap.size) (xI : Int) (x : Nat) (hx : xI = x) (h : xs.length + 1 ≤ lim) :
    Calls Try.prog 31 #[.pointer (some ⟨B, 0, none⟩), .int .u8 xI] w fun e w' => ∃ v', e = .returned (.int .i64 0) ∧ Wtr w' base B lim v' (xs ++ [x]) ∧ Chg (WS B v) w w' ∧ Moved w v v' := by
  subst hx; exact (wByte_any w base B lim v xs hW hbase x).mono fun e w' hh => hh.1 h
theorem wByte_full (hW : Wtr w base B lim v xs) (hbase : base ≤ w.heap.size) (xI : Int) (x : Nat) (hx : xI = x) (h : lim < xs.length + 1) :
    Calls Try.prog 31 #[.pointer (some ⟨B, 0, none⟩), .int .u8 xI] w fun e w' => e = .returned (.int .i64 4) ∧ Wtr w' base B lim v xs ∧ Below w.heap.size w w' := by
  subst hx; exact (wByte_any w base B lim v xs hW hbase x).mono fun e w' hh => hh.2 h
theorem wNumber_ok (hW : Wtr w base B lim v xs) (hbase : base ≤ w.heap.size) (xI : Int) (x : Nat) (hxI : xI = x) (hx : x < 2 ^ 64) (f : List Nat) (hf : Vi.form x = f) (h : xs.length + f.length ≤ lim) :
    Calls Try.prog 34 #[.pointer (some ⟨B, 0, none⟩), .int .u64 xI] w fun e w' => ∃ v', e = .returned (.int .i64 0) ∧ Wtr w' base B lim v' (xs ++ f) ∧ Chg (WS B v) w w' ∧ Moved w v v' := by
  subst hxI; subst hf; exact (wNumber_any w base B lim v xs hW hbase x hx _ rfl).mono fun e w' hh => hh.1 h
theorem wNumber_full (hW : Wtr w base B lim v xs) (hbase : base ≤ w.heap.size) (xI : Int) (x : Nat) (hxI : xI = x) (hx : x < 2 ^ 64) (f : List Nat) (hf : Vi.form x = f) (h : lim < xs.length + f.length) :
    Calls Try.prog 34 #[.pointer (some ⟨B, 0, none⟩), .int .u64 xI] w fun e w' => e = .returned (.int .i64 4) ∧ Wtr w' base B lim v xs ∧ Below w.heap.size w w' := by
  subst hxI; subst hf; exact (wNumber_any w base B lim v xs hW hbase x hx _ rfl).mono fun e w' hh => hh.2 h
theorem wFixed_no (hW : Wtr w base B lim v xs) (xI : Int) (x : Nat) (hx : xI = x) (n : Int) (h : n < 1 ∨ 8 < n ∨ (x / 256 ^ n.toNat ≠ 0)) :
    Calls Try.prog 29 #[.pointer (some ⟨B, 0, none⟩), .int .u64 xI, .int .i64 n] w fun e w' => e = .returned (.int .i64 2) ∧ w = w' := by
  subst hx; exact wFixed_bad w base B lim v xs hW x n h
end
/-- A slice that was just built. -/
theorem seen_built {w : World} (vs : List Nat) (cs : Array Value) (t : TypeId) (h : cs = (vs.map fun x : Nat => Value.int .u8 x).toArray) : Seen (w.alloc (.cells cs t)) (w.heap.size + 1) .u8 (some ⟨w.heap.size, 0, none⟩) vs := by
  subst h
  have := Seen.of_block (k := .u8) (off := 0) (xs := vs) (World.alloc_heap_new w (.cells (vs.map fun x : Nat => Value.int .u8 x).toArray t)) (fun i y hy => by simp [hy])
  rw [World.size_alloc] at this
  exact this

theorem Wtr.low {w w' : World} {base B lim : Nat} {v : Value} {xs : List Nat} (hW : Wtr w base B lim v xs) (hB : base ≤ B) (hs : base ≤ w.heap.size) (hk : Chg (WS B v) w w') : Below base w w' :=
  hk.below (fun k h => h.elim (fun e => by rw [e]; exact hB) (fun e => (hW.2.1.lt k e).1)) hs

def exR : List Nat := [1, 172, 2, 7, 0, 9]
theorem ex1 : Cu.rdByte 0 exR = (1, 0, 1) := by decide +kernel
theorem ex2 : Cu.rdNumber 299 1 exR = (0, 21, 1) := by decide +kernel
theorem ex3 : Cu.rdNumber 300 1 exR = (300, 0, 3) := by decide +kernel
theorem ex4 : Cu.rdFixed 2 3 exR = (7, 0, 5) := by decide +kernel
theorem ex5 : Cu.rdCount 10 1 5 exR = (0, 20, 5) := by decide +kernel
theorem ex6 : Cu.rdByte 5 exR = (9, 0, 6) := by decide +kernel
theorem ex7 : Cu.rdByte 6 exR = (0, 20, 6) := by decide +kernel
theorem ex8 : Cu.rdEnd 6 exR = 0 := by decide +kernel
theorem ex9 : Vi.form 300 = [172, 2] := by decide +kernel

set_option maxRecDepth 100000 in
set_option maxHeartbeats 1000000 in
theorem awake_any (w : World) : Calls Try.prog 12 #[] w fun e w' => e = .returned (.bool true) ∧ Below w.heap.size w w' := by
  have hS : Seen (w.alloc (.cells #[.int .u8 1, .int .u8 172, .int .u8 2, .int .u8 7, .int .u8 0, .int .u8 9] 5)) (w.heap.size + 1) .u8 (some ⟨w.heap.size, 0, none⟩) exR := seen_built exR _ _ rfl
  have hB0 : Below w.heap.size w (w.alloc (.cells #[.int .u8 1, .int .u8 172, .int .u8 2, .int .u8 7, .int .u8 0, .int .u8 9] 5)) := (Below.refl _ w).alloc (Nat.le_refl _) _
  go_enter Try.func12, Try.ntmps12
  go_wp2_with (first
    | (go_at_call 19; ((with_reducible refine (newReader_any _ _ 6 6 exR rfl (by decide) (by decide) (by unfold maxLen; omega) (by simp) (by decide) _ hS (by simp)).mono ?_); rintro e w1 ⟨B, rfl, hBB, hR1, hB1⟩))
    | (go_at_call 28; ((with_reducible refine (byte_at _ B 0 exR 1 0 1 ex1 hR1).mono ?_); rintro e w2 ⟨rfl, hR2, hK2⟩))
    | (go_at_call 27; ((with_reducible refine (number_lit _ B 1 exR 299 299 rfl 0 21 1 ex2 hR2).mono ?_); rintro e w3 ⟨rfl, hR3, hK3⟩))
    | (go_at_call 27; ((with_reducible refine (number_lit _ B 1 exR 300 300 rfl 300 0 3 ex3 hR3).mono ?_); rintro e w4 ⟨rfl, hR4, hK4⟩))
    | (go_at_call 32; ((with_reducible refine (fixed_at _ B 3 exR 2 7 0 5 ex4 hR4).mono ?_); rintro e w5 ⟨rfl, hR5, hK5⟩))
    | (go_at_call 25; ((with_reducible refine (count_at _ B 5 exR 10 1 0 20 5 ex5 (by decide) (by decide) (by decide) hR5).mono ?_); rintro e w6 ⟨rfl, hR6, hK6⟩))
    | (go_at_call 28; ((with_reducible refine (byte_at _ B 5 exR 9 0 6 ex6 hR6).mono ?_); rintro e w7 ⟨rfl, hR7, hK7⟩))
    | (go_at_call 28; ((with_reducible refine (byte_at _ B 6 exR 0 20 6 ex7 hR7).mono ?_); rintro e w8 ⟨rfl, hR8, hK8⟩))
    | (go_at_call 23; ((with_reducible refine (end_any _ B 6 exR 0 ex8 hR8).mono ?_); rintro e w9 ⟨rfl, q9, rfl⟩; have hBz : Below w.heap.size w (w8.drewN q9) := hB0.trans ((hB1.mono (by simp)).trans (below_drewN ((((((((Chg.refl (· = B) w1).trans hK2).trans hK3).trans hK4).trans hK5).trans hK6).trans hK7).trans hK8 |>.below (B := w.heap.size) (by intro k e; simp at hBB; omega) (Nat.le_trans hB0.size hB1.size)) q9))))
    | (go_at_call 15; ((with_reducible refine (newWriter_lit _ 3 3 w.heap.size rfl (by decide)).mono ?_); rintro e w10 ⟨A, rfl, hAA, hW1, hB10⟩; have h10 := Nat.le_trans hBz.size hB10.size)))
  go_wp2_with (first
    | (go_at_call 34; ((with_reducible refine (wNumber_ok _ w.heap.size A 3 _ [] hW1 h10 300 300 rfl (by decide) [172, 2] ex9 (by decide)).mono ?_); rintro e w11 ⟨v1, rfl, hW2, hK11, hM11⟩; have h11 := Nat.le_trans h10 hK11.size))
    | (go_at_call 31; ((with_reducible refine (wByte_ok _ w.heap.size A 3 _ _ hW2 h11 5 5 rfl (by decide)).mono ?_); rintro e w12 ⟨v2, rfl, hW3, hK12, hM12⟩; have h12 := Nat.le_trans h11 hK12.size))
    | (go_at_call 31; ((with_reducible refine (wByte_full _ w.heap.size A 3 _ _ hW3 h12 6 6 rfl (by decide)).mono ?_); rintro e w13 ⟨rfl, hW4, hB13⟩; have h13 := Nat.le_trans h12 hB13.size))
    | (go_at_call 18; ((with_reducible refine (out_any _ w.heap.size A 3 _ _ 3 rfl hW4).mono ?_); rintro e w14 ⟨v', rfl, hown, hB14⟩; obtain ⟨a1, c1, rfl, S1, _, _, _⟩ := own_slice hown)))
  have S1' : Seen (w14.alloc (.cells #[.int .u8 172, .int .u8 2, .int .u8 5] 5)) w14.heap.size .u8 a1 [172, 2, 5] := Seen.alloc S1 (Nat.le_refl _) _
  have S2 := seen_built (w := w14) [172, 2, 5] #[.int .u8 172, .int .u8 2, .int .u8 5] 5 rfl
  have hA : w.heap.size ≤ A := Nat.le_trans hBz.size hAA
  have hbw : Below w.heap.size w w14 := ((((hBz.trans (hB10.mono hBz.size)).trans (hW1.low hA h10 hK11)).trans (hW2.low hA h11 hK12)).trans (hB13.mono h12)).trans (hB14.mono h13)
  have hW5 := (hW4.below hB14).below ((Below.refl _ w14).alloc (Nat.le_refl _) (.cells #[.int .u8 172, .int .u8 2, .int .u8 5] 5))
  have hbw2 := hbw.alloc hbw.size (.cells #[.int .u8 172, .int .u8 2, .int .u8 5] 5)
  clear hbw hBz
  go_wp2_with (first
    | (go_at_call 33; ((with_reducible refine (same_at _ _ _ _ [172, 2, 5] [172, 2, 5] 3 3 true rfl rfl (by decide) _ _ _ S1' S2 (by unfold maxLen; omega) (by unfold maxLen; omega)).mono ?_); rintro e w15 ⟨rfl, hB15⟩; have hW6 := hW5.below hB15))
    | (go_at_call 29; ((with_reducible refine (wFixed_no _ w.heap.size A 3 _ _ hW6 256 256 rfl 1 (by decide)).mono ?_); rintro e w16 ⟨rfl, rfl⟩)))
  go_ret
  exact ⟨rfl, hbw2.trans (hB15.mono hbw2.size)⟩

end Go.Proofs.Ytdemlifjhlpclaa
