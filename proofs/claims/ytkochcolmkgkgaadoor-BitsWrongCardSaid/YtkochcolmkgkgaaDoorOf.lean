/-
  Of.
-/
import Derived.Test.YtkochcolmkgkgaaDoorJoinE
import Derived.Test.YtkochcolmkgkgaaDoorAll
import Derived.RegionTactic
import Derived.ChangeAlike
namespace Go.Proofs.YtkochcolmkgkgaaDoor
open Go.RowKit
set_option linter.unusedVariables false

/-- A slice of integers. -/
def SeenI (w : World) (B : Nat) (a : Option Addr) (zs : List Int) : Prop :=
  ∀ (i : Nat) (z : Int), zs[i]? = some z → ∃ b off, a = some ⟨b, off, none⟩ ∧ b < B ∧ w.cell? ⟨b, off + i, none⟩ = some (.int .i64 z)
theorem SeenI.below {w w' : World} {B : Nat} {a : Option Addr} {zs : List Int} (h : SeenI w B a zs) (hb : Below B w w') : SeenI w' B a zs := fun i z hz => by
  obtain ⟨b, off, h1, h2, h3⟩ := h i z hz
  exact ⟨b, off, h1, h2, (hb.cell (p := ⟨b, off + i, none⟩) h2).trans h3⟩
theorem SeenI.more {w : World} {B B' : Nat} {a : Option Addr} {zs : List Int} (h : SeenI w B a zs) (hB : B ≤ B') : SeenI w B' a zs := fun i z hz => by
  obtain ⟨b, off, h1, h2, h3⟩ := h i z hz
  exact ⟨b, off, h1, by omega, h3⟩
theorem SeenI.nil (w : World) (B : Nat) (a : Option Addr) : SeenI w B a [] := fun i z h => by simp at h
theorem SeenI.of_seen {w : World} {B : Nat} {a : Option Addr} {xs : List Nat} (h : Seen w B .i64 a xs) : SeenI w B a (xs.map fun x : Nat => (x : Int)) := fun i z hz => by
  rw [List.getElem?_map] at hz
  cases hx : xs[i]? with
  | none => rw [hx] at hz; simp at hz
  | some x =>
    rw [hx] at hz
    obtain rfl : (x : Int) = z := by simpa using hz
    exact h i x hx

theorem shl1 {k : Nat} (h : k < 64) : IntKind.u64.wrap ((2 : Int) ^ k) = ((2 ^ k : Nat) : Int) := by
  have hp : 2 ^ k < 2 ^ 64 := Nat.pow_lt_pow_right (by decide) h
  rw [← cast_pow, IntKind.wrap_u64]
  generalize 2 ^ k = P at hp
  omega
namespace Bm
/-- One bit is set. -/
def setBit (ws : List Nat) (i : Nat) : List Nat := ws.set (i / 64) (ws.getD (i / 64) 0 ||| 2 ^ (i % 64))
theorem setBit_len (ws : List Nat) (i : Nat) : (setBit ws i).length = ws.length := by simp [setBit]
theorem setBit_lt {ws : List Nat} {i : Nat} (h : ∀ x ∈ ws, x < 2 ^ 64) (hi : i / 64 < ws.length) : ∀ x ∈ setBit ws i, x < 2 ^ 64 := by
  intro x hx
  rcases List.mem_or_eq_of_mem_set hx with h1 | h1
  · exact h x h1
  · rw [h1, List.getD_eq_getElem?_getD, List.getElem?_eq_getElem hi]
    exact Nat.or_lt_two_pow (h _ (List.getElem_mem _)) (Nat.pow_lt_pow_right (by decide) (Nat.mod_lt _ (by decide)))
theorem setBit_bit {ws : List Nat} {i : Nat} (h : ∀ x ∈ ws, x < 2 ^ 64) (hi : i / 64 < ws.length) (j : Nat) : (val (setBit ws i)).testBit j = ((val ws).testBit j || decide (i = j)) := by
  rw [val_bit _ (setBit_lt h hi), val_bit _ h]
  unfold setBit
  rw [List.getD_eq_getElem?_getD, List.getD_eq_getElem?_getD, List.getD_eq_getElem?_getD]
  by_cases e : j / 64 = i / 64
  · rw [e, List.getElem?_set_self hi, Option.getD_some, Nat.testBit_or, Nat.testBit_two_pow]
    congr 1
    rw [Bool.eq_iff_iff]
    simp only [decide_eq_true_eq]
    omega
  · rw [List.getElem?_set_ne (fun h => e h.symm)]
    have : ¬ i = j := fun h => e (by rw [h])
    simp [this]
/-- The words of a list's numbers. -/
def ofL (q : Nat) (l : List Nat) : List Nat := l.foldl setBit (List.replicate q 0)
theorem ofL_snoc (q : Nat) (l : List Nat) (i : Nat) : ofL q (l ++ [i]) = setBit (ofL q l) i := by simp [ofL]
theorem ofL_len (q : Nat) (l : List Nat) : (ofL q l).length = q := by
  unfold ofL
  rw [show ∀ (l ws : List Nat), (l.foldl setBit ws).length = ws.length from fun l => by
    induction l with
    | nil => intro ws; rfl
    | cons i l ih => intro ws; rw [List.foldl_cons, ih, setBit_len]]
  simp
theorem ofL_lt (q : Nat) (l : List Nat) (h : ∀ i ∈ l, i / 64 < q) : ∀ x ∈ ofL q l, x < 2 ^ 64 := by
  unfold ofL
  have key : ∀ (l ws : List Nat), (∀ i ∈ l, i / 64 < ws.length) → (∀ x ∈ ws, x < 2 ^ 64) → ∀ x ∈ l.foldl setBit ws, x < 2 ^ 64 := by
    intro l
    induction l with
    | nil => intro ws _ h; exact h
    | cons i l ih =>
      intro ws h1 h2
      rw [List.foldl_cons]
      exact ih _ (fun j hj => by rw [setBit_len]; exact h1 j (by simp [hj])) (setBit_lt h2 (h1 i (by simp)))
  refine key l _ (fun i hi => by simpa using h i hi) (fun x hx => ?_)
  rw [List.eq_of_mem_replicate hx]; decide
theorem val_zeros : ∀ q, val (List.replicate q 0) = 0
  | 0 => rfl
  | q + 1 => by rw [List.replicate_succ, val, val_zeros q]
theorem ofL_bit (q : Nat) (l : List Nat) (h : ∀ i ∈ l, i / 64 < q) (j : Nat) : (val (ofL q l)).testBit j = decide (j ∈ l) := by
  have key : ∀ (l ws : List Nat), (∀ i ∈ l, i / 64 < ws.length) → (∀ x ∈ ws, x < 2 ^ 64) → (val (l.foldl setBit ws)).testBit j = ((val ws).testBit j || decide (j ∈ l)) := by
    intro l
    induction l with
    | nil => intro ws _ h; simp
    | cons i l ih =>
      intro ws h1 h2
      rw [List.foldl_cons, ih _ (fun j hj => by rw [setBit_len]; exact h1 j (by simp [hj])) (setBit_lt h2 (h1 i (by simp))), setBit_bit h2 (h1 i (by simp))]
      rw [Bool.or_assoc]
      congr 1
      rw [Bool.eq_iff_iff]
      simp
      constructor
      · rintro (h | h)
        · exact .inl h.symm
        · exact .inr h
      · rintro (h | h)
        · exact .inl h.symm
        · exact .inr h
  unfold ofL
  rw [key l _ (fun i hi => by simpa using h i hi) (fun x hx => by rw [List.eq_of_mem_replicate hx]; decide), val_zeros]
  simp
theorem lt_of_bits {V n : Nat} (h : ∀ i, n ≤ i → V.testBit i = false) : V < 2 ^ n := Nat.lt_pow_two_of_testBit V h
theorem ofL_right {N q : Nat} (l : List Nat) (hN : N ≤ 65536) (hq : (N + 63) / 64 = q) (h : ∀ i ∈ l, i < N) : Rt N (ofL q l) := by
  have h1 : ∀ i ∈ l, i / 64 < q := fun i hi => by have := h i hi; omega
  refine ⟨hN, (ofL_len q l).trans hq.symm, ofL_lt q l h1, lt_of_bits fun i hi => ?_⟩
  rw [ofL_bit q l h1]
  simp
  intro h2
  have := h i h2
  omega
end Bm

/-- All of them are numbers below N. -/
def InR (N : Nat) (zs : List Int) : Prop := ∀ z ∈ zs, 0 ≤ z ∧ z < (N : Int)
/-- What Of returns. -/
def OfOut (w : World) (N q : Nat) (zs : List Int) (e : Ending) (w' : World) : Prop := (InR N zs ∧ SetOut w N q (Bm.ofL q (zs.map Int.toNat)) e w') ∨ (¬ InR N zs ∧ ErrOut w 2 e w')

set_option maxRecDepth 100000 in
set_option maxHeartbeats 2000000 in
theorem of_out (N : Nat) (hN : (N : Int) ≤ 65536) (q : Nat) (hq : (N + 63) / 64 = q) (a : Option Addr) (n c : Nat) (zs : List Int) (hn : zs.length = n) (hn5 : n ≤ maxLen) (w : World) (B : Nat) (hS : SeenI w B a zs) (hB : B ≤ w.heap.size) :
    Calls Tryd.prog 35 #[.int .i64 N, .slice a n c] w (OfOut w N q zs) := by
  have HQ := Lib.hid hq
  have HNI := Lib.hid hN
  have HN := Lib.hid hn
  have HS : Hid (SeenI w B a zs) := hS
  have HB := Lib.hid hB
  unfold maxLen at hn5
  clear hq hn hS
  go_enter Tryd.func35, Tryd.ntmps35
  go_wp2_with (first
    | (go_at_call 18; ((with_reducible refine (new_any N HNI.out q HQ.out _).mono ?_); rintro e w1 ⟨g, rfl, hown, hb1⟩; have HOWN : Hid (OwnW w1 (w.heap.size + 1) g q (List.replicate q 0)) := (by have h := hown; simp only [World.size_alloc] at h; exact h); have HB1 := Lib.hid (((Below.refl _ w).alloc (Nat.le_refl _) _).trans (hb1.mono (by simp))); have HX1 : Hid (Box w1 w.heap.size (.int .i64 0) (.slice none 0 0)) := (Box.new w _ _).keep hb1; clear hb1 hown)))
  have HX2 : Hid (Box (w1.alloc (.cells #[.int .i64 N, .slice (some ⟨g, 0, none⟩) q q] 24)) w.heap.size (.int .i64 0) (.slice none 0 0) ∧ Box (w1.alloc (.cells #[.int .i64 N, .slice (some ⟨g, 0, none⟩) q q] 24)) w1.heap.size (.int .i64 N) (.slice (some ⟨g, 0, none⟩) q q)) := ⟨HX1.out.alloc _, Box.new w1 _ _⟩
  have HO2 : Hid (OwnW (w1.alloc (.cells #[.int .i64 N, .slice (some ⟨g, 0, none⟩) q q] 24)) (w.heap.size + 1) g q (List.replicate q 0)) := HOWN.out.alloc _
  have HB2 : Hid (Below w.heap.size w (w1.alloc (.cells #[.int .i64 N, .slice (some ⟨g, 0, none⟩) q q] 24))) := HB1.out.alloc HB1.out.size _
  have HG : Hid (w.heap.size < g ∧ g < w1.heap.size) := ⟨HOWN.out.base.1, HOWN.out.base.2⟩
  obtain ⟨W2, hW2⟩ : ∃ W2, w1.alloc (.cells #[.int .i64 N, .slice (some ⟨g, 0, none⟩) q q] 24) = W2 := ⟨_, rfl⟩
  rw [hW2] at HX2 HO2 HB2 ⊢
  clear hW2 HOWN HB1
  obtain ⟨b2, hb2⟩ : ∃ b2, w1.heap.size = b2 := ⟨_, rfl⟩
  rw [hb2] at HX2 HG ⊢
  clear hb2 HX1
  have hgb : ¬ g = b2 := by have := HG.out; omega
  have hgw : ¬ g = w.heap.size := by have := HG.out; omega
  have hbw : ¬ b2 = w.heap.size := by have := HG.out; omega
  go_loopw [21] (fun iv wr => ∃ (k : Nat), k ≤ n ∧ iv = .int .i64 k ∧ Hid (InR N (zs.take k)) ∧ Hid (OwnW wr (w.heap.size + 1) g q (Bm.ofL q ((zs.take k).map Int.toNat))) ∧ Hid (Below w.heap.size w wr) ∧ Hid (Box wr w.heap.size (.int .i64 0) (.slice none 0 0) ∧ Box wr b2 (.int .i64 N) (.slice (some ⟨g, 0, none⟩) q q))) (fun i _ => n - (intOf i).toNat)
  case atStart => exact ⟨0, Nat.zero_le _, rfl, fun z hz => by simp at hz, HO2, HB2, HX2⟩
  case round =>
    obtain ⟨k, hk, rfl, HI, HO, HBE, HX⟩ := hrel
    obtain ⟨c0, c1, c2, c3⟩ := HX.out.2.cells
    obtain ⟨e0, e1, e2, e3⟩ := HX.out.1.cells
    by_cases hkn : k < n
    · obtain ⟨z, hz⟩ : ∃ z, zs[k]? = some z := ⟨_, List.getElem?_eq_getElem (by rw [HN.out]; exact hkn)⟩
      obtain ⟨b1, off, rfl, hb1, hcell⟩ := (HS.out.below (HBE.out.mono HB.out)) k z hz
      have hzm : z ∈ zs := List.mem_of_getElem? hz
      have htk : zs.take (k + 1) = zs.take k ++ [z] := by
        rw [List.take_add_one, hz]; rfl
      by_cases hz0 : z < 0
      · have HBAD : Hid (¬ InR N zs) := fun h => by have := (h z hzm).1; omega
        have g1 : decide (z < 0) = true := by simp; omega
        clear hz hzm htk
        obtain ⟨f0, f1, f2, f3⟩ := (HX.out.1.set (.int .i64 0) (.slice none 0 0)).cells
        go_wp2
        refine bodyPost_ret (v := .tuple #[.agg #[.int .i64 0, .slice none 0 0], .int .i64 2]) (by simp [results, Tryd.results35, go_sem, f0, f1]) rfl (.inr ⟨HBAD.out, rfl, ?_⟩)
        first | exact HBE.out | exact (HBE.out.setCell (Nat.le_refl _) _).setCell (Nat.le_refl _) _
      · have g1 : decide (z < 0) = false := by simp; omega
        by_cases hzN : z < N
        · obtain ⟨j, rfl⟩ : ∃ j : Nat, z = (j : Int) := ⟨z.toNat, by omega⟩
          have g2 : decide ((N : Int) ≤ (j : Int)) = false := by simp; omega
          have g3 : ¬ (N : Int) ≤ (j : Int) := by omega
          have g4 : decide (N ≤ j) = false := by simp; omega
          obtain ⟨kd, hkd⟩ : ∃ kd, j / 64 = kd := ⟨_, rfl⟩
          obtain ⟨ke, hke⟩ : ∃ ke, j % 64 = ke := ⟨_, rfl⟩
          have hkdi : (j : Int) / 64 = (kd : Int) := by omega
          have hkei : (j : Int) % 64 = (ke : Int) := by omega
          have hkdt : (j : Int).tdiv 64 = (kd : Int) := by rw [Int.tdiv_eq_ediv_of_nonneg (by omega)]; exact hkdi
          have hket : (j : Int).tmod 64 = (ke : Int) := by rw [Int.tmod_eq_emod_of_nonneg (by omega)]; exact hkei
          have hkdq : kd < q := by have := HQ.out; omega
          have hkdqi : (kd : Int) < (q : Int) := by omega
          have hke64 : (ke : Int) < 64 := by omega
          have HI1 : Hid (InR N (zs.take (k + 1))) := by
            rw [htk]
            intro y hy
            rcases List.mem_append.1 hy with h | h
            · exact HI.out y h
            · rw [List.mem_singleton.1 h]; omega
          have hql : ∀ i ∈ (zs.take k).map Int.toNat, i / 64 < q := by
            intro i hi
            obtain ⟨y, hy, rfl⟩ := List.mem_map.1 hi
            have := HI.out y hy
            have := HQ.out
            omega
          have hwl := Bm.ofL_len q ((zs.take k).map Int.toNat)
          have hwb := Bm.ofL_lt q ((zs.take k).map Int.toNat) hql
          have hsn : Bm.ofL q ((zs.take (k + 1)).map Int.toNat) = Bm.setBit (Bm.ofL q ((zs.take k).map Int.toNat)) j := by
            rw [htk, List.map_append, List.map_singleton, Int.toNat_natCast, Bm.ofL_snoc]
          obtain ⟨ws, hws⟩ : ∃ ws, Bm.ofL q ((zs.take k).map Int.toNat) = ws := ⟨_, rfl⟩
          rw [hws] at hwl hwb hsn HO
          obtain ⟨x, hx⟩ : ∃ x, ws[kd]? = some x := ⟨_, List.getElem?_eq_getElem (by omega)⟩
          obtain ⟨d0, d1⟩ := HO.out.at hx
          have hxl : x < 2 ^ 64 := hwb x (List.mem_of_getElem? hx)
          obtain ⟨y, hy⟩ : ∃ y, x ||| 2 ^ ke = y := ⟨_, rfl⟩
          have hyi : bits .or .u64 (x : Int) (IntKind.u64.wrap ((2 : Int) ^ ke)) = (y : Int) := by
            have hp : 2 ^ ke < 18446744073709551616 := (Nat.pow_lt_pow_right (by decide : 1 < 2) (show ke < 64 by omega) : 2 ^ ke < 2 ^ 64)
            rw [shl1 (show ke < 64 by omega), u64_or_nat x _ hxl hp, hy]
          have hsy : Bm.setBit ws j = ws.set kd y := by
            unfold Bm.setBit
            rw [hkd, hke, List.getD_eq_getElem?_getD, hx, Option.getD_some, hy]
          have HO1 : Hid (OwnW (wr.setCell ⟨g, kd, none⟩ (.int .u64 y)) (w.heap.size + 1) g q (Bm.ofL q ((zs.take (k + 1)).map Int.toNat))) := by
            rw [hsn, hsy]; exact HO.out.store kd y
          have HX1 : Hid (Box (wr.setCell ⟨g, kd, none⟩ (.int .u64 y)) w.heap.size (.int .i64 0) (.slice none 0 0) ∧ Box (wr.setCell ⟨g, kd, none⟩ (.int .u64 y)) b2 (.int .i64 N) (.slice (some ⟨g, 0, none⟩) q q)) := ⟨HX.out.1.other (fun e => hgw e.symm) _, HX.out.2.other (fun e => hgb e.symm) _⟩
          clear hz hzm htk hkd hke hql hwl hwb hsn hws hx hxl hy hsy hzN hz0
          go_wp2
          go_region
          all_goals
            go_wp2
            exact ⟨⟨k + 1, hkn, rfl, HI1, HO1.out.drew, (HBE.out.setCell (show w.heap.size ≤ g by have := HG.out; omega) _).drew, HX1.out.1.drew, HX1.out.2.drew⟩, by simp [intOf]; omega⟩
        · have HBAD : Hid (¬ InR N zs) := fun h => by have := (h z hzm).2; omega
          have g2 : decide ((N : Int) ≤ z) = true := by simp; omega
          clear hz hzm htk
          obtain ⟨f0, f1, f2, f3⟩ := (HX.out.1.set (.int .i64 0) (.slice none 0 0)).cells
          go_wp2
          refine bodyPost_ret (v := .tuple #[.agg #[.int .i64 0, .slice none 0 0], .int .i64 2]) (by simp [results, Tryd.results35, go_sem, f0, f1]) rfl (.inr ⟨HBAD.out, rfl, ?_⟩)
          first | exact HBE.out | exact (HBE.out.setCell (Nat.le_refl _) _).setCell (Nat.le_refl _) _
    · obtain rfl : n = k := by omega
      have HT : Hid (zs.take n = zs) := by show _ = _; rw [← HN.out, List.take_length]
      obtain ⟨f0, f1, f2, f3⟩ := (HX.out.1.set (.int .i64 N) (.slice (some ⟨g, 0, none⟩) q q)).cells
      clear hkn
      go_wp2
      refine bodyPost_ret (v := .tuple #[.agg #[.int .i64 N, .slice (some ⟨g, 0, none⟩) q q], .int .i64 0]) (by simp [results, Tryd.results35, go_sem, f0, f1]) rfl (.inl ⟨?_, _, rfl, ?_, ?_⟩)
      · have := HI.out; rw [HT.out] at this; exact this
      · have h := HO.out
        rw [HT.out] at h
        exact rebase (ownsRow_setCell_below (ownsRow_setCell_below h (show w.heap.size < w.heap.size + 1 by omega) _) (show w.heap.size < w.heap.size + 1 by omega) _) (by omega)
      · exact (HBE.out.setCell (Nat.le_refl _) _).setCell (Nat.le_refl _) _

section
variable (N : Nat) (hN : (N : Int) ≤ 65536) (q : Nat) (hq : (N + 63) / 64 = q) (a : Option Addr) (n c : Nat) (zs : List Int) (hn : zs.length = n) (hn5 : n ≤ maxLen) (w : World) (B : Nat) (hS : SeenI w B a zs) (hB : B ≤ w.heap.size)
include hN hq hn hn5 hS hB
theorem of_yes (h : InR N zs) : Calls Tryd.prog 35 #[.int .i64 N, .slice a n c] w (SetOut w N q (Bm.ofL q (zs.map Int.toNat))) :=
  (of_out N hN q hq a n c zs hn hn5 w B hS hB).mono fun e w' hh => (hh.resolve_right fun k => k.1 h).2
theorem of_no (h : ¬ InR N zs) : Calls Tryd.prog 35 #[.int .i64 N, .slice a n c] w (ErrOut w 2) :=
  (of_out N hN q hq a n c zs hn hn5 w B hS hB).mono fun e w' hh => (hh.resolve_left fun k => h k.1).2
end
end Go.Proofs.YtkochcolmkgkgaaDoor
