/-
  quantumlaw02.read: Byte and Bytes.
-/
import Derived.Test.YtdemlifjhlpclaaReadC
import Derived.Deep.RegionLaw
namespace Go.Proofs.Ytdemlifjhlpclaa
open Go.RowKit
set_option linter.unusedVariables false

theorem own_below {w w' : World} {base n size : Nat} {e : TypeId} {v : Value} {xs : List Value} (h : w.ownsRow base e size v n xs) (hB : Below w.heap.size w w') : w'.ownsRow base e size v n xs :=
  h.kept (row := none) ⟨hB.os, hB.tape, hB.output, hB.size, fun k hk _ => hB.block k hk⟩ (by cases hv : v.ownBlock <;> simp)
theorem Chg.andFresh {S : Nat → Prop} {W w4 wf : World} {g : Nat} (h : Chg S W w4) (k : Chg (· = g) w4 wf) (hg : W.heap.size ≤ g) : Chg S W wf :=
  ⟨k.os.trans h.os, k.tape.trans h.tape, k.output.trans h.output, Nat.le_trans h.size k.size, fun i hi hn => (k.block i (Nat.lt_of_lt_of_le hi h.size) (by show ¬ i = g; omega)).trans (h.block i hi hn)⟩

set_option maxRecDepth 100000 in
set_option maxHeartbeats 4000000 in
theorem read_1 (w : World) (B : Nat) (a : Option Addr) (n c p : Nat) (kd : Nat) (N M : Int) (X : Nat) (sl : Value) (hk : kd % 8 = 1) (hkd : kd < 256) (hN1 : -9223372036854775808 ≤ N) (hN2 : N ≤ 9223372036854775807) (hM1 : -9223372036854775808 ≤ M) (hM2 : M ≤ 9223372036854775807) (hX : X < 2 ^ 64)
    (xs : List Nat) (hn : xs.length = n) (hn5 : n ≤ 500) (hnc : n ≤ c) (hcm : c ≤ maxLen) (hsn : a = none → c = 0) (hR : Rdr w B p xs) (Q : Nat) (hS : Seen w Q .u8 a xs) (hQ : Q ≤ w.heap.size) :
    Calls Try.prog 38 #[.pointer (some ⟨B, 0, none⟩), rv a n c p, av kd N M X sl] w (ReadOk w B a n c xs) := by
  have hkI : (kd : Int) % 8 = 1 := by omega
  obtain ⟨hsz, hB0, hb1, hb2, hb3⟩ := rdWorld_all w a n c p kd N M X sl
  obtain ⟨hp, hx⟩ := hR.bounds
  have hBl := hR.lt
  have hR0 := hR.below hB0
  have hS0 := hS.below (hB0.mono hQ)
  have hQ0 : Q ≤ (rdWorld w a n c p kd N M X sl).heap.size := Nat.le_trans hQ hB0.size
  have HN := Lib.hid hn
  have HX := Lib.hid hx
  have HSN := Lib.hid hsn
  have HLM : Hid (xs.length ≤ 1000000000) := by rw [hn]; show _ ≤ _; omega
  rw [hn] at hp
  have HB0 := Lib.hid hB0
  have HSZ := Lib.hid hsz
  clear hk hn hx hsn hsz hB0 hb1 hb2 hb3 hR hS
  obtain ⟨r, hr⟩ : ∃ r, Cu.rdBytes N p xs = r := ⟨_, rfl⟩
  obtain ⟨l, er, p1⟩ := r
  obtain ⟨m, hm⟩ : ∃ m, l.length = m := ⟨_, rfl⟩
  have hm5 : m ≤ 500 := by
    unfold Cu.rdBytes at hr
    split at hr
    · cases hr; rw [← hm]; simp
    · split at hr
      · cases hr; rw [← hm]; simp
      · cases hr; rw [← hm, List.length_take, List.length_drop, HN.out]; omega
  have HR := Lib.hid hr
  have HM := Lib.hid hm
  clear hr hm
  have hBW : B < (rdWorld w a n c p kd N M X sl).heap.size := by rw [HSZ.out]; omega
  unfold rdWorld rrObj actObj nnObj at hR0 hS0 hQ0
  unfold rv av
  go_enter Try.func38, Try.ntmps38
  go_wp2_with (first
    | (go_at_call 26; ((with_reducible refine (bytes_at _ B p xs N hN2 HLM.out l er p1 HR.out m HM.out hR0).mono ?_); rintro e w1 ⟨a1, c1, rfl, hown1, S1', hc1, hd1, hR1, hK1⟩; obtain ⟨a0, ap, b0, b1, b2, b3, c0, cc1, f0, f1⟩ := read_keeps (p := p) (kd := kd) (N := N) (M := M) (X := X) (sl := sl) hBl hK1; have S1 := hR0.past hK1 hS0; have hQ1 := Nat.le_trans hQ0 hK1.size))
    | (go_at_call 58; ((with_reducible refine (refTake_any _ a n c p N hN2 xs HN.out (by omega) hp Q S1 hQ1 l er p1 HR.out m HM.out).mono ?_); rintro e w2 ⟨a2, c2, rfl, S2, hc2, hd2, hB2⟩; have hK2 := hK1.trans (Chg.of_below (· = B) hB2); have hR2 := hR1.below hB2))
    | (go_at_call 33; ((with_reducible refine (same_at _ _ _ _ l l m m true HM.out HM.out (by simp) _ _ _ (S1'.below hB2 |>.alloc hB2.size _) (S2.alloc (Nat.le_refl _) _) (by unfold maxLen; omega) (by unfold maxLen; omega)).mono ?_); rintro e w4 ⟨rfl, hB4⟩)))
  have hB24 : Below w2.heap.size w2 w4 := ((Below.refl _ w2).alloc (Nat.le_refl _) (.cells #[.slice a n c, .int .i64 p1] 71)).trans (hB4.mono (by simp))
  have hb15 : w4.heap[w2.heap.size]? = some (rrObj a n c p1) := (hB4.block w2.heap.size (by simp)).trans (World.alloc_heap_new w2 _)
  have hown2 := own_below hown1 hB2
  have hown4 := own_below hown2 hB24
  have hR4 := hR2.below hB24
  have hK4 := hK2.trans (Chg.of_below (· = B) hB24)
  have hK4w : Chg (· = B) w w4 := chg_alloc HB0.out hK4
  have hz2 : w.heap.size + 3 ≤ w2.heap.size := by rw [← HSZ.out]; exact hK2.size
  have hz4 : w2.heap.size ≤ w4.heap.size := hB24.size
  unfold maxLen at hd1
  clear hB2 hB4 hB24 S1 S1' S2 hK1 hK2 hown1 hR1 hR2 hR0 hS0 hQ0 hQ1 a0 ap b0 b1 b2 b3 c0 cc1 f0 f1
  by_cases hm0 : m = 0
  focus
    clear hown2
    have HM0 := Lib.hid hm0
    obtain ⟨a0', a1', b0', b1', b2', b3', c0', c1', f0', f1'⟩ := read_keeps (p := p) (kd := kd) (N := N) (M := M) (X := X) (sl := sl) hBl hK4
    obtain ⟨r0, r1, _, _⟩ := rr_cells hb15
    have hm0' : (m : Int) ≤ 0 := by omega
    clear hm0
    go_loop [96] (fun i => i = .int .i64 0) (fun _ => 0)
    case atStart => rfl
    case round =>
      obtain rfl := hrel
      go_wp2
      exact bodyPost_ret (v := .tuple #[.agg #[.slice a n c, .int .i64 p1], .bool true]) (by simp [results, Try.results38, go_sem, c0', c1']) rfl ⟨p1, rfl, by rw [← HN.out]; exact hR4.bounds.1, ((hR4.setNew (q := ⟨w.heap.size + 2, 0, none⟩) (Nat.lt_of_lt_of_le hBl (Nat.le_add_right _ 2)) _).setNew (q := ⟨w.heap.size + 2, 1, none⟩) (Nat.lt_of_lt_of_le hBl (Nat.le_add_right _ 2)) _), ((hK4w.setNew (q := ⟨w.heap.size + 2, 0, none⟩) (by simp) _).setNew (q := ⟨w.heap.size + 2, 1, none⟩) (by simp) _)⟩
  rotate_left
  focus
    have HM0 : Hid (0 < m) := Nat.pos_of_ne_zero hm0
    obtain ⟨g, c1g, he⟩ := own_form hown4 HM0.out
    cases he
    have hg : (rdWorld w a n c p kd N M X sl).heap.size ≤ g := (hown4.lt g rfl).1
    have hHG := Lib.hid hg
    have hg2 := Lib.hid (hown2.lt g rfl).2
    clear hown2
    clear hm0
    go_loopw [96] (fun i wr => ∃ (k : Nat) (us : List Value), k ≤ m ∧ i = .int .i64 k ∧ wr.ownsRow (rdWorld w a n c p kd N M X sl).heap.size 5 1 (.slice (some ⟨g, 0, none⟩) m c1) m us ∧ Chg (· = g) w4 wr) (fun i _ => m - (intOf i).toNat)
    case atStart => exact ⟨0, _, Nat.zero_le _, rfl, hown4, Chg.refl _ _⟩
    case round =>
      obtain ⟨k, us, hk, rfl, hr, hK⟩ := hrel
      by_cases hlt : k < m
      · have hul : us.length = m := by have := hr.1; omega
        obtain ⟨u, hu⟩ : ∃ u, us[k]? = some u := ⟨_, List.getElem?_eq_getElem (by omega)⟩
        have hcell := hr.cellAt k (by omega)
        rw [hu] at hcell
        have hfz := hr.frozenAt k
        have i1 : (k : Int) < (m : Int) := by omega
        have i0' : (0 : Int) ≤ (k : Int) := by omega
        have hst := Lib.hid (hr.stored k (.int .u8 77))
        have hK2 : Chg (· = g) w4 (wr.setCell ⟨g, k, none⟩ (.int .u8 77)) := hK.setCell (p := ⟨g, k, none⟩) rfl _
        clear hu hul
        go_wp2
        go_roundw
        case rel => exact ⟨k + 1, _, by omega, by go_num, hst.out.1, hK2⟩
        case measure => simp [intOf]; omega
      · obtain rfl : k = m := by omega
        have hKW := hK4.andFresh hK hHG.out
        obtain ⟨a0', a1', b0', b1', b2', b3', c0', c1', f0', f1'⟩ := read_keeps (p := p) (kd := kd) (N := N) (M := M) (X := X) (sl := sl) hBl hKW
        obtain ⟨r0, r1, _, _⟩ := rr_cells (hK.at_block hb15 (by show ¬ _ = g; have := hg2.out; omega))
        have hR5 : Rdr wr B p1 xs := hR4.keep (hK.below (B := B + 1) (by intro q e; have := hHG.out; rw [HSZ.out] at this; omega) hR4.lt)
        have hK5 : Chg (· = B) w wr := hK4w.andFresh hK (by have := hHG.out; rw [HSZ.out] at this; omega)
        clear hlt hg
        go_wp2
        exact bodyPost_ret (v := .tuple #[.agg #[.slice a n c, .int .i64 p1], .bool true]) (by simp [results, Try.results38, go_sem, c0', c1']) rfl ⟨p1, rfl, by rw [← HN.out]; exact hR5.bounds.1, ((hR5.setNew (q := ⟨w.heap.size + 2, 0, none⟩) (Nat.lt_of_lt_of_le hBl (Nat.le_add_right _ 2)) _).setNew (q := ⟨w.heap.size + 2, 1, none⟩) (Nat.lt_of_lt_of_le hBl (Nat.le_add_right _ 2)) _), ((hK5.setNew (q := ⟨w.heap.size + 2, 0, none⟩) (by simp) _).setNew (q := ⟨w.heap.size + 2, 1, none⟩) (by simp) _)⟩

end Go.Proofs.Ytdemlifjhlpclaa
