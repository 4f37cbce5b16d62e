/-
  quantumlaw02.read: Byte.
-/
import Derived.Test.YtdemlifjhlpclaaReadB
namespace Go.Proofs.Ytdemlifjhlpclaa
open Go.RowKit
set_option linter.unusedVariables false

theorem nn_apart {w : World} {b off y : Nat} (h : w.heap[b]? = some nnObj) : w.cell? ⟨b, off, none⟩ ≠ some (.int .u8 y) := by
  unfold nnObj at h
  match off with
  | 0 | 1 => simp [World.cell?, h]
  | off + 2 => simp [World.cell?, h]

set_option maxRecDepth 100000 in
set_option maxHeartbeats 2000000 in
theorem read_0_in (w : World) (B : Nat) (a : Option Addr) (n c p : Nat) (kd : Nat) (N M : Int) (X : Nat) (sl : Value) (hk : kd % 8 = 0) (hkd : kd < 256) (hN1 : -9223372036854775808 ≤ N) (hN2 : N ≤ 9223372036854775807) (hM1 : -9223372036854775808 ≤ M) (hM2 : M ≤ 9223372036854775807) (hX : X < 2 ^ 64)
    (xs : List Nat) (hn : xs.length = n) (hn5 : n ≤ 500) (hnc : n ≤ c) (hcm : c ≤ maxLen) (hsn : a = none → c = 0) (hR : Rdr w B p xs) (Q : Nat) (hS : Seen w Q .u8 a xs) (hQ : Q ≤ w.heap.size) (hpn : p < n) :
    Calls Try.prog 38 #[.pointer (some ⟨B, 0, none⟩), rv a n c p, av kd N M X sl] w (ReadOk w B a n c xs) := by
  have hkI : (kd : Int) % 8 = 0 := by omega
  obtain ⟨hsz, hB0, hb1, hb2, hb3⟩ := rdWorld_all w a n c p kd N M X sl
  obtain ⟨hp, hx⟩ := hR.bounds
  have hBl := hR.lt
  have hR0 := hR.below hB0
  have hS0 := hS.below (hB0.mono hQ)
  have hQ0 : Q ≤ (rdWorld w a n c p kd N M X sl).heap.size := Nat.le_trans hQ hB0.size
  have HN := Lib.hid hn
  have HX := Lib.hid hx
  have HSN := Lib.hid hsn
  have HLM : Hid (xs.length ≤ 1000000000) := by rw [hn]; show _ ≤ _; omega
  rw [hn] at hp
  have HB0 := Lib.hid hB0
  have HSZ := Lib.hid hsz
  clear hk hn hx hsn hsz hB0 hb1 hb2 hb3 hR hS
  unfold rdWorld rrObj actObj nnObj at hR0 hS0 hQ0
  obtain ⟨y, hy⟩ : ∃ y, xs[p]'(by rw [HN.out]; exact hpn) = y := ⟨_, rfl⟩
  have hHY := Lib.hid hy
  obtain ⟨q, hq⟩ : ∃ q, q = p + 1 := ⟨_, rfl⟩
  have HQ := Lib.hid hq
  clear hy hq
  obtain ⟨er, her⟩ : ∃ er : Int, er = 0 := ⟨_, rfl⟩
  have t1 : (er == er) = true := by simp
  have t2 : (er != 0) = false := by rw [her]; rfl
  have t3 : (er == 0) = true := by rw [her]; rfl
  have HE := Lib.hid her
  clear her
  have HT : Hid (Cu.rdBytes 1 p xs = ([y], er, q)) := by
    rw [HE.out]
    unfold Cu.rdBytes
    rw [if_neg (by omega), show (1 : Int).toNat = 1 from rfl]
    rw [if_neg (by rw [HN.out]; omega), List.drop_eq_getElem_cons (by rw [HN.out]; exact hpn), hHY.out, HQ.out]; rfl
  have HBy : Hid (Cu.rdByte p xs = (y, er, q)) := by rw [HE.out]; unfold Cu.rdByte; rw [if_pos (by rw [HN.out]; exact hpn), List.getD_eq_getElem?_getD, List.getElem?_eq_getElem (by rw [HN.out]; exact hpn), hHY.out, HQ.out]; rfl
  unfold rv av
  go_enter Try.func38, Try.ntmps38
  go_wp2_with (first
    | (go_at_call 28; ((with_reducible refine (byte_at _ B p xs y er (q) HBy.out hR0).mono ?_); rintro e w1 ⟨rfl, hR1, hK1⟩; obtain ⟨a0, ap, b0, b1, b2, b3, c0, cc1, f0, f1⟩ := read_keeps (p := p) (kd := kd) (N := N) (M := M) (X := X) (sl := sl) hBl hK1; have S1 := hR0.past hK1 hS0; have hQ1 := Nat.le_trans hQ0 hK1.size))
    | (go_at_call 58; ((with_reducible refine (refTake_any _ a n c p 1 (by omega) xs HN.out (by omega) hp Q S1 hQ1 [y] er (q) HT.out 1 rfl).mono ?_); rintro e w2 ⟨a2, c2, rfl, S2, hc2, hd2, hB2⟩; have hK2 := hK1.trans (Chg.of_below (· = B) hB2); have hR2 := hR1.below hB2; obtain ⟨b, off, rfl, _, hcell⟩ := S2 0 y rfl; rw [Nat.add_zero] at hcell)))
  obtain ⟨W4, hW4⟩ : ∃ W4, w2.alloc (rrObj a n c (q)) = W4 := ⟨_, rfl⟩
  have hB24 : Below w2.heap.size w2 W4 := by rw [← hW4]; exact (Below.refl _ w2).alloc (Nat.le_refl _) _
  have hR4 := hR2.below hB24
  have hK4 := hK2.trans (Chg.of_below (· = B) hB24)
  have hK4w : Chg (· = B) w W4 := chg_alloc HB0.out hK4
  obtain ⟨a0', a1', b0', b1', b2', b3', c0', c1', f0', f1'⟩ := read_keeps (p := p) (kd := kd) (N := N) (M := M) (X := X) (sl := sl) hBl hK4
  obtain ⟨r0, r1, _, _⟩ := rr_cells (w := W4) (by rw [← hW4]; exact World.alloc_heap_new w2 (rrObj a n c (q)))
  have hz2 : w.heap.size + 3 ≤ w2.heap.size := by rw [← HSZ.out]; exact hK2.size
  have hne2 : w2.heap.size ≠ w.heap.size + 2 := by omega
  have hcell4 := hB24.cell (p := ⟨b, off, none⟩) (World.block_lt_of_cell? w2 _ hcell); rw [hcell] at hcell4; clear hcell
  have hnn : W4.heap[w.heap.size + 2]? = some nnObj := hK4.at_block (rdWorld_all w a n c p kd N M X sl).2.2.2.2 (by show ¬ _ = B; omega)
  have hbne : b ≠ w.heap.size + 1 + 1 := fun e => by subst e; exact nn_apart hnn hcell4
  have hbne' : w.heap.size + 1 + 1 ≠ b := fun e => hbne e.symm
  clear hnn
  unfold rrObj at hW4
  rw [hW4]
  have HH4 := Lib.hid hW4
  clear hW4 hB2 hB24 hK1 hK2 hR1 hR2 S1 S2 hc2 hd2 hQ1 a0 ap b0 b1 b2 b3 c0 cc1 f0 f1 hR0 hS0 hQ0 a0' a1' b0' b1' b2' b3'
  go_region
  go_wp2
  exact bodyPost_ret (v := .tuple #[.agg #[.slice a n c, .int .i64 q], .bool true]) (by simp [results, Try.results38, go_sem, c0', c1']) rfl ⟨q, rfl, by rw [← HN.out]; exact hR4.bounds.1, ((hR4.setNew (q := ⟨w.heap.size + 2, 0, none⟩) (Nat.lt_of_lt_of_le hBl (Nat.le_add_right _ 2)) _).setNew (q := ⟨w.heap.size + 2, 1, none⟩) (Nat.lt_of_lt_of_le hBl (Nat.le_add_right _ 2)) _), ((hK4w.setNew (q := ⟨w.heap.size + 2, 0, none⟩) (by simp) _).setNew (q := ⟨w.heap.size + 2, 1, none⟩) (by simp) _).drewN 1⟩

end Go.Proofs.Ytdemlifjhlpclaa
