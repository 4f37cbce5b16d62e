/-
  quantumlaw02.writes.
-/
import Derived.Test.YtdemlifjhlpclaaWritesB
namespace Go.Proofs.Ytdemlifjhlpclaa
open Go.RowKit
set_option linter.unusedVariables false

set_option maxRecDepth 100000 in
set_option maxHeartbeats 4000000 in
theorem writes_any (w : World) (lI : Int) (hl1 : -9223372036854775808 ≤ lI) (hl2 : lI ≤ 9223372036854775807)
    (aa : Option Addr) (m mc : Nat) (l : List Act0) (hl : l.length = m) (hlo : ∀ t ∈ l, t.ok) (Q : Nat) (hQ : Q ≤ w.heap.size) (hlb : ∀ t ∈ l, ActB w Q t) (hmc : mc ≤ maxLen) (hmm : m ≤ mc) (Q2 : Nat) (hA : Acts w Q2 aa l) (hQ2 : Q2 ≤ w.heap.size) :
    Calls Try.prog 13 #[.int .i64 lI, .slice aa m mc] w fun e w' => e = .returned (.bool true) ∧ Below w.heap.size w w' := by
  unfold maxLen at hmc
  have HL := Lib.hid hl
  have HLO := Lib.hid hlo
  have HLB := Lib.hid hlb
  clear hl hlo hlb
  by_cases h1 : 100 < m
  · have h1' : (100 : Int) < (m : Int) := by omega
    go_enter Try.func13, Try.ntmps13
    go_wp2
    go_ret
    exact ⟨rfl, Below.refl _ _⟩
  have h1' : (m : Int) ≤ 100 := by omega
  by_cases hbad : lI < 0 ∨ 16777216 < lI
  · have HBAD := Lib.hid hbad
    by_cases hneg : lI < 0
    · clear hbad
      go_enter Try.func13, Try.ntmps13
      go_wp2_with (go_at_call 15; ((with_reducible refine (newWriter_bad _ lI HBAD.out).mono ?_); rintro e w1 ⟨rfl, rfl⟩))
      go_ret
      exact ⟨rfl, Below.refl _ _⟩
    · have hpos : 0 ≤ lI := by omega
      have hbig : 16777216 < lI := by omega
      clear hbad hneg
      go_enter Try.func13, Try.ntmps13
      go_wp2_with (go_at_call 15; ((with_reducible refine (newWriter_bad _ lI HBAD.out).mono ?_); rintro e w1 ⟨rfl, rfl⟩))
      go_ret
      exact ⟨rfl, Below.refl _ _⟩
  obtain ⟨lim, rfl⟩ := Int.eq_ofNat_of_zero_le (a := lI) (by omega)
  have q1 : (lim : Int) ≤ 16777216 := by omega
  have q0 : (0 : Int) ≤ (lim : Int) := by omega
  have HLM : Hid (lim ≤ 16777216) := by show _ ≤ _; omega
  clear hbad hl1 hl2
  go_enter Try.func13, Try.ntmps13
  go_wp2_with (go_at_call 15; ((with_reducible refine (newWriter_ok _ lim w.heap.size HLM.out).mono ?_); rintro e w1 ⟨B, rfl, hB0, hW1, hB1⟩))
  have hBl := hW1.lt
  have hW2 := hW1.below ((Below.refl _ w1).alloc (Nat.le_refl _) (.cells #[.int .i64 lim, .slice none 0 0] 76))
  have hB2 := hB1.alloc hB1.size (.cells #[.int .i64 lim, .slice none 0 0] 76)
  have hs2 : (w1.alloc (.cells #[.int .i64 lim, .slice none 0 0] 76)).heap[w1.heap.size]? = some (wwObj lim none 0 0) := World.alloc_heap_new w1 _
  have hsz1 := hB1.size
  clear hW1 hB1
  go_loopw [39] (fun i wr => ∃ (k : Nat) (xs : List Nat) (n : Nat) (v : Value) (a : Option Addr) (c : Nat), k ≤ m ∧ i = .int .i64 k ∧ Both wr w.heap.size B w1.heap.size lim v a n c xs ∧ Below w.heap.size w wr) (fun i _ => m - (intOf i).toNat)
  case atStart => exact ⟨0, [], 0, _, none, 0, Nat.zero_le _, rfl, ⟨hW2, hs2, fun i x hi => by simp at hi, fun h => absurd rfl h, rfl, Nat.le_refl _, by unfold maxLen; omega, hBl⟩, hB2⟩
  case round =>
    obtain ⟨k, xs, n, v, a, c, hk, rfl, hBo, hB⟩ := hrel
    clear hW2 hB2 hs2
    by_cases hlt : k < m
    · obtain ⟨t, ht⟩ : ∃ t, l[k]? = some t := ⟨_, List.getElem?_eq_getElem (by rw [HL.out]; exact hlt)⟩
      have hto := HLO.out t (List.mem_of_getElem? ht)
      have htb := HLB.out t (List.mem_of_getElem? ht)
      obtain ⟨ab, ao, rfl, hal, h0, h1, h2, h3, h4⟩ := (hA.below (hB.mono hQ2)) k t ht
      have i1 : (k : Int) < (m : Int) := by omega
      have i0' : (0 : Int) ≤ (k : Int) := by omega
      have HT := Lib.hid hto
      obtain ⟨hyc, hycm, ys, hyl, hys⟩ := htb
      clear ht hto
      have hBA : Below wr.heap.size wr (wr.alloc (actObj t.kd t.N t.M t.X t.sl)) := (Below.refl _ wr).alloc (Nat.le_refl _) _
      have hBoA := hBo.below hBA
      have hBwA : Below w.heap.size w (wr.alloc (actObj t.kd t.N t.M t.X t.sl)) := hB.trans (hBA.mono hB.size)
      have hact : (wr.alloc (actObj t.kd t.N t.M t.X t.sl)).heap[wr.heap.size]? = some (actObj t.kd t.N t.M t.X t.sl) := World.alloc_heap_new wr _
      have hBwr := hBo.1.lt
      have hBSr : w1.heap.size < wr.heap.size := (Array.getElem?_eq_some_iff.1 hBo.2.1).1
      have hrow : ∀ g, v.ownBlock = some g → g < wr.heap.size := fun g hg => (hBo.1.row_lt hg).2
      have HACT := Lib.hid hact
      have HROW := Lib.hid hrow
      clear hact hrow
      obtain ⟨hxn, hnc, hcm, hBS⟩ := hBo.2.2.2.2
      have hnl : n ≤ lim := by have := hBo.1.2.2.1; omega
      have hl16 := HLM.out
      have HX := Lib.hid hxn
      have HYL := Lib.hid hyl
      have HBO := Lib.hid hBoA
      have HBA := Lib.hid hBwA
      have hszA : (wr.alloc (actObj t.kd t.N t.M t.X t.sl)).heap.size = wr.heap.size + 1 := by simp
      obtain ⟨WA, hWA⟩ : ∃ WA, wr.alloc (actObj t.kd t.N t.M t.X t.sl) = WA := ⟨_, rfl⟩
      rw [hWA] at HACT HBO HBA hszA
      clear hxn hyl hBoA hBwA hBA hBo
      unfold actObj at hWA
      have HWA := Lib.hid HBO.out.1
      have HSA : Hid (w.heap.size ≤ WA.heap.size) := HBA.out.size
      have hn8 : n ≤ 100000000 := by omega
      by_cases hbig : 100 < t.sn
      · have hbigI : (100 : Int) < (t.sn : Int) := by omega
        obtain ⟨c0, c1, c2, c3, c4⟩ := act_cells HACT.out
        go_wp2
        go_ret
        exact ⟨rfl, HBA.out⟩
      have hbigI : (t.sn : Int) ≤ 100 := by omega
      obtain ⟨c0, c1, c2, c3, c4⟩ := act_cells HACT.out
      go_upto_block 2 with fail
      go_cut [10, 11, 12, 49] (fun s10 s11 s12 s49 wx => ∃ (zs : List Nat) (kz : Nat) (v' : Value) (a' : Option Addr) (c' : Nat) (er : Int), s10 = .int .i64 er ∧ s11 = .int .i64 er ∧ Hid (Both wx w.heap.size B w1.heap.size lim v' a' kz c' zs) ∧ Hid (Below w.heap.size w wx) ∧ Hid (zs.length = kz))
      case first =>
        have hk5 : t.kd % 8 = 0 ∨ t.kd % 8 = 1 ∨ t.kd % 8 = 2 ∨ t.kd % 8 = 3 ∨ 4 ≤ t.kd % 8 := by omega
        rcases hk5 with k0 | k0 | k0 | k0 | k0
        · have hkI : (t.kd : Int) % 8 = 0 := by omega
          obtain ⟨u, hu⟩ : ∃ u, t.X % 256 = u := ⟨_, rfl⟩
          have huI : (t.X : Int) % 256 = (u : Int) := by omega
          have huI2 : (u : Int) % 256 = (u : Int) := by omega
          obtain ⟨zs, er, hr⟩ : ∃ zs er, wput lim xs [u] = (zs, er) := ⟨_, _, rfl⟩
          obtain ⟨kz, hkz⟩ : ∃ kz, zs.length = kz := ⟨_, rfl⟩
          have HR := Lib.hid hr
          have HKZ := Lib.hid hkz
          clear hr hu k0 hkz
          go_wp2_with (first
            | (go_at_call 31; go_loud ((with_reducible refine (wrote_byte _ _ B lim v xs HWA.out HSA.out zs er u HR.out).mono ?_); rintro e w3 ⟨v', rfl, hW3, hK3, hM3⟩; obtain ⟨hs3, hS3⟩ := HBO.out.ref hK3; obtain ⟨d0, d1, d2, d3, d4⟩ := act_cells (HBO.out.past hK3 HACT.out (by omega) (fun g hg => Nat.ne_of_lt (HROW.out g hg))); obtain ⟨e0, e1, f0, f1⟩ := two_cells hs3; have HAS : Hid (w3.heap.size ≤ (w3.alloc (.cells #[.int .u8 (u : Int)] 5)).heap.size) := by show _ ≤ _; simp))
            | (go_at_call 40; go_loud ((with_reducible refine (refPut_any _ lim a n c xs HX.out hnc hcm _ ((hS3.alloc hK3.size _).more (Nat.le_trans hK3.size HAS.out)) (Nat.le_refl _) (some ⟨w3.heap.size, 0, none⟩) 1 1 [u] rfl (one_seen w3 u) hn8 (by decide) zs er HR.out kz HKZ.out).mono ?_); rintro e w4 ⟨a', c', rfl, hkc, hcm', hS4, ha4, hB4⟩; have h34 : Below w3.heap.size w3 (w3.alloc (.cells #[.int .u8 (u : Int)] 5)) := (Below.refl _ w3).alloc (Nat.le_refl _) _; obtain ⟨e0', e1', f0', f1'⟩ := two_cells (((h34.trans (hB4.mono h34.size)).block w1.heap.size (Array.getElem?_eq_some_iff.1 hs3).1).trans hs3); have HBO5 := Lib.hid (Both.step HBO.out hW3 hK3 hM3 h34 hB4 hS4 ha4 HKZ.out hkc hcm'); have HB5 := Lib.hid (Both.stepB (a' := a') (k := kz) (c' := c') HBO.out hB0 HBA.out hK3 h34 hB4); have HW5 := Lib.hid HBO5.out.1; clear e0 e1 f0 f1 d0 d1 d2 d3 d4 hs3 hS3 hS4 ha4)))
          go_meet
          exact ⟨zs, kz, v', a', c', er, rfl, rfl, HBO5, HB5, HKZ⟩
        · have hkI : (t.kd : Int) % 8 = 1 := by omega
          obtain ⟨zs, er, hr⟩ : ∃ zs er, wput lim xs ys = (zs, er) := ⟨_, _, rfl⟩
          obtain ⟨kz, hkz⟩ : ∃ kz, zs.length = kz := ⟨_, rfl⟩
          have HR := Lib.hid hr
          have HKZ := Lib.hid hkz
          have hsn100 : t.sn ≤ 100 := by omega
          have HSY := Lib.hid (hys.below (HBA.out.mono hQ))
          have HYS := Lib.hid hys
          have HQA : Hid (Q ≤ WA.heap.size) := Nat.le_trans hQ HBA.out.size
          clear hr k0 hkz hys
          go_wp2_with (first
            | (go_at_call 35; go_loud ((with_reducible refine (lentB_any t.sa t.sn t.sc ys HYL.out (by omega) Q _ HSY.out HQA.out).mono ?_); rintro e w2 ⟨g1, c1, rfl, hc1, hd1, S1, hown1, hB1⟩; have HBO1 := Lib.hid (HBO.out.below hB1); have HW1 := Lib.hid HBO1.out.1; have HB1 := Lib.hid (HBA.out.trans (hB1.mono HBA.out.size)); have HS1w : Hid (w.heap.size ≤ w2.heap.size) := HB1.out.size; have HACT1 := Lib.hid ((hB1.block wr.heap.size (by omega)).trans HACT.out); have HOWN1 := Lib.hid hown1; have HS1 : Hid (Seen w2 w2.heap.size .u8 (some ⟨g1, 0, none⟩) ys) := (by have := seen_take S1 t.sn; rw [List.take_left' HYL.out] at this; exact this); obtain ⟨hg1, hg2⟩ := hown1.lt g1 rfl; clear S1 hown1 hB1))
            | (go_at_call 30; go_loud ((with_reducible refine (wrote_bytes _ _ B lim v xs HW1.out HS1w.out zs er (some ⟨g1, 0, none⟩) t.sn c1 ys HYL.out _ HS1.out HR.out).mono ?_); rintro e w3 ⟨v', rfl, hW3, hK3, hM3⟩; obtain ⟨hs3, hS3⟩ := HBO1.out.ref hK3; have HACT3 := Lib.hid (HBO1.out.past hK3 HACT1.out (by omega) (fun g hg => Nat.ne_of_lt (HROW.out g hg))); obtain ⟨d0, d1, d2, d3, d4⟩ := act_cells HACT3.out; obtain ⟨e0, e1, f0, f1⟩ := two_cells hs3; have HOWN3 := Lib.hid (own_ws hK3 HOWN1.out (by omega) (fun q hq => by have := HROW.out q hq; omega)); have HB3 := Lib.hid (below_ws HBO1.out.1 hB0 HB1.out hK3); have HSY3 := Lib.hid ((HYS.out.below (HB3.out.mono hQ)).more (Nat.le_trans hQ HB1.out.size)); have hz13 := hK3.size))
            | (go_at_call 40; go_loud ((with_reducible refine (refPut_any _ lim a n c xs HX.out hnc hcm _ hS3 hz13 t.sa t.sn t.sc ys HYL.out HSY3.out hn8 (by omega) zs er HR.out kz HKZ.out).mono ?_); rintro e w4 ⟨a', c', rfl, hkc, hcm', hS4, ha4, hB4⟩; have h34 := Below.refl w3.heap.size w3; obtain ⟨e0', e1', f0', f1'⟩ := two_cells (((h34.trans (hB4.mono h34.size)).block w1.heap.size (Array.getElem?_eq_some_iff.1 hs3).1).trans hs3); have HBO5 := Lib.hid (Both.step HBO1.out hW3 hK3 hM3 h34 hB4 hS4 ha4 HKZ.out hkc hcm'); have HB5 := Lib.hid (Both.stepB (a' := a') (k := kz) (c' := c') HBO1.out hB0 HB1.out hK3 h34 hB4); have HAP := Lib.hid (apart_made HBO.out hM3 hg1 hg2 hz13 ha4); have HOWN5 := Lib.hid (own_set2 (own_below HOWN3.out hB4) (b := w1.heap.size) (by omega) (.int .i64 lim) (.slice a' kz c')); have HACT5 := Lib.hid ((Chg.set2 w4 w1.heap.size (.int .i64 lim) (.slice a' kz c')).at_block ((hB4.block wr.heap.size (Array.getElem?_eq_some_iff.1 HACT3.out).1).trans HACT3.out) (by show ¬ _ = _; omega)); obtain ⟨u0, u1, u2, u3, u4⟩ := act_cells HACT5.out; clear e0 e1 f0 f1 d0 d1 d2 d3 d4 hs3 hS3 hS4 ha4 hK3 hM3 hW3))
            | (go_at_call 36; go_loud ((with_reducible refine (keptB_any t.sa t.sn t.sc ys HYL.out (by omega) g1 c1 hc1 hd1 _ _ ((HYS.out.below (HB5.out.mono hQ)).more (Nat.le_trans hQ HB5.out.size)) (Seen.of_own HOWN5.out) (Nat.le_refl _)).mono ?_); rintro e w6 ⟨rfl, hB6⟩; have HBO6 := Lib.hid (HBO5.out.below hB6); have HB6 := Lib.hid (HB5.out.trans (hB6.mono HB5.out.size)); have HOWN6 := Lib.hid (own_below HOWN5.out hB6); clear hB6))
            | (go_at_call 37; go_loud ((with_reducible refine (over_any _ _ g1 t.sn c1 _ HOWN6.out (by omega) hc1 hd1).mono ?_); rintro e w7 ⟨rfl, hK7⟩)))
          have HBO7 := Lib.hid (HBO6.out.kept hK7 (by omega) (by omega) HAP.out.1 HAP.out.2)
          have HB7 := Lib.hid (HB6.out.trans (hK7.below (B := w.heap.size) (by intro q e; have := HBA.out.size; omega) HB6.out.size))
          go_meet
          exact ⟨zs, kz, v', a', c', er, rfl, rfl, HBO7, HB7, HKZ⟩
        · have hkI : (t.kd : Int) % 8 = 2 := by omega
          obtain ⟨zs, er, hr⟩ : ∃ zs er, wfixed lim xs t.X t.N = (zs, er) := ⟨_, _, rfl⟩
          obtain ⟨kz, hkz⟩ : ∃ kz, zs.length = kz := ⟨_, rfl⟩
          have HR := Lib.hid hr
          have HKZ := Lib.hid hkz
          have HX64 : Hid (t.X < 2 ^ 64) := HT.out.2.2.2.2.2
          clear hr k0 hkz
          go_wp2_with (first
            | (go_at_call 29; go_loud ((with_reducible refine (wrote_fixed _ _ B lim v xs HWA.out HSA.out zs er t.X t.N HR.out).mono ?_); rintro e w3 ⟨v', rfl, hW3, hK3, hM3⟩; obtain ⟨hs3, hS3⟩ := HBO.out.ref hK3; obtain ⟨d0, d1, d2, d3, d4⟩ := act_cells (HBO.out.past hK3 HACT.out (by omega) (fun g hg => Nat.ne_of_lt (HROW.out g hg))); obtain ⟨e0, e1, f0, f1⟩ := two_cells hs3))
            | (go_at_call 41; go_loud ((with_reducible refine (refPutFixed_any _ lim a n c xs HX.out hnc hcm _ (hS3.more hK3.size) (Nat.le_refl _) t.X HX64.out t.N hn8 zs er HR.out kz HKZ.out).mono ?_); rintro e w4 ⟨a', c', rfl, hkc, hcm', hS4, ha4, hB4⟩; have h34 := Below.refl w3.heap.size w3; obtain ⟨e0', e1', f0', f1'⟩ := two_cells (((h34.trans (hB4.mono h34.size)).block w1.heap.size (Array.getElem?_eq_some_iff.1 hs3).1).trans hs3); have HBO5 := Lib.hid (Both.step HBO.out hW3 hK3 hM3 h34 hB4 hS4 ha4 HKZ.out hkc hcm'); have HB5 := Lib.hid (Both.stepB (a' := a') (k := kz) (c' := c') HBO.out hB0 HBA.out hK3 h34 hB4); have HW5 := Lib.hid HBO5.out.1; clear e0 e1 f0 f1 d0 d1 d2 d3 d4 hs3 hS3 hS4 ha4)))
          go_meet
          exact ⟨zs, kz, v', a', c', er, rfl, rfl, HBO5, HB5, HKZ⟩
        · have hkI : (t.kd : Int) % 8 = 3 := by omega
          obtain ⟨zs, er, hr⟩ : ∃ zs er, wput lim xs (Vi.form t.X) = (zs, er) := ⟨_, _, rfl⟩
          obtain ⟨kz, hkz⟩ : ∃ kz, zs.length = kz := ⟨_, rfl⟩
          have HR := Lib.hid hr
          have HKZ := Lib.hid hkz
          have HX64 : Hid (t.X < 2 ^ 64) := HT.out.2.2.2.2.2
          obtain ⟨fm, hfm⟩ : ∃ fm, (Vi.form t.X).length = fm := ⟨_, rfl⟩
          have hf10 : fm ≤ 10 := by rw [← hfm]; exact Vi.form_len10 _ HX64.out
          have HFM := Lib.hid hfm
          clear hr k0 hkz hfm
          go_wp2_with (go_at_call 34; go_loud ((with_reducible refine (wrote_number _ _ B lim v xs HWA.out HSA.out zs er t.X HX64.out HR.out).mono ?_); rintro e w3 ⟨v', rfl, hW3, hK3, hM3⟩; obtain ⟨hs3, hS3⟩ := HBO.out.ref hK3; obtain ⟨d0, d1, d2, d3, d4⟩ := act_cells (HBO.out.past hK3 HACT.out (by omega) (fun g hg => Nat.ne_of_lt (HROW.out g hg))); obtain ⟨e0, e1, f0, f1⟩ := two_cells hs3))
          have hsl3 := (Array.getElem?_eq_some_iff.1 hs3).1
          have hz13 := hK3.size
          go_region_law (first
            | (go_simp; go_at_call 42; go_loud ((with_reducible refine (refWrite_any t.X HX64.out _).mono ?_); rintro e w4 ⟨fv, rfl, hown4, hB4⟩; have hB4' : Below w3.heap.size w3 w4 := ⟨hB4.os, hB4.tape, hB4.output, hB4.size, hB4.block⟩; rw [HFM.out] at hown4; obtain ⟨fa, fc, rfl, Sw, fl, fq, fr⟩ := own_slice hown4; obtain ⟨e0', e1', f0', f1'⟩ := two_cells ((hB4'.block w1.heap.size hsl3).trans hs3)))
            | (go_simp; go_at_call 40; go_loud ((with_reducible refine (refPut_any _ lim a n c xs HX.out hnc hcm _ ((hS3.below (hB4'.mono hz13)).more (Nat.le_trans hz13 hB4'.size)) (Nat.le_refl _) fa fm fc (Vi.form t.X) HFM.out Sw hn8 (by omega) zs er HR.out kz HKZ.out).mono ?_); rintro e w5 ⟨a', c', rfl, hkc, hcm', hS5, ha5, hB5⟩; obtain ⟨e0'', e1'', f0'', f1''⟩ := two_cells ((hB5.block w1.heap.size (Nat.lt_of_lt_of_le hsl3 hB4'.size)).trans ((hB4'.block w1.heap.size hsl3).trans hs3)); have HBO5 := Lib.hid (Both.step HBO.out hW3 hK3 hM3 hB4' hB5 hS5 ha5 HKZ.out hkc hcm'); have HB5 := Lib.hid (Both.stepB (a' := a') (k := kz) (c' := c') HBO.out hB0 HBA.out hK3 hB4' hB5))))
          all_goals
            try (rename_i hcont; refine hcont _ _ ?_)
            go_wp2_with fail
            go_meet
            exact ⟨zs, kz, v', a', c', er, rfl, rfl, HBO5, HB5, HKZ⟩
        · obtain ⟨r, hr⟩ : ∃ r, t.kd % 8 = r := ⟨_, rfl⟩
          have hrI : (t.kd : Int) % 8 = (r : Int) := by omega
          have hr4 : (4 : Int) ≤ (r : Int) := by omega
          clear hr k0
          go_wp2_with fail
          go_meet
          exact ⟨xs, n, v, a, c, 0, rfl, rfl, HBO, HBA, HX⟩
      case rest =>
        obtain ⟨zs, kz, v', a', c', er, rfl, rfl, HBO5, HB5, HKZ⟩ := hcut
        have hkz8 : kz ≤ 16777216 := by have h1 := HBO5.out.1.2.2.1; have h2 := HKZ.out; omega
        have HW5 := Lib.hid HBO5.out.1
        go_wp2_with ((go_at_call 18; go_loud ((with_reducible refine (out_any _ _ B lim v' zs kz HKZ.out HW5.out).mono ?_); rintro e w6 ⟨ov, rfl, hown6, hB6⟩; obtain ⟨oa, oc, rfl, So, ol, hoc, hom⟩ := own_slice hown6; obtain ⟨M, W5, HBO5', HB5', HM, HB6, HO6⟩ : ∃ M W5, Hid (Both W5 w.heap.size B w1.heap.size lim v' a' kz c' zs) ∧ Hid (Below w.heap.size w W5) ∧ Hid (W5.heap.size = M) ∧ Hid (Below M W5 w6) ∧ Hid (w6.ownsRow M 5 1 (.slice oa kz oc) kz (zs.map fun x : Nat => Value.int .u8 x)) := ⟨_, _, HBO5.out, HB5.out, rfl, hB6, hown6⟩; clear HBO5 HB5 HW5 hB6 hown6)))
        have hbo6 : Both w6 w.heap.size B w1.heap.size lim v' a' kz c' zs := HBO5'.out.below (by rw [HM.out]; exact HB6.out)
        obtain ⟨g0, g1, g2, g3⟩ := two_cells hbo6.2.1
        have HW6 := hbo6.1
        have Sa := hbo6.2.2.1
        have hkm : kz ≤ maxLen := Nat.le_trans hoc hom
        have hlt6 : w1.heap.size < w6.heap.size := (Array.getElem?_eq_some_iff.1 hbo6.2.1).1
        have hwE : (er != er) = false := by simp
        have hwK : ((kz : Int) != (kz : Int)) = false := by simp
        clear g0 g2 g3 hbo6
        go_region_held3 (fun W => W.cell? ⟨w1.heap.size, 1, none⟩ = some (.slice a' kz c')) (first | go_keep | exact g1 | exact (hBs.cell (p := ⟨w1.heap.size, 1, none⟩) (by show _ < _; simp; omega)).trans g1) (first
          | (go_at_call 17; refine (len_any _ w.heap.size B lim v' zs kz HKZ.out (by exact HW6)).mono ?_; rintro e w' ⟨rfl, rfl⟩)
          | (go_at_call 33; refine (sameB_any oa a' oc c' kz zs _ _ HKZ.out (by exact So) (by exact Sa) hkm).mono ?_; rintro e w8 ⟨rfl, hBs⟩))
        all_goals
          rename_i hcont hheld
          have hB8 : Below M W5 w8 := (below_drewN HB6.out _).trans (hBs.mono (Nat.le_trans (Nat.le_of_eq HM.out.symm) (below_drewN HB6.out _).size))
          have HB8 := Lib.hid hB8
          have HR8 := Lib.hid (own_below HO6.out ((below_drewN (Below.refl w6.heap.size w6) _).trans hBs))
          clear hBs hheld So Sa HW6 hwE hwK hB8 g1
          refine hcont _ _ ?_
          clear hcont
          go_wp2
          go_loopw [141] (fun i wo => ∃ (j : Nat) (us : List Value), j ≤ kz ∧ i = .int .i64 j ∧ Hid (wo.ownsRow M 5 1 (.slice oa kz oc) kz us) ∧ Hid (Below M W5 wo)) (fun i _ => kz - (intOf i).toNat)
          case atStart => exact ⟨0, _, Nat.zero_le _, rfl, HR8, HB8⟩
          case round =>
            obtain ⟨j, us, hj, rfl, HRO, HBO9⟩ := hrel
            by_cases hjk : j < kz
            · obtain ⟨g, cap, hg⟩ : ∃ g cap, Value.slice oa kz oc = .slice (some ⟨g, 0, none⟩) kz cap := by
                rcases HRO.out.2 with ⟨_, h0⟩ | ⟨g, cap, cur, h, _⟩
                · omega
                · exact ⟨g, cap, h⟩
              cases hg
              have hul : us.length = kz := by have := HRO.out.1; omega
              obtain ⟨u, hu⟩ : ∃ u, us[j]? = some u := ⟨_, List.getElem?_eq_getElem (by omega)⟩
              have hcell := HRO.out.cellAt j (by omega)
              rw [hu] at hcell
              have hfz := HRO.out.frozenAt j
              have j1 : (j : Int) < (kz : Int) := by omega
              have j0 : (0 : Int) ≤ (j : Int) := by omega
              have hgM := (HRO.out.lt g rfl).1
              have hst := Lib.hid (HRO.out.stored j (.int .u8 99))
              clear hu hul
              go_wp2
              exact ⟨⟨j + 1, _, by omega, by go_num, Lib.hid hst.out.1, Lib.hid (HBO9.out.setCell (p := ⟨g, j, none⟩) hgM _)⟩, by simp [intOf]; omega⟩
            · obtain rfl : j = kz := by omega
              go_wp2
              exact ⟨⟨k + 1, _, _, _, _, _, by omega, by go_num, HBO5'.out.below (by rw [HM.out]; exact HBO9.out), HB5'.out.trans (HBO9.out.mono (by rw [← HM.out]; exact HB5'.out.size))⟩, by simp [intOf]; omega⟩
    · obtain rfl : k = m := by omega
      obtain ⟨g0, g1, g2, g3⟩ := two_cells hBo.2.1
      have HWr := hBo.1
      have Sa := hBo.2.2.1
      obtain ⟨hxn, hnc, hcm, hBS⟩ := hBo.2.2.2.2
      have hlt6 : w1.heap.size < wr.heap.size := (Array.getElem?_eq_some_iff.1 hBo.2.1).1
      have hnm : n ≤ maxLen := Nat.le_trans hnc hcm
      have HX := Lib.hid hxn
      clear g0 g2 g3 hxn hBo
      go_wp2
      go_region_held3 (fun W => W.cell? ⟨w1.heap.size, 1, none⟩ = some (.slice a n c)) (first | go_keep | exact g1 | exact g6 | exact (hBs.cell (p := ⟨w1.heap.size, 1, none⟩) hl66).trans g6) (first
        | (go_at_call 18; refine (out_any _ w.heap.size B lim v xs n HX.out (by exact HWr)).mono ?_; rintro e w6 ⟨ov, rfl, hown6, hBe⟩; obtain ⟨oa, oc, rfl, So, ol, hoc, hom⟩ := own_slice hown6; have g6 : w6.cell? ⟨w1.heap.size, 1, none⟩ = some (.slice a n c) := (hBe.cell (p := ⟨w1.heap.size, 1, none⟩) hlt6).trans g1; have hl66 : w1.heap.size < w6.heap.size := Nat.lt_of_lt_of_le hlt6 hBe.size)
        | (go_at_call 33; refine (sameB_any oa a oc c n xs _ _ HX.out (by exact So) (by exact (Seen.below (w := wr.drewN _) (by exact Sa) hBe).more hBe.size) hnm).mono ?_; rintro e w8 ⟨rfl, hBs⟩))
      all_goals
        rename_i hcont hheld
        have hb6 : Below w.heap.size w w6 := (below_drewN hB _).trans (hBe.mono (below_drewN hB _).size)
        have hb8 := Lib.hid (hb6.trans (hBs.mono hb6.size))
        clear hBe hBs hb6 hheld So Sa g1 g6
        refine hcont _ _ ?_
        clear hcont
        go_wp2
        go_ret
        exact ⟨rfl, hb8.out⟩

end Go.Proofs.Ytdemlifjhlpclaa
