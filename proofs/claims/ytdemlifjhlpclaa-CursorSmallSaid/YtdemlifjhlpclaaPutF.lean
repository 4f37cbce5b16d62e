/-
  The reference writer: PutFixed.
-/
import Derived.Test.YtdemlifjhlpclaaPutFixed
namespace Go.Proofs.Ytdemlifjhlpclaa
open Go.RowKit
set_option linter.unusedVariables false

theorem leB_succ (k x : Nat) : leB (k + 1) x = leB k x ++ [x / 256 ^ k % 256] := by simp [leB, List.range_succ]

theorem Seen.past2 {w w' : World} {b N : Nat} {x y : Value} {t : TypeId} (hb : w.heap[b]? = some (.cells #[x, y] t (0, 0))) (hx : ∀ z : Int, x ≠ .int .u8 z) (hy : ∀ z : Int, y ≠ .int .u8 z) {a : Option Addr} {xs : List Nat} (h : Seen w N .u8 a xs) (hk : Chg (· = b) w w') : Seen w' N .u8 a xs := fun i z hz => by
  obtain ⟨g, off, e, hgN, hc⟩ := h i z hz
  refine ⟨g, off, e, hgN, ?_⟩
  have hne : g ≠ b := fun e => by
    subst e
    generalize off + i = o at hc
    match o with
    | 0 => rw [(two_cells hb).1] at hc; exact hx _ (Option.some.inj hc)
    | 1 => rw [(two_cells hb).2.1] at hc; exact hy _ (Option.some.inj hc)
    | o + 2 => simp [World.cell?, hb] at hc
  exact (World.cell?_of_block (w := w) (hk.block g (World.block_lt_of_cell? w _ hc) hne)).trans hc
theorem Chg.set2 (w : World) (b : Nat) (x y : Value) : Chg (· = b) w ((w.setCell ⟨b, 0, none⟩ x).setCell ⟨b, 1, none⟩ y) := ((Chg.refl (· = b) w).setCell (p := ⟨b, 0, none⟩) rfl x).setCell (p := ⟨b, 1, none⟩) rfl y

set_option maxRecDepth 100000 in
set_option maxHeartbeats 2000000 in
theorem refPutFixed_any (w : World) (lim : Nat) (a : Option Addr) (n c : Nat) (xs : List Nat) (hxn : xs.length = n) (hnc : n ≤ c) (hcm : c ≤ maxLen) (N : Nat) (hS : Seen w N .u8 a xs) (hN : N ≤ w.heap.size) (x : Nat) (hx : x < 2 ^ 64) (k : Int) (hn : n ≤ 100000000) (zs : List Nat) (er : Int) (hr : wfixed lim xs x k = (zs, er)) (m : Nat) (hm : zs.length = m) :
    Calls Try.prog 41 #[wv lim a n c, .int .u64 x, .int .i64 k] w fun e w' => ∃ a' c', e = .returned (.tuple #[wv lim a' m c', .int .i64 er]) ∧ m ≤ c' ∧ c' ≤ maxLen ∧ Seen w' w'.heap.size .u8 a' zs ∧ ((a' = a ∧ zs = xs) ∨ ∀ g off, a' = some ⟨g, off, none⟩ → w.heap.size ≤ g) ∧ Below w.heap.size w w' := by
  obtain ⟨i0, hi, hz0, hz1, hz2⟩ := info_u8
  obtain ⟨hsz, hB0, hb1, hb2⟩ := ptWorld_all w lim a n c
  unfold wfixed at hr
  by_cases hbad : k < 1 ∨ 8 < k
  · rw [if_pos (by rcases hbad with h | h; exact .inl h; exact .inr (.inl h))] at hr
    obtain ⟨rfl, rfl⟩ : xs = zs ∧ (2 : Int) = er := by cases hr; exact ⟨rfl, rfl⟩
    rw [hxn] at hm
    subst hm
    have hfin : ∀ W', Below w.heap.size w W' → n ≤ c ∧ c ≤ maxLen ∧ Seen W' W'.heap.size .u8 a xs ∧ Below w.heap.size w W' := fun W' hB => ⟨hnc, hcm, ((hS.more hN).below hB).more hB.size, hB⟩
    have HF := Lib.hid hfin
    unfold wv
    clear hr hfin
    by_cases h1 : k < 1
    · clear hbad
      go_enter Try.func41, Try.ntmps41
      go_wp2
      exact bodyPost_ret (v := .tuple #[.agg #[.int .i64 lim, .slice a n c], .int .i64 2]) (by simp [results, Try.results41, go_sem]) rfl (match HF.out _ (((Below.refl _ w).alloc (Nat.le_refl _) _).alloc (by simp) _) with | ⟨q1, q2, q3, q4⟩ => ⟨a, c, rfl, q1, q2, q3, .inl (by simp), q4⟩)
    · have h2 : 8 < k := by omega
      have h3 : 1 ≤ k := by omega
      clear hbad h1
      go_enter Try.func41, Try.ntmps41
      go_wp2
      exact bodyPost_ret (v := .tuple #[.agg #[.int .i64 lim, .slice a n c], .int .i64 2]) (by simp [results, Try.results41, go_sem]) rfl (match HF.out _ (((Below.refl _ w).alloc (Nat.le_refl _) _).alloc (by simp) _) with | ⟨q1, q2, q3, q4⟩ => ⟨a, c, rfl, q1, q2, q3, .inl (by simp), q4⟩)
  · obtain ⟨k, rfl⟩ := Int.eq_ofNat_of_zero_le (a := k) (by omega)
    rw [Int.toNat_natCast] at hr
    have k1 : (1 : Int) ≤ (k : Int) := by omega
    have k8 : (k : Int) ≤ 8 := by omega
    have HX := Lib.hid hxn
    have HR := Lib.hid hr
    have HM := Lib.hid hm
    have HB := Lib.hid hB0
    have HSZ := Lib.hid hsz
    have HBAD := Lib.hid hbad
    obtain ⟨W, hW⟩ : ∃ W, ptWorld w lim a n c = W := ⟨_, rfl⟩
    rw [hW] at hb1 hb2
    have HB0 : Hid (Below w.heap.size w W) := by rw [← hW]; exact hB0
    have HSW : Hid (W.heap.size = w.heap.size + 2) := by rw [← hW]; exact hsz
    have H1 := Lib.hid hb1
    have H2 := Lib.hid hb2
    clear hbad hr hm hxn hB0 hsz hb1 hb2
    unfold ptWorld wwObj at hW
    unfold wv
    go_enter Try.func41, Try.ntmps41
    go_wp2
    clear hW
    go_loopw [1, 8, 9] (fun y b i wr => ∃ j : Nat, j ≤ k ∧ i = .int .i64 j ∧ y = .int .u64 (x / 256 ^ j : Nat) ∧ wr.ownsRow W.heap.size 5 1 b j ((leB j x).map fun x : Nat => Value.int .u8 x) ∧ Below W.heap.size W wr) (fun _ _ i _ => k - (intOf i).toNat)
    case atStart => exact ⟨0, Nat.zero_le _, rfl, by simp, World.ownsRow_nil _ _ _ _, Below.refl _ _⟩
    case round =>
      obtain ⟨j, hj, rfl, rfl, hrow, hB⟩ := hrel
      obtain ⟨va, vc, rfl, Sv, q1, q2, q3⟩ := own_slice hrow
      clear q1 q2 q3
      have hb1' := (hB.block w.heap.size (by rw [HSW.out]; omega)).trans H1.out
      have hb2' := (hB.block (w.heap.size + 1) (by rw [HSW.out]; omega)).trans H2.out
      obtain ⟨d0, d1, f0, f1⟩ := two_cells hb1'
      obtain ⟨e0, e1, g0, g1⟩ := two_cells hb2'
      obtain ⟨v, hv⟩ : ∃ v, x / 256 ^ j = v := ⟨_, rfl⟩
      have hv64 : v < 2 ^ 64 := by rw [← hv]; exact Nat.lt_of_le_of_lt (Nat.div_le_self _ _) hx
      have hHV := Lib.hid hv
      rw [hv]
      clear hv hb1'
      have hBw : Below w.heap.size w wr := HB0.out.trans (hB.mono (by rw [HSW.out]; omega))
      by_cases hlt : j < k
      · have i1 : (j : Int) < (k : Int) := by omega
        have HT : Hid (leB (j + 1) x = leB j x ++ [v % 256]) := by rw [leB_succ, hHV.out]; rfl
        have HV2 : Hid (x / 256 ^ (j + 1) = v / 256) := by rw [Nat.pow_succ, ← Nat.div_div_eq_div_mul, hHV.out]; rfl
        have hbs := hB.size
        obtain ⟨u, hu⟩ : ∃ u, v % 256 = u := ⟨_, rfl⟩
        have huI : (v : Int) % 256 = (u : Int) := by omega
        have huI2 : (u : Int) % 256 = (u : Int) := by omega
        have HU := Lib.hid hu
        clear hb2' hu
        go_wp2_with (at_builtin; refine wpList_append_own _ rfl _ _ 22 rfl W.heap.size 5 i0 (.int .u8 0) 1 1 Try.underlying22 hi hz0 hz1 hz2 rfl (by decide) _ _ _ rfl (hrow.alloc _) ⟨wr.heap.size, 0, none⟩ 1 1 [.int .u8 u] rfl rfl (cell_one_new _ _ _) (by simp [Value.oneCell']) (by unfold maxLen; omega) (by omega) (by simp; omega) ?_; intro v5 w5 hown5 hgrow5 _)
        have hB5 := (hB.alloc hbs (.cells #[.int .u8 (u : Int)] 5)).grown hgrow5 (by simp; omega) (fun q eq => (hrow.lt q eq).1)
        exact ⟨⟨j + 1, by omega, by go_num, by rw [HV2.out, Int.natCast_ediv]; rfl, by rw [HT.out, HU.out, List.map_append]; exact hown5, hB5⟩, by simp [intOf]; omega⟩
      · obtain rfl : j = k := by omega
        by_cases hv0 : v = 0
        · have hr2 : Hid (wput lim xs (leB j x) = (zs, er)) := by
            have h := HR.out
            rw [if_neg (by rw [hHV.out]; have := HBAD.out; omega)] at h
            exact h
          have hv0I : (v : Int) ≤ 0 := by omega
          have HV0 := Lib.hid hv0
          have hS2 := hS.below (hBw.mono hN)
          clear hv0
          go_wp2_with (go_at_call 40; ((with_reducible refine (refPut_any _ lim a n c xs HX.out hnc hcm _ ((hS2.more hN).more hBw.size) (Nat.le_refl _) va j vc (leB j x) (leB_len j x) Sv hn (by omega) zs er hr2.out m HM.out).mono ?_); rintro e w6 ⟨a6, c6, rfl, hc6, hd6, S6, ha6, hB6⟩; have hb2'' := (hB6.block (w.heap.size + 1) (Nat.lt_of_lt_of_le (by rw [HSW.out]; omega) hB.size)).trans hb2'; obtain ⟨u0, u1, t0, t1⟩ := two_cells hb2''; have hb6 := hBw.trans (hB6.mono hBw.size)))
          refine bodyPost_ret (v := .tuple #[.agg #[.int .i64 lim, .slice a6 m c6], .int .i64 er]) (by simp [results, Try.results41, go_sem, u0, u1]) rfl ⟨a6, c6, rfl, hc6, hd6, ?_, ?_, ?_⟩
          · exact (Seen.past2 hb2'' (by intro z h; cases h) (by intro z h; cases h) S6 (Chg.set2 _ _ _ _)).more (Chg.set2 _ _ _ _).size
          · rcases ha6 with h | h
            · exact .inl h
            · exact .inr fun g off e => Nat.le_trans hBw.size (h g off e)
          · exact (hb6.setCell (p := ⟨w.heap.size + 1, 0, none⟩) (by simp) _).setCell (p := ⟨w.heap.size + 1, 1, none⟩) (by simp) _
        · have hr2 : xs = zs ∧ (2 : Int) = er := by
            have h := HR.out
            rw [if_pos (.inr (.inr (by rw [hHV.out]; exact hv0)))] at h
            cases h; exact ⟨rfl, rfl⟩
          obtain ⟨rfl, rfl⟩ := hr2
          have hmn : n = m := by rw [← HX.out, HM.out]
          subst hmn
          have hv0I : (0 : Int) < (v : Int) := by omega
          have hS9 := hS.below (hBw.mono hN)
          clear hv0
          go_wp2
          refine bodyPost_ret (v := .tuple #[.agg #[.int .i64 lim, .slice a n c], .int .i64 2]) (by simp [results, Try.results41, go_sem, e0, e1]) rfl ⟨a, c, rfl, hnc, hcm, ?_, .inl (by simp), ?_⟩
          · exact (Seen.past2 hb2' (by intro z h; cases h) (by intro z h; cases h) hS9 (Chg.set2 _ _ _ _)).more (Nat.le_trans hN (Nat.le_trans hBw.size (Chg.set2 _ _ _ _).size))
          · exact (hBw.setCell (p := ⟨w.heap.size + 1, 0, none⟩) (by simp) _).setCell (p := ⟨w.heap.size + 1, 1, none⟩) (by simp) _

end Go.Proofs.Ytdemlifjhlpclaa
