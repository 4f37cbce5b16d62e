/-
  With: the event that is made.
-/
import Derived.Test.YtainjicbmjfnkaaDoorWith
import Derived.Laws.Cover1
import Derived.Deep.CutBlock
namespace Go.Proofs.YtainjicbmjfnkaaDoor
open Go.RowKit
set_option linter.unusedVariables false

namespace Ev
theorem acc_mem (l : List (Nat × Nat)) (j x : Nat) (h : acc l j = some x) : (j, x) ∈ l := by
  have key : ∀ (l : List (Nat × Nat)) (r : Option Nat), l.foldl (fun r p => if p.1 = j then some p.2 else r) r = some x → (j, x) ∈ l ∨ r = some x := by
    intro l
    induction l with
    | nil => intro r h; exact .inr h
    | cons p l ih =>
      intro r h
      rw [List.foldl_cons] at h
      rcases ih _ h with h1 | h1
      · exact .inl (List.mem_cons_of_mem _ h1)
      · by_cases hp : p.1 = j
        · rw [if_pos hp] at h1
          injection h1 with h1
          left
          rw [← hp, ← h1]
          exact List.mem_cons_self
        · rw [if_neg hp] at h1; exact .inr h1
  rcases key l none h with h | h
  · exact h
  · cases h
theorem getn_lt (fs vs : List Nat) (hv : ∀ x ∈ vs, x < 2 ^ 64) (j : Nat) : getn (fs.zip vs) j < 2 ^ 64 := by
  unfold getn
  split
  · rename_i x hx
    exact hv x (List.of_mem_zip (acc_mem _ _ _ hx)).2
  · decide
end Ev
set_option maxRecDepth 100000 in
set_option maxHeartbeats 4000000 in
theorem with_made (sq tm : Int) (cp kd : Nat) (tk gr to_ wg tc : Int) (mk : Nat) (gt : Int) (hcp : cp < 256) (hkd : kd < 256) (hk1 : 1 ≤ kd) (hk2 : kd ≤ 10) (a : Option Addr) (m c : Nat) (vs : List Nat) (hv : ∀ x ∈ vs, x < 2 ^ 64) (hm : vs.length = m) (hmf : m = (Ev.kfs kd).length) (l : List (Nat × Nat)) (hl : (Ev.kfs kd).zip vs = l) (r : Bool) (hr : Ev.within sq tm cp kd (Ev.geti l 0) (Ev.geti l 1) (Ev.geti l 2) (Ev.geti l 3) (Ev.geti l 4) (Ev.getn l 5) (Ev.geti l 6) = r) (w : World) (hS : Seen w w.heap.size .u64 a vs) (hE : Ev.HE w) : Calls Tryd.prog 19 #[.agg #[.int .i64 sq, .int .i64 tm, .int .u8 cp, .int .u8 kd, .int .i64 tk, .int .i64 gr, .int .i64 to_, .int .i64 wg, .int .i64 tc, .int .u64 mk, .int .i64 gt], .slice a m c] w fun e w' => e = (if r = true then .returned (.tuple #[.agg #[.int .i64 sq, .int .i64 tm, .int .u8 cp, .int .u8 kd, .int .i64 (Ev.geti l 0), .int .i64 (Ev.geti l 1), .int .i64 (Ev.geti l 2), .int .i64 (Ev.geti l 3), .int .i64 (Ev.geti l 4), .int .u64 ((Ev.getn l 5 : Nat) : Int), .int .i64 (Ev.geti l 6)], .int .i64 0]) else .returned (.tuple #[.agg #[.int .i64 0, .int .i64 0, .int .u8 0, .int .u8 0, .int .i64 0, .int .i64 0, .int .i64 0, .int .i64 0, .int .i64 0, .int .u64 0, .int .i64 0], .int .i64 61])) ∧ Below w.heap.size w w' := by
  have HX := Lib.hid (EBox.new w sq tm cp kd tk gr to_ wg tc mk gt)
  have HXB := Lib.hid (HX.out.alloc (.cells #[.int .i64 0, .int .i64 0, .int .u8 0, .int .u8 0, .int .i64 0, .int .i64 0, .int .i64 0, .int .i64 0, .int .i64 0, .int .u64 0, .int .i64 0] 24))
  have HB1 := Lib.hid (((Below.refl w.heap.size w).alloc (Nat.le_refl _) (.cells #[.int .i64 sq, .int .i64 tm, .int .u8 cp, .int .u8 kd, .int .i64 tk, .int .i64 gr, .int .i64 to_, .int .i64 wg, .int .i64 tc, .int .u64 mk, .int .i64 gt] 24)).alloc (by simp) (.cells #[.int .i64 0, .int .i64 0, .int .u8 0, .int .u8 0, .int .i64 0, .int .i64 0, .int .i64 0, .int .i64 0, .int .i64 0, .int .u64 0, .int .i64 0] 24))
  have hz : (w.alloc (.cells #[.int .i64 sq, .int .i64 tm, .int .u8 cp, .int .u8 kd, .int .i64 tk, .int .i64 gr, .int .i64 to_, .int .i64 wg, .int .i64 tc, .int .u64 mk, .int .i64 gt] 24)).heap.size = w.heap.size + 1 := by simp
  have HY := EBox.new (w.alloc (.cells #[.int .i64 sq, .int .i64 tm, .int .u8 cp, .int .u8 kd, .int .i64 tk, .int .i64 gr, .int .i64 to_, .int .i64 wg, .int .i64 tc, .int .u64 mk, .int .i64 gt] 24)) 0 0 0 0 0 0 0 0 0 0 0
  rw [hz] at HY
  have HY1 := Lib.hid HY
  clear hz HY
  have HR : Hid (decide (1 ≤ kd ∧ kd ≤ 10) = true) := by show _ = _; rw [decide_eq_true_eq]; exact ⟨hk1, hk2⟩
  have HKD := Lib.hid hkd
  have HCP := Lib.hid hcp
  have HK1 := Lib.hid hk1
  have HK2 := Lib.hid hk2
  have HE0 := Lib.hid hE
  have HSV := Lib.hid hS
  have HVV := Lib.hid hv
  have HIN := Lib.hid hr
  have HGN : Hid (Ev.getn l 5 < 2 ^ 64) := by rw [← hl]; exact Ev.getn_lt _ vs hv 5
  obtain ⟨fs, hfs⟩ : ∃ fs, Ev.kfs kd = fs := ⟨_, rfl⟩
  have HFS0 := Lib.hid hfs
  rw [hfs] at hl hmf
  have HLZ := Lib.hid hl
  have HFL : Hid (∀ f ∈ fs, f < 7) := by rw [← hfs]; exact Ev.kfs_lt ⟨kd, by omega⟩
  have hn4 : (m : Int) ≤ 4 := by have h := Ev.kfs_len ⟨kd, by omega⟩; simp only [hfs] at h; omega
  have hkdi : (kd : Int) < 11 := by omega
  have HN : Hid (fs.length = m) := hmf.symm
  have HM := Lib.hid hm
  obtain ⟨_, fa1, fc1, hf1, hf2, hf3, hf4⟩ := (hE.below HB1.out).kind hk1 hk2
  rw [hfs, HN.out] at hf1
  have c1 : ((w.alloc (.cells #[.int .i64 sq, .int .i64 tm, .int .u8 cp, .int .u8 kd, .int .i64 tk, .int .i64 gr, .int .i64 to_, .int .i64 wg, .int .i64 tc, .int .u64 mk, .int .i64 gt] 24)).alloc (.cells #[.int .i64 0, .int .i64 0, .int .u8 0, .int .u8 0, .int .i64 0, .int .i64 0, .int .i64 0, .int .i64 0, .int .i64 0, .int .u64 0, .int .i64 0] 24)).cell? ⟨0, kd * 2 + 1, none⟩ = some (.slice fa1 m fc1) := by rw [Nat.mul_comm]; exact hf1
  clear hf1 hf2 hf3 hf4 hcp hkd hk1 hk2 hE hS hv hr hl hmf hm hfs
  obtain ⟨x0, x1, x2, x3, x4, x5, x6, x7, x8, x9, x10⟩ := HXB.out.cells
  go_enter Tryd.func19, Tryd.ntmps19
  go_upto_region 6 with (first
    | (go_at_call 43; ((with_reducible refine (known_any kd HKD.out true HR.out _).mono ?_); rintro e w' ⟨rfl, rfl⟩))
    | (go_at_call 47; ((with_reducible refine (start_any sq tm cp kd tk gr to_ wg tc mk gt _).mono ?_); rintro e w2 ⟨rfl, hb⟩; have HB2 := Lib.hid (HB1.out.trans (hb.mono HB1.out.size)); have HX2 := Lib.hid (HXB.out.keep hb); have HY2 := Lib.hid (HY1.out.keep hb); clear hb)))
  have HO := Lib.hid (EBox.new w2 sq tm cp kd 0 0 0 0 0 0 0)
  have HX3 := Lib.hid (HX2.out.alloc (.cells #[.int .i64 sq, .int .i64 tm, .int .u8 cp, .int .u8 kd, .int .i64 0, .int .i64 0, .int .i64 0, .int .i64 0, .int .i64 0, .int .u64 0, .int .i64 0] 24))
  have HY3 := Lib.hid (HY2.out.alloc (.cells #[.int .i64 sq, .int .i64 tm, .int .u8 cp, .int .u8 kd, .int .i64 0, .int .i64 0, .int .i64 0, .int .i64 0, .int .i64 0, .int .u64 0, .int .i64 0] 24))
  have HB3 := Lib.hid (HB2.out.alloc HB2.out.size (.cells #[.int .i64 sq, .int .i64 tm, .int .u8 cp, .int .u8 kd, .int .i64 0, .int .i64 0, .int .i64 0, .int .i64 0, .int .i64 0, .int .u64 0, .int .i64 0] 24))
  have HZ : Hid (Below w2.heap.size w2 (w2.alloc (.cells #[.int .i64 sq, .int .i64 tm, .int .u8 cp, .int .u8 kd, .int .i64 0, .int .i64 0, .int .i64 0, .int .i64 0, .int .i64 0, .int .u64 0, .int .i64 0] 24))) := (Below.refl _ w2).alloc (Nat.le_refl _) _
  have HE2 := Lib.hid (HE0.out.below HB2.out)
  have HYL : Hid (w.heap.size + 1 < w2.heap.size) := HY2.out.lt
  obtain ⟨_, fa, fc, hf1, hf2, hf3, hf4⟩ := HE2.out.kind HK1.out HK2.out
  rw [HFS0.out] at hf1 hf2
  rw [HN.out] at hf1
  have HFS : Hid (Seen w2 w2.heap.size .u8 fa fs) := hf2
  have d1 : (w2.alloc (.cells #[.int .i64 sq, .int .i64 tm, .int .u8 cp, .int .u8 kd, .int .i64 0, .int .i64 0, .int .i64 0, .int .i64 0, .int .i64 0, .int .u64 0, .int .i64 0] 24)).cell? ⟨0, kd * 2 + 1, none⟩ = some (.slice fa m fc) := by rw [Nat.mul_comm]; exact (HZ.out.cell (p := ⟨0, 2 * kd + 1, none⟩) (Nat.lt_of_succ_lt HE2.out.1)).trans hf1
  obtain ⟨y0, y1, y2, y3, y4, y5, y6, y7, y8, y9, y10⟩ := HX3.out.cells
  clear hf1 hf2 hf3 hf4 c1 x0 x1 x2 x3 x4 x5 x6 x7 x8 x9 x10
  generalize w2.alloc (.cells #[.int .i64 sq, .int .i64 tm, .int .u8 cp, .int .u8 kd, .int .i64 0, .int .i64 0, .int .i64 0, .int .i64 0, .int .i64 0, .int .u64 0, .int .i64 0] 24) = W at HO HX3 HY3 HB3 HZ d1 y0 y1 y2 y3 y4 y5 y6 y7 y8 y9 y10 ⊢
  obtain ⟨bo, hbo⟩ : ∃ bo, w2.heap.size = bo := ⟨_, rfl⟩
  have HBO := Lib.hid hbo
  rw [hbo] at HO HYL ⊢
  clear hbo
  have HO0 : Hid (EBox W bo sq tm cp kd (Ev.geti (l.take 0) 0) (Ev.geti (l.take 0) 1) (Ev.geti (l.take 0) 2) (Ev.geti (l.take 0) 3) (Ev.geti (l.take 0) 4) (Ev.getn (l.take 0) 5) (Ev.geti (l.take 0) 6)) := HO.out
  go_wp2
  go_loopw [34] (fun iv wr => ∃ k : Nat, k ≤ m ∧ iv = .int .i64 k ∧ Hid (EBox wr bo sq tm cp kd (Ev.geti (l.take k) 0) (Ev.geti (l.take k) 1) (Ev.geti (l.take k) 2) (Ev.geti (l.take k) 3) (Ev.geti (l.take k) 4) (Ev.getn (l.take k) 5) (Ev.geti (l.take k) 6)) ∧ Hid (Below w2.heap.size w2 wr)) (fun i _ => m - (intOf i).toNat)
  case atStart => exact ⟨0, Nat.zero_le _, rfl, HO0, HZ⟩
  case round =>
    obtain ⟨k, hk, rfl, HOW, HBK⟩ := hrel
    clear y0 y1 y2 y3 y4 y5 y6 y7 y8 y9 y10 d1
    have HWR := Lib.hid (HB2.out.trans (HBK.out.mono HB2.out.size))
    have HYR := Lib.hid (HY2.out.keep HBK.out)
    by_cases hkm : k < m
    · obtain ⟨f, hf⟩ : ∃ f, fs[k]? = some f := ⟨_, List.getElem?_eq_getElem (by rw [HN.out]; exact hkm)⟩
      obtain ⟨x, hx⟩ : ∃ x, vs[k]? = some x := ⟨_, List.getElem?_eq_getElem (by rw [HM.out]; exact hkm)⟩
      have HF7 : Hid (f < 7) := HFL.out f (List.mem_of_getElem? hf)
      obtain ⟨bf, of_, rfl, hbf, hcf⟩ := (HFS.out.below HBK.out) k f hf
      obtain ⟨bv, ov, rfl, hbv, hcv⟩ := (HSV.out.below HWR.out) k x hx
      have hki : (k : Int) < (m : Int) := by omega
      have hzip := Ev.zip_snoc hf hx
      rw [HLZ.out] at hzip
      have HST : Hid (∀ W2 : World, EBox W2 bo sq tm cp kd (Ev.geti (l.take k) 0) (Ev.geti (l.take k) 1) (Ev.geti (l.take k) 2) (Ev.geti (l.take k) 3) (Ev.geti (l.take k) 4) (Ev.getn (l.take k) 5) (Ev.geti (l.take k) 6) → EBox (W2.setCell ⟨bo, 4 + f, none⟩ (if f = 5 then .int .u64 x else .int .i64 (wrap64 x))) bo sq tm cp kd (Ev.geti (l.take (k + 1)) 0) (Ev.geti (l.take (k + 1)) 1) (Ev.geti (l.take (k + 1)) 2) (Ev.geti (l.take (k + 1)) 3) (Ev.geti (l.take (k + 1)) 4) (Ev.getn (l.take (k + 1)) 5) (Ev.geti (l.take (k + 1)) 6)) := fun W2 h => by
        have h' := h.put f HF7.out (x : Int) (by omega)
        rw [Ev.geti_snoc, Ev.geti_snoc, Ev.geti_snoc, Ev.geti_snoc, Ev.geti_snoc, Ev.getn_snoc, Ev.geti_snoc, ← hzip] at h'
        exact h'
      clear hf hx hbf hbv hk
      go_wp2_with (go_at_call 48; ((with_reducible refine (put_any bo f HF7.out (x : Int) wr _ _ _ _ _ _ _ _ _ _ _ HOW.out).mono ?_); rintro e w5 ⟨⟨v, rfl⟩, rfl⟩))
      exact ⟨⟨k + 1, hkm, rfl, HST.out _ HOW.out, HBK.out.setCell (p := ⟨bo, 4 + f, none⟩) (Nat.le_of_eq HBO.out) _⟩, by simp [intOf]; omega⟩
    · obtain rfl : m = k := by omega
      have HT : Hid (l.take m = l) := by
        show _ = _
        have h : l.length = m := by rw [← HLZ.out, List.length_zip, HN.out, HM.out, Nat.min_self]
        rw [← h, List.take_length]
      have HOW2 := Lib.hid HOW.out
      rw [HT.out] at HOW2
      have HER := Lib.hid (HE0.out.below HWR.out)
      obtain ⟨z0, z1, z2, z3, z4, z5, z6, z7, z8, z9, z10⟩ := HOW2.out.cells
      clear hk hkm
      cases r with
      | true =>
        go_wp2_with (go_at_call 44; ((with_reducible refine (within_any sq tm cp kd (Ev.geti l 0) (Ev.geti l 1) (Ev.geti l 2) (Ev.geti l 3) (Ev.geti l 4) (Ev.getn l 5) (Ev.geti l 6) HCP.out HGN.out HK1.out HK2.out true HIN.out wr HER.out).mono ?_); rintro e w6 ⟨rfl, hb⟩; have HB6 := Lib.hid (HWR.out.trans (hb.mono HWR.out.size)); have HO6 := Lib.hid (HOW2.out.keep hb); have HY6 := Lib.hid (HYR.out.keep hb); obtain ⟨p0, p1, p2, p3, p4, p5, p6, p7, p8, p9, p10⟩ := HO6.out.cells; obtain ⟨o0, o1, o2, o3, o4, o5, o6, o7, o8, o9, o10⟩ := HY6.out.cells; have f0 := HY6.out.free 0; have f1 := HY6.out.free 1; have f2 := HY6.out.free 2; have f3 := HY6.out.free 3; have f4 := HY6.out.free 4; have f5 := HY6.out.free 5; have f6 := HY6.out.free 6; have f7 := HY6.out.free 7; have f8 := HY6.out.free 8; have f9 := HY6.out.free 9; have f10 := HY6.out.free 10; clear hb))
        have hg := EBox.setAll HY6.out sq tm cp kd (Ev.geti l 0) (Ev.geti l 1) (Ev.geti l 2) (Ev.geti l 3) (Ev.geti l 4) (Ev.getn l 5) (Ev.geti l 6)
        have hbz := below_setAll HB6.out (Nat.le_succ _) sq tm cp kd (Ev.geti l 0) (Ev.geti l 1) (Ev.geti l 2) (Ev.geti l 3) (Ev.geti l 4) (Ev.getn l 5) (Ev.geti l 6)
        generalize (((((((((((w6.setCell ⟨w.heap.size + 1, 0, none⟩ (.int .i64 sq)).setCell ⟨w.heap.size + 1, 1, none⟩ (.int .i64 tm)).setCell ⟨w.heap.size + 1, 2, none⟩ (.int .u8 cp)).setCell ⟨w.heap.size + 1, 3, none⟩ (.int .u8 kd)).setCell ⟨w.heap.size + 1, 4, none⟩ (.int .i64 (Ev.geti l 0))).setCell ⟨w.heap.size + 1, 5, none⟩ (.int .i64 (Ev.geti l 1))).setCell ⟨w.heap.size + 1, 6, none⟩ (.int .i64 (Ev.geti l 2))).setCell ⟨w.heap.size + 1, 7, none⟩ (.int .i64 (Ev.geti l 3))).setCell ⟨w.heap.size + 1, 8, none⟩ (.int .i64 (Ev.geti l 4))).setCell ⟨w.heap.size + 1, 9, none⟩ (.int .u64 (Ev.getn l 5))).setCell ⟨w.heap.size + 1, 10, none⟩ (.int .i64 (Ev.geti l 6))) = Wz at hg hbz ⊢
        obtain ⟨g0, g1, g2, g3, g4, g5, g6, g7, g8, g9, g10⟩ := hg.cells
        refine bodyPost_ret (v := .tuple #[.agg #[.int .i64 sq, .int .i64 tm, .int .u8 cp, .int .u8 kd, .int .i64 (Ev.geti l 0), .int .i64 (Ev.geti l 1), .int .i64 (Ev.geti l 2), .int .i64 (Ev.geti l 3), .int .i64 (Ev.geti l 4), .int .u64 ((Ev.getn l 5 : Nat) : Int), .int .i64 (Ev.geti l 6)], .int .i64 0]) ?_ rfl ⟨rfl, hbz⟩
        simp [results, Tryd.results19, go_sem, g0, g1, g2, g3, g4, g5, g6, g7, g8, g9, g10]
      | false =>
        go_wp2_with (go_at_call 44; ((with_reducible refine (within_any sq tm cp kd (Ev.geti l 0) (Ev.geti l 1) (Ev.geti l 2) (Ev.geti l 3) (Ev.geti l 4) (Ev.getn l 5) (Ev.geti l 6) HCP.out HGN.out HK1.out HK2.out false HIN.out wr HER.out).mono ?_); rintro e w6 ⟨rfl, hb⟩; have HB6 := Lib.hid (HWR.out.trans (hb.mono HWR.out.size)); have HO6 := Lib.hid (HOW2.out.keep hb); have HY6 := Lib.hid (HYR.out.keep hb); obtain ⟨p0, p1, p2, p3, p4, p5, p6, p7, p8, p9, p10⟩ := HO6.out.cells; obtain ⟨o0, o1, o2, o3, o4, o5, o6, o7, o8, o9, o10⟩ := HY6.out.cells; have f0 := HY6.out.free 0; have f1 := HY6.out.free 1; have f2 := HY6.out.free 2; have f3 := HY6.out.free 3; have f4 := HY6.out.free 4; have f5 := HY6.out.free 5; have f6 := HY6.out.free 6; have f7 := HY6.out.free 7; have f8 := HY6.out.free 8; have f9 := HY6.out.free 9; have f10 := HY6.out.free 10; clear hb))
        have hg := EBox.setAll HY6.out 0 0 0 0 0 0 0 0 0 0 0
        have hbz := below_setAll HB6.out (Nat.le_succ _) 0 0 0 0 0 0 0 0 0 0 0
        generalize (((((((((((w6.setCell ⟨w.heap.size + 1, 0, none⟩ (.int .i64 0)).setCell ⟨w.heap.size + 1, 1, none⟩ (.int .i64 0)).setCell ⟨w.heap.size + 1, 2, none⟩ (.int .u8 0)).setCell ⟨w.heap.size + 1, 3, none⟩ (.int .u8 0)).setCell ⟨w.heap.size + 1, 4, none⟩ (.int .i64 0)).setCell ⟨w.heap.size + 1, 5, none⟩ (.int .i64 0)).setCell ⟨w.heap.size + 1, 6, none⟩ (.int .i64 0)).setCell ⟨w.heap.size + 1, 7, none⟩ (.int .i64 0)).setCell ⟨w.heap.size + 1, 8, none⟩ (.int .i64 0)).setCell ⟨w.heap.size + 1, 9, none⟩ (.int .u64 0)).setCell ⟨w.heap.size + 1, 10, none⟩ (.int .i64 0)) = Wz at hg hbz ⊢
        obtain ⟨g0, g1, g2, g3, g4, g5, g6, g7, g8, g9, g10⟩ := hg.cells
        refine bodyPost_ret (v := .tuple #[.agg #[.int .i64 0, .int .i64 0, .int .u8 0, .int .u8 0, .int .i64 0, .int .i64 0, .int .i64 0, .int .i64 0, .int .i64 0, .int .u64 0, .int .i64 0], .int .i64 61]) ?_ rfl ⟨rfl, hbz⟩
        simp [results, Tryd.results19, go_sem, g0, g1, g2, g3, g4, g5, g6, g7, g8, g9, g10]
end Go.Proofs.YtainjicbmjfnkaaDoor
