/-
  likely: values that are none.
-/
import Derived.Test.YtainjicbmjfnkaaDoorLikB
namespace Go.Proofs.YtainjicbmjfnkaaDoor
open Go.RowKit
set_option linter.unusedVariables false
theorem SeenS.drop {w : World} {B : Nat} {b off : Nat} {ws : List (List UInt8)} (h : SeenS w B (some ⟨b, off, none⟩) ws) (n : Nat) : SeenS w B (some ⟨b, off + n, none⟩) (ws.drop n) := fun i x hx => by
  obtain ⟨b', off', e, hlt, hc⟩ := h (n + i) x (by rw [List.getElem?_drop] at hx; exact hx)
  cases e
  exact ⟨b, off + n, rfl, hlt, by rw [Nat.add_assoc]; exact hc⟩
theorem SeenS.wide {w : World} {B B' : Nat} {a : Option Addr} {ws : List (List UInt8)} (h : SeenS w B a ws) (hB : B ≤ B') : SeenS w B' a ws := fun i x hx => by
  obtain ⟨b, off, e, hlt, hc⟩ := h i x hx
  exact ⟨b, off, e, Nat.lt_of_lt_of_le hlt hB, hc⟩
set_option maxRecDepth 100000 in
set_option maxHeartbeats 1000000 in
theorem likely_values (s : List UInt8) (hs : s.length ≤ 1000000) (L : Nat) (hL : (Ev.wordsOf s).length = L) (h3 : 3 < L) (x : List UInt8) (hx : (Ev.wordsOf s)[3]? = some x) (kd : Nat) (hf : Ev.FindOut (Ev.str x) kd true) (bs : List Nat) (hbs : bs.length = 3) (hbn : ∀ (j : Nat) (y : List UInt8) (u : Nat), ((Ev.wordsOf s).take 3)[j]? = some y → bs[j]? = some u → Ev.num y = some u) (m : Nat) (hm : L = m + 4) (us : List Nat) (kf : Nat) (hus : us.length = kf) (hkf : kf < m) (hyes : ∀ (j : Nat) (y : List UInt8) (u : Nat), ((Ev.wordsOf s).drop 4)[j]? = some y → us[j]? = some u → Ev.num y = some u) (hno : ∀ y, ((Ev.wordsOf s).drop 4)[kf]? = some y → Ev.num y = none) (w : World) (hM : Ml w) (hE : Ev.HE w) (hR : Er w) : Calls Tryd.prog 42 #[.string (Ev.str s)] w fun e w' => e = .returned (.tuple #[zeroE, .bool false]) ∧ Below w.heap.size w w' := by
  have HL := Lib.hid hL
  have hL' := hL
  have HS := Lib.hid hs
  have HB1 : Hid (Below w.heap.size w (w.alloc (.cells #[.int .i64 0, .int .i64 0, .int .u8 0, .int .u8 0, .int .i64 0, .int .i64 0, .int .i64 0, .int .i64 0, .int .i64 0, .int .u64 0, .int .i64 0] 24))) := (Below.refl _ w).alloc (Nat.le_refl _) _
  have HXB := Lib.hid (EBox.new w 0 0 0 0 0 0 0 0 0 0 0)
  have HM := Lib.hid (hM.below HB1.out)
  have HE := Lib.hid (hE.below HB1.out)
  have HX := Lib.hid hx
  have HF := Lib.hid hf
  have HR := Lib.hid (hR.below HB1.out)
  have HT3 : Hid (((Ev.wordsOf s).take 3).length = 3) := by show _ = _; rw [List.length_take, hL']; omega
  have HTL : Hid (∀ y ∈ (Ev.wordsOf s).take 3, y.length ≤ 1000000) := fun y hy => Nat.le_trans ((Ev.splitK_le [32] _ s).2.2 y (List.mem_of_mem_take hy)) hs
  have hL9 : L ≤ 9 := by rw [← hL']; have h1 := (Ev.splitK_le [32] (min 9 (s.length + 1) - 1) s).1; have h2 : (Ev.wordsOf s).length ≤ min 9 (s.length + 1) - 1 + 1 := h1; omega
  have HM9 : Hid (m ≤ 9) := by show _ ≤ _; omega
  have HT4 : Hid (((Ev.wordsOf s).drop 4).length = m) := by show _ = _; rw [List.length_drop, hL']; omega
  have HTD : Hid (∀ y ∈ (Ev.wordsOf s).drop 4, y.length ≤ 1000000) := fun y hy => Nat.le_trans ((Ev.splitK_le [32] _ s).2.2 y (List.mem_of_mem_drop hy)) hs
  have HBS := Lib.hid hbs
  have HBN := Lib.hid hbn
  have hm4 : (4 : Int) ≤ (L : Int) := by omega
  have hm4n : 4 ≤ L := by omega
  have hmm : (L : Int) - 4 = (m : Int) := by omega
  have HL5 : Hid (5 ≤ L) := by show _ ≤ _; omega
  have hmn : L - 4 = m := by omega
  have HYE := Lib.hid hyes
  have HNO := Lib.hid hno
  have HKF := Lib.hid hkf
  have HUS := Lib.hid hus
  have h3i : (3 : Int) < (L : Int) := by omega
  clear hL hs hM hE hx hf hL' hyes hno hkf hus hR hbs hbn hL9 hm
  go_enter Tryd.func42, Tryd.ntmps42
  go_wp2_with (first
    | (go_at_call 61; ((with_reducible refine (split_any s HS.out L HL.out _ HM.out).mono ?_); rintro e w2 ⟨c, rfl, hc, hw, hb⟩; simp only [World.size_alloc] at hw; have HSW := Lib.hid (hw.take 3); have HC := Lib.hid (Nat.le_trans HL5.out hc); have HSD := Lib.hid (hw.drop 4); have HR2 := Lib.hid (HR.out.below hb); obtain ⟨b, off, hbo, hlt, hcx⟩ := hw 3 x HX.out; have hcL : (L : Int) ≤ (c : Int) := (Int.ofNat_le.2 hc); cases hbo; simp only [Nat.zero_add] at hcx; have HB := Lib.hid (HB1.out.trans (hb.mono HB1.out.size)); have HY2 := Lib.hid (HXB.out.keep hb); have HE2 := Lib.hid (HE.out.below hb); clear hb hw hlt))
    | (go_at_call 24; ((with_reducible refine (find_any (Ev.str x) kd true HF.out _ HE2.out).mono ?_); rintro e w3 ⟨rfl, rfl⟩))
    | (go_at_call 62; ((with_reducible refine (numbers_yes _ 3 _ _ HT3.out (by decide) HTL.out bs HBS.out HBN.out _ HR2.out HSW.out).mono ?_); rintro e w4 ⟨ba, bc, rfl, hbo, hb⟩; have HB4 := Lib.hid (HB.out.trans (hb.mono HB.out.size)); have HY4 := Lib.hid (HY2.out.keep hb); have HSD4 := Lib.hid ((HSD.out.below hb).wide hb.size); have HR4 := Lib.hid (HR2.out.below hb); clear hbo hb))
    | (go_at_call 62; ((with_reducible refine (numbers_no _ m _ _ HT4.out HM9.out HTD.out us kf HUS.out HKF.out HYE.out HNO.out _ HR4.out HSD4.out).mono ?_); rintro e w5 ⟨rfl, hb⟩; have HB5 := Lib.hid (HB4.out.trans (hb.mono HB4.out.size)); have HY5 := Lib.hid (HY4.out.keep hb); obtain ⟨z0, z1, z2, z3, z4, z5, z6, z7, z8, z9, z10⟩ := HY5.out.cells; have f0 := HY5.out.free 0; have f1 := HY5.out.free 1; have f2 := HY5.out.free 2; have f3 := HY5.out.free 3; have f4 := HY5.out.free 4; have f5 := HY5.out.free 5; have f6 := HY5.out.free 6; have f7 := HY5.out.free 7; have f8 := HY5.out.free 8; have f9 := HY5.out.free 9; have f10 := HY5.out.free 10; clear hb)))
  case inl => have h5 := HC.out; omega
  have hg := EBox.setAll HY5.out 0 0 0 0 0 0 0 0 0 0 0
  have hbz := below_setAll HB5.out (Nat.le_refl _) 0 0 0 0 0 0 0 0 0 0 0
  generalize (((((((((((w5.setCell ⟨w.heap.size, 0, none⟩ (.int .i64 0)).setCell ⟨w.heap.size, 1, none⟩ (.int .i64 0)).setCell ⟨w.heap.size, 2, none⟩ (.int .u8 0)).setCell ⟨w.heap.size, 3, none⟩ (.int .u8 0)).setCell ⟨w.heap.size, 4, none⟩ (.int .i64 0)).setCell ⟨w.heap.size, 5, none⟩ (.int .i64 0)).setCell ⟨w.heap.size, 6, none⟩ (.int .i64 0)).setCell ⟨w.heap.size, 7, none⟩ (.int .i64 0)).setCell ⟨w.heap.size, 8, none⟩ (.int .i64 0)).setCell ⟨w.heap.size, 9, none⟩ (.int .u64 0)).setCell ⟨w.heap.size, 10, none⟩ (.int .i64 0)) = Wz at hg hbz ⊢
  obtain ⟨g0, g1, g2, g3, g4, g5, g6, g7, g8, g9, g10⟩ := hg.cells
  refine bodyPost_ret (v := .tuple #[zeroE, .bool false]) ?_ rfl ⟨rfl, hbz⟩
  simp [results, Tryd.results42, go_sem, zeroE, g0, g1, g2, g3, g4, g5, g6, g7, g8, g9, g10]
end Go.Proofs.YtainjicbmjfnkaaDoor
