/-
  likely: numbers in front that are none.
-/
import Derived.Test.YtainjicbmjfnkaaDoorLikely
namespace Go.Proofs.YtainjicbmjfnkaaDoor
open Go.RowKit
set_option linter.unusedVariables false
theorem SeenS.take {w : World} {B : Nat} {a : Option Addr} {ws : List (List UInt8)} (h : SeenS w B a ws) (n : Nat) : SeenS w B a (ws.take n) := fun i x hx => h i x (by
  rw [List.getElem?_take] at hx
  split at hx
  · exact hx
  · cases hx)
theorem numbers_no (a : Option Addr) (n c : Nat) (ws : List (List UInt8)) (hn : ws.length = n) (hn9 : n ≤ 9) (hW : ∀ x ∈ ws, x.length ≤ 1000000) (us : List Nat) (kf : Nat) (hus : us.length = kf) (hkf : kf < n)
    (hyes : ∀ (j : Nat) (x : List UInt8) (u : Nat), ws[j]? = some x → us[j]? = some u → Ev.num x = some u) (hno : ∀ x, ws[kf]? = some x → Ev.num x = none) (w : World) (hE : Er w) (hS : SeenS w w.heap.size a ws) :
    Calls Tryd.prog 62 #[.slice a n c] w fun e w' => e = .returned (.tuple #[.slice none 0 0, .bool false]) ∧ Below w.heap.size w w' := by
  refine (numbers_any a n c ws hn hn9 hW us kf hus (Nat.le_of_lt hkf) hyes hno w hE hS).mono ?_
  rintro e w' ⟨⟨h, _⟩ | ⟨_, rfl⟩, hb⟩
  · exact absurd h (Nat.ne_of_lt hkf)
  · exact ⟨rfl, hb⟩
theorem numbers_yes (a : Option Addr) (n c : Nat) (ws : List (List UInt8)) (hn : ws.length = n) (hn9 : n ≤ 9) (hW : ∀ x ∈ ws, x.length ≤ 1000000) (us : List Nat) (hus : us.length = n)
    (hyes : ∀ (j : Nat) (x : List UInt8) (u : Nat), ws[j]? = some x → us[j]? = some u → Ev.num x = some u) (w : World) (hE : Er w) (hS : SeenS w w.heap.size a ws) :
    Calls Tryd.prog 62 #[.slice a n c] w fun e w' => ∃ a' c', e = .returned (.tuple #[.slice a' n c', .bool true]) ∧ w'.ownsRow w.heap.size 22 1 (.slice a' n c') n (us.map fun x : Nat => Value.int .u64 x) ∧ Below w.heap.size w w' := by
  refine (numbers_any a n c ws hn hn9 hW us n hus (Nat.le_refl _) hyes (fun x hx => by rw [List.getElem?_eq_none (by omega)] at hx; cases hx) w hE hS).mono ?_
  rintro e w' ⟨⟨_, a', c', rfl, ho⟩ | ⟨h, _⟩, hb⟩
  · exact ⟨a', c', rfl, ho, hb⟩
  · exact absurd rfl h
set_option maxRecDepth 100000 in
set_option maxHeartbeats 1000000 in
theorem likely_begin (s : List UInt8) (hs : s.length ≤ 1000000) (L : Nat) (hL : (Ev.wordsOf s).length = L) (h3 : 3 < L) (x : List UInt8) (hx : (Ev.wordsOf s)[3]? = some x) (kd : Nat) (hf : Ev.FindOut (Ev.str x) kd true) (us : List Nat) (kf : Nat) (hus : us.length = kf) (hkf : kf < 3) (hyes : ∀ (j : Nat) (y : List UInt8) (u : Nat), ((Ev.wordsOf s).take 3)[j]? = some y → us[j]? = some u → Ev.num y = some u) (hno : ∀ y, ((Ev.wordsOf s).take 3)[kf]? = some y → Ev.num y = none) (w : World) (hM : Ml w) (hE : Ev.HE w) (hR : Er w) : Calls Tryd.prog 42 #[.string (Ev.str s)] w fun e w' => e = .returned (.tuple #[zeroE, .bool false]) ∧ Below w.heap.size w w' := by
  have HL := Lib.hid hL
  have hL' := hL
  have HS := Lib.hid hs
  have HB1 : Hid (Below w.heap.size w (w.alloc (.cells #[.int .i64 0, .int .i64 0, .int .u8 0, .int .u8 0, .int .i64 0, .int .i64 0, .int .i64 0, .int .i64 0, .int .i64 0, .int .u64 0, .int .i64 0] 24))) := (Below.refl _ w).alloc (Nat.le_refl _) _
  have HXB := Lib.hid (EBox.new w 0 0 0 0 0 0 0 0 0 0 0)
  have HM := Lib.hid (hM.below HB1.out)
  have HE := Lib.hid (hE.below HB1.out)
  have HX := Lib.hid hx
  have HF := Lib.hid hf
  have HR := Lib.hid (hR.below HB1.out)
  have HT3 : Hid (((Ev.wordsOf s).take 3).length = 3) := by show _ = _; rw [List.length_take, hL']; omega
  have HTL : Hid (∀ y ∈ (Ev.wordsOf s).take 3, y.length ≤ 1000000) := fun y hy => Nat.le_trans ((Ev.splitK_le [32] _ s).2.2 y (List.mem_of_mem_take hy)) hs
  have HYE := Lib.hid hyes
  have HNO := Lib.hid hno
  have HKF := Lib.hid hkf
  have HUS := Lib.hid hus
  have h3i : (3 : Int) < (L : Int) := by omega
  clear hL hs hM hE hx hf hL' hyes hno hkf hus hR
  go_enter Tryd.func42, Tryd.ntmps42
  go_wp2_with (first
    | (go_at_call 61; ((with_reducible refine (split_any s HS.out L HL.out _ HM.out).mono ?_); rintro e w2 ⟨c, rfl, hc, hw, hb⟩; simp only [World.size_alloc] at hw; have HSW := Lib.hid (hw.take 3); have HR2 := Lib.hid (HR.out.below hb); obtain ⟨b, off, hbo, hlt, hcx⟩ := hw 3 x HX.out; have hcL : (L : Int) ≤ (c : Int) := (Int.ofNat_le.2 hc); cases hbo; simp only [Nat.zero_add] at hcx; have HB := Lib.hid (HB1.out.trans (hb.mono HB1.out.size)); have HY2 := Lib.hid (HXB.out.keep hb); have HE2 := Lib.hid (HE.out.below hb); clear hb hw hlt))
    | (go_at_call 24; ((with_reducible refine (find_any (Ev.str x) kd true HF.out _ HE2.out).mono ?_); rintro e w3 ⟨rfl, rfl⟩))
    | (go_at_call 62; ((with_reducible refine (numbers_no _ 3 _ _ HT3.out (by decide) HTL.out us kf HUS.out HKF.out HYE.out HNO.out _ HR2.out HSW.out).mono ?_); rintro e w4 ⟨rfl, hb⟩; have HB4 := Lib.hid (HB.out.trans (hb.mono HB.out.size)); have HY4 := Lib.hid (HY2.out.keep hb); obtain ⟨z0, z1, z2, z3, z4, z5, z6, z7, z8, z9, z10⟩ := HY4.out.cells; have f0 := HY4.out.free 0; have f1 := HY4.out.free 1; have f2 := HY4.out.free 2; have f3 := HY4.out.free 3; have f4 := HY4.out.free 4; have f5 := HY4.out.free 5; have f6 := HY4.out.free 6; have f7 := HY4.out.free 7; have f8 := HY4.out.free 8; have f9 := HY4.out.free 9; have f10 := HY4.out.free 10; clear hb)))
  have hg := EBox.setAll HY4.out 0 0 0 0 0 0 0 0 0 0 0
  have hbz := below_setAll HB4.out (Nat.le_refl _) 0 0 0 0 0 0 0 0 0 0 0
  generalize (((((((((((w4.setCell ⟨w.heap.size, 0, none⟩ (.int .i64 0)).setCell ⟨w.heap.size, 1, none⟩ (.int .i64 0)).setCell ⟨w.heap.size, 2, none⟩ (.int .u8 0)).setCell ⟨w.heap.size, 3, none⟩ (.int .u8 0)).setCell ⟨w.heap.size, 4, none⟩ (.int .i64 0)).setCell ⟨w.heap.size, 5, none⟩ (.int .i64 0)).setCell ⟨w.heap.size, 6, none⟩ (.int .i64 0)).setCell ⟨w.heap.size, 7, none⟩ (.int .i64 0)).setCell ⟨w.heap.size, 8, none⟩ (.int .i64 0)).setCell ⟨w.heap.size, 9, none⟩ (.int .u64 0)).setCell ⟨w.heap.size, 10, none⟩ (.int .i64 0)) = Wz at hg hbz ⊢
  obtain ⟨g0, g1, g2, g3, g4, g5, g6, g7, g8, g9, g10⟩ := hg.cells
  refine bodyPost_ret (v := .tuple #[zeroE, .bool false]) ?_ rfl ⟨rfl, hbz⟩
  simp [results, Tryd.results42, go_sem, zeroE, g0, g1, g2, g3, g4, g5, g6, g7, g8, g9, g10]
end Go.Proofs.YtainjicbmjfnkaaDoor
