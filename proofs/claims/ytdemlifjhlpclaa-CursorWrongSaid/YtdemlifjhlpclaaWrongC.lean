/-
  The walk of CursorWrong.
-/
import Derived.Test.YtdemlifjhlpclaaCounts
namespace Go.Proofs.Ytdemlifjhlpclaa
open Go.RowKit
set_option linter.unusedVariables false

theorem newWriter_no (w : World) (lim : Int) (hl : lim < 0 ∨ 16777216 < lim) :
    Calls Try.prog 15 #[.int .i64 lim] w fun e w' => e = .returned (.tuple #[.pointer none, .int .i64 2]) ∧ w = w' := newWriter_bad w lim hl
theorem form_zero : Vi.form 0 = [0] := by decide +kernel

set_option maxRecDepth 100000 in
set_option maxHeartbeats 8000000 in
theorem wrong_small (n : Int) (hn1 : -9223372036854775808 ≤ n) (hn2 : n ≤ 9223372036854775807) (a : Option Addr) (m c : Nat) (bs : List Nat) (hbl : bs.length = m) (hbs : ∀ y ∈ bs, y < 256) (hnc : m ≤ c) (hcm : c ≤ maxLen) (hsn : a = none → c = 0) (hm : m ≤ 100) (w : World) (hS : Seen w w.heap.size .u8 a bs) :
    Calls Try.prog 10 #[.slice a m c, .int .i64 n] w fun e w' => e = .returned (.bool true) ∧ Below w.heap.size w w' := by
  unfold maxLen at hcm
  obtain ⟨i0, hi, hz0, hz1, hz2⟩ := info_u8
  have HBL := Lib.hid hbl
  have HBS := Lib.hid hbs
  have hM100 : m ≤ 100 := by omega
  have hMc : m ≤ c := by omega
  have HLM : Hid (bs.length ≤ 1000000000) := by rw [HBL.out]; show _ ≤ _; omega
  have HSN := Lib.hid hsn
  have H00 : Hid ((0 : Int) = ((0 : Nat) : Int)) := rfl
  have HM0 : Hid (([] : List Nat).length + m ≤ m) := by show _ ≤ _; simp
  have HM1 : Hid (m < ([] : List Nat).length + (m + 1)) := by show _ < _; simp
  have HM2 : Hid (m < bs.length + [0].length) := by rw [hbl]; show _ < _; simp
  have HMI : Hid ((m : Int) = ((m : Nat) : Int)) := rfl
  obtain ⟨v1, hv1⟩ : ∃ v1 : Int, (if -1 < n then -1 else n) = v1 := ⟨_, rfl⟩
  have hv1' : v1 < 0 := by rw [← hv1]; split <;> omega
  obtain ⟨v2, hv2⟩ : ∃ v2 : Int, (if n < (m : Int) + 1 then (m : Int) + 1 else n) = v2 := ⟨_, rfl⟩
  have hv2' : (m : Int) < v2 := by rw [← hv2]; split <;> omega
  have hv2m : v2 ≤ 9223372036854775807 := by rw [← hv2]; split <;> omega
  obtain ⟨v3, hv3⟩ : ∃ v3 : Int, (if 0 < n then 0 else n) = v3 := ⟨_, rfl⟩
  have hv3' : v3 ≤ 0 := by rw [← hv3]; split <;> omega
  obtain ⟨v4, hv4⟩ : ∃ v4 : Int, (if n < 9 then 9 else n) = v4 := ⟨_, rfl⟩
  have hv4' : 9 ≤ v4 := by rw [← hv4]; split <;> omega
  obtain ⟨v5, hv5⟩ : ∃ v5 : Int, (if n < 16777217 then 16777217 else n) = v5 := ⟨_, rfl⟩
  have hv5' : 16777217 ≤ v5 := by rw [← hv5]; split <;> omega
  have HR1 : Hid (Cu.rdBytes v1 0 bs = ([], 2, 0)) := by unfold Cu.rdBytes; rw [if_pos hv1']; rfl
  have HR2 : Hid (Cu.rdBytes v2 0 bs = ([], 20, 0)) := by unfold Cu.rdBytes; rw [if_neg (by omega), if_pos (by rw [HBL.out]; omega)]; rfl
  have HR3 : Hid (Cu.rdFixed v3 0 bs = (0, 2, 0)) := by unfold Cu.rdFixed; rw [if_pos (.inl (by omega))]; rfl
  have HR4 : Hid (Cu.rdFixed v4 0 bs = (0, 2, 0)) := by unfold Cu.rdFixed; rw [if_pos (.inr (by omega))]; rfl
  have HR5 : Hid (Cu.rdCount v1 1 0 bs = (0, 2, 0)) := by unfold Cu.rdCount; rw [if_pos (.inl hv1')]; rfl
  have HR6 : Hid (Cu.rdCount 5 v3 0 bs = (0, 2, 0)) := by unfold Cu.rdCount; rw [if_pos (.inr (by omega))]; rfl
  obtain ⟨er, her⟩ : ∃ er, Cu.rdEnd 0 bs = er := ⟨_, rfl⟩
  have hq : (!((er == 22) == decide (0 < m))) = false := by
    rw [← her]; unfold Cu.rdEnd; rw [HBL.out]
    by_cases h0 : 0 = m
    · rw [if_pos h0, ← h0]; rfl
    · rw [if_neg h0]; have : 0 < m := by omega
      simp [this]
  have HE := Lib.hid her
  have HR7 : Hid (Cu.rdBytes (m : Int) 0 bs = (bs, 0, m)) := by
    have := rdBytes_in m 0 bs (by rw [HBL.out]; omega)
    rw [List.drop_zero, Nat.zero_add, List.take_of_length_le (by rw [HBL.out]; omega)] at this
    exact this
  have HR8 : Hid (Cu.rdByte m bs = (0, 20, m)) := by unfold Cu.rdByte; rw [if_neg (by rw [HBL.out]; omega)]; rfl
  have HR9 : Hid (Cu.rdFixed 1 m bs = (0, 20, m)) := by unfold Cu.rdFixed; rw [if_neg (by omega), if_pos (by rw [HBL.out, show (1 : Int).toNat = 1 from rfl]; omega)]; rfl
  have HR10 : Hid (Cu.rdNumber 1 m bs = (0, 10, m)) := by unfold Cu.rdNumber; rw [List.drop_eq_nil_of_le (by rw [HBL.out]; omega)]; rfl
  have HR11 : Hid (Cu.rdBytes 0 m bs = ([], 0, m)) := by
    have := rdBytes_in 0 m bs (by rw [HBL.out]; omega)
    rw [List.take_zero] at this
    exact this
  have HE2 : Hid (Cu.rdEnd m bs = 0) := by unfold Cu.rdEnd; rw [if_pos HBL.out.symm]; rfl
  clear hbl hsn her hbs
  go_enter Try.func10, Try.ntmps10
  go_wp2_with (first
    | (go_at_call 12; ((with_reducible refine (awake_any _).mono ?_); rintro e w1 ⟨rfl, hB1⟩))
    | (go_at_call 19; ((with_reducible refine (newReader_any _ _ m c bs HBL.out HBS.out hMc (by unfold maxLen; omega) HSN.out (by omega) _ (hS.below hB1) hB1.size).mono ?_); rintro e w2 ⟨R, rfl, hRR, hR2, hB2⟩; have hRw : w.heap.size ≤ R := Nat.le_trans hB1.size hRR; have hs2 := Nat.le_trans hB1.size hB2.size; have hb2 := hB1.trans (hB2.mono hB1.size)))
    | (go_at_call 26; ((with_reducible refine (bytes_at _ R 0 _ v1 (by omega) HLM.out [] 2 0 HR1.out 0 rfl hR2).mono ?_); rintro e w3 ⟨a3, c3, rfl, _, _, _, _, hR3, hK3⟩))
    | (go_at_call 26; ((with_reducible refine (bytes_at _ R 0 _ v2 hv2m HLM.out [] 20 0 HR2.out 0 rfl hR3).mono ?_); rintro e w4 ⟨a4, c4, rfl, _, _, _, _, hR4, hK4⟩))
    | (go_at_call 32; ((with_reducible refine (fixed_at _ R 0 _ v3 0 2 0 HR3.out hR4).mono ?_); rintro e w5 ⟨rfl, hR5, hK5⟩))
    | (go_at_call 32; ((with_reducible refine (fixed_at _ R 0 _ v4 0 2 0 HR4.out hR5).mono ?_); rintro e w6 ⟨rfl, hR6, hK6⟩))
    | (go_at_call 25; ((with_reducible refine (count_at _ R 0 _ v1 1 0 2 0 HR5.out (by omega) (by omega) HLM.out hR6).mono ?_); rintro e w7 ⟨rfl, hR7, hK7⟩))
    | (go_at_call 25; ((with_reducible refine (count_at _ R 0 _ 5 v3 0 2 0 HR6.out (by omega) (by omega) HLM.out hR7).mono ?_); rintro e w8 ⟨rfl, hR8, hK8⟩))
    | (go_at_call 21; ((with_reducible refine (at_any _ R 0 _ hR8).mono ?_); rintro e w9 ⟨rfl, rfl⟩))
    | (go_at_call 22; ((with_reducible refine (left_rd _ R 0 _ m HBL.out hR8).mono ?_); rintro e w10 ⟨rfl, q10, rfl⟩; have hR10 : Rdr (w8.drewN q10) R 0 bs := hR8; have hK10 : Chg (· = R) w2 (w8.drewN q10) := (((((hK3.trans hK4).trans hK5).trans hK6).trans hK7).trans hK8).drewN q10))
    | (go_at_call 23; ((with_reducible refine (end_any _ R 0 _ er HE.out hR10).mono ?_); rintro e w11 ⟨rfl, q11, rfl⟩; have hR11 : Rdr (w8.drewN (q10 + q11)) R 0 bs := hR8; have hK11 : Chg (· = R) w2 (w8.drewN (q10 + q11)) := (((((hK3.trans hK4).trans hK5).trans hK6).trans hK7).trans hK8).drewN (q10 + q11)))
    | (go_at_call 26; ((with_reducible refine (bytes_at _ R 0 _ (m : Int) (by omega) HLM.out bs 0 m HR7.out m HBL.out hR11).mono ?_); rintro e w12 ⟨a12, c12, rfl, _, S12, hc12, hd12, hR12, hK12⟩; have hK12' := hK11.trans hK12))
    | (go_at_call 28; ((with_reducible refine (byte_at _ R m _ 0 20 m HR8.out hR12).mono ?_); rintro e w13 ⟨rfl, hR13, hK13⟩))
    | (go_at_call 32; ((with_reducible refine (fixed_at _ R m _ 1 0 20 m HR9.out hR13).mono ?_); rintro e w14 ⟨rfl, hR14, hK14⟩))
    | (go_at_call 27; ((with_reducible refine (number_lit _ R m _ 1 1 rfl 0 10 m HR10.out hR14).mono ?_); rintro e w15 ⟨rfl, hR15, hK15⟩))
    | (go_at_call 26; ((with_reducible refine (bytes_at _ R m _ 0 (by omega) HLM.out [] 0 m HR11.out 0 rfl hR15).mono ?_); rintro e w16 ⟨a16, c16, rfl, _, _, _, _, hR16, hK16⟩; have hKs := ((hK13.trans hK14).trans hK15).trans hK16; have S16 := hR12.past hKs S12; have hb16 := hb2.trans ((hK12'.trans hKs).below (B := w.heap.size) (by intro q e; omega) hs2)))
    | (go_at_call 33; ((with_reducible refine (same_at _ _ _ _ bs bs m m true HBL.out HBL.out (by simp) _ _ _ S16 (hS.below hb16) (by unfold maxLen; omega) (by unfold maxLen; omega)).mono ?_); rintro e w17 ⟨rfl, hB17⟩; have hR17 := hR16.below hB17; have hb17 := hb16.trans (hB17.mono hb16.size)))
    | (go_at_call 23; ((with_reducible refine (end_any _ R m _ 0 HE2.out hR17).mono ?_); rintro e w18 ⟨rfl, q18, rfl⟩; have hb18 := below_drewN hb17 q18)))
  have hb18' := hb18
  go_wp2_with (first
    | (go_at_call 15; ((with_reducible refine (newWriter_no _ v1 (.inl hv1')).mono ?_); rintro e w19 ⟨rfl, rfl⟩))
    | (go_at_call 15; ((with_reducible refine (newWriter_no _ v5 (.inr (by omega))).mono ?_); rintro e w20 ⟨rfl, rfl⟩))
    | (go_at_call 15; ((with_reducible refine (newWriter_at _ _ m w.heap.size rfl (by omega)).mono ?_); rintro e w21 ⟨A, rfl, hA, hW21, hB21⟩; have hAw : w.heap.size ≤ A := Nat.le_trans hb18'.size hA; have hs21 := Nat.le_trans hb18'.size hB21.size; have hb21 := hb18'.trans (hB21.mono hb18'.size)))
    | (at_builtin; refine wpList_append_grows _ rfl _ _ 22 rfl 5 i0 (.int .u8 0) 1 1 Try.underlying22 hi hz0 hz1 hz2 rfl (by decide) a m m (bs.map fun x : Nat => Value.int .u8 x) rfl (fun e => by have := HSN.out e; omega) (by rw [List.length_map, HBL.out, Nat.mul_one]) (fun b e => by subst e; exact seen_cells (hS.below (hb21.alloc hb21.size _))) ⟨w21.heap.size, 0, none⟩ 1 1 [.int .u8 1] rfl rfl (cell_one_new _ _ _) (by simp [Value.oneCell']) (by omega) (by unfold maxLen; omega) (by omega) ?_; intro v7 w22 hown22 hgrow22; obtain ⟨g7, c7, rfl⟩ := own_form hown22 (by omega); have hBa : Below w21.heap.size w21 w22 := ((Below.refl _ w21).alloc (Nat.le_refl _) _).grown hgrow22 (by simp) (fun k e => by cases e); have hW22 := hW21.below hBa; have hb22 := hb21.trans (hBa.mono hb21.size); have hs22 := hb22.size)
    | (go_at_call 30; ((with_reducible refine (wBytes_full _ w.heap.size A m _ _ hW22 _ (m + 1) _ HM1.out).mono ?_); rintro e w23 ⟨rfl, q23, rfl⟩; have hW23 : Wtr (w22.drewN q23) w.heap.size A m (.slice none 0 0) [] := hW22; have hb23 := below_drewN hb22 q23))
    | (go_at_call 29; ((with_reducible refine (wFixed_no _ w.heap.size A m _ _ hW23 0 0 H00.out v3 (.inl (by omega))).mono ?_); rintro e w24 ⟨rfl, rfl⟩))
    | (go_at_call 29; ((with_reducible refine (wFixed_no _ w.heap.size A m _ _ hW23 0 0 H00.out v4 (.inr (.inl (by omega)))).mono ?_); rintro e w24 ⟨rfl, rfl⟩))
    | (go_at_call 17; ((with_reducible refine (len_any _ w.heap.size A m _ _ 0 rfl hW23).mono ?_); rintro e w24 ⟨rfl, rfl⟩))
    | (go_at_call 30; ((with_reducible refine (wBytes_ok _ w.heap.size A m _ _ hW23 hb23.size a m c bs HBL.out _ (hS.below hb23) HM0.out).mono ?_); rintro e w25 ⟨v25, rfl, hW25', hK25, hM25⟩; have hW25 : Wtr w25 w.heap.size A m v25 bs := hW25'; clear hW25'; have hb25 := hb23.trans (hW23.low hAw hb23.size hK25)))
    | (go_at_call 34; ((with_reducible refine (wNumber_full _ w.heap.size A m _ _ hW25 hb25.size 0 0 H00.out (by decide) [0] form_zero HM2.out).mono ?_); rintro e w26 ⟨rfl, hW26, hB26⟩; have hb26 := hb25.trans (hB26.mono hb25.size)))
    | (go_at_call 18; ((with_reducible refine (out_any _ w.heap.size A m _ _ m HBL.out hW26).mono ?_); rintro e w27 ⟨v27, rfl, hown27, hB27⟩; obtain ⟨a27, c27, rfl, S27, _, _, _⟩ := own_slice hown27; have hb27 := hb26.trans (hB27.mono hb26.size)))
    | (go_at_call 33; ((with_reducible refine (same_at _ _ _ _ bs bs m m true HBL.out HBL.out (by simp) _ _ _ S27 (hS.below hb27) (by unfold maxLen; omega) (by unfold maxLen; omega)).mono ?_); rintro e w28 ⟨rfl, hB28⟩)))
  go_ret
  exact ⟨rfl, hb27.trans (hB28.mono hb27.size)⟩

set_option maxRecDepth 100000 in
set_option maxHeartbeats 8000000 in
theorem wrong_large (n : Int) (hn1 : -9223372036854775808 ≤ n) (hn2 : n ≤ 9223372036854775807) (a : Option Addr) (m c : Nat) (bs : List Nat) (hbl : bs.length = 100) (hbs : ∀ y ∈ bs, y < 256) (hnc : m ≤ c) (hcm : c ≤ maxLen) (hsn : a = none → c = 0) (hm : 100 < m) (w : World) (hS : Seen w w.heap.size .u8 a bs) :
    Calls Try.prog 10 #[.slice a m c, .int .i64 n] w fun e w' => e = .returned (.bool true) ∧ Below w.heap.size w w' := by
  unfold maxLen at hcm
  have hmx : max (100 : Int) 0 = 100 := by decide
  obtain ⟨i0, hi, hz0, hz1, hz2⟩ := info_u8
  have HBL := Lib.hid hbl
  have HBS := Lib.hid hbs
  have hM100 : 100 ≤ 100 := by omega
  have hMc : 100 ≤ c := by omega
  have HLM : Hid (bs.length ≤ 1000000000) := by rw [HBL.out]; show _ ≤ _; omega
  have HSN := Lib.hid hsn
  have H00 : Hid ((0 : Int) = ((0 : Nat) : Int)) := rfl
  have HM0 : Hid (([] : List Nat).length + 100 ≤ 100) := by show _ ≤ _; simp
  have HM1 : Hid (100 < ([] : List Nat).length + (100 + 1)) := by show _ < _; simp
  have HM2 : Hid (100 < bs.length + [0].length) := by rw [hbl]; show _ < _; simp
  have HMI : Hid (100 = ((100 : Nat) : Int)) := rfl
  obtain ⟨v1, hv1⟩ : ∃ v1 : Int, (if -1 < n then -1 else n) = v1 := ⟨_, rfl⟩
  have hv1' : v1 < 0 := by rw [← hv1]; split <;> omega
  obtain ⟨v2, hv2⟩ : ∃ v2 : Int, (if n < 101 then 101 else n) = v2 := ⟨_, rfl⟩
  have hv2' : 100 < v2 := by rw [← hv2]; split <;> omega
  have hv2m : v2 ≤ 9223372036854775807 := by rw [← hv2]; split <;> omega
  obtain ⟨v3, hv3⟩ : ∃ v3 : Int, (if 0 < n then 0 else n) = v3 := ⟨_, rfl⟩
  have hv3' : v3 ≤ 0 := by rw [← hv3]; split <;> omega
  obtain ⟨v4, hv4⟩ : ∃ v4 : Int, (if n < 9 then 9 else n) = v4 := ⟨_, rfl⟩
  have hv4' : 9 ≤ v4 := by rw [← hv4]; split <;> omega
  obtain ⟨v5, hv5⟩ : ∃ v5 : Int, (if n < 16777217 then 16777217 else n) = v5 := ⟨_, rfl⟩
  have hv5' : 16777217 ≤ v5 := by rw [← hv5]; split <;> omega
  have HR1 : Hid (Cu.rdBytes v1 0 bs = ([], 2, 0)) := by unfold Cu.rdBytes; rw [if_pos hv1']; rfl
  have HR2 : Hid (Cu.rdBytes v2 0 bs = ([], 20, 0)) := by unfold Cu.rdBytes; rw [if_neg (by omega), if_pos (by rw [HBL.out]; omega)]; rfl
  have HR3 : Hid (Cu.rdFixed v3 0 bs = (0, 2, 0)) := by unfold Cu.rdFixed; rw [if_pos (.inl (by omega))]; rfl
  have HR4 : Hid (Cu.rdFixed v4 0 bs = (0, 2, 0)) := by unfold Cu.rdFixed; rw [if_pos (.inr (by omega))]; rfl
  have HR5 : Hid (Cu.rdCount v1 1 0 bs = (0, 2, 0)) := by unfold Cu.rdCount; rw [if_pos (.inl hv1')]; rfl
  have HR6 : Hid (Cu.rdCount 5 v3 0 bs = (0, 2, 0)) := by unfold Cu.rdCount; rw [if_pos (.inr (by omega))]; rfl
  obtain ⟨er, her⟩ : ∃ er, Cu.rdEnd 0 bs = er := ⟨_, rfl⟩
  have hq : (er == 22) = true := by rw [← her]; unfold Cu.rdEnd; rw [HBL.out]; rfl
  have HE := Lib.hid her
  have HR7 : Hid (Cu.rdBytes 100 0 bs = (bs, 0, 100)) := by
    have := rdBytes_in 100 0 bs (by rw [HBL.out]; omega)
    rw [List.drop_zero, Nat.zero_add, List.take_of_length_le (by rw [HBL.out]; omega)] at this
    exact this
  have HR8 : Hid (Cu.rdByte 100 bs = (0, 20, 100)) := by unfold Cu.rdByte; rw [if_neg (by rw [HBL.out]; omega)]; rfl
  have HR9 : Hid (Cu.rdFixed 1 100 bs = (0, 20, 100)) := by unfold Cu.rdFixed; rw [if_neg (by omega), if_pos (by rw [HBL.out, show (1 : Int).toNat = 1 from rfl]; omega)]; rfl
  have HR10 : Hid (Cu.rdNumber 1 100 bs = (0, 10, 100)) := by unfold Cu.rdNumber; rw [List.drop_eq_nil_of_le (by rw [HBL.out]; omega)]; rfl
  have HR11 : Hid (Cu.rdBytes 0 100 bs = ([], 0, 100)) := by
    have := rdBytes_in 0 100 bs (by rw [HBL.out]; omega)
    rw [List.take_zero] at this
    exact this
  have HE2 : Hid (Cu.rdEnd 100 bs = 0) := by unfold Cu.rdEnd; rw [if_pos HBL.out.symm]; rfl
  clear hbl hsn her hbs
  go_enter Try.func10, Try.ntmps10
  go_wp2_with (first
    | (go_at_call 12; ((with_reducible refine (awake_any _).mono ?_); rintro e w1 ⟨rfl, hB1⟩))
    | (go_at_call 19; ((with_reducible refine (newReader_any _ _ 100 c bs HBL.out HBS.out hMc (by unfold maxLen; omega) HSN.out (by omega) _ (hS.below hB1) hB1.size).mono ?_); rintro e w2 ⟨R, rfl, hRR, hR2, hB2⟩; have hRw : w.heap.size ≤ R := Nat.le_trans hB1.size hRR; have hs2 := Nat.le_trans hB1.size hB2.size; have hb2 := hB1.trans (hB2.mono hB1.size)))
    | (go_at_call 26; ((with_reducible refine (bytes_at _ R 0 _ v1 (by omega) HLM.out [] 2 0 HR1.out 0 rfl hR2).mono ?_); rintro e w3 ⟨a3, c3, rfl, _, _, _, _, hR3, hK3⟩))
    | (go_at_call 26; ((with_reducible refine (bytes_at _ R 0 _ v2 hv2m HLM.out [] 20 0 HR2.out 0 rfl hR3).mono ?_); rintro e w4 ⟨a4, c4, rfl, _, _, _, _, hR4, hK4⟩))
    | (go_at_call 32; ((with_reducible refine (fixed_at _ R 0 _ v3 0 2 0 HR3.out hR4).mono ?_); rintro e w5 ⟨rfl, hR5, hK5⟩))
    | (go_at_call 32; ((with_reducible refine (fixed_at _ R 0 _ v4 0 2 0 HR4.out hR5).mono ?_); rintro e w6 ⟨rfl, hR6, hK6⟩))
    | (go_at_call 25; ((with_reducible refine (count_at _ R 0 _ v1 1 0 2 0 HR5.out (by omega) (by omega) HLM.out hR6).mono ?_); rintro e w7 ⟨rfl, hR7, hK7⟩))
    | (go_at_call 25; ((with_reducible refine (count_at _ R 0 _ 5 v3 0 2 0 HR6.out (by omega) (by omega) HLM.out hR7).mono ?_); rintro e w8 ⟨rfl, hR8, hK8⟩))
    | (go_at_call 21; ((with_reducible refine (at_any _ R 0 _ hR8).mono ?_); rintro e w9 ⟨rfl, rfl⟩))
    | (go_at_call 22; ((with_reducible refine (left_rd _ R 0 _ 100 HBL.out hR8).mono ?_); rintro e w10 ⟨rfl, q10, rfl⟩; have hR10 : Rdr (w8.drewN q10) R 0 bs := hR8; have hK10 : Chg (· = R) w2 (w8.drewN q10) := (((((hK3.trans hK4).trans hK5).trans hK6).trans hK7).trans hK8).drewN q10))
    | (go_at_call 23; ((with_reducible refine (end_any _ R 0 _ er HE.out hR10).mono ?_); rintro e w11 ⟨rfl, q11, rfl⟩; have hR11 : Rdr (w8.drewN (q10 + q11)) R 0 bs := hR8; have hK11 : Chg (· = R) w2 (w8.drewN (q10 + q11)) := (((((hK3.trans hK4).trans hK5).trans hK6).trans hK7).trans hK8).drewN (q10 + q11)))
    | (go_at_call 26; ((with_reducible refine (bytes_at _ R 0 _ 100 (by omega) HLM.out bs 0 100 HR7.out 100 HBL.out hR11).mono ?_); rintro e w12 ⟨a12, c12, rfl, _, S12, hc12, hd12, hR12, hK12⟩; have hK12' := hK11.trans hK12))
    | (go_at_call 28; ((with_reducible refine (byte_at _ R 100 _ 0 20 100 HR8.out hR12).mono ?_); rintro e w13 ⟨rfl, hR13, hK13⟩))
    | (go_at_call 32; ((with_reducible refine (fixed_at _ R 100 _ 1 0 20 100 HR9.out hR13).mono ?_); rintro e w14 ⟨rfl, hR14, hK14⟩))
    | (go_at_call 27; ((with_reducible refine (number_lit _ R 100 _ 1 1 rfl 0 10 100 HR10.out hR14).mono ?_); rintro e w15 ⟨rfl, hR15, hK15⟩))
    | (go_at_call 26; ((with_reducible refine (bytes_at _ R 100 _ 0 (by omega) HLM.out [] 0 100 HR11.out 0 rfl hR15).mono ?_); rintro e w16 ⟨a16, c16, rfl, _, _, _, _, hR16, hK16⟩; have hKs := ((hK13.trans hK14).trans hK15).trans hK16; have S16 := hR12.past hKs S12; have hb16 := hb2.trans ((hK12'.trans hKs).below (B := w.heap.size) (by intro q e; omega) hs2)))
    | (go_at_call 33; ((with_reducible refine (same_at _ _ _ _ bs bs 100 100 true HBL.out HBL.out (by simp) _ _ _ S16 (hS.below hb16) (by unfold maxLen; omega) (by unfold maxLen; omega)).mono ?_); rintro e w17 ⟨rfl, hB17⟩; have hR17 := hR16.below hB17; have hb17 := hb16.trans (hB17.mono hb16.size)))
    | (go_at_call 23; ((with_reducible refine (end_any _ R 100 _ 0 HE2.out hR17).mono ?_); rintro e w18 ⟨rfl, q18, rfl⟩; have hb18 := below_drewN hb17 q18)))
  have hb18' := hb18
  go_wp2_with (first
    | (go_at_call 15; ((with_reducible refine (newWriter_no _ v1 (.inl hv1')).mono ?_); rintro e w19 ⟨rfl, rfl⟩))
    | (go_at_call 15; ((with_reducible refine (newWriter_no _ v5 (.inr (by omega))).mono ?_); rintro e w20 ⟨rfl, rfl⟩))
    | (go_at_call 15; ((with_reducible refine (newWriter_at _ _ 100 w.heap.size HMI.out (by omega)).mono ?_); rintro e w21 ⟨A, rfl, hA, hW21, hB21⟩; have hAw : w.heap.size ≤ A := Nat.le_trans hb18'.size hA; have hs21 := Nat.le_trans hb18'.size hB21.size; have hb21 := hb18'.trans (hB21.mono hb18'.size)))
    | (at_builtin; refine wpList_append_grows _ rfl _ _ 22 rfl 5 i0 (.int .u8 0) 1 1 Try.underlying22 hi hz0 hz1 hz2 rfl (by decide) a 100 100 (bs.map fun x : Nat => Value.int .u8 x) rfl (fun e => by have := HSN.out e; omega) (by rw [List.length_map, HBL.out, Nat.mul_one]) (fun b e => by subst e; exact seen_cells (hS.below (hb21.alloc hb21.size _))) ⟨w21.heap.size, 0, none⟩ 1 1 [.int .u8 1] rfl rfl (cell_one_new _ _ _) (by simp [Value.oneCell']) (by omega) (by unfold maxLen; omega) (by omega) ?_; intro v7 w22 hown22 hgrow22; obtain ⟨g7, c7, rfl⟩ := own_form hown22 (by omega); have hBa : Below w21.heap.size w21 w22 := ((Below.refl _ w21).alloc (Nat.le_refl _) _).grown hgrow22 (by simp) (fun k e => by cases e); have hW22 := hW21.below hBa; have hb22 := hb21.trans (hBa.mono hb21.size); have hs22 := hb22.size)
    | (go_at_call 30; ((with_reducible refine (wBytes_full _ w.heap.size A 100 _ _ hW22 _ (100 + 1) _ HM1.out).mono ?_); rintro e w23 ⟨rfl, q23, rfl⟩; have hW23 : Wtr (w22.drewN q23) w.heap.size A 100 (.slice none 0 0) [] := hW22; have hb23 := below_drewN hb22 q23))
    | (go_at_call 29; ((with_reducible refine (wFixed_no _ w.heap.size A 100 _ _ hW23 0 0 H00.out v3 (.inl (by omega))).mono ?_); rintro e w24 ⟨rfl, rfl⟩))
    | (go_at_call 29; ((with_reducible refine (wFixed_no _ w.heap.size A 100 _ _ hW23 0 0 H00.out v4 (.inr (.inl (by omega)))).mono ?_); rintro e w24 ⟨rfl, rfl⟩))
    | (go_at_call 17; ((with_reducible refine (len_any _ w.heap.size A 100 _ _ 0 rfl hW23).mono ?_); rintro e w24 ⟨rfl, rfl⟩))
    | (go_at_call 30; ((with_reducible refine (wBytes_ok _ w.heap.size A 100 _ _ hW23 hb23.size a 100 c bs HBL.out _ (hS.below hb23) HM0.out).mono ?_); rintro e w25 ⟨v25, rfl, hW25', hK25, hM25⟩; have hW25 : Wtr w25 w.heap.size A 100 v25 bs := hW25'; clear hW25'; have hb25 := hb23.trans (hW23.low hAw hb23.size hK25)))
    | (go_at_call 34; ((with_reducible refine (wNumber_full _ w.heap.size A 100 _ _ hW25 hb25.size 0 0 H00.out (by decide) [0] form_zero HM2.out).mono ?_); rintro e w26 ⟨rfl, hW26, hB26⟩; have hb26 := hb25.trans (hB26.mono hb25.size)))
    | (go_at_call 18; ((with_reducible refine (out_any _ w.heap.size A 100 _ _ 100 HBL.out hW26).mono ?_); rintro e w27 ⟨v27, rfl, hown27, hB27⟩; obtain ⟨a27, c27, rfl, S27, _, _, _⟩ := own_slice hown27; have hb27 := hb26.trans (hB27.mono hb26.size)))
    | (go_at_call 33; ((with_reducible refine (same_at _ _ _ _ bs bs 100 100 true HBL.out HBL.out (by simp) _ _ _ S27 (hS.below hb27) (by unfold maxLen; omega) (by unfold maxLen; omega)).mono ?_); rintro e w28 ⟨rfl, hB28⟩)))
  go_ret
  exact ⟨rfl, hb27.trans (hB28.mono hb27.size)⟩

theorem wrong_walk (a0 : Option Addr) (len0 cap0 : Nat) (z0 : List Int) (a1 : Int) (w : World) (w0 : IsRow .u8 w a0 len0 cap0 z0) (w1 : (Lit.int .i64 a1).wf = true) :
    Calls Try.prog 10 #[.slice a0 len0 cap0, .int .i64 a1] w fun e w' => e = .returned (.bool true) ∧ Below w.heap.size w w' := by
  have b1 := bounds_i64 w1
  have hsn : a0 = none → cap0 = 0 := fun e => by
    rcases w0 with ⟨_, _, h, _⟩ | ⟨x, h, _⟩
    · exact h
    · rw [e] at h; cases h
  obtain ⟨xs, hxl, hS, hx, hlc, hcm⟩ := row_u8 w0
  by_cases h100 : len0 ≤ 100
  · exact wrong_small a1 b1.1 b1.2 a0 len0 cap0 xs hxl hx hlc hcm hsn h100 w hS
  · exact wrong_large a1 b1.1 b1.2 a0 len0 cap0 (xs.take 100) (by rw [List.length_take, hxl]; omega) (fun y hy => hx y (List.mem_of_mem_take hy)) hlc hcm hsn (by omega) w (seen_take hS 100)

end Go.Proofs.Ytdemlifjhlpclaa
