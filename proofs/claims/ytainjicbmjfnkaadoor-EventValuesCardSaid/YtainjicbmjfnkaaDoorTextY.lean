/-
  Text of a right event.
-/
import Derived.Test.YtainjicbmjfnkaaDoorJoinS
import Derived.Maps.AppendAt
import Derived.Deep.RegionHeld3
namespace Go.Proofs.YtainjicbmjfnkaaDoor
open Go.RowKit
set_option linter.unusedVariables false

theorem name_b (k : Nat) (hk : k < 256) (w : World) (hE : Ev.HE w) : Calls Tryd.prog 23 #[.int .u8 k] w fun e w' => e = .returned (.string (Ev.str (Ev.kname k))) ∧ Below w.heap.size w w' := by
  refine (name_any k hk w hE).mono ?_
  rintro e w' ⟨rfl, rfl⟩
  exact ⟨rfl, Below.refl _ _⟩

set_option maxRecDepth 100000 in
set_option maxHeartbeats 2000000 in
theorem text_yes (sq tm : Int) (cp kd : Nat) (tk gr to_ wg tc : Int) (mk : Nat) (gt : Int) (hw : Ev.WF sq tm cp kd tk gr to_ wg tc mk gt) (hr : Ev.check sq tm cp kd tk gr to_ wg tc mk gt = 0) (vs : List Nat) (hvs : Ev.vals kd tk gr to_ wg tc mk gt = vs) (n : Nat) (hn : vs.length = n) (w : World) (hE : Ev.HE w) (hT : Pw w) : Calls Tryd.prog 15 #[.agg #[.int .i64 sq, .int .i64 tm, .int .u8 cp, .int .u8 kd, .int .i64 tk, .int .i64 gr, .int .i64 to_, .int .i64 wg, .int .i64 tc, .int .u64 mk, .int .i64 gt]] w fun e w' => e = .returned (.tuple #[.string (Ev.str (Ev.text sq tm cp kd vs)), .int .i64 0]) ∧ Below w.heap.size w w' := by
  have HX := Lib.hid (EBox.new w sq tm cp kd tk gr to_ wg tc mk gt)
  have HBW : Hid (Below w.heap.size w (w.alloc (.cells #[.int .i64 sq, .int .i64 tm, .int .u8 cp, .int .u8 kd, .int .i64 tk, .int .i64 gr, .int .i64 to_, .int .i64 wg, .int .i64 tc, .int .u64 mk, .int .i64 gt] 24))) := (Below.refl _ w).alloc (Nat.le_refl _) _
  have HEW := Lib.hid (hE.below HBW.out)
  have HPW := Lib.hid (hT.below HBW.out)
  have HWF : Hid (Ev.WF sq tm cp kd tk gr to_ wg tc mk gt) := hw
  have hcp : (cp : Int) < 256 := by have := hw.2.2.1; omega
  have hcw : IntKind.i64.wrap (cp : Int) = (cp : Int) := by have := hw.2.2.1; rw [IntKind.wrap_i64]; omega
  have hc63 : (cp : Int) ≤ 9223372036854775807 := by omega
  have hc0 : -9223372036854775808 ≤ (cp : Int) := by omega
  have HR := Lib.hid hr
  have HVL : Hid (∀ x ∈ vs, x < 18446744073709551616) := by rw [← hvs]; exact Ev.vals_lt hw.2.2.2.2.2.2.2.2.2.1
  have hn4 : (n : Int) ≤ 4 := by have h : (Ev.vals kd tk gr to_ wg tc mk gt).length ≤ 4 := Ev.vals_len hw.2.2.2.1; rw [hvs, hn] at h; omega
  have HWL : Hid (∀ x ∈ Ev.head sq tm cp kd ++ vs.map Lib.decDigits, x.length ≤ 100) := Ev.words_len hw.1 hw.2.1 hw.2.2.1 hw.2.2.2.1 HVL.out
  have HV := Lib.hid hvs
  have HN := Lib.hid hn
  clear hr hE hw hvs hn hT
  obtain ⟨x0, x1, x2, x3, x4, x5, x6, x7, x8, x9, x10⟩ := HX.out.cells
  go_enter Tryd.func15, Tryd.ntmps15
  go_upto_region 4 with (go_at_call 18; ((with_reducible refine (values_yes sq tm cp kd tk gr to_ wg tc mk gt HWF.out HR.out vs HV.out n HN.out _ HEW.out).mono ?_); rintro e w2 ⟨va, vc, rfl, hvo, hb⟩; have HVO := Lib.hid hvo; have HW2 := Lib.hid (HBW.out.trans (hb.mono HBW.out.size)); have HX2 := Lib.hid (HX.out.keep hb); have HE2 := Lib.hid (HEW.out.below hb); have HP2 := Lib.hid (HPW.out.below hb); clear hvo hb))
  clear x0 x1 x2 x3 x4 x5 x6 x7 x8 x9 x10
  obtain ⟨y0, y1, y2, y3, y4, y5, y6, y7, y8, y9, y10⟩ := HX2.out.cells
  have hlt : w.heap.size < w2.heap.size := HX2.out.lt
  go_region_held3 (fun W => W.cell? ⟨w.heap.size, 0, none⟩ = some (.int .i64 sq) ∧ W.cell? ⟨w.heap.size, 1, none⟩ = some (.int .i64 tm) ∧ W.cell? ⟨w.heap.size, 2, none⟩ = some (.int .u8 cp) ∧ W.cell? ⟨w.heap.size, 3, none⟩ = some (.int .u8 kd)) (first
      | go_keep
      | exact ⟨y0, y1, y2, y3⟩
      | (have hh := (HX2.out.keep hb3).cells; exact ⟨hh.1, hh.2.1, hh.2.2.1, hh.2.2.2.1⟩)
      | (have hh := (HX2.out.keep hb4).cells; exact ⟨hh.1, hh.2.1, hh.2.2.1, hh.2.2.2.1⟩)
      | (have hh := (HX2.out.keep hb5).cells; exact ⟨hh.1, hh.2.1, hh.2.2.1, hh.2.2.2.1⟩)
      | (have hh := (HX2.out.keep hb6).cells; exact ⟨hh.1, hh.2.1, hh.2.2.1, hh.2.2.2.1⟩)) (first
    | (go_at_call 39; refine (itoa_b sq HWF.out.1.1 HWF.out.1.2 _ (by exact HP2.out.below (Below.refl _ _).drew)).mono ?_; rintro e w3 ⟨rfl, hb3'⟩; have hb3 : Below w2.heap.size w2 w3 := (Below.refl _ w2).drew.trans hb3')
    | (go_at_call 39; refine (itoa_b tm HWF.out.2.1.1 HWF.out.2.1.2 _ (by exact HP2.out.below hb3)).mono ?_; rintro e w4 ⟨rfl, hb4'⟩; have hb4 : Below w2.heap.size w2 w4 := hb3.trans (hb4'.mono hb3.size))
    | (go_at_call 39; refine (itoa_b cp hc0 hc63 _ (by exact HP2.out.below hb4)).mono ?_; rintro e w5 ⟨rfl, hb5'⟩; have hb5 : Below w2.heap.size w2 w5 := hb4.trans (hb5'.mono hb4.size))
    | (go_at_call 23; refine (name_b kd HWF.out.2.2.2.1 _ (by exact HE2.out.below hb5)).mono ?_; rintro e w6 ⟨rfl, hb6'⟩; have hb6 : Below w2.heap.size w2 w6 := hb5.trans (hb6'.mono hb5.size)))
  rename_i hcont hheld
  refine hcont _ _ ?_
  clear hcont hheld y0 y1 y2 y3 y4 y5 y6 y7 y8 y9 y10 hb3' hb4' hb5' hb6' hb3 hb4 hb5 hlt hcw hc63 hc0 hcp
  obtain ⟨_, _, hva, hvs2, _⟩ := own_slice HVO.out
  cases hva
  have HVS6 := Lib.hid (hvs2.below hb6)
  clear hvs2
  have HW6 := Lib.hid (HW2.out.trans (hb6.mono HW2.out.size))
  have HP6 := Lib.hid (HP2.out.below hb6)
  have HL26 := Lib.hid hb6.size
  clear hb6
  have hro := World.ownsRow_lit (base := w6.heap.size) (e := 9) (size := 1) w6 #[.string (Ev.str (Lib.itoa sq)), .string (Ev.str (Lib.itoa tm)), .string (Ev.str (Lib.itoa (cp : Int))), .string (Ev.str (Ev.kname kd))] 4 (Nat.le_refl _) (by unfold maxLen; omega) rfl
  have HB7 : Hid (Below w6.heap.size w6 (w6.alloc (.cells #[.string (Ev.str (Lib.itoa sq)), .string (Ev.str (Lib.itoa tm)), .string (Ev.str (Lib.itoa (cp : Int))), .string (Ev.str (Ev.kname kd))] 9))) := (Below.refl _ w6).alloc (Nat.le_refl _) _
  obtain ⟨w7, hw7⟩ : ∃ w7, w6.alloc (.cells #[.string (Ev.str (Lib.itoa sq)), .string (Ev.str (Lib.itoa tm)), .string (Ev.str (Lib.itoa (cp : Int))), .string (Ev.str (Ev.kname kd))] 9) = w7 := ⟨_, rfl⟩
  rw [hw7] at hro HB7 ⊢
  clear hw7
  have HRO : Hid (w7.ownsRow w6.heap.size 9 1 (.slice (some ⟨w6.heap.size, 0, none⟩) (4 + 0) 4) (4 + 0) ((Ev.head sq tm cp kd ++ (vs.take 0).map Lib.decDigits).map strV)) := hro
  clear hro
  go_wp2
  go_loopw [6, 33] (fun s6 iv wr => ∃ (k : Nat) (a : Option Addr) (c : Nat), k ≤ n ∧ s6 = .slice a (4 + k) c ∧ iv = .int .i64 k ∧ Hid (wr.ownsRow w6.heap.size 9 1 (.slice a (4 + k) c) (4 + k) ((Ev.head sq tm cp kd ++ (vs.take k).map Lib.decDigits).map strV)) ∧ Hid (Below w6.heap.size w6 wr)) (fun _ i _ => n - (intOf i).toNat)
  case atStart => exact ⟨0, some ⟨w6.heap.size, 0, none⟩, 4, Nat.zero_le _, rfl, rfl, HRO, HB7⟩
  case round =>
    obtain ⟨k, a, c, hk, rfl, rfl, HROK, HBK⟩ := hrel
    have HWR := Lib.hid (HW6.out.trans (HBK.out.mono HW6.out.size))
    have HPR := Lib.hid (HP6.out.below HBK.out)
    by_cases hkn : k < n
    · obtain ⟨x, hx⟩ : ∃ x, vs[k]? = some x := ⟨_, List.getElem?_eq_getElem (by rw [HN.out]; exact hkn)⟩
      have HX64 : Hid (x < 18446744073709551616) := HVL.out x (List.mem_of_getElem? hx)
      obtain ⟨bf, of_, rfl, hbf, hcf⟩ := (HVS6.out.below (HBK.out.mono HL26.out)) k x hx
      have hki : (k : Int) < (n : Int) := by omega
      have HT : Hid (Ev.head sq tm cp kd ++ (vs.take (k + 1)).map Lib.decDigits = (Ev.head sq tm cp kd ++ (vs.take k).map Lib.decDigits) ++ [Lib.decDigits x]) := by
        show _ = _
        rw [List.take_add_one, hx, Option.toList_some, List.map_append, List.append_assoc]; rfl
      have HK6 : Hid (k ≤ 4) := by show _ ≤ _; omega
      clear hx hbf hk
      go_wp2_with (first
        | (go_at_call 40; ((with_reducible refine (fmt_b x HX64.out wr HPR.out).mono ?_); rintro e w8 ⟨rfl, hb⟩; have HB8 := Lib.hid (HBK.out.trans (hb.mono HBK.out.size)); have HO8 := Lib.hid (own_belowI HROK.out hb); clear hb))
        | (at_builtin; refine app_str _ rfl _ _ rfl w6.heap.size (4 + k) _ (Ev.head sq tm cp kd ++ (vs.take k).map Lib.decDigits) rfl (own_belowI HO8.out ((Below.refl _ w8).alloc (Nat.le_refl _) _)) ⟨w8.heap.size, 0, none⟩ (Lib.decDigits x) rfl (cell_one_new w8 _ _) (by have := HK6.out; omega) (HB8.out.alloc HB8.out.size _).size ?_; intro v5 w5 ho5 hb5; rw [← HT.out] at ho5; obtain ⟨a5, c5, rfl, ho5'⟩ := own_sliceS ho5; have HO5 := Lib.hid ho5'; have HB5 : Hid (Below w6.heap.size w6 w5) := (HB8.out.alloc HB8.out.size _).trans (hb5.mono (Nat.le_refl _)); clear ho5 ho5' hb5))
      exact ⟨⟨k + 1, a5, c5, hkn, rfl, rfl, HO5, HB5⟩, by simp [intOf]; omega⟩
    · obtain rfl : n = k := by omega
      have HT : Hid (vs.take n = vs) := by show _ = _; rw [← HN.out, List.take_length]
      have hrow := HROK.out
      rw [HT.out] at hrow
      obtain ⟨g, cap, hv, hj⟩ := join_words _ (4 + n) (by rw [List.length_append, List.length_map, HN.out]; rfl) (by omega) (by omega) HWL.out _ _ _ hrow
      cases hv
      have HJ := Lib.hid hj
      clear hj hrow hk hkn
      go_wp2_with (go_at_call 41; ((with_reducible refine HJ.out.mono ?_); rintro e w9 ⟨rfl, hb9⟩))
      go_ret2
      exact ⟨rfl, HWR.out.trans (hb9.mono HWR.out.size)⟩
end Go.Proofs.YtainjicbmjfnkaaDoor
