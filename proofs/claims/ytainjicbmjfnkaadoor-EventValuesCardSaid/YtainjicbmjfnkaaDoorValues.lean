/-
  Values.
-/
import Derived.Test.YtainjicbmjfnkaaDoorRow
namespace Go.Proofs.YtainjicbmjfnkaaDoor
open Go.RowKit
set_option linter.unusedVariables false

namespace Ev
/-- The value of a field. -/
def val (tk gr to_ wg tc : Int) (mk : Nat) (gt : Int) (f : Nat) : Nat := (if f = 5 then (mk : Int) else IntKind.u64.wrap (fld tk gr to_ wg tc mk gt f)).toNat
theorem val_eq (tk gr to_ wg tc : Int) (mk : Nat) (gt : Int) (f : Nat) : (if f = 5 then (mk : Int) else IntKind.u64.wrap (fld tk gr to_ wg tc mk gt f)) = ((val tk gr to_ wg tc mk gt f : Nat) : Int) := by
  unfold val
  rw [Int.toNat_of_nonneg]
  split
  · omega
  · rw [IntKind.wrap_u64]; omega
def vals (kd : Nat) (tk gr to_ wg tc : Int) (mk : Nat) (gt : Int) : List Nat := (kfs kd).map (val tk gr to_ wg tc mk gt)
theorem check_known {sq tm : Int} {cp kd : Nat} {tk gr to_ wg tc : Int} {mk : Nat} {gt : Int} (h : check sq tm cp kd tk gr to_ wg tc mk gt ≠ 60) : 1 ≤ kd ∧ kd ≤ 10 := by
  unfold check at h
  split at h
  · assumption
  · exact absurd rfl h
end Ev
set_option maxRecDepth 100000 in
set_option maxHeartbeats 1000000 in
theorem values_no (sq tm : Int) (cp kd : Nat) (tk gr to_ wg tc : Int) (mk : Nat) (gt : Int) (hw : Ev.WF sq tm cp kd tk gr to_ wg tc mk gt) (r : Nat) (hr : Ev.check sq tm cp kd tk gr to_ wg tc mk gt = r) (hr0 : r ≠ 0) (w : World) (hE : Ev.HE w) : Calls Tryd.prog 18 #[.agg #[.int .i64 sq, .int .i64 tm, .int .u8 cp, .int .u8 kd, .int .i64 tk, .int .i64 gr, .int .i64 to_, .int .i64 wg, .int .i64 tc, .int .u64 mk, .int .i64 gt]] w fun e w' => e = .returned (.tuple #[.slice none 0 0, .int .i64 r]) ∧ Below w.heap.size w w' := by
  have HX := Lib.hid (EBox.new w sq tm cp kd tk gr to_ wg tc mk gt)
  have HBW : Hid (Below w.heap.size w (w.alloc (.cells #[.int .i64 sq, .int .i64 tm, .int .u8 cp, .int .u8 kd, .int .i64 tk, .int .i64 gr, .int .i64 to_, .int .i64 wg, .int .i64 tc, .int .u64 mk, .int .i64 gt] 24))) := (Below.refl _ w).alloc (Nat.le_refl _) _
  have HEW := Lib.hid (hE.below HBW.out)
  have HWF : Hid (Ev.WF sq tm cp kd tk gr to_ wg tc mk gt) := hw
  have HR := Lib.hid hr
  have h1 : ((r : Int) == 0) = false := by simp; exact hr0
  have h2 : (r == 0) = false := by simp; exact hr0
  clear hr hr0 hE hw
  obtain ⟨x0, x1, x2, x3, x4, x5, x6, x7, x8, x9, x10⟩ := HX.out.cells
  go_enter Tryd.func18, Tryd.ntmps18
  go_wp2_with (go_at_call 17; ((with_reducible refine (check_any sq tm cp kd tk gr to_ wg tc mk gt HWF.out r HR.out _ HEW.out).mono ?_); rintro e w2 ⟨rfl, hb⟩; have HW2 := Lib.hid (HBW.out.trans (hb.mono HBW.out.size)); clear hb))
  go_ret2
  exact ⟨rfl, HW2.out⟩
set_option maxRecDepth 100000 in
set_option maxHeartbeats 2000000 in
theorem values_yes (sq tm : Int) (cp kd : Nat) (tk gr to_ wg tc : Int) (mk : Nat) (gt : Int) (hw : Ev.WF sq tm cp kd tk gr to_ wg tc mk gt) (hr : Ev.check sq tm cp kd tk gr to_ wg tc mk gt = 0) (vs : List Nat) (hvs : Ev.vals kd tk gr to_ wg tc mk gt = vs) (n : Nat) (hn : vs.length = n) (w : World) (hE : Ev.HE w) : Calls Tryd.prog 18 #[.agg #[.int .i64 sq, .int .i64 tm, .int .u8 cp, .int .u8 kd, .int .i64 tk, .int .i64 gr, .int .i64 to_, .int .i64 wg, .int .i64 tc, .int .u64 mk, .int .i64 gt]] w fun e w' => ∃ a c, e = .returned (.tuple #[.slice a n c, .int .i64 0]) ∧ w'.ownsRow w.heap.size 22 1 (.slice a n c) n (vs.map fun x : Nat => Value.int .u64 x) ∧ Below w.heap.size w w' := by
  have HX := Lib.hid (EBox.new w sq tm cp kd tk gr to_ wg tc mk gt)
  have HBW : Hid (Below w.heap.size w (w.alloc (.cells #[.int .i64 sq, .int .i64 tm, .int .u8 cp, .int .u8 kd, .int .i64 tk, .int .i64 gr, .int .i64 to_, .int .i64 wg, .int .i64 tc, .int .u64 mk, .int .i64 gt] 24))) := (Below.refl _ w).alloc (Nat.le_refl _) _
  have HEW := Lib.hid (hE.below HBW.out)
  have HWF : Hid (Ev.WF sq tm cp kd tk gr to_ wg tc mk gt) := hw
  have hk := Ev.check_known (show Ev.check sq tm cp kd tk gr to_ wg tc mk gt ≠ 60 by rw [hr]; decide)
  have HK1 := Lib.hid hk.1
  have HK2 := Lib.hid hk.2
  have HR := Lib.hid hr
  obtain ⟨fs, hfs⟩ : ∃ fs, Ev.kfs kd = fs := ⟨_, rfl⟩
  have HVS : Hid (fs.map (Ev.val tk gr to_ wg tc mk gt) = vs) := by show _ = _; rw [← hvs, ← hfs]; rfl
  have hn2 : fs.length = n := by rw [← hn, ← HVS.out, List.length_map]
  have HFL : Hid (∀ f ∈ fs, f < 7) := by rw [← hfs]; exact Ev.kfs_lt ⟨kd, by omega⟩
  have hn4 : (n : Int) ≤ 4 := by have h := Ev.kfs_len ⟨kd, by omega⟩; simp only [hfs, hn2] at h; omega
  have hkd : (kd : Int) < 11 := by omega
  have HN := Lib.hid hn2
  have HNV := Lib.hid hn
  have HFS0 := Lib.hid hfs
  clear hr hE hk hfs hn hn2 hvs hw
  obtain ⟨x0, x1, x2, x3, x4, x5, x6, x7, x8, x9, x10⟩ := HX.out.cells
  go_enter Tryd.func18, Tryd.ntmps18
  go_upto_region 5 with (go_at_call 17; ((with_reducible refine (check_any sq tm cp kd tk gr to_ wg tc mk gt HWF.out 0 HR.out _ HEW.out).mono ?_); rintro e w2 ⟨rfl, hb⟩; have HW2 := Lib.hid (HBW.out.trans (hb.mono HBW.out.size)); have HX2 := Lib.hid (HX.out.keep hb); have HE2 := Lib.hid (HEW.out.below hb); clear hb))
  obtain ⟨_, fa, fc, hf1, hf2, hf3, hf4⟩ := HE2.out.kind HK1.out HK2.out
  rw [HFS0.out] at hf1 hf2
  rw [HN.out] at hf1
  have HFS : Hid (Seen w2 w2.heap.size .u8 fa fs) := hf2
  have c1 : w2.cell? ⟨0, kd * 2 + 1, none⟩ = some (.slice fa n fc) := by rw [Nat.mul_comm]; exact hf1
  clear hf1 hf2 hf3 hf4 x0 x1 x2 x3 x4 x5 x6 x7 x8 x9 x10
  obtain ⟨y0, y1, y2, y3, y4, y5, y6, y7, y8, y9, y10⟩ := HX2.out.cells
  have HZ : Hid (Below w2.heap.size w2 w2) := Below.refl _ _
  have HR0 : Hid (w2.ownsRow w2.heap.size 22 1 (.slice none 0 0) 0 ((vs.take 0).map fun x : Nat => Value.int .u64 x)) := World.ownsRow_nil _ _ _ _
  go_wp2
  go_loopw [5, 19] (fun s5 iv wr => ∃ (k : Nat) (a : Option Addr) (c : Nat), k ≤ n ∧ s5 = .slice a k c ∧ iv = .int .i64 k ∧ Hid (wr.ownsRow w2.heap.size 22 1 (.slice a k c) k ((vs.take k).map fun x : Nat => Value.int .u64 x)) ∧ Hid (Below w2.heap.size w2 wr)) (fun _ i _ => n - (intOf i).toNat)
  case atStart => exact ⟨0, none, 0, Nat.zero_le _, rfl, rfl, HR0, HZ⟩
  case round =>
    obtain ⟨k, a, c, hk, rfl, rfl, HRO, HBK⟩ := hrel
    have HWR := Lib.hid (HW2.out.trans (HBK.out.mono HW2.out.size))
    clear y0 y1 y2 y3 y4 y5 y6 y7 y8 y9 y10 c1
    have HXR := Lib.hid (HX2.out.keep HBK.out)
    obtain ⟨x0, x1, x2, x3, x4, x5, x6, x7, x8, x9, x10⟩ := HXR.out.cells
    by_cases hkn : k < n
    · obtain ⟨f, hf⟩ : ∃ f, fs[k]? = some f := ⟨_, List.getElem?_eq_getElem (by rw [HN.out]; exact hkn)⟩
      have HF7 : Hid (f < 7) := HFL.out f (List.mem_of_getElem? hf)
      obtain ⟨bf, of_, rfl, hbf, hcf⟩ := (HFS.out.below HBK.out) k f hf
      have hki : (k : Int) < (n : Int) := by omega
      obtain ⟨x, hx⟩ : ∃ x, Ev.val tk gr to_ wg tc mk gt f = x := ⟨_, rfl⟩
      have HXV : Hid ((if f = 5 then (mk : Int) else IntKind.u64.wrap (Ev.fld tk gr to_ wg tc mk gt f)) = (x : Int)) := by show _ = _; rw [Ev.val_eq, hx]
      have HT : Hid (vs.take (k + 1) = vs.take k ++ [x]) := by
        show _ = _
        rw [List.take_add_one, ← HVS.out, List.getElem?_map, hf, ← hx]; rfl
      have HK6 : Hid (k ≤ 4) := by show _ ≤ _; omega
      clear hf hbf hx hk
      go_wp2_with (first
        | (go_at_call 46; ((with_reducible refine (value_at sq tm cp kd tk gr to_ wg tc mk gt f HF7.out (x : Int) HXV.out wr).mono ?_); rintro e w4 ⟨rfl, hb⟩; have HB4 := Lib.hid (HBK.out.trans (hb.mono HBK.out.size)); have HO4 := Lib.hid (own_belowI HRO.out hb); have HW4 := Lib.hid (HWR.out.trans (hb.mono HWR.out.size)); have HL4 := Lib.hid hb.size; clear hb))
        | (at_builtin; refine app_words _ rfl _ _ rfl w2.heap.size k _ (vs.take k) rfl (own_belowI HO4.out ((Below.refl _ w4).alloc (Nat.le_refl _) _)) _ 1 1 [x] rfl rfl _ (seen_one w4 x 22) (by have := HK6.out; omega) (HB4.out.alloc HB4.out.size _).size ?_; intro v5 w5 ho5 hb5; rw [← HT.out] at ho5; obtain ⟨a5, c5, rfl, ho5'⟩ := own_sliceW ho5; have HO5 := Lib.hid ho5'; have HB5 : Hid (Below w2.heap.size w2 w5) := (HB4.out.alloc HB4.out.size _).trans (hb5.mono (Nat.le_refl _)); clear ho5 ho5' hb5))
      exact ⟨⟨k + 1, a5, c5, hkn, rfl, rfl, HO5, HB5⟩, by simp [intOf]; omega⟩
    · obtain rfl : n = k := by omega
      have HT : Hid (vs.take n = vs) := by show _ = _; rw [← HNV.out, List.take_length]
      clear hk hkn
      go_wp2_with fail
      go_ret2
      exact ⟨a, c, rfl, by have h := HRO.out; rw [HT.out] at h; exact rebase h HW2.out.size, HWR.out⟩
end Go.Proofs.YtainjicbmjfnkaaDoor
