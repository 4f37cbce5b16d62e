/-
  hasOther.
-/
import Derived.Test.YtainjicbmjfnkaaDoorStart
import Derived.Laws.Cover1
import Derived.Deep.CutBlock
namespace Go.Proofs.YtainjicbmjfnkaaDoor
open Go.RowKit
set_option linter.unusedVariables false

namespace Ev
/-- A field that the kind does not have is not 0. -/
def other (fs : List Nat) (tk gr to_ wg tc : Int) (mk : Nat) (gt : Int) : Bool := !((tk == if 0 ∈ fs then tk else 0) && ((gr == if 1 ∈ fs then gr else 0) && ((to_ == if 2 ∈ fs then to_ else 0) && ((wg == if 3 ∈ fs then wg else 0) && ((tc == if 4 ∈ fs then tc else 0) && (((mk : Int) == ((if 5 ∈ fs then mk else 0 : Nat) : Int)) && ((gt == if 6 ∈ fs then gt else 0))))))))
theorem step_int {fs : List Nat} {k f : Nat} (hf : fs[k]? = some f) (j : Nat) (v x : Int) (hx : f = j → x = v) : (if f = j then x else if j ∈ fs.take k then v else 0) = if j ∈ fs.take (k + 1) then v else 0 := by
  have e : fs.take (k + 1) = fs.take k ++ [f] := by rw [List.take_add_one, hf]; rfl
  rw [e]
  by_cases h : f = j
  · rw [if_pos h, if_pos (by simp [h]), hx h]
  · rw [if_neg h]
    have : (j ∈ fs.take k ++ [f]) ↔ j ∈ fs.take k := by simp [Ne.symm h]
    simp only [this]
theorem step_nat {fs : List Nat} {k f : Nat} (hf : fs[k]? = some f) (j : Nat) (v x : Nat) (hx : f = j → x = v) : (if f = j then x else if j ∈ fs.take k then v else 0) = if j ∈ fs.take (k + 1) then v else 0 := by
  have e : fs.take (k + 1) = fs.take k ++ [f] := by rw [List.take_add_one, hf]; rfl
  rw [e]
  by_cases h : f = j
  · rw [if_pos h, if_pos (by simp [h]), hx h]
  · rw [if_neg h]
    have : (j ∈ fs.take k ++ [f]) ↔ j ∈ fs.take k := by simp [Ne.symm h]
    simp only [this]
/-- An int is itself again behind a uint64. -/
theorem wrap_back (x : Int) (h1 : -9223372036854775808 ≤ x) (h2 : x ≤ 9223372036854775807) : wrap64 (IntKind.u64.wrap x) = x := by
  rw [IntKind.wrap_u64]; unfold wrap64; omega
def I64 (x : Int) : Prop := -9223372036854775808 ≤ x ∧ x ≤ 9223372036854775807
end Ev
theorem value_at (sq tm : Int) (cp kd : Nat) (tk gr to_ wg tc : Int) (mk : Nat) (gt : Int) (f : Nat) (hf : f < 7) (x : Int) (hx : (if f = 5 then (mk : Int) else IntKind.u64.wrap (Ev.fld tk gr to_ wg tc mk gt f)) = x) (w : World) : Calls Tryd.prog 46 #[.agg #[.int .i64 sq, .int .i64 tm, .int .u8 cp, .int .u8 kd, .int .i64 tk, .int .i64 gr, .int .i64 to_, .int .i64 wg, .int .i64 tc, .int .u64 mk, .int .i64 gt], .int .u8 f] w fun e w' => e = .returned (.int .u64 x) ∧ Below w.heap.size w w' := by
  subst hx
  exact value_any sq tm cp kd tk gr to_ wg tc mk gt f hf w
set_option maxRecDepth 100000 in
set_option maxHeartbeats 2000000 in
theorem hasOther_any (sq tm : Int) (cp kd : Nat) (tk gr to_ wg tc : Int) (mk : Nat) (gt : Int) (hcp : cp < 256) (h1 : Ev.I64 tk) (h2 : Ev.I64 gr) (h3 : Ev.I64 to_) (h4 : Ev.I64 wg) (h5 : Ev.I64 tc) (h6 : Ev.I64 gt) (hk1 : 1 ≤ kd) (hk2 : kd ≤ 10) (r : Bool) (hr : Ev.other (Ev.kfs kd) tk gr to_ wg tc mk gt = r) (w : World) (hE : Ev.HE w) : Calls Tryd.prog 45 #[.agg #[.int .i64 sq, .int .i64 tm, .int .u8 cp, .int .u8 kd, .int .i64 tk, .int .i64 gr, .int .i64 to_, .int .i64 wg, .int .i64 tc, .int .u64 mk, .int .i64 gt]] w fun e w' => e = .returned (.bool r) ∧ Below w.heap.size w w' := by
  have HX := Lib.hid (EBox.new w sq tm cp kd tk gr to_ wg tc mk gt)
  have HBW : Hid (Below w.heap.size w (w.alloc (.cells #[.int .i64 sq, .int .i64 tm, .int .u8 cp, .int .u8 kd, .int .i64 tk, .int .i64 gr, .int .i64 to_, .int .i64 wg, .int .i64 tc, .int .u64 mk, .int .i64 gt] 24))) := (Below.refl _ w).alloc (Nat.le_refl _) _
  have HEW : Hid (Ev.HE w) := hE
  have HI1 : Hid (Ev.I64 tk) := h1
  have HI2 : Hid (Ev.I64 gr) := h2
  have HI3 : Hid (Ev.I64 to_) := h3
  have HI4 : Hid (Ev.I64 wg) := h4
  have HI5 : Hid (Ev.I64 tc) := h5
  have HI6 : Hid (Ev.I64 gt) := h6
  have HK1 := Lib.hid hk1
  have HK2 := Lib.hid hk2
  obtain ⟨fs, hfs⟩ : ∃ fs, Ev.kfs kd = fs := ⟨_, rfl⟩
  rw [hfs] at hr
  have HR := Lib.hid hr
  have HFS0 := Lib.hid hfs
  obtain ⟨n, hn⟩ : ∃ n, fs.length = n := ⟨_, rfl⟩
  have HFL : Hid (∀ f ∈ fs, f < 7) := by rw [← hfs]; exact Ev.kfs_lt ⟨kd, by omega⟩
  have hn4 : (n : Int) ≤ 4 := by have h := Ev.kfs_len ⟨kd, by omega⟩; simp only [hfs, hn] at h; omega
  have hkd : (kd : Int) < 11 := by omega
  have HN := Lib.hid hn
  clear hr h1 h2 h3 h4 h5 h6 hE hfs hn hcp hk1 hk2
  obtain ⟨x0, x1, x2, x3, x4, x5, x6, x7, x8, x9, x10⟩ := HX.out.cells
  go_enter Tryd.func45, Tryd.ntmps45
  go_upto_region 2 with (go_at_call 47; ((with_reducible refine (start_any sq tm cp kd tk gr to_ wg tc mk gt _).mono ?_); rintro e w2 ⟨rfl, hb⟩; have HB2 := Lib.hid (HBW.out.trans (hb.mono HBW.out.size)); have HX2 := Lib.hid (HX.out.keep hb); clear hb))
  have HY := Lib.hid (EBox.new w2 sq tm cp kd 0 0 0 0 0 0 0)
  have HX3 := Lib.hid (HX2.out.alloc (.cells #[.int .i64 sq, .int .i64 tm, .int .u8 cp, .int .u8 kd, .int .i64 0, .int .i64 0, .int .i64 0, .int .i64 0, .int .i64 0, .int .u64 0, .int .i64 0] 24))
  have HB3 := Lib.hid (HB2.out.alloc HB2.out.size (.cells #[.int .i64 sq, .int .i64 tm, .int .u8 cp, .int .u8 kd, .int .i64 0, .int .i64 0, .int .i64 0, .int .i64 0, .int .i64 0, .int .u64 0, .int .i64 0] 24))
  have HXL : Hid (w.heap.size < w2.heap.size) := HX2.out.lt
  have HE3 := Lib.hid (HEW.out.below HB3.out)
  have HZ : Hid (Below w2.heap.size w2 (w2.alloc (.cells #[.int .i64 sq, .int .i64 tm, .int .u8 cp, .int .u8 kd, .int .i64 0, .int .i64 0, .int .i64 0, .int .i64 0, .int .i64 0, .int .u64 0, .int .i64 0] 24))) := (Below.refl _ w2).alloc (Nat.le_refl _) _
  obtain ⟨_, fa, fc, hf1, hf2, hf3, hf4⟩ := HE3.out.kind HK1.out HK2.out
  obtain ⟨_, fa', fc', hf1', hf2', _, _⟩ := (HEW.out.below HB2.out).kind HK1.out HK2.out
  rw [HFS0.out] at hf1 hf2 hf1' hf2'
  rw [HN.out] at hf1 hf1'
  have hsame := hf1.symm.trans ((HZ.out.cell (p := ⟨0, 2 * kd + 1, none⟩) (Nat.lt_of_lt_of_le (Nat.lt_of_succ_lt HEW.out.1) HB2.out.size)).trans hf1')
  injection hsame with hsame
  injection hsame with hsa hsb hsc
  subst hsa
  have HFS : Hid (Seen w2 w2.heap.size .u8 fa fs) := hf2'
  have c1 : (w2.alloc (.cells #[.int .i64 sq, .int .i64 tm, .int .u8 cp, .int .u8 kd, .int .i64 0, .int .i64 0, .int .i64 0, .int .i64 0, .int .i64 0, .int .u64 0, .int .i64 0] 24)).cell? ⟨0, kd * 2 + 1, none⟩ = some (.slice fa n fc) := by rw [Nat.mul_comm]; exact hf1
  obtain ⟨y0, y1, y2, y3, y4, y5, y6, y7, y8, y9, y10⟩ := HX3.out.cells
  clear hf1 hf2 hf3 hf4 hf1' hf2' hsb hsc x0 x1 x2 x3 x4 x5 x6 x7 x8 x9 x10
  generalize w2.alloc (.cells #[.int .i64 sq, .int .i64 tm, .int .u8 cp, .int .u8 kd, .int .i64 0, .int .i64 0, .int .i64 0, .int .i64 0, .int .i64 0, .int .u64 0, .int .i64 0] 24) = W at HY HX3 HB3 HE3 HZ c1 y0 y1 y2 y3 y4 y5 y6 y7 y8 y9 y10 ⊢
  obtain ⟨bo, hbo⟩ : ∃ bo, w2.heap.size = bo := ⟨_, rfl⟩
  have HBO := Lib.hid hbo
  rw [hbo] at HY HXL ⊢
  clear hbo
  have HOW0 : Hid (EBox W bo sq tm cp kd (if 0 ∈ fs.take 0 then tk else 0) (if 1 ∈ fs.take 0 then gr else 0) (if 2 ∈ fs.take 0 then to_ else 0) (if 3 ∈ fs.take 0 then wg else 0) (if 4 ∈ fs.take 0 then tc else 0) (if 5 ∈ fs.take 0 then mk else 0) (if 6 ∈ fs.take 0 then gt else 0)) := by show EBox _ _ _ _ _ _ _ _ _ _ _ _ _; simp only [List.take_zero, List.not_mem_nil, if_false]; exact HY.out
  go_wp2
  go_loopw [14] (fun iv wr => ∃ k : Nat, k ≤ n ∧ iv = .int .i64 k ∧ Hid (EBox wr bo sq tm cp kd (if 0 ∈ fs.take k then tk else 0) (if 1 ∈ fs.take k then gr else 0) (if 2 ∈ fs.take k then to_ else 0) (if 3 ∈ fs.take k then wg else 0) (if 4 ∈ fs.take k then tc else 0) (if 5 ∈ fs.take k then mk else 0) (if 6 ∈ fs.take k then gt else 0)) ∧ Hid (Below w2.heap.size w2 wr)) (fun i _ => n - (intOf i).toNat)
  case atStart => exact ⟨0, Nat.zero_le _, rfl, HOW0, HZ⟩
  case round =>
    obtain ⟨k, hk, rfl, HOW, HBK⟩ := hrel
    clear y0 y1 y2 y3 y4 y5 y6 y7 y8 y9 y10 c1
    have HXR := Lib.hid (HX2.out.keep HBK.out)
    have HWR := Lib.hid (HB2.out.trans (HBK.out.mono HB2.out.size))
    obtain ⟨x0, x1, x2, x3, x4, x5, x6, x7, x8, x9, x10⟩ := HXR.out.cells
    by_cases hkn : k < n
    · obtain ⟨f, hf⟩ : ∃ f, fs[k]? = some f := ⟨_, List.getElem?_eq_getElem (by rw [HN.out]; exact hkn)⟩
      have HF7 : Hid (f < 7) := HFL.out f (List.mem_of_getElem? hf)
      obtain ⟨bf, of_, rfl, hbf, hcf⟩ := (HFS.out.below HBK.out) k f hf
      have hki : (k : Int) < (n : Int) := by omega
      obtain ⟨x, hx⟩ : ∃ x : Int, (if f = 5 then (mk : Int) else IntKind.u64.wrap (Ev.fld tk gr to_ wg tc mk gt f)) = x := ⟨_, rfl⟩
      have HXV := Lib.hid hx
      have hx0 : 0 ≤ x := by
        rw [← hx]
        split
        · omega
        · rw [IntKind.wrap_u64]; omega
      have e0 := Ev.step_int hf 0 tk (wrap64 x) (fun e => by subst e; rw [← hx]; exact Ev.wrap_back tk HI1.out.1 HI1.out.2)
      have e1 := Ev.step_int hf 1 gr (wrap64 x) (fun e => by subst e; rw [← hx]; exact Ev.wrap_back gr HI2.out.1 HI2.out.2)
      have e2 := Ev.step_int hf 2 to_ (wrap64 x) (fun e => by subst e; rw [← hx]; exact Ev.wrap_back to_ HI3.out.1 HI3.out.2)
      have e3 := Ev.step_int hf 3 wg (wrap64 x) (fun e => by subst e; rw [← hx]; exact Ev.wrap_back wg HI4.out.1 HI4.out.2)
      have e4 := Ev.step_int hf 4 tc (wrap64 x) (fun e => by subst e; rw [← hx]; exact Ev.wrap_back tc HI5.out.1 HI5.out.2)
      have e5 := Ev.step_nat hf 5 mk x.toNat (fun e => by subst e; rw [← hx]; rfl)
      have e6 := Ev.step_int hf 6 gt (wrap64 x) (fun e => by subst e; rw [← hx]; exact Ev.wrap_back gt HI6.out.1 HI6.out.2)
      have HST : Hid (∀ W2 : World, EBox W2 bo sq tm cp kd (if 0 ∈ fs.take k then tk else 0) (if 1 ∈ fs.take k then gr else 0) (if 2 ∈ fs.take k then to_ else 0) (if 3 ∈ fs.take k then wg else 0) (if 4 ∈ fs.take k then tc else 0) (if 5 ∈ fs.take k then mk else 0) (if 6 ∈ fs.take k then gt else 0) → EBox (W2.setCell ⟨bo, 4 + f, none⟩ (if f = 5 then .int .u64 x else .int .i64 (wrap64 x))) bo sq tm cp kd (if 0 ∈ fs.take (k + 1) then tk else 0) (if 1 ∈ fs.take (k + 1) then gr else 0) (if 2 ∈ fs.take (k + 1) then to_ else 0) (if 3 ∈ fs.take (k + 1) then wg else 0) (if 4 ∈ fs.take (k + 1) then tc else 0) (if 5 ∈ fs.take (k + 1) then mk else 0) (if 6 ∈ fs.take (k + 1) then gt else 0)) := fun W2 h => by
        have h' := h.put f HF7.out x hx0
        rw [e0, e1, e2, e3, e4, e5, e6] at h'
        exact h'
      clear hf hbf hx hx0 e0 e1 e2 e3 e4 e5 e6 hk
      go_wp2_with (first
        | (go_at_call 46; ((with_reducible refine (value_at sq tm cp kd tk gr to_ wg tc mk gt f HF7.out x HXV.out wr).mono ?_); rintro e w4 ⟨rfl, hb⟩; have HB4 := Lib.hid (HBK.out.trans (hb.mono HBK.out.size)); have HO4 := Lib.hid (HOW.out.keep hb); clear hb))
        | (go_at_call 48; ((with_reducible refine (put_any bo f HF7.out x w4 _ _ _ _ _ _ _ _ _ _ _ HO4.out).mono ?_); rintro e w5 ⟨⟨v, rfl⟩, rfl⟩)))
      exact ⟨⟨k + 1, hkn, rfl, HST.out _ HO4.out, HB4.out.setCell (p := ⟨bo, 4 + f, none⟩) (Nat.le_of_eq HBO.out) _⟩, by simp [intOf]; omega⟩
    · obtain rfl : n = k := by omega
      have HT : Hid (fs.take n = fs) := by show _ = _; rw [← HN.out, List.take_length]
      have HOW2 := HOW.out
      rw [HT.out] at HOW2
      have HR2 := HR.out
      obtain ⟨z0, z1, z2, z3, z4, z5, z6, z7, z8, z9, z10⟩ := HOW2.cells
      have heq : ∀ W2 : World, (Op.equalIn 10000 24 (.agg #[.int .i64 sq, .int .i64 tm, .int .u8 cp, .int .u8 kd, .int .i64 tk, .int .i64 gr, .int .i64 to_, .int .i64 wg, .int .i64 tc, .int .u64 mk, .int .i64 gt]) (.agg #[.int .i64 sq, .int .i64 tm, .int .u8 cp, .int .u8 kd, .int .i64 (if 0 ∈ fs then tk else 0), .int .i64 (if 1 ∈ fs then gr else 0), .int .i64 (if 2 ∈ fs then to_ else 0), .int .i64 (if 3 ∈ fs then wg else 0), .int .i64 (if 4 ∈ fs then tc else 0), .int .u64 ((if 5 ∈ fs then mk else 0 : Nat) : Int), .int .i64 (if 6 ∈ fs then gt else 0)])).run Tryd.prog W2 = .ok (!r) W2 := fun W2 => by
        rw [run_eq_ev, ← HR2]
        simp [Ev.other]
      clear hk hkn HOW2 HR2
      generalize (if 0 ∈ fs then tk else 0) = q0 at heq z4
      generalize (if 1 ∈ fs then gr else 0) = q1 at heq z5
      generalize (if 2 ∈ fs then to_ else 0) = q2 at heq z6
      generalize (if 3 ∈ fs then wg else 0) = q3 at heq z7
      generalize (if 4 ∈ fs then tc else 0) = q4 at heq z8
      generalize (if 5 ∈ fs then mk else 0) = q5 at heq z9
      generalize (if 6 ∈ fs then gt else 0) = q6 at heq z10
      go_wp2_with fail
      go_ret
      exact ⟨by simp, HWR.out⟩
end Go.Proofs.YtainjicbmjfnkaaDoor
