/-
  With: what it makes; the errors.
-/
import Derived.Test.YtainjicbmjfnkaaDoorValues
namespace Go.Proofs.YtainjicbmjfnkaaDoor
open Go.RowKit
set_option linter.unusedVariables false

namespace Ev
/-- What was put last into a field. -/
def acc (l : List (Nat × Nat)) (j : Nat) : Option Nat := l.foldl (fun r p => if p.1 = j then some p.2 else r) none
def geti (l : List (Nat × Nat)) (j : Nat) : Int := match acc l j with | some x => wrap64 x | none => 0
def getn (l : List (Nat × Nat)) (j : Nat) : Nat := match acc l j with | some x => x | none => 0
theorem acc_snoc (l : List (Nat × Nat)) (f x j : Nat) : acc (l ++ [(f, x)]) j = if f = j then some x else acc l j := by unfold acc; rw [List.foldl_append]; rfl
theorem geti_snoc (l : List (Nat × Nat)) (f x j : Nat) : (if f = j then wrap64 (x : Int) else geti l j) = geti (l ++ [(f, x)]) j := by
  unfold geti
  rw [acc_snoc]
  by_cases h : f = j
  · rw [if_pos h, if_pos h]
  · rw [if_neg h, if_neg h]
theorem getn_snoc (l : List (Nat × Nat)) (f x j : Nat) : (if f = j then ((x : Int)).toNat else getn l j) = getn (l ++ [(f, x)]) j := by
  unfold getn
  rw [acc_snoc]
  by_cases h : f = j
  · rw [if_pos h, if_pos h, Int.toNat_natCast]
  · rw [if_neg h, if_neg h]
theorem zip_snoc {fs vs : List Nat} {k f x : Nat} (hf : fs[k]? = some f) (hx : vs[k]? = some x) : (fs.zip vs).take (k + 1) = (fs.zip vs).take k ++ [(f, x)] := by
  have h : (fs.zip vs)[k]? = some (f, x) := by rw [List.getElem?_zip_eq_some]; exact ⟨hf, hx⟩
  rw [List.take_add_one, h]; rfl
end Ev
theorem EBox.one {w : World} {b : Nat} {cs : Array Value} (h : w.heap[b]? = some (.cells cs 24)) (i : Nat) (v : Value) : (w.setCell ⟨b, i, none⟩ v).heap[b]? = some (.cells (cs.setIfInBounds i v) 24) := by
  unfold World.setCell
  show (Array.modify _ _ _)[b]? = _
  rw [Array.getElem?_modify, if_pos rfl, h]
  rfl
/-- The event that a box got. -/
theorem EBox.setAll {w : World} {b : Nat} {sq tm : Int} {cp kd : Nat} {tk gr to_ wg tc : Int} {mk : Nat} {gt : Int} (h : EBox w b sq tm cp kd tk gr to_ wg tc mk gt) (s0 s1 : Int) (s2 s3 : Nat) (s4 s5 s6 s7 s8 : Int) (s9 : Nat) (s10 : Int) : EBox (((((((((((w.setCell ⟨b, 0, none⟩ (.int .i64 s0)).setCell ⟨b, 1, none⟩ (.int .i64 s1)).setCell ⟨b, 2, none⟩ (.int .u8 s2)).setCell ⟨b, 3, none⟩ (.int .u8 s3)).setCell ⟨b, 4, none⟩ (.int .i64 s4)).setCell ⟨b, 5, none⟩ (.int .i64 s5)).setCell ⟨b, 6, none⟩ (.int .i64 s6)).setCell ⟨b, 7, none⟩ (.int .i64 s7)).setCell ⟨b, 8, none⟩ (.int .i64 s8)).setCell ⟨b, 9, none⟩ (.int .u64 s9)).setCell ⟨b, 10, none⟩ (.int .i64 s10)) b s0 s1 s2 s3 s4 s5 s6 s7 s8 s9 s10 := by
  unfold EBox at *
  have h0 := EBox.one h 0 (.int .i64 s0)
  have h1 := EBox.one h0 1 (.int .i64 s1)
  have h2 := EBox.one h1 2 (.int .u8 s2)
  have h3 := EBox.one h2 3 (.int .u8 s3)
  have h4 := EBox.one h3 4 (.int .i64 s4)
  have h5 := EBox.one h4 5 (.int .i64 s5)
  have h6 := EBox.one h5 6 (.int .i64 s6)
  have h7 := EBox.one h6 7 (.int .i64 s7)
  have h8 := EBox.one h7 8 (.int .i64 s8)
  have h9 := EBox.one h8 9 (.int .u64 s9)
  have h10 := EBox.one h9 10 (.int .i64 s10)
  simpa using h10
theorem below_setAll {B : Nat} {w0 w : World} (h : Below B w0 w) {b : Nat} (hb : B ≤ b) (s0 s1 : Int) (s2 s3 : Nat) (s4 s5 s6 s7 s8 : Int) (s9 : Nat) (s10 : Int) : Below B w0 (((((((((((w.setCell ⟨b, 0, none⟩ (.int .i64 s0)).setCell ⟨b, 1, none⟩ (.int .i64 s1)).setCell ⟨b, 2, none⟩ (.int .u8 s2)).setCell ⟨b, 3, none⟩ (.int .u8 s3)).setCell ⟨b, 4, none⟩ (.int .i64 s4)).setCell ⟨b, 5, none⟩ (.int .i64 s5)).setCell ⟨b, 6, none⟩ (.int .i64 s6)).setCell ⟨b, 7, none⟩ (.int .i64 s7)).setCell ⟨b, 8, none⟩ (.int .i64 s8)).setCell ⟨b, 9, none⟩ (.int .u64 s9)).setCell ⟨b, 10, none⟩ (.int .i64 s10)) :=
  (((((((((((h.setCell (p := ⟨b, 0, none⟩) hb _).setCell (p := ⟨b, 1, none⟩) hb _).setCell (p := ⟨b, 2, none⟩) hb _).setCell (p := ⟨b, 3, none⟩) hb _).setCell (p := ⟨b, 4, none⟩) hb _).setCell (p := ⟨b, 5, none⟩) hb _).setCell (p := ⟨b, 6, none⟩) hb _).setCell (p := ⟨b, 7, none⟩) hb _).setCell (p := ⟨b, 8, none⟩) hb _).setCell (p := ⟨b, 9, none⟩) hb _).setCell (p := ⟨b, 10, none⟩) hb _)
set_option maxRecDepth 100000 in
set_option maxHeartbeats 1000000 in
theorem with_kind (sq tm : Int) (cp kd : Nat) (tk gr to_ wg tc : Int) (mk : Nat) (gt : Int) (hkd : kd < 256) (hk : ¬ (1 ≤ kd ∧ kd ≤ 10)) (a : Option Addr) (m c : Nat) (w : World) : Calls Tryd.prog 19 #[.agg #[.int .i64 sq, .int .i64 tm, .int .u8 cp, .int .u8 kd, .int .i64 tk, .int .i64 gr, .int .i64 to_, .int .i64 wg, .int .i64 tc, .int .u64 mk, .int .i64 gt], .slice a m c] w fun e w' => e = .returned (.tuple #[.agg #[.int .i64 0, .int .i64 0, .int .u8 0, .int .u8 0, .int .i64 0, .int .i64 0, .int .i64 0, .int .i64 0, .int .i64 0, .int .u64 0, .int .i64 0], .int .i64 60]) ∧ Below w.heap.size w w' := by
  have HX := Lib.hid (EBox.new w sq tm cp kd tk gr to_ wg tc mk gt)
  have HXB := Lib.hid (HX.out.alloc (.cells #[.int .i64 0, .int .i64 0, .int .u8 0, .int .u8 0, .int .i64 0, .int .i64 0, .int .i64 0, .int .i64 0, .int .i64 0, .int .u64 0, .int .i64 0] 24))
  have HB := Lib.hid (((Below.refl w.heap.size w).alloc (Nat.le_refl _) (.cells #[.int .i64 sq, .int .i64 tm, .int .u8 cp, .int .u8 kd, .int .i64 tk, .int .i64 gr, .int .i64 to_, .int .i64 wg, .int .i64 tc, .int .u64 mk, .int .i64 gt] 24)).alloc (by simp) (.cells #[.int .i64 0, .int .i64 0, .int .u8 0, .int .u8 0, .int .i64 0, .int .i64 0, .int .i64 0, .int .i64 0, .int .i64 0, .int .u64 0, .int .i64 0] 24))
  have hz : (w.alloc (.cells #[.int .i64 sq, .int .i64 tm, .int .u8 cp, .int .u8 kd, .int .i64 tk, .int .i64 gr, .int .i64 to_, .int .i64 wg, .int .i64 tc, .int .u64 mk, .int .i64 gt] 24)).heap.size = w.heap.size + 1 := by simp
  have HY := EBox.new (w.alloc (.cells #[.int .i64 sq, .int .i64 tm, .int .u8 cp, .int .u8 kd, .int .i64 tk, .int .i64 gr, .int .i64 to_, .int .i64 wg, .int .i64 tc, .int .u64 mk, .int .i64 gt] 24)) 0 0 0 0 0 0 0 0 0 0 0
  rw [hz] at HY
  have HY' := Lib.hid HY
  clear hz HY
  have HR : Hid (decide (1 ≤ kd ∧ kd ≤ 10) = false) := by show _ = _; rw [decide_eq_false_iff_not]; exact hk
  have HKD := Lib.hid hkd
  clear hk hkd
  obtain ⟨x0, x1, x2, x3, x4, x5, x6, x7, x8, x9, x10⟩ := HXB.out.cells
  go_enter Tryd.func19, Tryd.ntmps19
  go_wp2_with (go_at_call 43; ((with_reducible refine (known_any kd HKD.out false HR.out _).mono ?_); rintro e w' ⟨rfl, rfl⟩))
  obtain ⟨y0, y1, y2, y3, y4, y5, y6, y7, y8, y9, y10⟩ := HY'.out.cells
  refine bodyPost_ret (v := .tuple #[.agg #[.int .i64 0, .int .i64 0, .int .u8 0, .int .u8 0, .int .i64 0, .int .i64 0, .int .i64 0, .int .i64 0, .int .i64 0, .int .u64 0, .int .i64 0], .int .i64 60]) ?_ rfl ⟨rfl, HB.out⟩
  simp [results, Tryd.results19, go_sem]
set_option maxRecDepth 100000 in
set_option maxHeartbeats 2000000 in
theorem with_len (sq tm : Int) (cp kd : Nat) (tk gr to_ wg tc : Int) (mk : Nat) (gt : Int) (hkd : kd < 256) (hk1 : 1 ≤ kd) (hk2 : kd ≤ 10) (a : Option Addr) (m c : Nat) (hm : m ≠ (Ev.kfs kd).length) (w : World) (hE : Ev.HE w) : Calls Tryd.prog 19 #[.agg #[.int .i64 sq, .int .i64 tm, .int .u8 cp, .int .u8 kd, .int .i64 tk, .int .i64 gr, .int .i64 to_, .int .i64 wg, .int .i64 tc, .int .u64 mk, .int .i64 gt], .slice a m c] w fun e w' => e = .returned (.tuple #[.agg #[.int .i64 0, .int .i64 0, .int .u8 0, .int .u8 0, .int .i64 0, .int .i64 0, .int .i64 0, .int .i64 0, .int .i64 0, .int .u64 0, .int .i64 0], .int .i64 2]) ∧ Below w.heap.size w w' := by
  have HX := Lib.hid (EBox.new w sq tm cp kd tk gr to_ wg tc mk gt)
  have HXB := Lib.hid (HX.out.alloc (.cells #[.int .i64 0, .int .i64 0, .int .u8 0, .int .u8 0, .int .i64 0, .int .i64 0, .int .i64 0, .int .i64 0, .int .i64 0, .int .u64 0, .int .i64 0] 24))
  have HB := Lib.hid (((Below.refl w.heap.size w).alloc (Nat.le_refl _) (.cells #[.int .i64 sq, .int .i64 tm, .int .u8 cp, .int .u8 kd, .int .i64 tk, .int .i64 gr, .int .i64 to_, .int .i64 wg, .int .i64 tc, .int .u64 mk, .int .i64 gt] 24)).alloc (by simp) (.cells #[.int .i64 0, .int .i64 0, .int .u8 0, .int .u8 0, .int .i64 0, .int .i64 0, .int .i64 0, .int .i64 0, .int .i64 0, .int .u64 0, .int .i64 0] 24))
  have hz : (w.alloc (.cells #[.int .i64 sq, .int .i64 tm, .int .u8 cp, .int .u8 kd, .int .i64 tk, .int .i64 gr, .int .i64 to_, .int .i64 wg, .int .i64 tc, .int .u64 mk, .int .i64 gt] 24)).heap.size = w.heap.size + 1 := by simp
  have HY := EBox.new (w.alloc (.cells #[.int .i64 sq, .int .i64 tm, .int .u8 cp, .int .u8 kd, .int .i64 tk, .int .i64 gr, .int .i64 to_, .int .i64 wg, .int .i64 tc, .int .u64 mk, .int .i64 gt] 24)) 0 0 0 0 0 0 0 0 0 0 0
  rw [hz] at HY
  have HY' := Lib.hid HY
  clear hz HY
  have HR : Hid (decide (1 ≤ kd ∧ kd ≤ 10) = true) := by show _ = _; rw [decide_eq_true_eq]; exact ⟨hk1, hk2⟩
  have HKD := Lib.hid hkd
  obtain ⟨_, fa, fc, hf1, hf2, hf3, hf4⟩ := (hE.below HB.out).kind hk1 hk2
  obtain ⟨n, hn⟩ : ∃ n, (Ev.kfs kd).length = n := ⟨_, rfl⟩
  rw [hn] at hf1 hm
  have hmn1 : ((m : Int) == (n : Int)) = false := by simp; omega
  have hmn2 : (m == n) = false := by simp; exact hm
  have hkdi : (kd : Int) < 11 := by omega
  have c1 : ((w.alloc (.cells #[.int .i64 sq, .int .i64 tm, .int .u8 cp, .int .u8 kd, .int .i64 tk, .int .i64 gr, .int .i64 to_, .int .i64 wg, .int .i64 tc, .int .u64 mk, .int .i64 gt] 24)).alloc (.cells #[.int .i64 0, .int .i64 0, .int .u8 0, .int .u8 0, .int .i64 0, .int .i64 0, .int .i64 0, .int .i64 0, .int .i64 0, .int .u64 0, .int .i64 0] 24)).cell? ⟨0, kd * 2 + 1, none⟩ = some (.slice fa n fc) := by rw [Nat.mul_comm]; exact hf1
  clear hk1 hk2 hkd hE hf1 hf2 hf3 hf4 hn hm
  obtain ⟨x0, x1, x2, x3, x4, x5, x6, x7, x8, x9, x10⟩ := HXB.out.cells
  go_enter Tryd.func19, Tryd.ntmps19
  go_wp2_with (go_at_call 43; ((with_reducible refine (known_any kd HKD.out true HR.out _).mono ?_); rintro e w' ⟨rfl, rfl⟩))
  obtain ⟨y0, y1, y2, y3, y4, y5, y6, y7, y8, y9, y10⟩ := HY'.out.cells
  refine bodyPost_ret (v := .tuple #[.agg #[.int .i64 0, .int .i64 0, .int .u8 0, .int .u8 0, .int .i64 0, .int .i64 0, .int .i64 0, .int .i64 0, .int .i64 0, .int .u64 0, .int .i64 0], .int .i64 2]) ?_ rfl ⟨rfl, HB.out⟩
  simp [results, Tryd.results19, go_sem]
end Go.Proofs.YtainjicbmjfnkaaDoor
