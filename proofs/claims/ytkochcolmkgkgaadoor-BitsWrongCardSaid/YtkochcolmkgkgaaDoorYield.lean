/-
  members: what it yields.
-/
import Derived.Test.YtkochcolmkgkgaaDoorBox
import Derived.Shelf.Abstract
import Derived.Shelf.RegionOpen
import Derived.RangeFuncNested
import Derived.RangeFuncBound
import Derived.RangeFuncCalls
import Derived.RangeFuncLeaves
import Derived.WalkSpells
import Derived.WalkMore
import Derived.Outline
import Derived.WalkLawsBesides
import Derived.Deep.Light
import Derived.TacticsInMore
import Derived.LoopIn
import Derived.LoopNIn
import Derived.OwnWalkIn
import Derived.RangeFuncBox
import Derived.BigRegionIn
namespace Go.Proofs.YtkochcolmkgkgaaDoor
open Go.RowKit
attribute [local go_sem] Oper.semAt_some
set_option linter.unusedVariables false

theorem grown_of_below {w w' : World} (h : Below w.heap.size w w') : w.grownBy w' none := ⟨h.os, h.tape, h.output, h.size, fun k hk _ => h.block k hk⟩
/-- Numbers below 65536. -/
def mF (x : Nat) : Fin 65536 := ⟨x % 65536, Nat.mod_lt _ (by decide)⟩
theorem mF_val {x : Nat} (h : x < 65536) : (mF x).val = x := Nat.mod_eq_of_lt h
theorem mF_vals {l : List Nat} (h : ∀ x ∈ l, x < 65536) : (l.map mF).map (fun d => d.val) = l := by
  rw [List.map_map]
  conv => rhs; rw [← List.map_id l]
  exact List.map_congr_left fun d hd => mF_val (h d hd)
abbrev encm (d : Fin 65536) : Array Value := #[.int .i64 d.val]
/-- Blocks below B are as they were. -/
def KB (B : Nat) (W W' : World) : Prop := ∀ k, k < B → W'.heap[k]? = W.heap[k]?
theorem KB.refl (B : Nat) (W : World) : KB B W W := fun _ _ => rfl
theorem KB.trans {B : Nat} {A C D : World} (h : KB B A C) (k : KB B C D) : KB B A D := fun i hi => (k i hi).trans (h i hi)
theorem KB.below {B n : Nat} {W W' : World} (h : Below n W W') (hB : B ≤ n) : KB B W W' := fun k hk => h.block k (by omega)
theorem KB.cell {B : Nat} {W W' : World} (h : KB B W W') {p : Addr} (hp : p.block < B) : W'.cell? p = W.cell? p := World.cell?_of_block (w := W) (h p.block hp)
theorem KB.seen {B : Nat} {W W' : World} (h : KB B W W') {k : IntKind} {a : Option Addr} {xs : List Nat} (hS : Seen W B k a xs) : Seen W' B k a xs := hS.keep fun p hp => h.cell hp
theorem KB.ht {B : Nat} {W W' : World} (h : KB B W W') (hB : 0 < B) (hT : HT W) : HT W' := fun i hi => (h.cell (p := ⟨0, i, none⟩) hB).trans (hT i hi)

section
variable (N : Nat) (a : Option Addr) (n c : Nat) (xs : List Nat) (hn : xs.length = n) (hR : Bm.Rt N xs) (w : World) (B : Nat) (hS : Seen w B .u64 a xs) (hT : HT w) (hB0 : 0 < B) (b : Nat) (hbx : Box w b (.int .i64 N) (.slice a n c)) (hB : B ≤ w.heap.size)
include hn hR hS hT hB0 hbx hB

set_option maxRecDepth 100000 in
set_option maxHeartbeats 8000000 in
theorem members_stops :
    SeqStopsK Fence.wide 8 Tryd.prog 71 #[.pointer (some ⟨b, 0, none⟩)] encm (KB B) (fun l => l = (Bm.ml (Bm.val xs) N).map mF) (fun _ => True) (Bm.cnt (Bm.val xs) N) w := fun l J Jx W hW hJ hJx hY h0 => by
  have HBX : Hid (Box W b (.int .i64 N) (.slice a n c)) := hbx.keep hW
  have HSW : Hid (Seen W B .u64 a xs) := hS.below (hW.mono hB)
  have HTW : Hid (HT W) := hT.below hW (by omega)
  have HBW : Hid (B ≤ W.heap.size) := Nat.le_trans hB hW.size
  have HB0 := Lib.hid hB0
  have HR : Hid (Bm.Rt N xs) := hR
  have HN := Lib.hid hn
  have hn1 : (n : Int) ≤ 1024 := by have := hR.2.1; have := hR.1; omega
  obtain ⟨c0, c1, c2, c3⟩ := HBX.out.cells
  have hbW := HBX.out.lt
  clear hn hR hS hT hB0 hbx hB
  refine callsIn_of_wp Tryd.func71 rfl trivial ?_ rfl
  simp only [Tryd.ntmps71, List.size_toArray, List.length_cons, List.length_nil, Nat.reduceAdd, Nat.reduceSub, Array.replicate_succ, Array.replicate_zero, List.push_toArray, List.append_toArray, List.nil_append, List.cons_append]
  gi_wp2_with (refine ⟨trivial, ?_⟩; gi_at_call 34; (with_reducible refine (callsIn_wide.2 (right_yes N a n c xs HN.out HR.out W B HSW.out HBW.out)).mono ?_); rintro e w2 ⟨rfl, hb2⟩; obtain ⟨d0, d1, d2, d3⟩ := (HBX.out.keep hb2).cells; have HJ0 : Hid (J [] w2) := hJ [] W w2 none h0 (grown_of_below hb2) (fun r e => by cases e); have HK0 : Hid (KB B W w2) := KB.below hb2 HBW.out; clear hb2)
  clear h0 c0 c1 c2 c3 d0 d1 d2 d3
  gi_loopw [11] (fun iv wr => ∃ t : Nat, t ≤ n ∧ iv = .int .i64 t ∧ Hid (J ((Bm.ml (Bm.val xs) (64 * t)).map mF) wr) ∧ Hid (KB B W wr)) (fun i _ => n - (intOf i).toNat)
  case atStart => exact ⟨0, Nat.zero_le _, rfl, HJ0, HK0⟩
  case round =>
    obtain ⟨t, ht, rfl, HJt, HK⟩ := hrel
    by_cases htn : t < n
    · have htl : t < xs.length := by rw [HN.out]; exact htn
      obtain ⟨b1, off, rfl, hb1, hcell⟩ := (HK.out.seen HSW.out).at htl
      obtain ⟨z, hz⟩ : ∃ z, xs[t] = z := ⟨_, rfl⟩
      rw [hz] at hcell
      have hz64 : z < 2 ^ 64 := by rw [← hz]; exact HR.out.2.2.1 _ (List.getElem_mem _)
      have HZ64 := Lib.hid hz64
      have HXZ : Hid (xs[t]? = some z) := by show _ = _; rw [List.getElem?_eq_getElem htl, hz]
      have HML := Lib.hid (Bm.ml_word xs HR.out.2.2.1 t z HXZ.out)
      have HCL : Hid (Bm.cnt (Bm.val xs) (64 * t) + Bm.cnt z 64 ≤ Bm.cnt (Bm.val xs) N) := by
        show _ ≤ _
        rw [← Bm.cnt_whole HR.out, ← Bm.cnt_word xs HR.out.2.2.1 t 64 (Nat.le_refl _) z HXZ.out]
        exact Bm.cnt_mono _ (by omega)
      have ht1 : (t : Int) < 1024 := by omega
      clear hz hz64 htl hb1
      gi_wp2
      gi_loopw [4] (fun zv wq => ∃ j y : Nat, zv = .int .u64 y ∧ Hid (y < 2 ^ 64) ∧ Hid (Bm.ml y 64 = (Bm.ml z 64).drop j) ∧ Hid (j ≤ Bm.cnt z 64) ∧ Hid (J ((Bm.ml (Bm.val xs) (64 * t) ++ ((Bm.ml z 64).take j).map (64 * t + ·)).map mF) wq) ∧ Hid (KB B W wq)) (fun zv _ => (Bm.ml (intOf zv).toNat 64).length)
      case atStart => exact ⟨0, z, rfl, HZ64.out, rfl, Nat.zero_le _, by show J _ _; rw [List.take_zero, List.map_nil, List.append_nil]; exact HJt.out, HK.out⟩
      case round =>
        obtain ⟨j, y, rfl, HY, HD, HJL, HJq, HKq⟩ := hrel
        by_cases hy0 : y = 0
        · have hyb : ((y : Int) != 0) = false := by simp; omega
          have HE : Hid (J ((Bm.ml (Bm.val xs) (64 * (t + 1))).map mF) wr) := by
            have h1 := HD.out
            rw [hy0, (Bm.ml_none 0 (by decide)).2 rfl] at h1
            have h2 := congrArg List.length h1
            rw [List.length_drop, List.length_nil] at h2
            have h3 := HJq.out
            rw [List.take_of_length_le (by omega)] at h3
            show J _ _
            rw [HML.out]; exact h3
          clear hy0
          gi_wp2
          exact ⟨⟨t + 1, htn, rfl, HE, HKq⟩, by simp [intOf]; omega⟩
        · have hyb : ((y : Int) != 0) = true := by simp; omega
          have HY0 := Lib.hid hy0
          have HJC : Hid (j < Bm.cnt z 64) := by
            show _ < _
            have h2 := congrArg List.length HD.out
            rw [List.length_drop, Bm.ml_length z] at h2
            have h3 : Bm.ml y 64 ≠ [] := fun h => hy0 ((Bm.ml_none y HY.out).1 h)
            have h4 : 0 < (Bm.ml y 64).length := List.length_pos_iff.2 h3
            omega
          obtain ⟨_, hy1, hy2⟩ := Bm.drop_wl HZ64.out HY.out HD.out HJC.out
          obtain ⟨o, ho⟩ : ∃ o, Lib.ctz 64 y = o := ⟨_, rfl⟩
          rw [ho] at hy2
          have HO := Lib.hid ho
          have ho64 : o < 64 := (Bm.ml_at.1 hy2).1
          have hoi : (o : Int) < 64 := by omega
          obtain ⟨x, hx⟩ : ∃ x, 64 * t + o = x := ⟨_, rfl⟩
          have hxi : (t : Int) * 64 + (o : Int) = (x : Int) := by omega
          have hx6 : x < 65536 := by omega
          have HTK : Hid ((Bm.ml (Bm.val xs) (64 * t) ++ ((Bm.ml z 64).take (j + 1)).map (64 * t + ·)).map mF = (Bm.ml (Bm.val xs) (64 * t) ++ ((Bm.ml z 64).take j).map (64 * t + ·)).map mF ++ [mF x]) := by
            show _ = _
            rw [List.take_add_one, hy2, Option.toList_some, List.map_append, List.map_append, List.map_append, List.map_append, List.append_assoc]
            simp [hx]
          have HLE : Hid (((Bm.ml (Bm.val xs) (64 * t) ++ ((Bm.ml z 64).take j).map (64 * t + ·)).map mF).length < Bm.cnt (Bm.val xs) N) := by
            show _ < _
            rw [List.length_map, List.length_append, List.length_map, List.length_take, Bm.ml_length, Bm.ml_length]
            have := HJC.out
            have := HCL.out
            omega
          obtain ⟨fn, tmps, assign, body, hyl, hRR⟩ := hY _ (mF x) wr HJq.out HLE.out
          dsimp only [encm] at hyl
          rw [mF_val hx6] at hyl
          obtain ⟨v, hv⟩ : ∃ v, Bm.wl y = v := ⟨_, rfl⟩
          have HV := Lib.hid hv
          have HVL : Hid (v < 2 ^ 64) := by show _ < _; rw [← hv]; exact Bm.wl_lt HY.out
          have HVD : Hid (Bm.ml v 64 = (Bm.ml z 64).drop (j + 1)) := by show _ = _; rw [← hv]; exact hy1
          have HTq : Hid (HT wr) := HKq.out.ht HB0.out HTW.out
          clear ho hy0 hy1 hy2 ho64 hx hx6 hv
          gi_wp2_with (refine ⟨trivial, ?_⟩; gi_at_call 59; (with_reducible refine (callsIn_wide.2 (least_any y o HY.out HY0.out HO.out _ HTq.out)).mono ?_); rintro e w4 ⟨rfl, rfl⟩)
          refine hRR.mono ?_
          rintro e W3 (⟨rfl, hJ3, hk3⟩ | ⟨rfl, hJx3⟩)
          · gi_wp2_with (refine ⟨trivial, ?_⟩; gi_at_call 58; (with_reducible refine (callsIn_wide.2 (without_any y v HY.out HY0.out HV.out _)).mono ?_); rintro e w5 ⟨rfl, rfl⟩)
            have hlen : (Bm.ml v 64).length < (Bm.ml y 64).length := by
              have h1 := congrArg List.length HVD.out
              have h2 := congrArg List.length HD.out
              rw [List.length_drop] at h1 h2
              have := HJC.out
              rw [Bm.ml_length z] at h1 h2
              omega
            exact ⟨⟨j + 1, v, rfl, HVL, HVD, HJC.out, by show J _ _; rw [HTK.out]; exact hJ3, HKq.out.trans hk3⟩, by simpa [intOf] using hlen⟩
          · gi_wp2
            refine bodyPost_ret (results_none rfl _ _ _) rfl ?_
            exact ⟨⟨_, rfl⟩, .inr ⟨_, trivial, hJx3⟩⟩
    · obtain rfl : n = t := by omega
      have HE : Hid (J ((Bm.ml (Bm.val xs) N).map mF) wr) := by
        have h := HJt.out
        rw [Bm.ml_past HR.out.2.2.2 (by have := HN.out; have := HR.out.2.1; omega)] at h
        exact h
      clear htn
      gi_wp2
      go_end0
      exact ⟨⟨_, rfl⟩, .inl ⟨_, rfl, HE.out⟩⟩
end
end Go.Proofs.YtkochcolmkgkgaaDoor
