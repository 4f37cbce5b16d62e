/-
  slots: what it yields.
-/
import Derived.Test.YtljodpdplmhdnaaBoxS
import Derived.Shelf.Abstract
import Derived.Shelf.RegionOpen
import Derived.RangeFuncNested
import Derived.RangeFuncBound
import Derived.RangeFuncCalls
import Derived.RangeFuncLeaves
import Derived.WalkSpells
import Derived.WalkMore
import Derived.Outline
import Derived.WalkLawsBesides
import Derived.Deep.Light
import Derived.TacticsInMore
import Derived.LoopIn
import Derived.LoopNIn
import Derived.OwnWalkIn
import Derived.BigRegionIn
import Derived.Stop.RegionWithIn
namespace Go.Proofs.Ytljodpdplmhdnaa
namespace RS
open Go.RowKit
attribute [local go_sem] Oper.semAt_some
set_option linter.unusedVariables false

theorem slots_any (B n : Nat) (w : World) :
    Calls Try.prog 64 #[.pointer (some ⟨B, 0, none⟩), .int .i64 n] w fun e w' => e = .returned (.func (.func 68) #[] #[.pointer (some ⟨w.heap.size + 1, 0, none⟩), .pointer (some ⟨w.heap.size, 0, none⟩)]) ∧ w' = (w.alloc (.cells #[.pointer (some ⟨B, 0, none⟩)] 69)).alloc (.cells #[.int .i64 n] 3) := by
  go_enter Try.func64, Try.ntmps64
  go_wp2
  go_ret
  exact ⟨rfl, rfl⟩
abbrev encR (ps : Nat → RV) (L f : Nat) (i : Nat) : Array Value := #[.agg #[.string ((ps ((f + i) % L)).1), .int .i64 (ps ((f + i) % L)).2]]
/-- The blocks that an iterator over a ring reads. -/
def SS (B : Nat) (a : Option Addr) (br bn : Nat) (k : Nat) : Prop := RS B a k ∨ k = br ∨ k = bn
theorem below_of_drew {W w' : World} (h : Below W.drew.heap.size W.drew w') : Below W.heap.size W w' := ⟨h.os, h.tape, h.output, h.size, h.block⟩
theorem ks_boxed {S : Nat → Prop} {W W' : World} {b : Nat} {t : TypeId} {v : Value} (h : Boxed W b t v) (hk : KS S W W') (hs : S b) : Boxed W' b t v := (hk b hs).trans h

set_option maxRecDepth 100000 in
set_option maxHeartbeats 4000000 in
theorem slots_stops (w : World) (B : Nat) (a : Option Addr) (L : Nat) (ps : Nat → RV) (cap f n0 op ac rf : Nat) (hA : At w B a L ps cap f n0 op ac rf) (n : Nat) (hn : n ≤ n0) (br bn : Nat) (hbr : Boxed w br 69 (.pointer (some ⟨B, 0, none⟩))) (hbn : Boxed w bn 3 (.int .i64 n)) :
    SeqStopsK Fence.wide 8 Try.prog 68 #[.pointer (some ⟨bn, 0, none⟩), .pointer (some ⟨br, 0, none⟩)] (encR ps L f) (KS (SS B a br bn)) (fun l => l = List.range n) (fun _ => True) n w := fun l J Jx W hW hJ hJx hY h0 => by
  have HA : Hid (At W B a L ps cap f n0 op ac rf) := hA.below hW
  have HBR : Hid (Boxed W br 69 (.pointer (some ⟨B, 0, none⟩))) := (hW.block br hbr.lt).trans hbr
  have HBN : Hid (Boxed W bn 3 (.int .i64 n)) := (hW.block bn hbn.lt).trans hbn
  have HN := Lib.hid hn
  have hni : (n : Int) ≤ 65536 := by have := hA.hn; have := hA.hL; have := hA.capM; omega
  have cbn := HBN.out.cell
  have H0 := Lib.hid h0
  clear hA hn hbr hbn h0
  refine callsIn_of_wp Try.func68 rfl trivial ?_ rfl
  simp only [Try.ntmps68, List.size_toArray, List.length_cons, List.length_nil, Nat.reduceAdd, Nat.reduceSub, Array.replicate_succ, Array.replicate_zero, List.push_toArray, List.append_toArray, List.nil_append, List.cons_append]
  gi_wp2
  clear cbn
  gi_loopw [6] (fun iv wr => ∃ t : Nat, t ≤ n ∧ iv = .int .i64 t ∧ Hid (J (List.range t) wr) ∧ Hid (KS (SS B a br bn) W wr)) (fun i _ => n - (intOf i).toNat)
  case atStart => exact ⟨0, Nat.zero_le _, rfl, H0, KS.refl _ _⟩
  case round =>
    obtain ⟨t, ht, rfl, HJt, HK⟩ := hrel
    by_cases htn : t < n
    · have HR : Hid (At wr B a L ps cap f n0 op ac rf) := HA.out.same fun k hk => HK.out k (.inl hk)
      have HBRr : Hid (Boxed wr br 69 (.pointer (some ⟨B, 0, none⟩))) := ks_boxed HBR.out HK.out (.inr (.inl rfl))
      have cbr := HBRr.out.cell
      obtain ⟨c0, c1, c2, c3, c4, c5, c6⟩ := HR.out.box.cells
      obtain ⟨P, rfl, HPB, HP⟩ : ∃ P, a = some ⟨P, 0, none⟩ ∧ Hid (P ≠ B) ∧ Hid (PAt wr 77 P L ps) := by
        rcases HR.out.pl with ⟨h, _⟩ | ⟨_, P, h1, h2, h3⟩
        · have := HR.out.hn; have := HN.out; omega
        · exact ⟨P, h1, h2, h3⟩
      have HL0 : Hid (0 < L) := by show _ < _; have := HR.out.hn; have := HN.out; omega
      have HLI : Hid ((L : Int) ≤ 65536) := by show _ ≤ _; have := HR.out.hL; have := HR.out.capM; omega
      have HFI : Hid ((f : Int) ≤ 65536) := by show _ ≤ _; have := HR.out.hf; have := HLI.out; omega
      have HTI : Hid ((t : Int) ≤ 65536) := by show _ ≤ _; omega
      obtain ⟨j, hj⟩ : ∃ j, (f + t) % L = j := ⟨_, rfl⟩
      have HJ : Hid ((f + t) % L = j) := hj
      have hjL : j < L := by rw [← hj]; exact Nat.mod_lt _ HL0.out
      have hjI : (j : Int) < (L : Int) := by omega
      have hjI0 : (0 : Int) ≤ (j : Int) := by omega
      obtain ⟨p0, p1, _, _⟩ := HP.out.at hjL
      have HLE : Hid ((List.range t).length < n) := by show _ < _; rw [List.length_range]; exact htn
      have HSN : Hid (List.range (t + 1) = List.range t ++ [t]) := List.range_succ
      clear hj
      have d1 : wr.drew.cell? ⟨B, 1, none⟩ = some (.slice (some ⟨P, 0, none⟩) L L) := c1
      have d2 : wr.drew.cell? ⟨B, 2, none⟩ = some (.int .i64 f) := c2
      gi_wp2
      gi_region_with (first
        | (refine ⟨trivial, ?_⟩; gi_at_call 58; (with_reducible refine (callsIn_wide.2 (place_any _ B _ L f HL0.out HLI.out HFI.out d1 d2 t HTI.out j HJ.out)).mono ?_); rintro e w4 ⟨rfl, hb4'⟩; have hb4 := below_of_drew hb4'; have HB4 := Lib.hid hb4; have HR4 := Lib.hid (HR.out.below hb4); have HP4 := Lib.hid (HP.out.same (hb4.block P HP.out.lt)); have HBR4 : Hid (Boxed w4 br 69 (.pointer (some ⟨B, 0, none⟩))) := (hb4.block br HBRr.out.lt).trans HBRr.out; have cbr4 := HBR4.out.cell; obtain ⟨q0, q1, q2, q3, q4, q5, q6⟩ := HR4.out.box.cells; obtain ⟨r0, r1, _, _⟩ := HP4.out.at hjL; have HJ4 : Hid (J (List.range t) w4) := hJ (List.range t) wr w4 none HJt.out (grown_of_below hb4) (fun r e => by cases e); clear hb4' hb4; obtain ⟨fn, tmps, assign, body, hyl, hRR⟩ := hY _ t w4 HJ4.out HLE.out; dsimp only [encR] at hyl; rw [HJ.out] at hyl)
        | (refine hRR.mono ?_; rintro e W3 hor; obtain ⟨b, rfl, hb1, hb2⟩ : ∃ b : Bool, e = .returned (.bool b) ∧ Hid (b = true → J (List.range t ++ [t]) W3 ∧ KS (SS B (some ⟨P, 0, none⟩) br bn) w4 W3) ∧ Hid (b = false → Jx (List.range t ++ [t]) W3) := (by rcases hor with ⟨rfl, h1, h2⟩ | ⟨rfl, h1⟩; exact ⟨true, rfl, Lib.hid (fun (_ : true = true) => ⟨h1, h2⟩), Lib.hid (fun (h : true = false) => Bool.noConfusion h)⟩; exact ⟨false, rfl, Lib.hid (fun (h : false = true) => Bool.noConfusion h), Lib.hid (fun (_ : false = false) => h1)⟩); clear hor))
      all_goals
        cases b with
        | true =>
          obtain ⟨hJ3, hk3⟩ := hb1.out rfl
          gi_wp2
          exact ⟨⟨t + 1, htn, rfl, by show J _ _; rw [HSN.out]; exact hJ3, (HK.out.trans (KS.below HB4.out (fun k hk => by rcases hk with hk | rfl | rfl; exact HR.out.size k hk; exact HBRr.out.lt; exact (ks_boxed HBN.out HK.out (.inr (.inr rfl))).lt))).trans hk3⟩, by simp [intOf]; omega⟩
        | false =>
          have hJx3 := hb2.out rfl
          gi_wp2
          refine bodyPost_ret (results_none rfl _ _ _) rfl ?_
          exact ⟨⟨_, rfl⟩, .inr ⟨_, hJx3⟩⟩
    · obtain rfl : n = t := by omega
      clear htn
      gi_wp2
      go_end0
      exact ⟨⟨_, rfl⟩, .inl ⟨_, rfl, HJt.out⟩⟩
end RS
end Go.Proofs.Ytljodpdplmhdnaa
