/-
  varint.groups: the iterator's contract.
-/
import Derived.RangeFuncNested
import Derived.RangeFuncBound
import Derived.RangeFuncCalls
import Derived.RangeFuncLeaves
import Derived.Shelf.Abstract
import Derived.Shelf.RegionOpen
import Derived.WalkKit
import Derived.OwnWalkIn
import Derived.TacticsInMore
import Derived.LoopNIn
import Derived.LoopIn
import Derived.WalkSpells
import Derived.Outline
import Derived.WalkLawsBesides
import Derived.Test.YtdemlifjhlpclaaProg
import Derived.Test.YtdemlifjhlpclaaMath
namespace Go.Proofs.Ytdemlifjhlpclaa
open Go.RowKit Go.Shelf
attribute [local go_sem] Oper.semAt_some

abbrev encg (p : Nat × Bool) : Array Value := #[.int .u8 p.1, .bool p.2]

set_option maxRecDepth 100000 in
set_option maxHeartbeats 1000000 in
/-- The closure of groups: it yields the groups of the captured number. -/
theorem groups_stops (F : Fence) (n : Nat) (hf : F.fn 66) (hro : F.round = none) (hn : 1 ≤ n) (B x : Nat) (hx : x < 2 ^ 64) (w : World)
    (hB : w.cell? ⟨B, 0, none⟩ = some (.int .u64 x)) (hlt : B < w.heap.size) :
    SeqStopsA F n Try.prog 66 #[.pointer (some ⟨B, 0, none⟩)] encg (fun xs => xs = Vi.grp x) (fun pre => pre <+: Vi.grp x) (Vi.grp x).length w := fun l J Jx W hW hJ hJx hY h0 => by
  have hc : W.cell? ⟨B, 0, none⟩ = some (.int .u64 x) := (hW.cell (p := ⟨B, 0, none⟩) hlt).trans hB
  refine callsIn_of_wp Try.func66 rfl hf ?_ hro
  simp only [Try.ntmps66, List.size_toArray, List.length_cons, List.length_nil, Nat.reduceAdd, Nat.reduceSub, Array.replicate_succ, Array.replicate_zero, List.push_toArray, List.append_toArray, List.nil_append, List.cons_append]
  gi_wp2
  gi_loopw [3] (fun r wr => ∃ (pre : List (Nat × Bool)) (y : Nat), y < 2 ^ 64 ∧ r = .int .u64 y ∧ Vi.grp x = pre ++ Vi.grp y ∧ J pre wr) (fun r _ => (intOf r).toNat)
  case atStart => exact ⟨[], x, hx, rfl, rfl, h0⟩
  case round =>
    obtain ⟨pre, y, hy64, rfl, hpre, hJs⟩ := hrel
    by_cases hy : y < 128
    · have hg := Vi.grp_small hy
      obtain ⟨fn, tmps, assign, body, hy1, hR⟩ := hY pre (y, true) wr hJs (by rw [hpre, hg]; simp)
      dsimp only [encg] at hy1
      gi_wp2
      refine hR.mono ?_
      rintro e W3 (⟨rfl, hJ3, _⟩ | ⟨rfl, hJx3⟩)
      · gi_wp2
        go_end0
        exact ⟨⟨_, rfl⟩, .inl ⟨_, by rw [hpre, hg], hJ3⟩⟩
      · gi_wp2
        go_end0
        exact ⟨⟨_, rfl⟩, .inr ⟨_, by rw [hpre, hg]; exact List.prefix_rfl, hJx3⟩⟩
    · have hg := Vi.grp_big (x := y) (by omega)
      obtain ⟨fn, tmps, assign, body, hy1, hR⟩ := hY pre (y % 128, false) wr hJs (by rw [hpre, hg]; simp)
      dsimp only [encg] at hy1
      push_cast at hy1
      gi_wp2
      refine hR.mono ?_
      rintro e W3 (⟨rfl, hJ3, _⟩ | ⟨rfl, hJx3⟩)
      · gi_wp2
        exact ⟨⟨pre ++ [(y % 128, false)], y / 128, by omega, by go_num, by rw [hpre, hg]; simp, hJ3⟩, by simp [intOf]; omega⟩
      · gi_wp2
        refine bodyPost_ret (results_none rfl _ _ _) rfl ?_
        exact ⟨⟨_, rfl⟩, .inr ⟨pre ++ [(y % 128, false)], ⟨Vi.grp (y / 128), by rw [hpre, hg]; simp⟩, hJx3⟩⟩

end Go.Proofs.Ytdemlifjhlpclaa
