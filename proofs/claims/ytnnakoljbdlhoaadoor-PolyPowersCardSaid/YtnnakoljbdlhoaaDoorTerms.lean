/-
  The terms of a polynomial: the iterator's contract.
-/
import Derived.RangeFuncNested
import Derived.RangeFuncBound
import Derived.RangeFuncCalls
import Derived.RangeFuncLeaves
import Derived.Shelf.Abstract
import Derived.Shelf.RegionOpen
import Derived.OwnWalkIn
import Derived.TacticsInMore
import Derived.LoopNIn
import Derived.LoopIn
import Derived.WalkSpells
import Derived.Outline
import Derived.WalkLawsBesides
import Derived.Deep.Light
import Derived.Test.YtnnakoljbdlhoaaDoorDiv
namespace Go.Proofs.YtnnakoljbdlhoaaDoor
open Go.RowKit Go.Shelf
attribute [local go_sem] Oper.semAt_some
set_option linter.unusedVariables false

/-- The degrees of the terms, the greatest first. -/
def degs (p : Nat) : List Nat := if h : p = 0 then [] else (Gf.len p - 1) :: degs (p ^^^ 2 ^ (Gf.len p - 1))
termination_by Gf.len p
decreasing_by
  have h1 := Gf.len_pos h
  have h2 := Gf.len_xor_same (a := p) (b := 2 ^ (Gf.len p - 1)) (n := Gf.len p - 1) (by omega) (by
    exact Gf.len_eq (Nat.le_refl _) (Nat.pow_lt_pow_right (by decide) (by omega)))
  have := Gf.len_le.2 h2
  omega
theorem degs_zero : degs 0 = [] := by rw [degs]; rfl
theorem top_len {p : Nat} (h : p ≠ 0) : Gf.len (p ^^^ 2 ^ (Gf.len p - 1)) ≤ Gf.len p - 1 := by
  have h1 := Gf.len_pos h
  exact Gf.len_le.2 (Gf.len_xor_same (a := p) (b := 2 ^ (Gf.len p - 1)) (n := Gf.len p - 1) (by omega) (Gf.len_eq (Nat.le_refl _) (Nat.pow_lt_pow_right (by decide) (by omega))))
theorem degs_cons {p : Nat} (h : p ≠ 0) : degs p = (Gf.len p - 1) :: degs (p ^^^ 2 ^ (Gf.len p - 1)) := by rw [degs, dif_neg h]
theorem degs_len (p : Nat) : ∀ n, Gf.len p ≤ n → (degs p).length ≤ n := by
  intro n
  induction n generalizing p with
  | zero =>
    intro h
    have : p = 0 := by
      rcases Nat.eq_zero_or_pos p with e | e
      · exact e
      · have := Gf.len_pos (show p ≠ 0 by omega); omega
    subst this
    rw [degs_zero]; exact Nat.le_refl _
  | succ n ih =>
    intro h
    by_cases hp : p = 0
    · subst hp; rw [degs_zero]; simp
    · rw [degs_cons hp]
      have := ih (p ^^^ 2 ^ (Gf.len p - 1)) (by have := top_len hp; omega)
      simp; omega
theorem degs_lt (p : Nat) : ∀ n, Gf.len p ≤ n → ∀ d ∈ degs p, d < n := by
  intro n
  induction n generalizing p with
  | zero =>
    intro h d hd
    have : p = 0 := by
      rcases Nat.eq_zero_or_pos p with e | e
      · exact e
      · have := Gf.len_pos (show p ≠ 0 by omega); omega
    subst this
    rw [degs_zero] at hd; cases hd
  | succ n ih =>
    intro h d hd
    by_cases hp : p = 0
    · subst hp; rw [degs_zero] at hd; cases hd
    · rw [degs_cons hp] at hd
      have hl := Gf.len_pos hp
      rcases List.mem_cons.1 hd with e | e
      · omega
      · have := ih (p ^^^ 2 ^ (Gf.len p - 1)) (by have := top_len hp; omega) d e
        omega

abbrev encd (d : Nat) : Array Value := #[.int .i64 d]

set_option maxRecDepth 100000 in
theorem tab_size : (Lib.len8tab.size : Int) = 256 := by
  have : Lib.len8tab.size = 256 := by decide
  omega
theorem tab_get (y : Int) (h : y.toNat < Lib.len8tab.size) : ((Lib.len8tab[y.toNat]'h).toNat : Int) = Lib.len8 y := by
  unfold Lib.len8
  rw [getElem?_pos Lib.len8tab y.toNat h]
  rfl
/-- One way of the table, inside the fence. -/
theorem way_tab (x : Int) (h0 : 0 ≤ x) (h1 : x ≤ 18446744073709551615) (k : Nat) (hk : k ≤ 56) (v : Int) (hv : v.toNat = x.toNat / 2 ^ k) (hb : 0 ≤ v ∧ v ≤ 255) (h : k = 0 ∨ 1 ≤ x.toNat / 2 ^ k) (hlt : v.toNat < Lib.len8tab.size) :
    wrap64 ((k : Int) + wrap64 ((Lib.len8tab[v.toNat]'hlt).toNat : Int)) = (Gf.len x.toNat : Int) := by
  obtain ⟨s, l⟩ := len_way x h0 h1 k v hv hb h
  rw [tab_get v hlt, Lib.len8_of v hb.1 hb.2, ← s]
  unfold wrap64
  omega
theorem way_tab0 (x : Int) (h0 : 0 ≤ x) (h1 : x ≤ 18446744073709551615) (hb : x ≤ 255) (hlt : x.toNat < Lib.len8tab.size) :
    wrap64 (wrap64 ((Lib.len8tab[x.toNat]'hlt).toNat : Int)) = (Gf.len x.toNat : Int) := by
  have := way_tab x h0 h1 0 (by decide) x (by simp) ⟨h0, hb⟩ (.inl rfl) hlt
  rwa [show ((0 : Nat) : Int) = 0 from rfl, Int.zero_add] at this

set_option maxRecDepth 1000000 in
set_option maxHeartbeats 32000000 in
theorem len64_in (F : Fence) (n : Nat) (hf : F.fn 45) (hro : F.round = none) (x : Int) (h0 : 0 ≤ x) (h1 : x ≤ 18446744073709551615) (w : World) : CallsIn F n Tryd.prog 45 #[.int .u64 x] w fun e w' => e = .returned (.int .i64 (Gf.len x.toNat)) ∧ w = w' := by
  refine callsIn_of_wp Tryd.func45 rfl hf ?_ hro
  simp only [Tryd.ntmps45, List.size_toArray, List.length_cons, List.length_nil, Nat.reduceAdd, Nat.reduceSub, Array.replicate_succ, Array.replicate_zero, List.push_toArray, List.append_toArray, List.nil_append, List.cons_append]
  gi_wp2
  all_goals first
    | (go_ret; refine ⟨congrArg Ending.returned (congrArg (Value.int IntKind.i64) ?_), rfl⟩; go_light)
    | (exfalso
       go_light
       have hs := tab_size
       omega)
  all_goals first
    | exact way_tab x h0 h1 56 (by decide) (x / 4294967296 / 65536 / 256) (by omega) (by omega) (by omega) _
    | exact way_tab x h0 h1 48 (by decide) (x / 4294967296 / 65536) (by omega) (by omega) (by omega) _
    | exact way_tab x h0 h1 40 (by decide) (x / 4294967296 / 256) (by omega) (by omega) (by omega) _
    | exact way_tab x h0 h1 32 (by decide) (x / 4294967296) (by omega) (by omega) (by omega) _
    | exact way_tab x h0 h1 24 (by decide) (x / 65536 / 256) (by omega) (by omega) (by omega) _
    | exact way_tab x h0 h1 16 (by decide) (x / 65536) (by omega) (by omega) (by omega) _
    | exact way_tab x h0 h1 8 (by decide) (x / 256) (by omega) (by omega) (by omega) _
    | exact way_tab0 x h0 h1 (by omega) _

end Go.Proofs.YtnnakoljbdlhoaaDoor
