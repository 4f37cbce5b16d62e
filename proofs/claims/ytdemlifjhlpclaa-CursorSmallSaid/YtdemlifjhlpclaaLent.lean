/-
  quantumkit: what is lent and kept (bytes alone).
-/
import Derived.Test.YtdemlifjhlpclaaKit
import Derived.Deep.QuietTactic
import Derived.BigQuiet
import Derived.IntWalk
namespace Go.Proofs.Ytdemlifjhlpclaa
open Go.RowKit
set_option linter.unusedVariables false

/-- The marks behind what is lent. -/
def mb (i : Nat) : Nat := (8000024 + i) * 11400714819323198485 % 18446744073709551616 / 72057594037927936 % 256
theorem mb_lt (i : Nat) : mb i < 256 := Nat.mod_lt _ (by decide)
theorem mb_eq (i : Nat) : IntKind.u64.wrap ((8000024 + (i : Int)) * 11400714819323198485) / 72057594037927936 % 256 = (mb i : Int) := by rw [IntKind.wrap_u64]; unfold mb; rw [Int.natCast_emod, Int.natCast_ediv, Int.natCast_emod, Int.natCast_mul, Int.natCast_add]; rfl
def mbs (k : Nat) : List Nat := (List.range k).map mb
theorem mbs_succ (k : Nat) : mbs (k + 1) = mbs k ++ [mb k] := by simp [mbs, List.range_succ]
theorem mbs_len (k : Nat) : (mbs k).length = k := by simp [mbs]
theorem mbs_at (k j : Nat) (h : j < k) : (mbs k)[j]? = some (mb j) := by simp [mbs, h]

set_option maxRecDepth 100000 in
theorem markB (i : Nat) (w : World) (h1 : i ≤ 100) : Calls Try.prog 57 #[.int .i64 1, .int .i64 i] w fun e w' => e = .returned (.int .u8 (mb i)) ∧ w = w' := by
  go_enter Try.func57, Try.ntmps57
  go_wp2
  go_ret
  exact ⟨ret_int' (mb_eq i), rfl⟩
theorem markBq (i : Nat) (w : World) (h1 : i ≤ 100) : Calls Try.prog 57 #[.int .i64 1, .int .i64 i] w fun e w' => e = .returned (.int .u8 (mb i)) ∧ w' = w := (markB i w h1).mono fun e w' h => ⟨h.1, h.2.symm⟩

set_option maxRecDepth 100000 in
set_option maxHeartbeats 2000000 in
theorem lentB_any (a : Option Addr) (n c : Nat) (bs : List Nat) (hn : bs.length = n) (hn5 : n ≤ 100000) (B : Nat) (w : World) (hS : Seen w B .u8 a bs) (hBw : B ≤ w.heap.size) :
    Calls Try.prog 35 #[.slice a n c] w fun e w' => ∃ g cap, e = .returned (.slice (some ⟨g, 0, none⟩) n cap) ∧ n + 12 ≤ cap ∧ cap ≤ maxLen ∧ Seen w' w'.heap.size .u8 (some ⟨g, 0, none⟩) (bs ++ mbs 12) ∧ w'.ownsRow w.heap.size 5 1 (.slice (some ⟨g, 0, none⟩) (n + 12) cap) (n + 12) ((bs ++ mbs 12).map fun x : Nat => Value.int .u8 x) ∧ Below w.heap.size w w' := by
  have HN := Lib.hid hn
  clear hn
  obtain ⟨i0, hi, hz0, hz1, hz2⟩ := info_parts infoB
  have en : ((n + 12 : Nat) : Int) = (n : Int) + 12 := by omega
  by_cases hn0 : n = 0
  focus
    have hb0 : Hid (bs = []) := List.eq_nil_of_length_eq_zero (HN.out.trans hn0)
    have H0 := Lib.hid hn0
    clear hn0
    go_enter Try.func35, Try.ntmps35
    go_wp2_with (first
      | (at_make; refine wpList_make_own _ rfl _ _ 22 rfl w.heap.size 5 i0 (.int .u8 0) 1 Try.underlying22 hi hz0 hz1 .i64 .i64 _ (n + 12) rfl rfl en.symm (by rw [hz2]; omega) (by unfold maxLen; omega) (Nat.le_refl _) ?_; intro w1 hown1 hgrow1)
      | (at_builtin; refine wpList_append_nothing _ rfl _ _ 22 rfl 5 i0 Try.underlying22 hi _ _ _ rfl (Nat.zero_le _) _ _ _ H0.out rfl ?_))
    have hown2 : w1.ownsRow w.heap.size 5 1 (.slice (some ⟨w.heap.size, 0, none⟩) 0 (n + 12)) (n + 0) ((bs ++ mbs 0).map fun x : Nat => Value.int .u8 x) := by
      have e : n + 0 = 0 := by have := H0.out; omega
      rw [e, hb0.out]; exact hown1
    have hB1 : Below w.heap.size w w1 := (Below.refl _ w).grown hgrow1 (Nat.le_refl _) (fun k e => by cases e)
    obtain ⟨w2, rfl⟩ : ∃ w2 : World, w2 = w1 := ⟨_, rfl⟩
    clear hown1 hgrow1 en hb0
  rotate_left
  focus
    obtain ⟨b, off, rfl, _, _⟩ := hS.at (i := 0) (by have := HN.out; omega)
    go_enter Try.func35, Try.ntmps35
    go_wp2_with (first
      | (at_make; refine wpList_make_own _ rfl _ _ 22 rfl w.heap.size 5 i0 (.int .u8 0) 1 Try.underlying22 hi hz0 hz1 .i64 .i64 _ (n + 12) rfl rfl en.symm (by rw [hz2]; omega) (by unfold maxLen; omega) (Nat.le_refl _) ?_; intro w1 hown1 hgrow1; have hB1 : Below w.heap.size w w1 := (Below.refl _ w).grown hgrow1 (Nat.le_refl _) (fun k e => by cases e))
      | (at_builtin; refine wpList_append_own _ rfl _ _ 22 rfl w.heap.size 5 i0 (.int .u8 0) 1 1 Try.underlying22 hi hz0 hz1 hz2 rfl (by decide) _ _ _ rfl hown1 _ _ _ (bs.map fun x : Nat => Value.int .u8 x) rfl (by rw [List.length_map, HN.out, Nat.mul_one]) (seen_cells (hS.below (hB1.mono hBw))) (by intro u hu; obtain ⟨z, _, rfl⟩ := List.mem_map.1 hu; rfl) (by unfold maxLen; omega) (by omega) hB1.size ?_; intro v2 w2 hown2' hgrow2 _; obtain ⟨g2, c2, rfl⟩ := own_form hown2' (by omega)))
    have hown2 : w2.ownsRow w.heap.size 5 1 (.slice (some ⟨g2, 0, none⟩) (0 + n) c2) (n + 0) ((bs ++ mbs 0).map fun x : Nat => Value.int .u8 x) := by
      have := hown2'
      rw [Nat.zero_add] at this ⊢
      simpa [mbs] using this
    have hB1' : Below w.heap.size w w2 := hB1.grown hgrow2 hB1.size (fun k e => (hown1.lt k e).1)
    clear hB1
    have hB1 := hB1'
    clear hown1 hgrow1 hown2' hgrow2 hB1' en
  all_goals
    go_loopw [3, 4] (fun v i wr => ∃ k : Nat, k ≤ 12 ∧ i = .int .i64 k ∧ wr.ownsRow w.heap.size 5 1 v (n + k) ((bs ++ mbs k).map fun x : Nat => Value.int .u8 x) ∧ Below w.heap.size w wr) (fun _ i _ => 12 - (intOf i).toNat)
    case atStart => exact ⟨0, by omega, rfl, by simpa using hown2, hB1⟩
    case round =>
      obtain ⟨k, hk, rfl, hrow, hB⟩ := hrel
      have hbs := hB.size
      by_cases hlt : k < 12
      · have HM := Lib.hid (mbs_succ k)
        go_wp2_with (first
          | (go_at_call 57; refine (markB k _ (by omega)).mono ?_; rintro e w4 ⟨rfl, rfl⟩)
          | (at_builtin; refine wpList_append_own _ rfl _ _ 22 rfl w.heap.size 5 i0 (.int .u8 0) 1 1 Try.underlying22 hi hz0 hz1 hz2 rfl (by decide) _ _ _ rfl (hrow.alloc _) ⟨wr.heap.size, 0, none⟩ 1 1 [.int .u8 (mb k : Nat)] rfl rfl (cell_one_new _ _ _) (by simp [Value.oneCell']) (by unfold maxLen; omega) (by omega) (by simp; omega) ?_; intro v5 w5 hown5 hgrow5 _))
        have hB5 : Below w.heap.size w w5 := (hB.alloc hbs _).grown hgrow5 (by simp; omega) (fun j ej => (hrow.lt j ej).1)
        exact ⟨⟨k + 1, by omega, by go_num, by rw [HM.out, ← List.append_assoc, List.map_append]; exact hown5, hB5⟩, by simp [intOf]; omega⟩
      · obtain rfl : k = 12 := by omega
        obtain ⟨g5, c5, rfl⟩ := own_form hrow (by omega)
        have hc5 := own_cap hrow
        have hc6 : n ≤ c5 := by omega
        have S5 := Seen.of_own (k := .u8) hrow
        clear hown2 hB1 hlt
        go_wp2
        go_ret
        exact ⟨g5, c5, rfl, hc5.1, hc5.2, S5, hrow, hB⟩

set_option maxRecDepth 100000 in
set_option maxHeartbeats 2000000 in
theorem keptB_any (a : Option Addr) (n c : Nat) (bs : List Nat) (hn : bs.length = n) (hn5 : n ≤ 100000) (g cap : Nat) (hcap : n + 12 ≤ cap) (hcm : cap ≤ maxLen) (B : Nat) (w : World) (hS : Seen w B .u8 a bs) (hT : Seen w B .u8 (some ⟨g, 0, none⟩) (bs ++ mbs 12)) (hBw : B ≤ w.heap.size) :
    Calls Try.prog 36 #[.slice (some ⟨g, 0, none⟩) n cap, .slice a n c] w fun e w' => e = .returned (.bool true) ∧ Below w.heap.size w w' := by
  have HN := Lib.hid hn
  unfold maxLen at hcm
  clear hn
  have hcap' : (n : Int) + 12 ≤ (cap : Int) := by omega
  go_enter Try.func36, Try.ntmps36
  go_wp2
  go_loopw [6] (fun i wr => ∃ k : Nat, k ≤ n + 12 ∧ i = .int .i64 k ∧ Below w.heap.size w wr) (fun i _ => n + 12 - (intOf i).toNat)
  case atStart => exact ⟨0, by omega, rfl, Below.refl _ _⟩
  case round =>
    obtain ⟨k, hk, rfl, hB⟩ := hrel
    by_cases hlt : k < n + 12
    · obtain ⟨v, hv⟩ : ∃ v, (bs ++ mbs 12)[k]? = some v := ⟨_, List.getElem?_eq_getElem (by rw [List.length_append, HN.out, mbs_len]; omega)⟩
      obtain ⟨b1, o1, he1, _, hc1⟩ := (hT.below (hB.mono hBw)) k v hv
      cases he1
      rw [Nat.zero_add] at hc1
      have i0 : (0 : Int) ≤ (k : Int) := by omega
      have i1 : (k : Int) < (n : Int) + 12 := by omega
      by_cases hkn : k < n
      · have hv2 : bs[k]? = some v := by rw [List.getElem?_append_left (by rw [HN.out]; exact hkn)] at hv; exact hv
        obtain ⟨b2, o2, rfl, _, hc2⟩ := (hS.below (hB.mono hBw)) k v hv2
        have i2 : (k : Int) < (n : Int) := by omega
        have i3 : decide ((n : Int) ≤ (k : Int)) = false := by simp; omega
        have i3n : decide (n ≤ k) = false := by simp; omega
        have e1 : ((v : Int) == (v : Int)) = true := by simp
        clear hv hv2
        go_wp2
        go_quiet (fail)
        go_wp2
        exact ⟨⟨k + 1, by omega, by go_num, below_drewN hB _⟩, by simp [intOf]; omega⟩
      · obtain ⟨j, rfl⟩ : ∃ j, k = n + j := ⟨k - n, by omega⟩
        have hv2 : v = mb j := by
          rw [List.getElem?_append_right (by rw [HN.out]; omega), HN.out, Nat.add_sub_cancel_left, mbs_at 12 j (by omega)] at hv
          exact (Option.some.inj hv).symm
        subst hv2
        have i2 : decide ((n : Int) + (j : Int) < (n : Int)) = false := by simp; omega
        have i2n : decide (n + j < n) = false := by simp
        have i3 : (n : Int) ≤ (n : Int) + (j : Int) := by omega
        have e1 : ((mb j : Int) == (mb j : Int)) = true := by simp
        have hj : j ≤ 100 := by omega
        clear hv
        go_wp2
        have hw1 : IntKind.i64.wrap ((n : Int) + (j : Int) - (n : Int)) = (j : Int) := by rw [show (n : Int) + (j : Int) - (n : Int) = (j : Int) from by omega]; exact IntWalk.i64_in _ (by omega)
        have hw2 : IntKind.i64.wrap (j : Int) = (j : Int) := IntWalk.i64_in _ (by omega)
        go_quiet ((go_at_call 57; exact Calls.quiet_of_same (markBq j _ hj)))
        clear hw1 hw2
        go_wp2
        exact ⟨⟨n + j + 1, by omega, by go_num, below_drewN hB _⟩, by simp [intOf]; omega⟩
    · obtain rfl : k = n + 12 := by omega
      go_wp2
      go_ret
      exact ⟨rfl, hB⟩

end Go.Proofs.Ytdemlifjhlpclaa
