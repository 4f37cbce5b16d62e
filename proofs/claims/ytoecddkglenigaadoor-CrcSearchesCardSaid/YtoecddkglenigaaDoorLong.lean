/-
  long.
-/
import Derived.Test.YtoecddkglenigaaDoorOpen
import Derived.Test.YtoecddkglenigaaDoorAwake4
namespace Go.Proofs.YtoecddkglenigaaDoor
open Go.RowKit
set_option linter.unusedVariables false

set_option maxRecDepth 100000 in
set_option maxHeartbeats 2000000 in
theorem long_any (a : Option Addr) (m c : Nat) (bs : List Nat) (hm : bs.length = m) (hmc : m ≤ c) (hcm : c ≤ maxLen) (hbs : ∀ y ∈ bs, y < 256) (n : Nat) (hn : n ≤ 5000) (w : World) (hS : Seen w w.heap.size .u8 a bs) :
    Calls Tryd.prog 26 #[.slice a m c, .int .i64 n] w fun e w' => ∃ (g : Nat) (L : List Nat), e = .returned (.slice (some ⟨g, 0, none⟩) n n) ∧ L.length = n ∧ (∀ y ∈ L, y < 256) ∧ w'.ownsRow w.heap.size 5 1 (.slice (some ⟨g, 0, none⟩) n n) n (L.map fun x : Nat => Value.int .u8 x) ∧ Below w.heap.size w w' := by
  obtain ⟨i0, hi, hz0, hz1, hz2⟩ := info_parts infoB
  unfold maxLen at hcm
  have hn5 : (n : Int) ≤ 5000 := by omega
  have HM := Lib.hid hm
  have HS : Hid (Seen w w.heap.size .u8 a bs) := hS
  have HBS : Hid (∀ y ∈ bs, y < 256) := hbs
  clear hm hS hbs
  by_cases hm0 : m = 0
  · have hm0i : ((m : Int) == 0) = true := by simp; omega
    have HSW : Hid (Seen (w.alloc (.cells #[.int .u8 0] 5)) (w.alloc (.cells #[.int .u8 0] 5)).heap.size .u8 (some ⟨w.heap.size, 0, none⟩) [0]) := by
      show Seen _ _ _ _ _
      rw [World.size_alloc]; exact seen_new w [0] _ _ _ rfl _ rfl
    have HW0 : Hid (Below w.heap.size w (w.alloc (.cells #[.int .u8 0] 5))) := (Below.refl _ w).alloc (Nat.le_refl _) _
    go_enter Tryd.func26, Tryd.ntmps26
    go_wp2_with (at_make; refine wpList_make_full _ rfl _ _ 22 rfl (w.alloc (.cells #[.int .u8 0] 5)).heap.size 5 i0 (.int .u8 0) 1 Tryd.underlying22 hi hz0 hz1 .i64 .i64 _ _ n rfl rfl rfl rfl (by rw [hz2]; omega) (by unfold maxLen; omega) (Nat.le_refl _) ?_; intro w1 hown1 hgrow1)
    have hB1 : Below (w.alloc (.cells #[.int .u8 0] 5)).heap.size (w.alloc (.cells #[.int .u8 0] 5)) w1 := (Below.refl _ _).grown hgrow1 (Nat.le_refl _) (fun k e => by cases e)
    have hsz : (w.alloc (.cells #[.int .u8 0] 5)).heap.size = w.heap.size + 1 := by simp
    obtain ⟨W0, hW0⟩ : ∃ W0, (w.alloc (.cells #[.int .u8 0] 5)) = W0 := ⟨_, rfl⟩
    rw [hW0] at hB1 hown1 hsz HSW HW0
    have HB1 := Lib.hid hB1
    have hO : w1.ownsRow W0.heap.size 5 1 (.slice (some ⟨w.heap.size + 1, 0, none⟩) n n) n ((List.replicate n 0).map fun x : Nat => Value.int .u8 x) := by
      have e : (madeCells (Value.int .u8 0).cells (n * 1)).toList = (List.replicate n 0).map fun x : Nat => Value.int .u8 x := by
        rw [show (Value.int .u8 0).cells = #[.int .u8 0] from rfl, toList_madeCells_one, Nat.mul_one, List.map_replicate]; rfl
      rw [e] at hown1
      rw [← hsz]
      exact hown1
    have HO := Lib.hid hO
    obtain ⟨g, hg⟩ : ∃ g, w.heap.size + 1 = g := ⟨_, rfl⟩
    rw [hg] at HO ⊢
    clear hown1 hgrow1 hB1 hO hsz hW0
    go_loopw [15] (fun iv wr => ∃ k : Nat, ∃ L : List Nat, k ≤ n ∧ iv = .int .i64 k ∧ L.length = n ∧ (∀ y ∈ L, y < 256) ∧ wr.ownsRow W0.heap.size 5 1 (.slice (some ⟨g, 0, none⟩) n n) n (L.map fun x : Nat => Value.int .u8 x) ∧ Below W0.heap.size W0 wr) (fun i _ => n - (intOf i).toNat)
    case atStart => exact ⟨0, List.replicate n 0, Nat.zero_le _, rfl, List.length_replicate, (fun y hy => by rw [List.eq_of_mem_replicate hy]; decide), HO.out, HB1.out⟩
    case round =>
      obtain ⟨k, L, hk, rfl, hL, hLb, hrow, hB⟩ := hrel
      have HL := Lib.hid hL
      have HLB : Hid (∀ y ∈ L, y < 256) := hLb
      have HROW := Lib.hid hrow
      have HBE := Lib.hid hB
      clear hL hLb hB
      by_cases hkn : k < n
      · have hfr := hrow.frozenAt k
        have hcl : wr.cell? ⟨g, k, none⟩ = some (.int .u8 ((L[k]'(by rw [HL.out]; exact hkn) : Nat) : Int)) := by
          rw [hrow.cellAt k (by omega)]; simp [HL.out, hkn]
        obtain ⟨b, off, hab, hb, hcell⟩ := (HSW.out.below HBE.out).at (i := k % 1) (by rw [List.length_singleton]; exact Nat.mod_lt _ (by omega))
        cases hab
        obtain ⟨x, hx⟩ : ∃ x, [0][k % 1]'(by rw [List.length_singleton]; exact Nat.mod_lt _ (by omega)) = x := ⟨_, rfl⟩
        rw [hx] at hcell
        rw [Nat.mod_one, Nat.add_zero] at hcell
        clear hrow hx
        obtain ⟨y, hy⟩ : ∃ y : Nat, (x + k) % 256 = y := ⟨_, rfl⟩
        have hyi : ((x : Int) + (k : Int)) % 256 = (y : Int) := by omega
        have HY : Hid (y < 256) := by show _ < _; omega
        clear hy
        go_wp2
        go_region
        go_wp2
        refine ⟨⟨k + 1, L.set k y, hkn, rfl, by rw [List.length_set]; exact HL.out, fun z hz => ?_, ?_, (HBE.out.setCell (by have := HROW.out.lt g rfl; exact this.1) _).drew⟩, by simp [intOf]; omega⟩
        · rcases List.mem_or_eq_of_mem_set hz with h | h
          · exact HLB.out z h
          · rw [h]; exact HY.out
        · rw [List.map_set]
          exact ((HROW.out.stored k _).1).drew
      · obtain rfl : k = n := by omega
        go_wp2
        go_ret
        exact ⟨g, L, rfl, HL.out, HLB.out, rebase HROW.out HW0.out.size, HW0.out.trans (HBE.out.mono HW0.out.size)⟩
  · have hm0i : ((m : Int) == 0) = false := by simp; omega
    have HSW : Hid (Seen w w.heap.size .u8 a bs) := HS
    have HW0 : Hid (Below w.heap.size w w) := Below.refl _ w
    go_enter Tryd.func26, Tryd.ntmps26
    go_wp2_with (at_make; refine wpList_make_full _ rfl _ _ 22 rfl w.heap.size 5 i0 (.int .u8 0) 1 Tryd.underlying22 hi hz0 hz1 .i64 .i64 _ _ n rfl rfl rfl rfl (by rw [hz2]; omega) (by unfold maxLen; omega) (Nat.le_refl _) ?_; intro w1 hown1 hgrow1)
    have hB1 : Below w.heap.size w w1 := (Below.refl _ _).grown hgrow1 (Nat.le_refl _) (fun k e => by cases e)
    have hsz : w.heap.size = w.heap.size := rfl
    have HB1 := Lib.hid hB1
    have hO : w1.ownsRow w.heap.size 5 1 (.slice (some ⟨w.heap.size, 0, none⟩) n n) n ((List.replicate n 0).map fun x : Nat => Value.int .u8 x) := by
      have e : (madeCells (Value.int .u8 0).cells (n * 1)).toList = (List.replicate n 0).map fun x : Nat => Value.int .u8 x := by
        rw [show (Value.int .u8 0).cells = #[.int .u8 0] from rfl, toList_madeCells_one, Nat.mul_one, List.map_replicate]; rfl
      rw [e] at hown1
      rw [← hsz]
      exact hown1
    have HO := Lib.hid hO
    obtain ⟨g, hg⟩ : ∃ g, w.heap.size = g := ⟨_, rfl⟩
    rw [hg]
    have HO2 : Hid (w1.ownsRow w.heap.size 5 1 (.slice (some ⟨g, 0, none⟩) n n) n ((List.replicate n 0).map fun x : Nat => Value.int .u8 x)) := by rw [← hg]; exact HO.out
    clear hown1 hgrow1 hB1 hO hsz
    go_loopw [15] (fun iv wr => ∃ k : Nat, ∃ L : List Nat, k ≤ n ∧ iv = .int .i64 k ∧ L.length = n ∧ (∀ y ∈ L, y < 256) ∧ wr.ownsRow w.heap.size 5 1 (.slice (some ⟨g, 0, none⟩) n n) n (L.map fun x : Nat => Value.int .u8 x) ∧ Below w.heap.size w wr) (fun i _ => n - (intOf i).toNat)
    case atStart => exact ⟨0, List.replicate n 0, Nat.zero_le _, rfl, List.length_replicate, (fun y hy => by rw [List.eq_of_mem_replicate hy]; decide), HO2.out, HB1.out⟩
    case round =>
      obtain ⟨k, L, hk, rfl, hL, hLb, hrow, hB⟩ := hrel
      have HL := Lib.hid hL
      have HLB : Hid (∀ y ∈ L, y < 256) := hLb
      have HROW := Lib.hid hrow
      have HBE := Lib.hid hB
      clear hL hLb hB
      by_cases hkn : k < n
      · have hfr := hrow.frozenAt k
        have hcl : wr.cell? ⟨g, k, none⟩ = some (.int .u8 ((L[k]'(by rw [HL.out]; exact hkn) : Nat) : Int)) := by
          rw [hrow.cellAt k (by omega)]; simp [HL.out, hkn]
        obtain ⟨b, off, hab, hb, hcell⟩ := (HSW.out.below HBE.out).at (i := k % m) (by rw [HM.out]; exact Nat.mod_lt _ (by omega))
        subst hab
        obtain ⟨x, hx⟩ : ∃ x, bs[k % m]'(by rw [HM.out]; exact Nat.mod_lt _ (by omega)) = x := ⟨_, rfl⟩
        rw [hx] at hcell
        obtain ⟨q, hq⟩ : ∃ q, k % m = q := ⟨_, rfl⟩
        obtain ⟨d, hd⟩ : ∃ d, k / m = d := ⟨_, rfl⟩
        have hq1 : (k : Int) % (m : Int) = (q : Int) := by rw [← hq]; exact (Int.natCast_emod k m).symm
        have hq2 : (k : Int).tmod (m : Int) = (q : Int) := by rw [Int.tmod_eq_emod_of_nonneg (by omega)]; exact hq1
        have hd1 : (k : Int) / (m : Int) = (d : Int) := by rw [← hd]; exact (Int.natCast_ediv k m).symm
        have hd2 : (k : Int).tdiv (m : Int) = (d : Int) := by rw [Int.tdiv_eq_ediv_of_nonneg (by omega)]; exact hd1
        have hqm : q < m := by rw [← hq]; exact Nat.mod_lt _ (by omega)
        have hdk : d ≤ k := by rw [← hd]; exact Nat.div_le_self _ _
        rw [hq] at hcell
        clear hrow hx hq hd
        obtain ⟨y, hy⟩ : ∃ y : Nat, (x + d) % 256 = y := ⟨_, rfl⟩
        have hyi : ((x : Int) + (d : Int)) % 256 = (y : Int) := by omega
        have HY : Hid (y < 256) := by show _ < _; omega
        clear hy
        go_wp2
        go_region
        go_wp2
        refine ⟨⟨k + 1, L.set k y, hkn, rfl, by rw [List.length_set]; exact HL.out, fun z hz => ?_, ?_, (HBE.out.setCell (by have := HROW.out.lt g rfl; exact this.1) _).drew⟩, by simp [intOf]; omega⟩
        · rcases List.mem_or_eq_of_mem_set hz with h | h
          · exact HLB.out z h
          · rw [h]; exact HY.out
        · rw [List.map_set]
          exact ((HROW.out.stored k _).1).drew
      · obtain rfl : k = n := by omega
        go_wp2
        go_ret
        exact ⟨g, L, rfl, HL.out, HLB.out, rebase HROW.out (Below.refl w.heap.size w).size, (Below.refl w.heap.size w).trans (HBE.out.mono (Below.refl w.heap.size w).size)⟩
end Go.Proofs.YtoecddkglenigaaDoor
