/-
  Writer.Byte, Number and Fixed.
-/
import Derived.Test.YtdemlifjhlpclaaWBytes
import Derived.Test.YtdemlifjhlpclaaCurSpec
import Derived.Laws.ShiftsVarLaws
namespace Go.Proofs.Ytdemlifjhlpclaa
open Go.RowKit
set_option linter.unusedVariables false

theorem WS.below {B : Nat} {v : Value} {base : Nat} (hB : base ≤ B) (hv : ∀ g, v.ownBlock = some g → base ≤ g) : ∀ k, WS B v k → base ≤ k := fun k h => h.elim (fun e => by rw [e]; exact hB) (fun e => hv k e)
theorem chg_alloc {S : Nat → Prop} {w w1 w' : World} (hB : Below w.heap.size w w1) (hk : Chg S w1 w') : Chg S w w' := (Chg.of_below S hB).trans hk
theorem Moved.earlier {w w1 : World} {v v' : Value} (h : Moved w1 v v') (hs : w.heap.size ≤ w1.heap.size) : Moved w v v' := h.elim .inl (fun h => .inr fun g hg => Nat.le_trans hs (h g hg))

set_option maxRecDepth 100000 in
theorem wByte_any (w : World) (base B lim : Nat) (v : Value) (xs : List Nat) (hW : Wtr w base B lim v xs) (hbase : base ≤ w.heap.size) (x : Nat) :
    Calls Try.prog 31 #[.pointer (some ⟨B, 0, none⟩), .int .u8 x] w fun e w' =>
      (xs.length + 1 ≤ lim → ∃ v', e = .returned (.int .i64 0) ∧ Wtr w' base B lim v' (xs ++ [x]) ∧ Chg (WS B v) w w' ∧ Moved w v v') ∧
      (lim < xs.length + 1 → e = .returned (.int .i64 4) ∧ Wtr w' base B lim v xs ∧ Below w.heap.size w w') := by
  have hB1 : Below w.heap.size w (w.alloc (.cells #[.int .u8 (x : Int)] 5)) := (Below.refl _ w).alloc (Nat.le_refl _) _
  have hW1 := hW.below hB1
  have hS : Seen (w.alloc (.cells #[.int .u8 (x : Int)] 5)) (w.heap.size + 1) .u8 (some ⟨w.heap.size, 0, none⟩) [x] := by
    have := Seen.of_block (k := .u8) (off := 0) (xs := [x]) (World.alloc_heap_new w (.cells #[.int .u8 (x : Int)] 5)) (fun i y hy => by
      match i, hy with
      | 0, hy => simp at hy; subst hy; rfl)
    simpa using this
  by_cases h : xs.length + 1 ≤ lim
  · go_enter Try.func31, Try.ntmps31
    go_wp2_with (go_at_call 30; refine (wBytes_ok _ base B lim v xs hW1 (by simp; omega) _ 1 1 [x] rfl _ hS h).mono ?_; rintro e w1 ⟨v', rfl, hW2, hK, hM⟩)
    go_ret
    exact ⟨fun _ => ⟨v', rfl, hW2, chg_alloc hB1 hK, hM.earlier hB1.size⟩, fun h' => absurd h (by omega)⟩
  · have h' : lim < xs.length + 1 := by omega
    go_enter Try.func31, Try.ntmps31
    go_wp2_with (go_at_call 30; refine (wBytes_full _ base B lim v xs hW1 _ 1 1 h').mono ?_; rintro e w1 ⟨rfl, q, rfl⟩)
    go_ret
    exact ⟨fun h2 => absurd h2 h, fun _ => ⟨rfl, hW1, below_drewN hB1 q⟩⟩

set_option maxRecDepth 100000 in
theorem wNumber_any (w : World) (base B lim : Nat) (v : Value) (xs : List Nat) (hW : Wtr w base B lim v xs) (hbase : base ≤ w.heap.size) (x : Nat) (hx : x < 2 ^ 64) (n : Nat) (hn : (Vi.form x).length = n) :
    Calls Try.prog 34 #[.pointer (some ⟨B, 0, none⟩), .int .u64 x] w fun e w' =>
      (xs.length + n ≤ lim → ∃ v', e = .returned (.int .i64 0) ∧ Wtr w' base B lim v' (xs ++ Vi.form x) ∧ Chg (WS B v) w w' ∧ Moved w v v') ∧
      (lim < xs.length + n → e = .returned (.int .i64 4) ∧ Wtr w' base B lim v xs ∧ Below w.heap.size w w') := by
  by_cases h : xs.length + n ≤ lim
  · have HN := Lib.hid hn
    clear hn
    go_enter Try.func34, Try.ntmps34
    go_wp2_with (first
      | (go_at_call 24; refine (write_any x hx _).mono ?_; rintro e w1 ⟨v1, rfl, hown, hB1⟩; rw [HN.out] at hown; obtain ⟨a1, c1, rfl, S1, _, _, _⟩ := own_slice hown)
      | (go_at_call 30; refine (wBytes_ok _ base B lim v xs (hW.below hB1) (Nat.le_trans hbase hB1.size) _ n _ (Vi.form x) HN.out _ S1 h).mono ?_; rintro e w2 ⟨v', rfl, hW2, hK, hM⟩))
    go_ret
    exact ⟨fun _ => ⟨v', rfl, hW2, chg_alloc hB1 hK, hM.earlier hB1.size⟩, fun h' => absurd h (by omega)⟩
  · have h' : lim < xs.length + n := by omega
    have HN := Lib.hid hn
    clear hn
    go_enter Try.func34, Try.ntmps34
    go_wp2_with (first
      | (go_at_call 24; refine (write_any x hx _).mono ?_; rintro e w1 ⟨v1, rfl, hown, hB1⟩; rw [HN.out] at hown; obtain ⟨a1, c1, rfl, S1, _, _, _⟩ := own_slice hown)
      | (go_at_call 30; refine (wBytes_full _ base B lim v xs (hW.below hB1) _ n _ h').mono ?_; rintro e w2 ⟨rfl, q, rfl⟩))
    go_ret
    exact ⟨fun h2 => absurd h2 h, fun _ => ⟨rfl, hW.below (below_drewN hB1 q), below_drewN hB1 q⟩⟩

/-- The bytes of a number of n fixed bytes. -/
def leB (n x : Nat) : List Nat := (List.range n).map fun i => x / 256 ^ i % 256
theorem leB_len (n x : Nat) : (leB n x).length = n := by simp [leB]
theorem leB_byte (n x : Nat) : ∀ y ∈ leB n x, y < 256 := by
  intro y hy
  simp only [leB, List.mem_map] at hy
  obtain ⟨i, _, rfl⟩ := hy
  exact Nat.mod_lt _ (by decide)

theorem shr_cast (x i : Nat) : (x : Int) / 2 ^ (8 * i) = ((x / 256 ^ i : Nat) : Int) := by
  rw [show (256 : Nat) ^ i = 2 ^ (8 * i) from by rw [Nat.pow_mul], Int.natCast_ediv]; push_cast; rfl
theorem shr_ne {x k : Nat} (h : x / 256 ^ k ≠ 0) : ((x : Int) / 2 ^ (8 * k) != 0) = true := by
  rw [shr_cast]; simp only [bne_iff_ne, ne_eq]; omega
theorem shr_eq {x k : Nat} (h : x / 256 ^ k = 0) : ((x : Int) / 2 ^ (8 * k) != 0) = false := by
  rw [shr_cast, h]; rfl
/-- The bytes as they are filled in. -/
def fillB (j k x : Nat) : List Nat := (List.range k).map fun i => if i < j then x / 256 ^ i % 256 else 0
theorem fillB_zero (k x : Nat) : (fillB 0 k x).map (fun x : Nat => Value.int .u8 x) = (madeCells (Value.int .u8 0).cells (k * 1)).toList := by
  rw [show (Value.int .u8 0).cells = #[.int .u8 0] from rfl, toList_madeCells_one, Nat.mul_one]
  apply List.ext_getElem?
  intro i
  simp only [fillB, List.map_map, List.getElem?_map, List.getElem?_replicate]
  by_cases h : i < k
  · simp [h]
  · simp [h]
theorem fillB_step (j k x : Nat) (hj : j < k) (u : Nat) (hu : u = x / 256 ^ j % 256) : ((fillB j k x).map fun x : Nat => Value.int .u8 x).set j (.int .u8 u) = (fillB (j + 1) k x).map fun x : Nat => Value.int .u8 x := by
  subst hu
  apply List.ext_getElem?
  intro i
  rw [List.getElem?_set]
  simp only [fillB, List.map_map, List.getElem?_map, List.length_map, List.length_range]
  by_cases hi : i < k
  · by_cases hij : j = i
    · subst hij; simp [hj]
    · have e : (i < j + 1) = (i < j) := by apply propext; omega
      simp [hij, hi, e]
  · have hij : j ≠ i := by omega
    simp [hij, hi]
theorem fillB_all (k x : Nat) : fillB k k x = leB k x := by
  unfold fillB leB
  apply List.map_congr_left
  intro i hi
  rw [if_pos (by simpa using hi)]

set_option maxRecDepth 100000 in
set_option maxHeartbeats 1000000 in
theorem wFixed_bad (w : World) (base B lim : Nat) (v : Value) (xs : List Nat) (hW : Wtr w base B lim v xs) (x : Nat) (n : Int) (h : n < 1 ∨ 8 < n ∨ (x / 256 ^ n.toNat ≠ 0)) :
    Calls Try.prog 29 #[.pointer (some ⟨B, 0, none⟩), .int .u64 x, .int .i64 n] w fun e w' => e = .returned (.int .i64 2) ∧ w = w' := by
  obtain ⟨hb, hown, hl, hl2⟩ := hW
  obtain ⟨c0, c1, c2, c3, f1, f3⟩ := ob_cells hb
  by_cases h1 : n < 1
  · clear h
    go_enter Try.func29, Try.ntmps29
    go_wp2_with (go_at_call 46; refine (noneW_any _ B c0).mono ?_; rintro e w1 ⟨rfl, rfl⟩)
    go_ret
    exact ⟨rfl, rfl⟩
  · by_cases h2 : 8 < n
    · have h1' : 1 ≤ n := by omega
      clear h h1
      go_enter Try.func29, Try.ntmps29
      go_wp2_with (go_at_call 46; refine (noneW_any _ B c0).mono ?_; rintro e w1 ⟨rfl, rfl⟩)
      go_ret
      exact ⟨rfl, rfl⟩
    · obtain ⟨k, rfl⟩ := Int.eq_ofNat_of_zero_le (a := n) (by omega)
      have h3 : x / 256 ^ k ≠ 0 := by rcases h with h | h | h; exact absurd h h1; exact absurd h h2; exact h
      have k1 : (1 : Int) ≤ (k : Int) := by omega
      have k8 : (k : Int) ≤ 8 := by omega
      have e1 : ((x : Int) / 2 ^ (8 * k) != 0) = true := shr_ne h3
      clear h h1 h2 h3
      go_enter Try.func29, Try.ntmps29
      go_wp2_with (go_at_call 46; refine (noneW_any _ B c0).mono ?_; rintro e w1 ⟨rfl, rfl⟩)
      go_ret
      exact ⟨rfl, rfl⟩

set_option maxRecDepth 100000 in
set_option maxHeartbeats 2000000 in
theorem wFixed_any (w : World) (base B lim : Nat) (v : Value) (xs : List Nat) (hW : Wtr w base B lim v xs) (hbase : base ≤ w.heap.size) (x k : Nat) (hk1 : 1 ≤ k) (hk8 : k ≤ 8) (hx0 : x / 256 ^ k = 0) :
    Calls Try.prog 29 #[.pointer (some ⟨B, 0, none⟩), .int .u64 x, .int .i64 k] w fun e w' =>
      (xs.length + k ≤ lim → ∃ v', e = .returned (.int .i64 0) ∧ Wtr w' base B lim v' (xs ++ leB k x) ∧ Chg (WS B v) w w' ∧ Moved w v v') ∧
      (lim < xs.length + k → e = .returned (.int .i64 4) ∧ Wtr w' base B lim v xs ∧ Below w.heap.size w w') := by
  obtain ⟨i0, hi, hz0, hz1, hz2⟩ := info_parts infoB
  have hWW := Lib.hid hW
  obtain ⟨hb, hown, hl, hl2⟩ := hW
  obtain ⟨c0, c1, c2, c3, f1, f3⟩ := ob_cells hb
  have k1 : (1 : Int) ≤ (k : Int) := by omega
  have k8 : (k : Int) ≤ 8 := by omega
  have e1 := shr_eq hx0
  clear hx0
  go_enter Try.func29, Try.ntmps29
  go_wp2_with (first
    | (go_at_call 46; refine (noneW_any _ B c0).mono ?_; rintro e w1 ⟨rfl, rfl⟩)
    | (at_make; refine wpList_make_full _ rfl _ _ 22 rfl w.heap.size 5 i0 (.int .u8 0) 1 Try.underlying22 hi hz0 hz1 .i64 .i64 _ _ k rfl rfl rfl rfl (by rw [hz2]; omega) (by unfold maxLen; omega) (Nat.le_refl _) ?_; intro w1 hown1 hgrow1; rw [← fillB_zero k x] at hown1; have hB1 : Below w.heap.size w w1 := (Below.refl _ w).grown hgrow1 (Nat.le_refl _) (fun k e => by cases e)))
  go_loopw [30] (fun i wr => ∃ j : Nat, j ≤ k ∧ i = .int .i64 j ∧ wr.ownsRow w.heap.size 5 1 (.slice (some ⟨w.heap.size, 0, none⟩) k k) k ((fillB j k x).map fun x : Nat => Value.int .u8 x) ∧ Below w.heap.size w wr) (fun i _ => k - (intOf i).toNat)
  case atStart => exact ⟨0, Nat.zero_le _, rfl, hown1, hB1⟩
  case round =>
    obtain ⟨j, hj, rfl, hrow, hB⟩ := hrel
    by_cases hlt : j < k
    · have hcell := hrow.cellAt j (by omega)
      have hcell2 : wr.cell? ⟨w.heap.size, j, none⟩ = some (.int .u8 0) := by rw [hcell]; simp [fillB, hlt]
      have hfz := hrow.frozenAt j
      have j8 : (j : Int) < 8 := by omega
      have j0 : (0 : Int) ≤ (j : Int) := by omega
      have i1 : (j : Int) < (k : Int) := by omega
      obtain ⟨u, hu⟩ : ∃ u, u = x / 256 ^ j % 256 := ⟨_, rfl⟩
      have hst := hrow.stored j (.int .u8 u)
      rw [fillB_step j k x hlt u hu] at hst
      have hval : ((x : Int) / 2 ^ (8 * j)) % 256 = (u : Int) := by rw [shr_cast, hu]; rfl
      have hB2 : Below w.heap.size w (wr.setCell ⟨w.heap.size, j, none⟩ (.int .u8 u)) := hB.setCell (p := ⟨w.heap.size, j, none⟩) (Nat.le_refl _) _
      have HST := Lib.hid hst
      clear hcell hu hst
      go_wp2
      exact ⟨⟨j + 1, by omega, by go_num, HST.out.1, hB2⟩, by simp [intOf]; omega⟩
    · obtain rfl : j = k := by omega
      rw [fillB_all] at hrow
      have S1 := Seen.of_own (k := .u8) hrow
      by_cases h : xs.length + j ≤ lim
      · go_wp2_with (go_at_call 30; refine (wBytes_ok _ base B lim v xs (hWW.out.below hB) (Nat.le_trans hbase hB.size) _ j _ (leB j x) (leB_len j x) _ S1 h).mono ?_; rintro e w2 ⟨v', rfl, hW2, hK, hM⟩)
        go_ret
        exact ⟨fun _ => ⟨v', rfl, hW2, chg_alloc hB hK, hM.earlier hB.size⟩, fun h' => absurd h (by omega)⟩
      · have h' : lim < xs.length + j := by omega
        go_wp2_with (go_at_call 30; refine (wBytes_full _ base B lim v xs (hWW.out.below hB) _ j _ h').mono ?_; rintro e w2 ⟨rfl, q, rfl⟩)
        go_ret
        exact ⟨fun h2 => absurd h2 h, fun _ => ⟨rfl, hWW.out.below (below_drewN hB q), below_drewN hB q⟩⟩

end Go.Proofs.Ytdemlifjhlpclaa
