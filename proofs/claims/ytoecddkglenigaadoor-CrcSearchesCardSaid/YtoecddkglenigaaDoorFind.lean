/-
  parts and Find.
-/
import Derived.Test.YtoecddkglenigaaDoorBursts
import Derived.Shelf.Abstract
import Derived.Shelf.RegionOpen
import Derived.RangeFuncNested
import Derived.RangeFuncBound
import Derived.RangeFuncCalls
import Derived.RangeFuncLeaves
import Derived.WalkSpells
import Derived.WalkMore
import Derived.Outline
import Derived.WalkLawsBesides
import Derived.Deep.Light
import Derived.TacticsInMore
import Derived.LoopIn
import Derived.LoopNIn
import Derived.OwnWalkIn
import Derived.RangeFuncBox
import Derived.BigRegionIn
namespace Go.Proofs.YtoecddkglenigaaDoor
open Go.RowKit
attribute [local go_sem] Oper.semAt_some
set_option linter.unusedVariables false

theorem grown_of_below {w w' : World} (h : Below w.heap.size w w') : w.grownBy w' none := ⟨h.os, h.tape, h.output, h.size, fun k hk _ => h.block k hk⟩
abbrev encp (n : Nat) (k : Nat) : Array Value := #[.int .i64 k, .int .u32 (Crc.part n k)]
theorem range_take (N j : Nat) (h : j ≤ N) : List.range j <+: List.range N := by
  refine ⟨(List.range N).drop j, ?_⟩
  conv => rhs; rw [← List.take_append_drop j (List.range N)]
  rw [List.take_range, Nat.min_eq_left h]
/-- The polynomial before the bit k. -/
theorem back_step (n k : Nat) (hk : k + 1 < 8 * n) : Crc.back (pw Crc.G (8 * n - 1 - k + 32)) = pw Crc.G (8 * n - 1 - (k + 1) + 32) := by
  rw [show 8 * n - 1 - k + 32 = (8 * n - 1 - (k + 1) + 32) + 1 by omega, Crc.back_pw]

theorem bitPower_zero (n : Nat) (hn : n ≤ 16777216) (hk : 0 < 8 * n) (m p : Nat) (hm : m = 8 * n + 31) (hp : pw Crc.G m = p) (w : World) :
    CallsIn Fence.wide 7 Tryd.prog 50 #[.int .i64 n, .int .i64 0] w fun e w' => e = .returned (.int .u64 p) ∧ Below w.heap.size w w' := callsIn_wide.2 (bitPower_any n 0 hn hk p (by rw [← hp, hm, show 8 * n - 1 - 0 + 32 = 8 * n + 31 by omega]) w)
set_option maxRecDepth 100000 in
set_option maxHeartbeats 8000000 in
/-- The closure of parts: it yields the bits and their linear parts. -/
theorem parts_stops (n : Nat) (hn1 : 1 ≤ n) (hn : n ≤ 16777216) (B : Nat) (w : World)
    (hB : w.cell? ⟨B, 0, none⟩ = some (.int .i64 n)) (hlt : B < w.heap.size) :
    SeqStopsA Fence.wide 8 Tryd.prog 62 #[.pointer (some ⟨B, 0, none⟩)] (encp n) (fun xs => xs = List.range (8 * n)) (fun pre => pre <+: List.range (8 * n)) (8 * n) w := fun l J Jx W hW hJ hJx hY h0 => by
  have hc : W.cell? ⟨B, 0, none⟩ = some (.int .i64 n) := (hW.cell (p := ⟨B, 0, none⟩) hlt).trans hB
  have hBW : B < W.heap.size := Nat.lt_of_lt_of_le hlt hW.size
  obtain ⟨m, hm⟩ : ∃ m, m = 8 * n + 31 := ⟨_, rfl⟩
  obtain ⟨p, hp⟩ : ∃ p, pw Crc.G m = p := ⟨_, rfl⟩
  have HM := Lib.hid hm
  obtain ⟨Z, hZ⟩ : ∃ Z, 8 * n = Z := ⟨_, rfl⟩
  have hZi : 8 * (n : Int) = (Z : Int) := by omega
  have HZ := Lib.hid hZ
  have HP := Lib.hid hp
  have HN := Lib.hid hn
  have HK0 : Hid (0 < 8 * n) := by show _ < _; omega
  have hni : (n : Int) ≤ 16777216 := by omega
  have hnp : (0 : Int) < (n : Int) := by omega
  clear hp hn hn1 hm hZ
  refine callsIn_of_wp Tryd.func62 rfl trivial ?_ rfl
  simp only [Tryd.ntmps62, List.size_toArray, List.length_cons, List.length_nil, Nat.reduceAdd, Nat.reduceSub, Array.replicate_succ, Array.replicate_zero, List.push_toArray, List.append_toArray, List.nil_append, List.cons_append]
  gi_wp2_with (refine ⟨trivial, ?_⟩; gi_at_call 50; (with_reducible refine (bitPower_zero n HN.out HK0.out m p HM.out HP.out _).mono ?_); rintro e w2 ⟨rfl, hb2⟩; have hc2 := (hb2.cell (p := ⟨B, 0, none⟩) hBW).trans hc; have HJ0 : Hid (J [] w2) := hJ [] W w2 none h0 (grown_of_below hb2) (fun r e => by cases e))
  have HP0 : Hid (pw Crc.G (Z - 0 + 31) = p) := by show _ = _; rw [Nat.sub_zero, ← HZ.out, ← HM.out]; exact HP.out
  clear hc hc2 h0 hb2
  gi_loopw [3, 9] (fun pv iv wr => ∃ j y : Nat, j ≤ Z ∧ iv = .int .i64 j ∧ pv = .int .u64 y ∧ Hid (pw Crc.G (Z - j + 31) = y) ∧ J (List.range j) wr) (fun _ i _ => Z - (intOf i).toNat)
  case atStart => exact ⟨0, p, Nat.zero_le _, rfl, rfl, HP0, HJ0.out⟩
  case round =>
    obtain ⟨j, y, hj, rfl, rfl, HY, hJs⟩ := hrel
    by_cases hjZ : j < Z
    · have hy32 : y < 2 ^ 32 := by rw [← HY.out]; exact Crc.pw_G _
      have HY64 : Hid (y < 2 ^ 64) := by show _ < _; omega
      obtain ⟨q, hq⟩ : ∃ q, Crc.part n j = q := ⟨_, rfl⟩
      have HQ : Hid (rvN y 32 = q) := by
        show _ = _
        have hj8 : j < 8 * n := by have := HZ.out; omega
        have e := Crc.rv_part n j hj8
        rw [show 8 * n - 1 - j + 32 = Z - j + 31 by have := HZ.out; omega, HY.out] at e
        rw [e]; exact hq
      obtain ⟨fn, tmps, assign, body, hy1, hR⟩ := hY (List.range j) j wr hJs (by rw [List.length_range]; have := HZ.out; omega)
      dsimp only [encp] at hy1
      rw [hq] at hy1
      have HB : Hid (pw Crc.G (Z - (j + 1) + 31) = Crc.back y) := by
        show _ = _
        have e := Crc.back_pw (Z - (j + 1) + 31)
        rw [show Z - (j + 1) + 31 + 1 = Z - j + 31 by omega, HY.out] at e
        exact e.symm
      have HRS := Lib.hid (List.range_succ (n := j))
      clear hq
      gi_wp2_with (refine ⟨trivial, ?_⟩; gi_at_call 48; (with_reducible refine (callsIn_wide.2 (number_any y HY64.out q HQ.out _)).mono ?_); rintro e w4 ⟨rfl, rfl⟩)
      refine hR.mono ?_
      rintro e W3 (⟨rfl, hJ3, _⟩ | ⟨rfl, hJx3⟩)
      · have HJ3 : Hid (J (List.range (j + 1)) W3) := by show J _ _; rw [HRS.out]; exact hJ3
        clear hJ3
        by_cases hodd : y % 2 = 1
        · have ho : (y : Int) % 2 = 1 := by omega
          obtain ⟨v, hv⟩ : ∃ v, y ^^^ Crc.G = v := ⟨_, rfl⟩
          have hvx : bits .xor .u64 (y : Int) 4374732215 = (v : Int) := by rw [← hv]; exact u64_xor_nat y Crc.G (by omega) (by decide)
          have HBV : Hid (Crc.back y = v / 2) := by show _ = _; unfold Crc.back; rw [if_pos hodd, hv]
          obtain ⟨u, hu⟩ : ∃ u, v / 2 = u := ⟨_, rfl⟩
          have hui : (v : Int) / 2 = (u : Int) := by omega
          have HU : Hid (pw Crc.G (Z - (j + 1) + 31) = u) := by show _ = _; rw [HB.out, HBV.out, hu]
          clear hodd hv hu
          gi_wp2
          exact ⟨⟨j + 1, u, hjZ, rfl, rfl, HU, HJ3.out⟩, by simp [intOf]; omega⟩
        · have ho : ¬ (y : Int) % 2 = 1 := by omega
          have HBV : Hid (Crc.back y = y / 2) := by show _ = _; unfold Crc.back; rw [if_neg hodd]
          obtain ⟨u, hu⟩ : ∃ u, y / 2 = u := ⟨_, rfl⟩
          have hui : (y : Int) / 2 = (u : Int) := by omega
          have HU : Hid (pw Crc.G (Z - (j + 1) + 31) = u) := by show _ = _; rw [HB.out, HBV.out, hu]
          have ho2 : ((y : Int) % 2 == 1) = false := by simp; omega
          clear hodd hu
          gi_wp2
          exact ⟨⟨j + 1, u, hjZ, rfl, rfl, HU, HJ3.out⟩, by simp [intOf]; omega⟩
      · gi_wp2
        refine bodyPost_ret (results_none rfl _ _ _) rfl ?_
        exact ⟨⟨_, rfl⟩, .inr ⟨List.range j ++ [j], by rw [← HRS.out, HZ.out]; exact range_take Z (j + 1) hjZ, hJx3⟩⟩
    · have he : j = Z := by omega
      have HE : Hid (J (List.range Z) wr) := by show J _ _; rw [← he]; exact hJs
      have hj2 : ¬ (j : Int) < (Z : Int) := by omega
      have hj2b : decide ((j : Int) < (Z : Int)) = false := by simp; omega
      clear hjZ hJs he hj
      gi_wp2
      go_end0
      exact ⟨⟨_, rfl⟩, .inl (by rw [HZ.out]; exact HE.out)⟩

theorem parts_in (n : Nat) (w : World) :
    CallsIn Fence.wide 8 Tryd.prog 44 #[.int .i64 n] w fun e w' => e = .returned (.func (.func 62) #[] #[.pointer (some ⟨w.heap.size, 0, none⟩)]) ∧ w' = w.alloc (.cells #[.int .i64 n] 3) := by
  refine callsIn_of_wp Tryd.func44 rfl trivial ?_ rfl
  simp only [Tryd.ntmps44, List.size_toArray, List.length_cons, List.length_nil, Nat.reduceAdd, Nat.reduceSub, Array.replicate_succ, Array.replicate_zero, List.push_toArray, List.append_toArray, List.nil_append, List.cons_append]
  gi_wp2
  go_ret
  exact ⟨rfl, rfl⟩

theorem prefix_last {pre pre0 : List Nat} {k N : Nat} (h : pre <+: List.range N) (e : pre = pre0 ++ [k]) : k < N ∧ ∀ j, j < k → j ∈ pre0 := by
  subst e
  have hl := h.length_le
  rw [List.length_append, List.length_singleton, List.length_range] at hl
  have he := List.prefix_iff_eq_take.1 h
  rw [List.length_append, List.length_singleton, List.take_range, Nat.min_eq_left hl, List.range_succ] at he
  have h2 := List.append_inj' he rfl
  have hk : k = pre0.length := by simpa using h2.2
  refine ⟨by omega, fun j hj => ?_⟩
  rw [h2.1]
  exact List.mem_range.2 (by omega)

set_option maxRecDepth 100000 in
set_option maxHeartbeats 8000000 in
theorem find_in (a : Option Addr) (n cap : Nat) (xs : List Nat) (hxs : ∀ y ∈ xs, y < 256) (hn : xs.length = n) (h4 : 4 ≤ n) (h6 : n ≤ 65536) (w : World) (B : Nat) (hS : Seen w B .u8 a xs) (hBw : B ≤ w.heap.size) (hT : HT w) (ch : Nat) (hch : Crc.upd 0 xs ^^^ 558161692 = ch) :
    CallsIn Fence.wide 9 Tryd.prog 20 #[.slice a n cap] w fun e w' => (∃ k f : Nat, e = .returned (.tuple #[.int .i64 k, .int .i64 f]) ∧ ((f = 0 ∧ k < 8 * n ∧ Crc.part n k = ch ∧ ∀ j, j < k → Crc.part n j ≠ ch) ∨ (f = 6 ∧ k = 0 ∧ ∀ j, j < 8 * n → Crc.part n j ≠ ch))) ∧ Below w.heap.size w w' := by
  refine callsIn_of_wp_marks Tryd.func20 rfl trivial ?_ rfl
  simp only [Tryd.ntmps20, List.size_toArray, List.length_cons, List.length_nil, Nat.reduceAdd, Nat.reduceSub, Array.replicate_succ, Array.replicate_zero, List.push_toArray, List.append_toArray, List.nil_append, List.cons_append]
  obtain ⟨s, hs⟩ : ∃ s, Crc.upd 0 xs = s := ⟨_, rfl⟩
  have hsl : s < 2 ^ 32 := by rw [← hs]; exact Crc.upd_lt hxs (by decide)
  have hxc : bits .xor .u32 (s : Int) 558161692 = (ch : Int) := xb (b := 558161692) hsl (by decide) (by rw [← hs]; exact hch)
  have HX : Hid (∀ y ∈ xs, y < 256) := hxs
  have HN := Lib.hid hn
  have HL : Hid (n ≤ maxLen) := by show n ≤ maxLen; unfold maxLen; omega
  have HS : Hid (Seen w B .u8 a xs) := hS
  have HT' : Hid (HT w) := hT
  have HSM := Lib.hid hs
  have h4i : ¬ (n : Int) < 4 := by omega
  have h4b : decide ((n : Int) < 4) = false := by simp; omega
  have h6i : ¬ (65536 : Int) < (n : Int) := by omega
  have h6b : decide ((65536 : Int) < (n : Int)) = false := by simp; omega
  have H1 : Hid (1 ≤ n) := by show _ ≤ _; omega
  have H16 : Hid (n ≤ 16777216) := by show _ ≤ _; omega
  clear hxs hn hS hT hs hsl hch h4 h6
  refine wpIn_wide.2 ?_
  go_wp2
  apply wp_scope_straight
  go_wp2_with (first
    | (go_at_call 32; ((with_reducible refine (sum_any a n cap xs HX.out HN.out HL.out w B HS.out HT'.out s HSM.out).mono ?_); rintro e w1 ⟨rfl, rfl⟩))
    | (go_at_call 44; (refine (callsIn_wide.1 (parts_in n _)).mono ?_); rintro e w2 ⟨rfl, rfl⟩))
  apply wp_label
  go_wp2_with (first
    | (go_at_call 32; ((with_reducible refine (sum_any a n cap xs HX.out HN.out HL.out w B HS.out HT'.out s HSM.out).mono ?_); rintro e w1 ⟨rfl, rfl⟩))
    | (go_at_call 44; (refine (callsIn_wide.1 (parts_in n _)).mono ?_); rintro e w2 ⟨rfl, rfl⟩))
  refine (wpIn_wide (n := 9)).1 ?_
  have hs0 := (((Boxed.new w 23 (.int .u32 ch)).alloc (.cells #[.int .i64 0] 3)).alloc (.cells #[.int .i64 6] 33)).alloc (.cells #[.int .i64 n] 3)
  have hs1 := ((Boxed.new (w.alloc (.cells #[.int .u32 ch] 23)) 3 (.int .i64 0)).alloc (.cells #[.int .i64 6] 33)).alloc (.cells #[.int .i64 n] 3)
  have hs2 := (Boxed.new ((w.alloc (.cells #[.int .u32 ch] 23)).alloc (.cells #[.int .i64 0] 3)) 33 (.int .i64 6)).alloc (.cells #[.int .i64 n] 3)
  have hs3 := Boxed.new (((w.alloc (.cells #[.int .u32 ch] 23)).alloc (.cells #[.int .i64 0] 3)).alloc (.cells #[.int .i64 6] 33)) 3 (.int .i64 n)
  rw [World.size_alloc] at hs1
  rw [World.size_alloc, World.size_alloc] at hs2
  rw [World.size_alloc, World.size_alloc, World.size_alloc] at hs3
  refine wpIn_rangeFunc_ownF rfl (by decide) (gf := 62) (lb := #[.pointer (some ⟨w.heap.size + 1 + 1 + 1, 0, none⟩)]) rfl trivial (enters_of Tryd.func62 (by kernel_rfl) rfl)
    (seqStopsA_iff.1 (parts_stops n H1.out H16.out (w.heap.size + 1 + 1 + 1) _ hs3.cell hs3.lt)) walksK_t walksK_b (Below.refl _ _) (fun _ => rfl)
    (fun pre W => Boxed W w.heap.size 23 (.int .u32 ch) ∧ Boxed W (w.heap.size + 1) 3 (.int .i64 0) ∧ Boxed W (w.heap.size + 1 + 1) 33 (.int .i64 6) ∧ Hid (∀ j ∈ pre, Crc.part n j ≠ ch) ∧ Below w.heap.size w W)
    (fun c pre W => c = Code.exit 0 ∧ ∃ (pre0 : List Nat) (k : Nat), pre = pre0 ++ [k] ∧ Boxed W (w.heap.size + 1) 3 (.int .i64 k) ∧ Boxed W (w.heap.size + 1 + 1) 33 (.int .i64 0) ∧ Crc.part n k = ch ∧ Hid (∀ j ∈ pre0, Crc.part n j ≠ ch) ∧ Below w.heap.size w W)
    (OwnFrom.and (Own.from (boxed_own _ _ _) _) (OwnFrom.and (Own.from (boxed_own _ _ _) _) (OwnFrom.and (Own.from (boxed_own _ _ _) _) (OwnFrom.and (fun _ _ _ _ h _ _ => h) (ownFrom_below (Nat.le_refl _) (by simp; omega))))))
    (fun c pre W W' row h hg hr => by
      obtain ⟨hc, pre0, k, hpre, b1, b2, hp, hno, hB⟩ := h
      exact ⟨hc, pre0, k, hpre, (Own.from (boxed_own (β := List Nat) (w.heap.size + 1) 3 (fun _ => .int .i64 k)) _) pre W W' row b1 hg hr, (Own.from (boxed_own (β := List Nat) (w.heap.size + 1 + 1) 33 (fun _ => .int .i64 0)) _) pre W W' row b2 hg hr, hp, hno, (ownFrom_below (β := List Nat) (Nat.le_refl _) (by simp; omega)) pre W W' row hB hg hr⟩)
    ⟨hs0, hs1, hs2, (fun j h => by cases h), ((((Below.refl _ w).alloc (Nat.le_refl _) _).alloc (by simp) _).alloc (by simp; omega) _).alloc (by simp; omega) _⟩
    (fun p => { tmps := #[.slice a n cap, undef, .int .i64 0, .int .i64 0, .pointer (some ⟨w.heap.size, 0, none⟩), .pointer (some ⟨w.heap.size + 1, 0, none⟩), .pointer (some ⟨w.heap.size + 1 + 1, 0, none⟩), .int .i64 p, .int .u32 (Crc.part n p), .slice a n cap, .int .i64 n, .bool false, .bool false, .slice a n cap, .int .i64 n, .bool false, .bool false, .slice a n cap, .int .u32 s, .int .u32 ch, .slice a n cap, .int .i64 n, .func (.func 62) #[] #[.pointer (some ⟨w.heap.size + 1 + 1 + 1, 0, none⟩)], .int .i64 p, .int .u32 (Crc.part n p), undef, undef, undef, undef, undef, undef], defers := [] }) ?assign ?body ?done ?stop
  case assign =>
    intro l p W K hK
    gi_wp2
    simpa [encp] using hK
  case body =>
    rintro l pre p W ⟨hch, hbit, hft, hno, hB⟩ hlt
    have hc1 := hch.cell
    have hc2 := hbit.cell
    have hf2 := hbit.frozen
    have hc3 := hft.cell
    have hf3 := hft.frozen
    by_cases hq : Crc.part n p = ch
    · have hqb : (((Crc.part n p : Nat) : Int) == (ch : Int)) = true := by rw [hq]; simp
      gi_wp2
      refine ⟨(KeepsOthers.setCell _ _ _).trans (KeepsOthers.setCell _ _ _), rfl, pre, p, rfl, ?_, ?_, hq, hno, ?_⟩
      · exact (hbit.set _).other (by omega) _
      · exact (hft.other (by omega) _).set _
      · exact (hB.setCell (by show w.heap.size ≤ w.heap.size + 1; omega) _).setCell (by show w.heap.size ≤ w.heap.size + 1 + 1; omega) _
    · have hqb : (((Crc.part n p : Nat) : Int) == (ch : Int)) = false := by simp; omega
      gi_wp2
      refine ⟨KeepsOthers.refl _, (KeepsOthers.refl _).walks, hch, hbit, hft, fun j hj => ?_, hB⟩
      rcases List.mem_append.1 hj with h | h
      · exact hno.out j h
      · rw [List.mem_singleton.1 h]; exact hq
  case done =>
    rintro D ys W hD rfl ⟨hch, hbit, hft, hno, hB⟩ hK
    have hc2 := hbit.cell
    have hc3 := hft.cell
    go_wp2
    go_region
    go_wp2
    refine ⟨by simp, .inl ⟨_, _, rfl, run_takeDeferred (w := W.drew) hK, ?_⟩⟩
    refine ⟨_, results_tmp2 rfl _ _ _, ?_⟩
    exact ⟨⟨0, 6, rfl, .inr ⟨rfl, rfl, fun j hj => hno.out j (List.mem_range.2 hj)⟩⟩, hB.drew.trans (belowK_b (w := w) (Nat.le_refl _) W.drew D _ _ (by simp at hD; omega) hK rfl rfl)⟩
  case stop =>
    rintro D c pre W hD hpre ⟨rfl, pre0, k, hpk, hbit, hft, hp, hno, hB⟩ hK
    have hc2 := hbit.cell
    have hc3 := hft.cell
    refine wpIn_wide.2 ?_
    go_wp2
    go_region
    go_wp2
    refine ⟨by simp, .inl ⟨_, _, rfl, run_takeDeferred (w := W.drew) hK, ?_⟩⟩
    refine ⟨_, results_tmp2 rfl _ _ _, ?_⟩
    obtain ⟨h1, h2⟩ := prefix_last hpre hpk
    exact ⟨⟨k, 0, rfl, .inl ⟨rfl, h1, hp, fun j hj => hno.out j (h2 j hj)⟩⟩, hB.drew.trans (belowK_b (w := w) (Nat.le_refl _) W.drew D _ _ (by simp at hD; omega) hK rfl rfl)⟩

theorem find_any (a : Option Addr) (n cap : Nat) (xs : List Nat) (hxs : ∀ y ∈ xs, y < 256) (hn : xs.length = n) (h4 : 4 ≤ n) (h6 : n ≤ 65536) (w : World) (B : Nat) (hS : Seen w B .u8 a xs) (hBw : B ≤ w.heap.size) (hT : HT w) (ch : Nat) (hch : Crc.upd 0 xs ^^^ 558161692 = ch) :
    Calls Tryd.prog 20 #[.slice a n cap] w fun e w' => (∃ k f : Nat, e = .returned (.tuple #[.int .i64 k, .int .i64 f]) ∧ ((f = 0 ∧ k < 8 * n ∧ Crc.part n k = ch ∧ ∀ j, j < k → Crc.part n j ≠ ch) ∨ (f = 6 ∧ k = 0 ∧ ∀ j, j < 8 * n → Crc.part n j ≠ ch))) ∧ Below w.heap.size w w' :=
  (callsIn_wide (n := 9)).1 (find_in a n cap xs hxs hn h4 h6 w B hS hBw hT ch hch)

end Go.Proofs.YtoecddkglenigaaDoor
