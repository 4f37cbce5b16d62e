/-
  Sets that are not right have no members.
-/
import Derived.Test.YtkochcolmkgkgaaDoorRuns
import Derived.Deep.RegionHeld3
namespace Go.Proofs.YtkochcolmkgkgaaDoor
open Go.RowKit
attribute [local go_sem] Oper.semAt_some
set_option linter.unusedVariables false

section
variable (N : Int) (a : Option Addr) (n c : Nat) (xs : List Nat) (hn : xs.length = n) (hX : ∀ x ∈ xs, x < 2 ^ 64) (hR : NotRt N xs) (w : World) (B : Nat) (hS : Seen w B .u64 a xs) (hB : B ≤ w.heap.size)
include hn hX hR hS hB

set_option maxRecDepth 100000 in
set_option maxHeartbeats 1000000 in
theorem has_bad (i : Int) : Calls Tryd.prog 28 #[.agg #[.int .i64 N, .slice a n c], .int .i64 i] w fun e w' => e = .returned (.bool false) ∧ Below w.heap.size w w' := by
  have HN := Lib.hid hn
  have HX : Hid (∀ x ∈ xs, x < 2 ^ 64) := hX
  have HR : Hid (NotRt N xs) := hR
  have HS : Hid (Seen w B .u64 a xs) := hS
  have HB := Lib.hid hB
  clear hn hX hR hS
  go_enter Tryd.func28, Tryd.ntmps28
  go_wp2_with (go_at_call 34; ((with_reducible refine (right_no N a n c xs HN.out HX.out HR.out _ B (HS.out.alloc HB.out _) (by simp; omega)).mono ?_); rintro e w1 ⟨rfl, hb1⟩; have HB1 := Lib.hid hb1; obtain ⟨hc1, hf1⟩ := bcell hb1; clear hb1))
  go_ret
  exact ⟨rfl, below_alloc HB1.out⟩
set_option maxRecDepth 100000 in
set_option maxHeartbeats 1000000 in
theorem rank_bad (i : Int) : Calls Tryd.prog 25 #[.agg #[.int .i64 N, .slice a n c], .int .i64 i] w fun e w' => e = .returned (.int .i64 0) ∧ Below w.heap.size w w' := by
  have HN := Lib.hid hn
  have HX : Hid (∀ x ∈ xs, x < 2 ^ 64) := hX
  have HR : Hid (NotRt N xs) := hR
  have HS : Hid (Seen w B .u64 a xs) := hS
  have HB := Lib.hid hB
  clear hn hX hR hS
  go_enter Tryd.func25, Tryd.ntmps25
  go_wp2_with (go_at_call 34; ((with_reducible refine (right_no N a n c xs HN.out HX.out HR.out _ B (HS.out.alloc HB.out _) (by simp; omega)).mono ?_); rintro e w1 ⟨rfl, hb1⟩; have HB1 := Lib.hid hb1; obtain ⟨hc1, hf1⟩ := bcell hb1; clear hb1))
  go_ret
  exact ⟨rfl, below_alloc HB1.out⟩
set_option maxRecDepth 100000 in
set_option maxHeartbeats 1000000 in
theorem select_bad (i : Int) : Calls Tryd.prog 20 #[.agg #[.int .i64 N, .slice a n c], .int .i64 i] w fun e w' => e = .returned (.tuple #[.int .i64 0, .bool false]) ∧ Below w.heap.size w w' := by
  have HN := Lib.hid hn
  have HX : Hid (∀ x ∈ xs, x < 2 ^ 64) := hX
  have HR : Hid (NotRt N xs) := hR
  have HS : Hid (Seen w B .u64 a xs) := hS
  have HB := Lib.hid hB
  clear hn hX hR hS
  go_enter Tryd.func20, Tryd.ntmps20
  go_wp2_with (go_at_call 34; ((with_reducible refine (right_no N a n c xs HN.out HX.out HR.out _ B (HS.out.alloc HB.out _) (by simp; omega)).mono ?_); rintro e w1 ⟨rfl, hb1⟩; have HB1 := Lib.hid hb1; obtain ⟨hc1, hf1⟩ := bcell hb1; clear hb1))
  go_ret2
  exact ⟨rfl, below_alloc HB1.out⟩
set_option maxRecDepth 100000 in
set_option maxHeartbeats 1000000 in
theorem count_bad : Calls Tryd.prog 21 #[.agg #[.int .i64 N, .slice a n c]] w fun e w' => e = .returned (.int .i64 0) ∧ Below w.heap.size w w' := by
  have HN := Lib.hid hn
  have HX : Hid (∀ x ∈ xs, x < 2 ^ 64) := hX
  have HR : Hid (NotRt N xs) := hR
  have HS : Hid (Seen w B .u64 a xs) := hS
  have HB := Lib.hid hB
  clear hn hX hR hS
  go_enter Tryd.func21, Tryd.ntmps21
  go_wp2_with (go_at_call 25; ((with_reducible refine (rank_bad N a n c xs HN.out HX.out HR.out _ B (HS.out.alloc HB.out _) (by simp; omega) N).mono ?_); rintro e w1 ⟨rfl, hb1⟩; have HB1 := Lib.hid hb1; clear hb1))
  go_ret
  exact ⟨rfl, below_alloc HB1.out⟩
set_option maxRecDepth 100000 in
set_option maxHeartbeats 1000000 in
theorem next_bad (i : Int) : Calls Tryd.prog 26 #[.agg #[.int .i64 N, .slice a n c], .int .i64 i] w fun e w' => e = .returned (.tuple #[.int .i64 0, .bool false]) ∧ Below w.heap.size w w' := by
  have HN := Lib.hid hn
  have HX : Hid (∀ x ∈ xs, x < 2 ^ 64) := hX
  have HR : Hid (NotRt N xs) := hR
  have HB := Lib.hid hB
  obtain ⟨W1, hW1⟩ : ∃ W1, w.alloc (.cells #[.int .i64 N, .slice a n c] 24) = W1 := ⟨_, rfl⟩
  have HBW : Hid (Below w.heap.size w W1) := by rw [← hW1]; exact (Below.refl _ w).alloc (Nat.le_refl _) _
  have HBX : Hid (Box W1 w.heap.size (.int .i64 N) (.slice a n c)) := by rw [← hW1]; exact Box.new w _ _
  have HS1 : Hid (Seen W1 B .u64 a xs) := hS.below (HBW.out.mono hB)
  have b0 := HBX.out.cells.1
  have b1 := HBX.out.cells.2.1
  clear hn hX hR hS
  go_enter Tryd.func26, Tryd.ntmps26
  go_wp2
  try rw [hW1]
  clear hW1
  go_region_held3 (fun W => W.cell? ⟨w.heap.size, 0, none⟩ = some (.int .i64 N) ∧ W.cell? ⟨w.heap.size, 1, none⟩ = some (.slice a n c)) (first | go_keep | exact ⟨b0, b1⟩ | exact ⟨(hb2.cell (p := ⟨w.heap.size, 0, none⟩) HBX.out.lt).trans b0, (hb2.cell (p := ⟨w.heap.size, 1, none⟩) HBX.out.lt).trans b1⟩ | exact ⟨(hb3.cell (p := ⟨w.heap.size, 0, none⟩) HBX.out.lt).trans b0, (hb3.cell (p := ⟨w.heap.size, 1, none⟩) HBX.out.lt).trans b1⟩) (first
    | (go_at_call 25; refine (rank_bad N a n c xs HN.out HX.out HR.out _ B (by exact HS1.out) (by exact Nat.le_trans HB.out HBW.out.size) i).mono ?_; rintro e w2 ⟨rfl, hb2'⟩; have hb2 : Below W1.heap.size W1 w2 := (Below.refl _ W1).drew.trans hb2')
    | (go_at_call 20; refine (select_bad N a n c xs HN.out HX.out HR.out _ B (by exact HS1.out.below (hb2.mono (Nat.le_trans HB.out HBW.out.size))) (by exact Nat.le_trans (Nat.le_trans HB.out HBW.out.size) hb2.size) _).mono ?_; rintro e w3 ⟨rfl, hb3'⟩; have hb3 : Below W1.heap.size W1 w3 := hb2.trans (hb3'.mono hb2.size)))
  rename_i hcont hheld
  refine hcont _ _ ?_
  go_wp2
  go_ret2
  exact ⟨rfl, HBW.out.trans ((hb2.trans (hb3'.mono hb2.size)).mono HBW.out.size)⟩
set_option maxRecDepth 100000 in
set_option maxHeartbeats 1000000 in
theorem before_bad (i : Int) : Calls Tryd.prog 27 #[.agg #[.int .i64 N, .slice a n c], .int .i64 i] w fun e w' => e = .returned (.tuple #[.int .i64 0, .bool false]) ∧ Below w.heap.size w w' := by
  have HN := Lib.hid hn
  have HX : Hid (∀ x ∈ xs, x < 2 ^ 64) := hX
  have HR : Hid (NotRt N xs) := hR
  have HB := Lib.hid hB
  obtain ⟨W1, hW1⟩ : ∃ W1, w.alloc (.cells #[.int .i64 N, .slice a n c] 24) = W1 := ⟨_, rfl⟩
  have HBW : Hid (Below w.heap.size w W1) := by rw [← hW1]; exact (Below.refl _ w).alloc (Nat.le_refl _) _
  have HBX : Hid (Box W1 w.heap.size (.int .i64 N) (.slice a n c)) := by rw [← hW1]; exact Box.new w _ _
  have HS1 : Hid (Seen W1 B .u64 a xs) := hS.below (HBW.out.mono hB)
  have b0 := HBX.out.cells.1
  have b1 := HBX.out.cells.2.1
  clear hn hX hR hS
  go_enter Tryd.func27, Tryd.ntmps27
  go_wp2
  try rw [hW1]
  clear hW1
  go_region_held3 (fun W => W.cell? ⟨w.heap.size, 0, none⟩ = some (.int .i64 N) ∧ W.cell? ⟨w.heap.size, 1, none⟩ = some (.slice a n c)) (first | go_keep | exact ⟨b0, b1⟩ | exact ⟨(hb2.cell (p := ⟨w.heap.size, 0, none⟩) HBX.out.lt).trans b0, (hb2.cell (p := ⟨w.heap.size, 1, none⟩) HBX.out.lt).trans b1⟩ | exact ⟨(hb3.cell (p := ⟨w.heap.size, 0, none⟩) HBX.out.lt).trans b0, (hb3.cell (p := ⟨w.heap.size, 1, none⟩) HBX.out.lt).trans b1⟩) (first
    | (go_at_call 25; refine (rank_bad N a n c xs HN.out HX.out HR.out _ B (by exact HS1.out) (by exact Nat.le_trans HB.out HBW.out.size) i).mono ?_; rintro e w2 ⟨rfl, hb2'⟩; have hb2 : Below W1.heap.size W1 w2 := (Below.refl _ W1).drew.trans hb2')
    | (go_at_call 20; refine (select_bad N a n c xs HN.out HX.out HR.out _ B (by exact HS1.out.below (hb2.mono (Nat.le_trans HB.out HBW.out.size))) (by exact Nat.le_trans (Nat.le_trans HB.out HBW.out.size) hb2.size) _).mono ?_; rintro e w3 ⟨rfl, hb3'⟩; have hb3 : Below W1.heap.size W1 w3 := hb2.trans (hb3'.mono hb2.size)))
  rename_i hcont hheld
  refine hcont _ _ ?_
  go_wp2
  go_ret2
  exact ⟨rfl, HBW.out.trans ((hb2.trans (hb3'.mono hb2.size)).mono HBW.out.size)⟩
set_option maxRecDepth 100000 in
set_option maxHeartbeats 1000000 in
theorem members_none (b : Nat) (hbx : Box w b (.int .i64 N) (.slice a n c)) :
    SeqStopsK Fence.wide 8 Tryd.prog 71 #[.pointer (some ⟨b, 0, none⟩)] encm (KB B) (fun l => l = []) (fun _ => True) 0 w := fun l J Jx W hW hJ hJx hY h0 => by
  have HBX : Hid (Box W b (.int .i64 N) (.slice a n c)) := hbx.keep hW
  have HSW : Hid (Seen W B .u64 a xs) := hS.below (hW.mono hB)
  have HBW : Hid (B ≤ W.heap.size) := Nat.le_trans hB hW.size
  have HX : Hid (∀ x ∈ xs, x < 2 ^ 64) := hX
  have HR : Hid (NotRt N xs) := hR
  have HN := Lib.hid hn
  obtain ⟨c0, c1, c2, c3⟩ := HBX.out.cells
  have hbW := HBX.out.lt
  clear hn hX hR hS hbx hB
  refine callsIn_of_wp Tryd.func71 rfl trivial ?_ rfl
  simp only [Tryd.ntmps71, List.size_toArray, List.length_cons, List.length_nil, Nat.reduceAdd, Nat.reduceSub, Array.replicate_succ, Array.replicate_zero, List.push_toArray, List.append_toArray, List.nil_append, List.cons_append]
  gi_wp2_with (refine ⟨trivial, ?_⟩; gi_at_call 34; (with_reducible refine (callsIn_wide.2 (right_no N a n c xs HN.out HX.out HR.out W B HSW.out HBW.out)).mono ?_); rintro e w2 ⟨rfl, hb2⟩; have HJ0 : Hid (J [] w2) := hJ [] W w2 none h0 (grown_of_below hb2) (fun r e => by cases e); clear hb2)
  refine bodyPost_ret (results_none rfl _ _ _) rfl ?_
  exact ⟨⟨_, rfl⟩, .inl ⟨[], rfl, HJ0.out⟩⟩

set_option maxRecDepth 100000 in
set_option maxHeartbeats 8000000 in
theorem members_bad_in :
    CallsIn Fence.wide 9 Tryd.prog 24 #[.agg #[.int .i64 N, .slice a n c]] w fun e w' => (∃ v, e = .returned v ∧ w'.ownsRow w.heap.size 3 1 v 0 []) ∧ Below w.heap.size w w' := by
  refine callsIn_of_wp_marks Tryd.func24 rfl trivial ?_ rfl
  simp only [Tryd.ntmps24, List.size_toArray, List.length_cons, List.length_nil, Nat.reduceAdd, Nat.reduceSub, Array.replicate_succ, Array.replicate_zero, List.push_toArray, List.append_toArray, List.nil_append, List.cons_append]
  obtain ⟨i0, hi, hz0, hz1, hz2⟩ := info_parts infoI
  have HN := Lib.hid hn
  have HX : Hid (∀ x ∈ xs, x < 2 ^ 64) := hX
  have HR : Hid (NotRt N xs) := hR
  have HS : Hid (Seen w B .u64 a xs) := hS
  have HB := Lib.hid hB
  clear hn hX hR hS
  refine wpIn_wide.2 ?_
  go_wp2_with (first
    | (go_at_call 21; ((with_reducible refine (count_bad N a n c xs HN.out HX.out HR.out _ B (HS.out.alloc HB.out _) (by simp; omega)).mono ?_); rintro e w1 ⟨rfl, hb1⟩; have HB1 := Lib.hid (below_alloc hb1); have HX1 := Lib.hid ((Box.new w _ _).keep hb1); clear hb1))
    | (at_make; refine wpList_make_own _ rfl _ _ 27 rfl w.heap.size 3 i0 (.int .i64 0) 1 Tryd.underlying27 hi hz0 hz1 .i64 .i64 _ 0 rfl rfl rfl (by rw [hz2]; omega) (by unfold maxLen; omega) HB1.out.size ?_; intro w2 hown2 hgrow2; have hb2 := below_own hgrow2 (fun g e => by cases e) (Nat.le_refl _); have HB2 := Lib.hid (HB1.out.trans (hb2.mono HB1.out.size)); have HX2 := Lib.hid (HX1.out.keep hb2); have HO2 := Lib.hid hown2; obtain ⟨b0, b1, b2, b3⟩ := HX2.out.cells; have hlt2 := HX2.out.lt; clear hb2 hown2 hgrow2)
    | (go_at_call 60; ((with_reducible refine (members_any N a n c _).mono ?_); rintro e w' ⟨rfl, rfl⟩)))
  refine (wpIn_wide (n := 9)).1 ?_
  have HX3 : Hid (Box ((w2.alloc (.cells #[.slice (some ⟨w1.heap.size, 0, none⟩) 0 0] 27)).alloc (.cells #[.int .i64 N, .slice a n c] 24)) (w2.heap.size + 1) (.int .i64 N) (.slice a n c)) := by
    have := Box.new (w2.alloc (.cells #[.slice (some ⟨w1.heap.size, 0, none⟩) 0 0] 27)) (.int .i64 N) (.slice a n c)
    rw [World.size_alloc] at this
    exact this
  have hbl := (Boxed.new w2 27 (.slice (some ⟨w1.heap.size, 0, none⟩) 0 0)).alloc (.cells #[.int .i64 N, .slice a n c] 24)
  have HB3 : Hid (Below w.heap.size w ((w2.alloc (.cells #[.slice (some ⟨w1.heap.size, 0, none⟩) 0 0] 27)).alloc (.cells #[.int .i64 N, .slice a n c] 24))) := (HB2.out.alloc HB2.out.size _).alloc (by have := HB2.out.size; simp; omega) _
  have HWS : Hid (w.heap.size ≤ w2.heap.size) := HB2.out.size
  clear b0 b1 b2 b3 hlt2
  refine wpIn_rangeFunc_ownF rfl (by decide) (gf := 71) (lb := #[.pointer (some ⟨w2.heap.size + 1, 0, none⟩)]) rfl trivial (enters_of Tryd.func71 (by kernel_rfl) rfl)
    (members_none N a n c xs HN.out HX.out HR.out _ B (HS.out.below (HB3.out.mono HB.out)) (Nat.le_trans HB.out HB3.out.size) (w2.heap.size + 1) HX3.out) (fun h k => h.trans k) (fun W l o o' hl _ _ _ => KB.put (Nat.le_trans (Nat.le_trans HB.out HB3.out.size) hl)) (Below.refl _ _) (fun _ => rfl)
    (fun pre W => (∃ v, Boxed W w2.heap.size 27 v ∧ W.ownsRow w.heap.size 3 1 v 0 [] ∧ True) ∧ Below w.heap.size w W)
    (fun _ _ _ => False)
    (OwnFrom.and (Own.from (holdsRow_own w.heap.size w2.heap.size _ _ 1 (fun pre : List (Fin 65536) => 0) (fun pre => []) (fun _ _ => True)) _) (ownFrom_below (Nat.le_refl _) (by have := HWS.out; simp; omega)))
    (fun _ _ _ _ _ hs _ _ => hs)
    ⟨⟨_, hbl, (HO2.out.alloc _).alloc _, trivial⟩, HB3.out⟩
    (fun p => { tmps := #[.agg #[.int .i64 N, .slice a n c], .pointer (some ⟨w.heap.size, 0, none⟩), .slice none 0 0, .pointer (some ⟨w2.heap.size, 0, none⟩), .int .i64 p.val, .agg #[.int .i64 N, .slice a n c], .int .i64 0, .slice (some ⟨w1.heap.size, 0, none⟩) 0 0, .agg #[.int .i64 N, .slice a n c], .func (.func 71) #[] #[.pointer (some ⟨w2.heap.size + 1, 0, none⟩)], .int .i64 p.val, undef, undef, undef, undef, undef], defers := [] }) ?assign ?body ?done ?stop
  case assign =>
    intro l p W K hK
    gi_wp2
    simpa [encm] using hK
  case body =>
    intro l pre p W _ hlt
    exact absurd hlt (Nat.not_lt_zero _)
  case done =>
    rintro D ys W hD rfl ⟨⟨v, hbx, hrow, _⟩, hB'⟩ hK
    have hc := hbx.cell
    go_wp2
    refine ⟨by simp, .inl ⟨_, _, rfl, run_takeDeferred hK, ?_⟩⟩
    refine ⟨_, results_tmp rfl _ _ _, ⟨v, rfl, ?_⟩, ?_⟩
    · exact ownsRow_putObj hrow _ hK rfl
    · exact hB'.trans (belowK_b (w := w) (Nat.le_refl _) W D _ _ (by have := HWS.out; simp at hD; omega) hK rfl rfl)
  case stop =>
    rintro D c pre W _ _ h _
    exact h.elim

set_option maxRecDepth 100000 in
set_option maxHeartbeats 8000000 in
theorem runs_bad_in :
    CallsIn Fence.wide 9 Tryd.prog 22 #[.agg #[.int .i64 N, .slice a n c]] w fun e w' => (∃ v, e = .returned v ∧ w'.ownsRow w.heap.size 50 2 v 0 []) ∧ Below w.heap.size w w' := by
  refine callsIn_of_wp_marks Tryd.func22 rfl trivial ?_ rfl
  simp only [Tryd.ntmps22, List.size_toArray, List.length_cons, List.length_nil, Nat.reduceAdd, Nat.reduceSub, Array.replicate_succ, Array.replicate_zero, List.push_toArray, List.append_toArray, List.nil_append, List.cons_append]
  have HN := Lib.hid hn
  have HX : Hid (∀ x ∈ xs, x < 2 ^ 64) := hX
  have HR : Hid (NotRt N xs) := hR
  have HS : Hid (Seen w B .u64 a xs) := hS
  have HB := Lib.hid hB
  clear hn hX hR hS
  refine wpIn_wide.2 ?_
  go_wp2_with (first
    | (go_at_call 60; ((with_reducible refine (members_any N a n c _).mono ?_); rintro e w' ⟨rfl, rfl⟩)))
  refine (wpIn_wide (n := 9)).1 ?_
  have HX3 : Hid (Box (((w.alloc (.cells #[.int .i64 N, .slice a n c] 24)).alloc (.cells #[.slice none 0 0] 42)).alloc (.cells #[.int .i64 N, .slice a n c] 24)) (w.heap.size + 1 + 1) (.int .i64 N) (.slice a n c)) := by
    have := Box.new ((w.alloc (.cells #[.int .i64 N, .slice a n c] 24)).alloc (.cells #[.slice none 0 0] 42)) (.int .i64 N) (.slice a n c)
    rw [World.size_alloc, World.size_alloc] at this
    exact this
  have hbl := (Boxed.new (w.alloc (.cells #[.int .i64 N, .slice a n c] 24)) 42 (.slice none 0 0)).alloc (.cells #[.int .i64 N, .slice a n c] 24)
  rw [World.size_alloc] at hbl
  have HB3 := Lib.hid (below3 w (.cells #[.int .i64 N, .slice a n c] 24) (.cells #[.slice none 0 0] 42) (.cells #[.int .i64 N, .slice a n c] 24))
  refine wpIn_rangeFunc_ownF rfl (by decide) (gf := 71) (lb := #[.pointer (some ⟨w.heap.size + 1 + 1, 0, none⟩)]) rfl trivial (enters_of Tryd.func71 (by kernel_rfl) rfl)
    (members_none N a n c xs HN.out HX.out HR.out _ B (HS.out.below (HB3.out.mono HB.out)) (Nat.le_trans HB.out HB3.out.size) (w.heap.size + 1 + 1) HX3.out) (fun h k => h.trans k) (fun W l o o' hl _ _ _ => KB.put (Nat.le_trans (Nat.le_trans HB.out HB3.out.size) hl)) (Below.refl _ _) (fun _ => rfl)
    (fun pre W => (∃ v, Boxed W (w.heap.size + 1) 42 v ∧ W.ownsRow w.heap.size 50 2 v 0 [] ∧ True) ∧ Below w.heap.size w W)
    (fun _ _ _ => False)
    (OwnFrom.and (Own.from (holdsRow_own w.heap.size (w.heap.size + 1) _ _ 2 (fun pre : List (Fin 65536) => 0) (fun pre => []) (fun _ _ => True)) _) (ownFrom_below (Nat.le_refl _) (by simp; omega)))
    (fun _ _ _ _ _ hs _ _ => hs)
    ⟨⟨_, hbl, World.ownsRow_nil _ _ _ _, trivial⟩, HB3.out⟩
    (fun p => { tmps := #[.agg #[.int .i64 N, .slice a n c], .pointer (some ⟨w.heap.size, 0, none⟩), .slice none 0 0, .pointer (some ⟨w.heap.size + 1, 0, none⟩), .int .i64 p.val, undef, .agg #[.int .i64 N, .slice a n c], .func (.func 71) #[] #[.pointer (some ⟨w.heap.size + 1 + 1, 0, none⟩)], .int .i64 p.val, undef, undef, undef, undef, undef, undef, undef, undef, undef, undef, undef, undef, undef, undef, undef, undef, undef, undef, undef, undef, undef, undef, undef, undef, undef, undef, undef, undef, undef, undef], defers := [] }) ?assign ?body ?done ?stop
  case assign =>
    intro l p W K hK
    gi_wp2
    simpa [encm] using hK
  case body =>
    intro l pre p W _ hlt
    exact absurd hlt (Nat.not_lt_zero _)
  case done =>
    rintro D ys W hD rfl ⟨⟨v, hbx, hrow, _⟩, hB'⟩ hK
    have hc := hbx.cell
    go_wp2
    refine ⟨by simp, .inl ⟨_, _, rfl, run_takeDeferred hK, ?_⟩⟩
    refine ⟨_, results_tmp rfl _ _ _, ⟨v, rfl, ?_⟩, ?_⟩
    · exact ownsRow_putObj hrow _ hK rfl
    · exact hB'.trans (belowK_b (w := w) (Nat.le_refl _) W D _ _ (by simp at hD; omega) hK rfl rfl)
  case stop =>
    rintro D c pre W _ _ h _
    exact h.elim
theorem members_bad : Calls Tryd.prog 24 #[.agg #[.int .i64 N, .slice a n c]] w fun e w' => (∃ v, e = .returned v ∧ w'.ownsRow w.heap.size 3 1 v 0 []) ∧ Below w.heap.size w w' :=
  (callsIn_wide (n := 9)).1 (members_bad_in N a n c xs hn hX hR w B hS hB)
theorem runs_bad : Calls Tryd.prog 22 #[.agg #[.int .i64 N, .slice a n c]] w fun e w' => (∃ v, e = .returned v ∧ w'.ownsRow w.heap.size 50 2 v 0 []) ∧ Below w.heap.size w w' :=
  (callsIn_wide (n := 9)).1 (runs_bad_in N a n c xs hn hX hR w B hS hB)
end
end Go.Proofs.YtkochcolmkgkgaaDoor
