/-
  varint.groups and varint.Size.
-/
import Derived.Test.YtdemlifjhlpclaaGroups
namespace Go.Proofs.Ytdemlifjhlpclaa
open Go.RowKit Go.Shelf
attribute [local go_sem] Oper.semAt_some

/-- groups makes the closure over a new cell that holds the number. -/
theorem groups_in (F : Fence) (n : Nat) (hf : F.fn 63) (hro : F.round = none) (x : Nat) (w : World) :
    CallsIn F n Try.prog 63 #[.int .u64 x] w fun e w' => e = .returned (.func (.func 66) #[] #[.pointer (some ⟨w.heap.size, 0, none⟩)]) ∧ w' = w.alloc (.cells #[.int .u64 x] 28) := by
  refine callsIn_of_wp Try.func63 rfl hf ?_ hro
  simp only [Try.ntmps63, List.size_toArray, List.length_cons, List.length_nil, Nat.reduceAdd, Nat.reduceSub, Array.replicate_succ, Array.replicate_zero, List.push_toArray, List.append_toArray, List.nil_append, List.cons_append]
  gi_wp2
  go_ret
  exact ⟨rfl, rfl⟩

set_option maxRecDepth 100000 in
set_option maxHeartbeats 1000000 in
/-- Size: how many groups there are. -/
theorem size_in (F : Fence) (n : Nat) (h1 : F.fn 45) (h2 : F.fn 63) (h3 : F.fn 66) (hro : F.round = none) (hn : 3 ≤ n) (x : Nat) (hx : x < 2 ^ 64) (w : World) :
    CallsIn F n Try.prog 45 #[.int .u64 x] w fun e w' => e = .returned (.int .i64 (Vi.grp x).length) ∧ Below w.heap.size w w' := by
  refine callsIn_of_wp_marks Try.func45 rfl h1 ?_ hro
  simp only [Try.ntmps45, List.size_toArray, List.length_cons, List.length_nil, Nat.reduceAdd, Nat.reduceSub, Array.replicate_succ, Array.replicate_zero, List.push_toArray, List.append_toArray, List.nil_append, List.cons_append]
  have h1n : 1 ≤ n := by omega
  have hlen := Vi.grp_len10 x hx
  gi_wp2_with (gi_at_call 63; refine (groups_in F (n - 1) h2 hro _ _).mono ?_; rintro e w' ⟨rfl, rfl⟩)
  have hs := Boxed.new w 3 (.int .i64 0)
  have hb := Boxed.new (w.alloc (.cells #[.int .i64 0] 3)) 28 (.int .u64 x)
  rw [World.size_alloc] at hb
  refine wpIn_rangeFunc_ownF hro h1n (gf := 66) (lb := #[.pointer (some ⟨w.heap.size + 1, 0, none⟩)]) rfl h3 (enters_of Try.func66 (by kernel_rfl) rfl)
    (seqStopsA_iff.1 (groups_stops F (n - 1) h3 hro (by omega) (w.heap.size + 1) x hx _ hb.cell hb.lt)) walksK_t walksK_b (Below.refl _ _) (fun _ => rfl)
    (fun pre W => Boxed W w.heap.size 3 (.int .i64 pre.length) ∧ Below w.heap.size w W)
    (fun _ _ _ => False)
    (OwnFrom.and (Own.from (boxed_own _ _ _) _) (ownFrom_below (Nat.le_refl _) (by simp; omega)))
    (fun _ _ _ _ _ hs _ _ => hs)
    ⟨hs.alloc _, ((Below.refl _ w).alloc (Nat.le_refl _) _).alloc (by simp) _⟩
    (fun p => { tmps := #[.int .u64 x, undef, .int .i64 0, .pointer (some ⟨w.heap.size, 0, none⟩), .int .u64 x, .func (.func 66) #[] #[.pointer (some ⟨w.heap.size + 1, 0, none⟩)], .int .u8 p.1, .bool p.2, undef, undef, undef], defers := [] }) ?assign ?body ?done ?stop
  case assign =>
    intro l p W K hK
    gi_wp2
    simpa [encg] using hK
  case body =>
    rintro l pre p W ⟨hb, hB⟩ hlt
    have hc := hb.cell
    have hf := hb.frozen
    have hl : pre.length < 10 := by omega
    gi_wp2
    exact ⟨KeepsOthers.setCell _ _ _, (KeepsOthers.setCell _ _ _).walks, by have := hb.set (.int .i64 (pre.length + 1)); simpa using this, hB.setCell (p := ⟨w.heap.size, 0, none⟩) (Nat.le_refl _) _⟩
  case done =>
    rintro D ys W hD rfl ⟨hb, hB⟩ hK
    have hc := hb.cell
    gi_wp2
    refine ⟨by simp, .inl ⟨_, _, rfl, run_takeDeferred hK, ?_⟩⟩
    exact ⟨_, results_tmp rfl _ _ _, rfl, hB.trans (belowK_b (w := w) (Nat.le_refl _) W D _ _ (by simp at hD; omega) hK rfl rfl)⟩
  case stop =>
    rintro D c pre W _ _ h _
    exact h.elim

end Go.Proofs.Ytdemlifjhlpclaa
