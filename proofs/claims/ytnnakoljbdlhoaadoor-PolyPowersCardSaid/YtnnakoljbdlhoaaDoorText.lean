/-
  Text.
-/
import Derived.Test.YtnnakoljbdlhoaaDoorMul
import Derived.Test.YtnnakoljbdlhoaaDoorShelf
import Derived.RangeFuncBox
import Derived.Maps.AppendAt
namespace Go.Proofs.YtnnakoljbdlhoaaDoor
open Go.RowKit Go.Shelf
attribute [local go_sem] Oper.semAt_some
set_option linter.unusedVariables false

/-- The text of a term. -/
def termT (d : Nat) : List UInt8 := if d = 0 then [49] else if d = 1 then [120] else [120, 94] ++ Lib.decDigits d
def strT (l : List UInt8) : ByteArray := ⟨l.toArray⟩
theorem dec_one {d : Nat} (h : d < 10) : (Lib.decDigits d).length = 1 := by rw [Lib.decDigits, dif_pos h]; rfl
theorem dec_two {d : Nat} (h : d < 100) : (Lib.decDigits d).length ≤ 2 := by
  rw [Lib.decDigits]
  split
  · simp
  · rw [List.length_append, dec_one (by omega)]; simp
theorem itoa_any (d : Nat) (hd : d < 100) (s : ByteArray) (hs : strT (Lib.decDigits d) = s) (w : World) : Calls Tryd.prog 58 #[.int .i64 d] w fun e w' => e = .returned (.string s) ∧ w = w' := by
  subst hs
  refine (Tryd.strconv_Itoa_small d hd w).mono ?_
  rintro e w' ⟨rfl, rfl⟩
  exact ⟨rfl, rfl⟩
set_option maxRecDepth 100000 in
theorem term_any (d : Nat) (hd : d < 64) (w : World) : Calls Tryd.prog 40 #[.int .i64 d] w fun e w' => e = .returned (.string (strT (termT d))) ∧ w = w' := by
  by_cases h0 : d = 0
  · subst h0
    go_enter Tryd.func40, Tryd.ntmps40
    go_wp2
    go_ret
    exact ⟨rfl, rfl⟩
  by_cases h1 : d = 1
  · subst h1
    go_enter Tryd.func40, Tryd.ntmps40
    go_wp2
    go_ret
    exact ⟨rfl, rfl⟩
  · have e0 : ((d : Int) == 0) = false := by simp; omega
    have e1 : ((d : Int) == 1) = false := by simp; omega
    obtain ⟨s, hs⟩ : ∃ s, strT (Lib.decDigits d) = s := ⟨_, rfl⟩
    have HS := Lib.hid hs
    have hsz : s.size ≤ 2 := by rw [← hs]; show (Lib.decDigits d).toArray.size ≤ 2; rw [List.size_toArray]; exact dec_two (by omega)
    have hszI : (s.size : Int) ≤ 2 := by omega
    have HT : Hid (strT (termT d) = ⟨#[120, 94]⟩ ++ s) := by
      show _ = _
      unfold termT
      rw [if_neg h0, if_neg h1, ← hs]
      apply ByteArray.ext
      simp [strT]
    have HD : Hid (d < 100) := by show _ < _; omega
    clear h0 h1 hd hs
    go_enter Tryd.func40, Tryd.ntmps40
    go_wp2_with (go_at_call 58; ((with_reducible refine (itoa_any d HD.out s HS.out _).mono ?_); rintro e w1 ⟨rfl, rfl⟩))
    go_ret
    exact ⟨by rw [HT.out]; rfl, rfl⟩

/-- The row of texts grows, inside the fence. -/
def termV (d : Fin 64) : Value := .string (strT (termT d.val))
theorem infoS : (Tryd.prog.info? 9).map (fun i => (i.zero, i.size, i.bytes)) = some (some (.string ⟨#[]⟩), 1, 16) := by kernel_rfl

/-- append of one text to a row of the call's own, as one step of a region inside the fence. -/
theorem stepIn_append {l n : Nat} {ops : Array Oper} {o : Oper} {a : Act} {w : World} {K : Act → World → Prop} {Q : Exit → Act → World → Prop} {E : Prop}
    (hg : o.guard = none) (s x : Operand) (hop : o.op = Op.call { callee := Callee.builtin Builtin.append, args := #[s, x], argTypes := #[35, 35] })
    (base : Nat) (v : Value) (k : Nat) (xs : List Value) (hs : a.eval s = v) (hown : w.ownsRow base 9 1 v k xs) (hb : base ≤ w.heap.size)
    (ad : Addr) (u : Value) (hu : u.oneCell' = true) (hx : a.eval x = .slice (some ad) 1 1) (hc : ∀ j z, [u][j]? = some z → w.cell? (ad.add j) = some z) (hk : k ≤ 1000)
    (hK : ∀ v' w', w'.ownsRow base 9 1 v' (k + 1) (xs ++ [u]) → w.grownBy w' v.ownBlock → K (a.put o.dst v') w') :
    if Region.wanted o (yielded ops a.tmps) = true then Oper.wpIn (Fence.wide.inRound l) n Tryd.prog o a w K Q else E := by
  obtain ⟨i0, hi, hz0, hz1, hz2⟩ := info_parts infoS
  have hw : Region.wanted o (yielded ops a.tmps) = true := by simp [Region.wanted, hg]
  rw [if_pos hw]
  obtain ⟨v', w', hrun, r1, r2, _⟩ := run_append_own (P := Tryd.prog) w base 35 o.type 9 i0 (.string ⟨#[]⟩) 1 16 Tryd.underlying35 hi hz0 hz1 hz2 rfl (by decide) v k xs hown ad 1 1 [u] rfl hc (by simpa using hu) (by unfold maxLen; omega) (by omega) hb
  unfold Oper.wpIn
  refine ⟨fun f hf => trivial, ?_⟩
  have hnd : (∀ d, o.op ≠ .defer d) := by intro d h; rw [hop] at h; cases h
  rw [Fence.inRound_round, Oper.semAt_some _ _ _ hnd]
  simp [execOp, hop, resolve, invoke, builtin, hs, hx, hrun, Result.andThen]
  rw [Oper.uponIn_value]
  exact hK v' w' r1 r2

theorem term_len (d : Nat) (h : d < 100) : (termT d).length ≤ 4 := by
  unfold termT
  split
  · simp
  · split
    · simp
    · have := dec_two h; simp; omega
theorem joinTail_len (sep : List UInt8) (M : Nat) : ∀ r : List (List UInt8), (∀ x ∈ r, x.length ≤ M) → (Lib.joinTail sep r).length ≤ r.length * (sep.length + M)
  | [], _ => by simp [Lib.joinTail]
  | x :: r, h => by
    have h1 := joinTail_len sep M r (fun y hy => h y (by simp [hy]))
    have h2 := h x (by simp)
    simp only [Lib.joinTail, List.map_cons, List.flatten_cons, List.length_append, List.length_cons, Nat.succ_mul] at h1 ⊢
    omega
theorem join_len (xs : List (List UInt8)) (sep : List UInt8) (M : Nat) (h : ∀ x ∈ xs, x.length ≤ M) : (Lib.join xs sep).length ≤ xs.length * (sep.length + M) := by
  cases xs with
  | nil => simp [Lib.join_nil]
  | cons x r =>
    rw [Lib.join_cons, List.length_append]
    have h1 := joinTail_len sep M r (fun y hy => h y (by simp [hy]))
    have h2 := h x (by simp)
    simp only [List.length_cons, Nat.succ_mul]
    omega
/-- The texts of terms, joined: strings.Join at the row that was collected. -/
theorem join_terms (l : List (Fin 64)) (hl : l.length ≤ 64) (hl0 : 0 < l.length) (v : Value) (base : Nat) (w : World) (hrow : w.ownsRow base 9 1 v l.length (l.map termV)) :
    ∃ g cap, v = .slice (some ⟨g, 0, none⟩) l.length cap ∧ Calls Tryd.prog 41 #[.slice (some ⟨g, 0, none⟩) l.length cap, .string ⟨#[43]⟩] w fun e w' => e = .returned (.string (strT (Lib.join (l.map fun d => termT d.val) [43]))) ∧ Below w.heap.size w w' := by
  rcases hrow.2 with ⟨_, h0⟩ | ⟨g, cap, cur, rfl, hg, hh, h1, h2, _⟩
  · omega
  refine ⟨g, cap, rfl, ?_⟩
  have hm : (l.map fun d => strT (termT d.val)).map (fun x : ByteArray => x.data.toList) = l.map fun d => termT d.val := by
    rw [List.map_map]; exact List.map_congr_left fun d _ => by simp [strT]
  have hJ := Tryd.strings_Join g 0 cap (l.map fun d => strT (termT d.val)) ⟨#[43]⟩ w (fun j x hx => by
      have hc := hrow.cells (g := g) rfl j (.string x) (by rw [List.getElem?_map] at hx ⊢; cases h : l[j]? with
        | none => rw [h] at hx; cases hx
        | some d => rw [h] at hx; cases hx; rfl)
      rw [Nat.zero_add]
      by_cases hj : j = 0
      · subst hj; simpa [Addr.add] using hc
      · simpa [Addr.add, hj] using hc) (hrow.lt g rfl).2 (by rw [List.length_map]; omega) (by rw [List.length_map]; exact h1) (by
      rw [hm]
      have := join_len (l.map fun d => termT d.val) [43] 4 (fun x hx => by
        obtain ⟨d, _, rfl⟩ := List.mem_map.1 hx
        exact term_len d.val (by have := d.isLt; omega))
      rw [List.length_map] at this
      simp only [List.length_singleton] at this
      show (Lib.join _ [43]).length ≤ _
      omega)
  rw [hm, List.length_map] at hJ
  exact hJ

set_option maxRecDepth 100000 in
set_option maxHeartbeats 1000000 in
theorem text_in (b : Nat) (hb : b < 2 ^ 64) (hb0 : b ≠ 0) (w : World) :
    CallsIn Fence.wide 9 Tryd.prog 18 #[.int .u64 b] w fun e w' => e = .returned (.string (strT (Lib.join ((degs b).map termT) [43]))) ∧ Below w.heap.size w w' := by
  refine callsIn_of_wp_marks Tryd.func18 rfl trivial ?_ rfl
  simp only [Tryd.ntmps18, List.size_toArray, List.length_cons, List.length_nil, Nat.reduceAdd, Nat.reduceSub, Array.replicate_succ, Array.replicate_zero, List.push_toArray, List.append_toArray, List.nil_append, List.cons_append]
  obtain ⟨i0, hi, hz0, hz1, hz2⟩ := info_parts infoS
  have hbI : ((b : Int) == 0) = false := by simp; omega
  have HB := Lib.hid hb
  have HL0 : Hid (0 < (degsF b).length) := by show _ < _; unfold degsF; rw [List.length_map, degs_cons hb0]; simp
  clear hb hb0
  gi_wp2_with (refine ⟨trivial, ?_⟩; gi_at_call 39; refine (terms_in Fence.wide 8 trivial rfl _ _).mono ?_; rintro e w' ⟨rfl, rfl⟩)
  have hs := (Boxed.new w 35 (.slice none 0 0)).alloc (.cells #[.int .u64 b] 22)
  have hbx := Boxed.new (w.alloc (.cells #[.slice none 0 0] 35)) 22 (.int .u64 b)
  rw [World.size_alloc] at hbx
  have hlen : (degsF b).length ≤ 64 := by unfold degsF; rw [List.length_map]; exact degs_len b 64 (len_64 HB.out)
  refine wpIn_rangeFunc_ownF rfl (by decide) (gf := 57) (lb := #[.pointer (some ⟨w.heap.size + 1, 0, none⟩)]) rfl trivial (enters_of Tryd.func57 (by kernel_rfl) rfl)
    (seqStopsA_iff.1 (terms_stops Fence.wide 8 trivial trivial trivial rfl (by decide) (w.heap.size + 1) b HB.out _ hbx.cell hbx.lt)) walksK_t walksK_b (Below.refl _ _) (fun _ => rfl)
    (fun pre W => (∃ v, Boxed W w.heap.size 35 v ∧ W.ownsRow w.heap.size 9 1 v pre.length (pre.map termV) ∧ True) ∧ Below w.heap.size w W)
    (fun _ _ _ => False)
    (OwnFrom.and (Own.from (holdsRow_own w.heap.size w.heap.size _ _ 1 (fun pre : List (Fin 64) => pre.length) (fun pre => pre.map termV) (fun _ _ => True)) _) (ownFrom_below (Nat.le_refl _) (by simp; omega)))
    (fun _ _ _ _ _ hs _ _ => hs)
    ⟨⟨_, hs, World.ownsRow_nil _ _ _ _, trivial⟩, ((Below.refl _ w).alloc (Nat.le_refl _) _).alloc (by simp) _⟩
    (fun p => { tmps := #[.int .u64 b, undef, .string ⟨#[]⟩, .pointer (some ⟨w.heap.size, 0, none⟩), .int .i64 p.val, .int .u64 b, .bool false, .int .u64 b, .func (.func 57) #[] #[.pointer (some ⟨w.heap.size + 1, 0, none⟩)], .int .i64 p.val, undef, undef, undef, undef, undef, undef, undef], defers := [] }) ?assign ?body ?done ?stop
  case assign =>
    intro l p W K hK
    gi_wp2
    simpa [encf] using hK
  case body =>
    rintro l pre p W ⟨⟨v, hbx, hrow, _⟩, hB⟩ hlt
    have hc := hbx.cell
    have hf := hbx.frozen
    have hd : 1 ≤ 9 - 1 - 1 := by decide
    have hmx : Tryd.prog.follows .mixedOrders = true := by kernel_rfl
    have hsz1 : w.heap.size ≤ (W.alloc (.cells #[termV p] 9)).heap.size := by have := hB.size; simp; omega
    have hcA := (hbx.alloc (.cells #[.string (strT (termT p.val))] 9)).cell
    gi_wp2
    refine wpIn_region_any (by kernel_rfl) ?_
    change wpAnyIn _ _ _ _ _ _ _ _ _ (World.drew _)
    refine wpAnyIn_ready (rs := [0, 1]) (by kernel_rfl) (by simp) ?_
    refine AllReadyIn.cons rfl (fun K hK => ?_) (AllReadyIn.cons rfl (fun K hK => ?_) (AllReadyIn.nil))
    · go_simp
      refine hK _ _ ?_
      clear hK K
      refine wpAnyIn_ready (rs := [1]) (by kernel_rfl) (by simp) ?_
      refine AllReadyIn.cons rfl (fun K hK => ?_) (AllReadyIn.nil)
      go_simp
      refine hK _ _ ?_
      clear hK K
      refine wpAnyIn_ready (rs := [2]) (by kernel_rfl) (by simp) ?_
      refine AllReadyIn.cons rfl (fun K hK => ?_) (AllReadyIn.nil)
      go_simp
      gi_wp2_with (refine ⟨trivial, ?_⟩; gi_at_call 40; refine (CallsIn.inRound l (callsIn_wide.2 (term_any p.val p.isLt _))).mono ?_; rintro e w' ⟨rfl, rfl⟩)
      try (refine hK _ _ ?_; clear hK K)
      refine wpAnyIn_ready (rs := [3]) (by kernel_rfl) (by simp) ?_
      refine AllReadyIn.cons rfl (fun K hK => ?_) (AllReadyIn.nil)
      go_simp
      refine hK _ _ ?_
      clear hK K
      refine wpAnyIn_ready (rs := [4]) (by kernel_rfl) (by simp) ?_
      refine AllReadyIn.cons rfl (fun K hK => ?_) (AllReadyIn.nil)
      refine stepIn_append rfl (.tmp 10) (.tmp 13) rfl w.heap.size v pre.length (pre.map termV) rfl (by exact hrow.alloc _) (by exact hsz1) ⟨W.heap.size, 0, none⟩ (termV p) rfl rfl (by exact cell_one_new W _ _) (by omega) ?_
      intro v2 w1 hown' hgrow
      obtain ⟨g', cap', rfl⟩ := ownsRow_succ hown'
      obtain ⟨hv1, hv2, hr2, hk2, hb2⟩ := hbx.appended (tmp := .cells #[termV p] 9) (by decide) hrow hB.size (Nat.le_refl _) hown' ⟨hgrow.os, hgrow.tape, hgrow.output, hgrow.size, hgrow.block⟩
      have hc1 := hv1.cell
      have hf1 := hv1.frozen
      refine hK _ _ ?_
      clear hK K
      refine wpAnyIn_ready (rs := [5]) (by kernel_rfl) (by simp) ?_
      refine AllReadyIn.cons rfl (fun K hK => ?_) (AllReadyIn.nil)
      go_simp
      refine hK _ _ ?_
      clear hK K
      refine wpAnyIn_done (by kernel_rfl) ?_ _
      gi_wp2
      exact ⟨hk2, hk2.walks, ⟨⟨_, hv2, by rw [List.length_append, List.map_append]; exact hr2, trivial⟩, hB.trans hb2⟩⟩
    · go_simp
      refine hK _ _ ?_
      clear hK K
      refine wpAnyIn_ready (rs := [0, 2]) (by kernel_rfl) (by simp) ?_
      refine AllReadyIn.cons rfl (fun K hK => ?_) (AllReadyIn.cons rfl (fun K hK => ?_) (AllReadyIn.nil))
      · go_simp
        refine hK _ _ ?_
        clear hK K
        refine wpAnyIn_ready (rs := [2]) (by kernel_rfl) (by simp) ?_
        refine AllReadyIn.cons rfl (fun K hK => ?_) (AllReadyIn.nil)
        go_simp
        gi_wp2_with (refine ⟨trivial, ?_⟩; gi_at_call 40; refine (CallsIn.inRound l (callsIn_wide.2 (term_any p.val p.isLt _))).mono ?_; rintro e w' ⟨rfl, rfl⟩)
        try (refine hK _ _ ?_; clear hK K)
        refine wpAnyIn_ready (rs := [3]) (by kernel_rfl) (by simp) ?_
        refine AllReadyIn.cons rfl (fun K hK => ?_) (AllReadyIn.nil)
        go_simp
        refine hK _ _ ?_
        clear hK K
        refine wpAnyIn_ready (rs := [4]) (by kernel_rfl) (by simp) ?_
        refine AllReadyIn.cons rfl (fun K hK => ?_) (AllReadyIn.nil)
        refine stepIn_append rfl (.tmp 10) (.tmp 13) rfl w.heap.size v pre.length (pre.map termV) rfl (by exact hrow.alloc _) (by exact hsz1) ⟨W.heap.size, 0, none⟩ (termV p) rfl rfl (by exact cell_one_new W _ _) (by omega) ?_
        intro v2 w1 hown' hgrow
        obtain ⟨g', cap', rfl⟩ := ownsRow_succ hown'
        obtain ⟨hv1, hv2, hr2, hk2, hb2⟩ := hbx.appended (tmp := .cells #[termV p] 9) (by decide) hrow hB.size (Nat.le_refl _) hown' ⟨hgrow.os, hgrow.tape, hgrow.output, hgrow.size, hgrow.block⟩
        have hc1 := hv1.cell
        have hf1 := hv1.frozen
        refine hK _ _ ?_
        clear hK K
        refine wpAnyIn_ready (rs := [5]) (by kernel_rfl) (by simp) ?_
        refine AllReadyIn.cons rfl (fun K hK => ?_) (AllReadyIn.nil)
        go_simp
        refine hK _ _ ?_
        clear hK K
        refine wpAnyIn_done (by kernel_rfl) ?_ _
        gi_wp2
        exact ⟨hk2, hk2.walks, ⟨⟨_, hv2, by rw [List.length_append, List.map_append]; exact hr2, trivial⟩, hB.trans hb2⟩⟩
      · go_simp
        gi_wp2_with (refine ⟨trivial, ?_⟩; gi_at_call 40; refine (CallsIn.inRound l (callsIn_wide.2 (term_any p.val p.isLt _))).mono ?_; rintro e w' ⟨rfl, rfl⟩)
        try (refine hK _ _ ?_; clear hK K)
        refine wpAnyIn_ready (rs := [0, 3]) (by kernel_rfl) (by simp) ?_
        refine AllReadyIn.cons rfl (fun K hK => ?_) (AllReadyIn.cons rfl (fun K hK => ?_) (AllReadyIn.nil))
        · go_simp
          refine hK _ _ ?_
          clear hK K
          refine wpAnyIn_ready (rs := [3]) (by kernel_rfl) (by simp) ?_
          refine AllReadyIn.cons rfl (fun K hK => ?_) (AllReadyIn.nil)
          go_simp
          refine hK _ _ ?_
          clear hK K
          refine wpAnyIn_ready (rs := [4]) (by kernel_rfl) (by simp) ?_
          refine AllReadyIn.cons rfl (fun K hK => ?_) (AllReadyIn.nil)
          refine stepIn_append rfl (.tmp 10) (.tmp 13) rfl w.heap.size v pre.length (pre.map termV) rfl (by exact hrow.alloc _) (by exact hsz1) ⟨W.heap.size, 0, none⟩ (termV p) rfl rfl (by exact cell_one_new W _ _) (by omega) ?_
          intro v2 w1 hown' hgrow
          obtain ⟨g', cap', rfl⟩ := ownsRow_succ hown'
          obtain ⟨hv1, hv2, hr2, hk2, hb2⟩ := hbx.appended (tmp := .cells #[termV p] 9) (by decide) hrow hB.size (Nat.le_refl _) hown' ⟨hgrow.os, hgrow.tape, hgrow.output, hgrow.size, hgrow.block⟩
          have hc1 := hv1.cell
          have hf1 := hv1.frozen
          refine hK _ _ ?_
          clear hK K
          refine wpAnyIn_ready (rs := [5]) (by kernel_rfl) (by simp) ?_
          refine AllReadyIn.cons rfl (fun K hK => ?_) (AllReadyIn.nil)
          go_simp
          refine hK _ _ ?_
          clear hK K
          refine wpAnyIn_done (by kernel_rfl) ?_ _
          gi_wp2
          exact ⟨hk2, hk2.walks, ⟨⟨_, hv2, by rw [List.length_append, List.map_append]; exact hr2, trivial⟩, hB.trans hb2⟩⟩
        · go_simp
          refine hK _ _ ?_
          clear hK K
          refine wpAnyIn_ready (rs := [0]) (by kernel_rfl) (by simp) ?_
          refine AllReadyIn.cons rfl (fun K hK => ?_) (AllReadyIn.nil)
          go_simp
          refine hK _ _ ?_
          clear hK K
          refine wpAnyIn_ready (rs := [4]) (by kernel_rfl) (by simp) ?_
          refine AllReadyIn.cons rfl (fun K hK => ?_) (AllReadyIn.nil)
          refine stepIn_append rfl (.tmp 10) (.tmp 13) rfl w.heap.size v pre.length (pre.map termV) rfl (by exact hrow.alloc _) (by exact hsz1) ⟨W.heap.size, 0, none⟩ (termV p) rfl rfl (by exact cell_one_new W _ _) (by omega) ?_
          intro v2 w1 hown' hgrow
          obtain ⟨g', cap', rfl⟩ := ownsRow_succ hown'
          obtain ⟨hv1, hv2, hr2, hk2, hb2⟩ := hbx.appended (tmp := .cells #[termV p] 9) (by decide) hrow hB.size (Nat.le_refl _) hown' ⟨hgrow.os, hgrow.tape, hgrow.output, hgrow.size, hgrow.block⟩
          have hc1 := hv1.cell
          have hf1 := hv1.frozen
          refine hK _ _ ?_
          clear hK K
          refine wpAnyIn_ready (rs := [5]) (by kernel_rfl) (by simp) ?_
          refine AllReadyIn.cons rfl (fun K hK => ?_) (AllReadyIn.nil)
          go_simp
          refine hK _ _ ?_
          clear hK K
          refine wpAnyIn_done (by kernel_rfl) ?_ _
          gi_wp2
          exact ⟨hk2, hk2.walks, ⟨⟨_, hv2, by rw [List.length_append, List.map_append]; exact hr2, trivial⟩, hB.trans hb2⟩⟩
  case done =>
    rintro D ys W hD rfl ⟨⟨v, hbx, hrow, _⟩, hB⟩ hK
    have hc := hbx.cell
    obtain ⟨g, cap, rfl, hJ⟩ := join_terms (degsF b) hlen HL0.out v w.heap.size W hrow
    have hv : (degsF b).map (fun d => termT d.val) = (degs b).map termT := by rw [← degsF_val HB.out, List.map_map]; rfl
    rw [hv] at hJ
    have HJ := Lib.hid hJ
    clear hJ hv
    gi_wp2_with (refine ⟨trivial, ?_⟩; gi_at_call 41; refine (callsIn_wide.2 HJ.out).mono ?_; rintro e w2 ⟨rfl, hB2⟩)
    have hK2 : w2.heap[D]? = some (.deferred (some [])) := (hB2.block D (Array.getElem?_eq_some_iff.1 hK).1).trans hK
    refine ⟨by simp, .inl ⟨_, _, rfl, run_takeDeferred hK2, ?_⟩⟩
    exact ⟨_, results_tmp rfl _ _ _, rfl, (hB.trans (hB2.mono hB.size)).trans (belowK_b (w := w) (Nat.le_refl _) w2 D _ _ (by simp at hD; omega) hK2 rfl rfl)⟩
  case stop =>
    rintro D c pre W _ _ h _
    exact h.elim

theorem text_any (b : Nat) (hb : b < 2 ^ 64) (hb0 : b ≠ 0) (s : ByteArray) (hs : strT (Lib.join ((degs b).map termT) [43]) = s) (w : World) :
    Calls Tryd.prog 18 #[.int .u64 b] w fun e w' => e = .returned (.string s) ∧ Below w.heap.size w w' := by
  subst hs
  exact callsIn_wide.1 (text_in b hb hb0 w)

end Go.Proofs.YtnnakoljbdlhoaaDoor
