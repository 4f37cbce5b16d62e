/-
  Slices of integers; slices.Values, Collect, Sorted.
-/
import Derived.Test.YthamilolacfeoaaBordQ
import Derived.Test.YthamilolacfeoaaShelf
import Derived.Sort.OwnSortedInts
namespace Go.Proofs.Ythamilolacfeoaa
open Go.RowKit Sq
attribute [local go_sem] Oper.semAt_some
set_option linter.unusedVariables false

/-- In the world w, below block B, the slice that begins at a holds the integers zs. -/
def SeenZ (w : World) (B : Nat) (a : Option Addr) (zs : List Int) : Prop :=
  ∀ (i : Nat) (z : Int), zs[i]? = some z → ∃ b off, a = some ⟨b, off, none⟩ ∧ b < B ∧ w.cell? ⟨b, off + i, none⟩ = some (.int .i64 z)
theorem SeenZ.nil (w : World) (B : Nat) (a : Option Addr) : SeenZ w B a [] := fun i p h => by simp at h
theorem SeenZ.keep {w w' : World} {B : Nat} {a : Option Addr} {l : List Int} (h : SeenZ w B a l) (hk : ∀ p : Addr, p.block < B → w'.cell? p = w.cell? p) : SeenZ w' B a l := fun i p hp => by
  obtain ⟨b, off, h1, h2, h3⟩ := h i p hp
  exact ⟨b, off, h1, h2, (hk ⟨b, off + i, none⟩ h2).trans h3⟩
theorem SeenZ.below {w w' : World} {B : Nat} {a : Option Addr} {l : List Int} (h : SeenZ w B a l) (hb : Below B w w') : SeenZ w' B a l := h.keep fun p hp => hb.cell hp
theorem SeenZ.alloc {w : World} {B : Nat} {a : Option Addr} {l : List Int} (h : SeenZ w B a l) (hB : B ≤ w.heap.size) (o : Obj) : SeenZ (w.alloc o) B a l := h.keep fun p hp => World.cell?_alloc_lt w o p (by omega)
theorem SeenZ.more {w : World} {B B' : Nat} {a : Option Addr} {l : List Int} (h : SeenZ w B a l) (hB : B ≤ B') : SeenZ w B' a l := fun i p hp => by
  obtain ⟨b, off, h1, h2, h3⟩ := h i p hp
  exact ⟨b, off, h1, by omega, h3⟩
theorem KS.seenZ {B p q : Nat} {W W' : World} (h : KS (SS B p q) W W') {a : Option Addr} {l : List Int} (hS : SeenZ W B a l) : SeenZ W' B a l := hS.keep fun x hx => World.cell?_of_block (w := W) (h x.block (.inl hx))
abbrev zv (l : List Int) : List Value := l.map (Value.int .i64)
theorem SeenZ.of_own {w : World} {base n c : Nat} {a : Option Addr} {e : TypeId} {l : List Int} (h : w.ownsRow base e 1 (.slice a n c) n (zv l)) : SeenZ w w.heap.size a l := fun i p hp => by
  have hl : i < l.length := (List.getElem?_eq_some_iff.1 hp).1
  have hn : l.length = n := by simpa using h.1
  rcases h.2 with ⟨h0, h1⟩ | ⟨g, cap, cur, hv, _, hh, _⟩
  · omega
  · injection hv with hv1 _ hv2
    subst hv1
    subst hv2
    refine ⟨g, 0, rfl, (Array.getElem?_eq_some_iff.1 hh).1, ?_⟩
    rw [Nat.zero_add, h.cellAt i (by omega), List.getElem?_map, hp]; rfl
theorem own_ints {w : World} {base n : Nat} {e : TypeId} {v : Value} {l : List Int} (h : w.ownsRow base e 1 v n (zv l)) : ∃ a c, v = .slice a n c ∧ SeenZ w w.heap.size a l ∧ l.length = n ∧ n ≤ c ∧ c ≤ maxLen := by
  have hl : l.length = n := by simpa using h.1
  rcases h.2 with ⟨rfl, rfl⟩ | ⟨g, cap, cur, rfl, hg, hh, h1, h2, _⟩
  · exact ⟨none, 0, rfl, by rw [List.eq_nil_of_length_eq_zero hl]; exact SeenZ.nil _ _ _, hl, Nat.le_refl _, by unfold maxLen; omega⟩
  · exact ⟨_, cap, rfl, SeenZ.of_own h, hl, h1, h2⟩
theorem SeenZ.of_block {w : World} {b off : Nat} {cs : Array Value} {t : TypeId} {f : Nat × Nat} {l : List Int} (h : w.heap[b]? = some (.cells cs t f)) (hx : ∀ (i : Nat) (z : Int), l[i]? = some z → cs[off + i]? = some (.int .i64 z)) : SeenZ w w.heap.size (some ⟨b, off, none⟩) l :=
  fun i p hi => ⟨b, off, rfl, (Array.getElem?_eq_some_iff.1 h).1, by simpa [World.cell?, h] using hx i p hi⟩

set_option maxRecDepth 100000 in
theorem values_any (a : Option Addr) (n c : Nat) (w : World) :
    Calls Try.prog 59 #[.slice a n c] w fun e w' => e = .returned (.func (.func 69) #[] #[.pointer (some ⟨w.heap.size, 0, none⟩)]) ∧ w' = w.alloc (.cells #[.slice a n c] 26) := by
  go_enter Try.func59, Try.ntmps59
  go_wp2
  go_ret
  exact ⟨rfl, rfl⟩
def encZ (zs : List Int) (t : Nat) : Array Value := #[.int .i64 (zs.getD t 0)]
section
variable (a : Option Addr) (n c : Nat) (zs : List Int) (hn : zs.length = n) (hnl : n ≤ 65600) (w : World) (B : Nat) (hS : SeenZ w B a zs) (p : Nat) (hp : Boxed w p 26 (.slice a n c)) (hB : B ≤ w.heap.size)
include hn hnl hS hp hB

set_option maxRecDepth 100000 in
set_option maxHeartbeats 4000000 in
theorem values_stops :
    SeqStopsK Fence.wide 8 Try.prog 69 #[.pointer (some ⟨p, 0, none⟩)] (encZ zs) (KS (SS B p p)) (fun l => l = List.range n) (fun _ => True) n w := fun l J Jx W hW hJ hJx hY h0 => by
  have HN := Lib.hid hn
  have HS : Hid (SeenZ W B a zs) := hS.below (hW.mono hB)
  have HP : Hid (Boxed W p 26 (.slice a n c)) := (hW.block p hp.lt).trans hp
  have HB : Hid (B ≤ W.heap.size) := Nat.le_trans hB hW.size
  have H0 := Lib.hid h0
  have hni : (n : Int) ≤ 65600 := by omega
  have cp := HP.out.cell
  clear hn hS hp hB h0
  refine callsIn_of_wp Try.func69 rfl trivial ?_ rfl
  simp only [Try.ntmps69, List.size_toArray, List.length_cons, List.length_nil, Nat.reduceAdd, Nat.reduceSub, Array.replicate_succ, Array.replicate_zero, List.push_toArray, List.append_toArray, List.nil_append, List.cons_append]
  gi_wp2
  clear cp
  gi_loopw [7] (fun iv wr => ∃ t : Nat, t ≤ n ∧ iv = .int .i64 t ∧ Hid (J (List.range t) wr) ∧ Hid (KS (SS B p p) W wr)) (fun i _ => n - (intOf i).toNat)
  case atStart => exact ⟨0, Nat.zero_le _, rfl, H0, KS.refl _ _⟩
  case round =>
    obtain ⟨t, ht, rfl, HJt, HK⟩ := hrel
    by_cases htn : t < n
    · obtain ⟨z, hz⟩ : ∃ z, zs[t]? = some z := ⟨_, List.getElem?_eq_getElem (by rw [HN.out]; exact htn)⟩
      obtain ⟨b, off, rfl, hb, hc1⟩ := (HK.out.seenZ HS.out) t z hz
      have HLE : Hid ((List.range t).length < n) := by show _ < _; rw [List.length_range]; exact htn
      have HSN : Hid (List.range (t + 1) = List.range t ++ [t]) := List.range_succ
      obtain ⟨fn, tmps, assign, body, hyl, hRR⟩ := hY _ t wr HJt.out HLE.out
      have hzd : zs.getD t 0 = z := by rw [List.getD_eq_getElem?_getD, hz]; rfl
      dsimp only [encZ] at hyl
      rw [hzd] at hyl
      clear hz hzd
      gi_wp2
      refine hRR.mono ?_
      rintro e W3 (⟨rfl, hJ3, hk3⟩ | ⟨rfl, hJx3⟩)
      · gi_wp2
        exact ⟨⟨t + 1, htn, rfl, by show J _ _; rw [HSN.out]; exact hJ3, HK.out.trans hk3⟩, by simp [intOf]; omega⟩
      · gi_wp2
        refine bodyPost_ret (results_none rfl _ _ _) rfl ?_
        exact ⟨⟨_, rfl⟩, .inr ⟨_, trivial, hJx3⟩⟩
    · obtain rfl : n = t := by omega
      clear htn
      gi_wp2
      go_end0
      first | exact ⟨⟨_, rfl⟩, .inl ⟨_, rfl, HJt.out⟩⟩ | exact ⟨⟨_, rfl⟩, .inl HJt.out⟩
set_option maxRecDepth 100000 in
set_option maxHeartbeats 4000000 in
theorem appendSeqZ_in :
    CallsIn Fence.wide 9 Try.prog 73 #[.slice none 0 0, .func (.func 69) #[] #[.pointer (some ⟨p, 0, none⟩)]] w fun e w' => (∃ v, e = .returned v ∧ w'.ownsRow w.heap.size 3 1 v n (zv zs)) ∧ Below w.heap.size w w' := by
  refine callsIn_of_wp_marks Try.func73 rfl trivial ?_ rfl
  simp only [Try.ntmps73, List.size_toArray, List.length_cons, List.length_nil, Nat.reduceAdd, Nat.reduceSub, Array.replicate_succ, Array.replicate_zero, List.push_toArray, List.append_toArray, List.nil_append, List.cons_append]
  obtain ⟨i0, hi, hz0, hz1, hz2⟩ := info_parts infoI
  have HN := Lib.hid hn
  have hSS : ∀ k, SS B p p k → k < w.heap.size := by
    rintro k (h | rfl | rfl)
    · omega
    · exact hp.lt
    · exact hp.lt
  have hb1 : Below w.heap.size w (w.alloc (.cells #[.slice none 0 0] 26)) := (Below.refl _ w).alloc (Nat.le_refl _) _
  have hbx := Boxed.new w 26 (.slice none 0 0)
  have HST := Lib.hid (values_stops a n c zs hn hnl _ B (hS.alloc hB (.cells #[.slice none 0 0] 26)) p (hp.alloc _) (by simp; omega))
  refine wpIn_wide.2 ?_
  go_wp2
  refine (wpIn_wide (n := 9)).1 ?_
  refine wpIn_rangeFunc_ownF rfl (by decide) (gf := 69) (lb := #[.pointer (some ⟨p, 0, none⟩)]) rfl trivial (enters_of Try.func69 (by kernel_rfl) rfl)
    HST.out (fun h k => h.trans k) (fun W l o o' hl _ _ _ => KS.put fun k hk => by have := hSS k hk; simp at hl; omega) (Below.refl _ _) (fun _ => rfl)
    (fun pre W => (∃ v, Boxed W w.heap.size 26 v ∧ W.ownsRow w.heap.size 3 1 v pre.length (zv (pre.map fun t => zs.getD t 0)) ∧ True) ∧ Below w.heap.size w W)
    (fun _ _ _ => False)
    (OwnFrom.and (Own.from (holdsRow_own w.heap.size w.heap.size _ _ 1 (fun pre : List Nat => pre.length) (fun pre => zv (pre.map fun t => zs.getD t 0)) (fun _ _ => True)) _) (ownFrom_below (Nat.le_refl _) (by simp)))
    (fun _ _ _ _ _ hs _ _ => hs)
    ⟨⟨_, hbx, World.ownsRow_nil _ _ _ _, trivial⟩, hb1⟩
    (fun t => { tmps := #[.slice none 0 0, .func (.func 69) #[] #[.pointer (some ⟨p, 0, none⟩)], .pointer (some ⟨w.heap.size, 0, none⟩), undef, .slice none 0 0, .int .i64 (zs.getD t 0), .func (.func 69) #[] #[.pointer (some ⟨p, 0, none⟩)], .int .i64 (zs.getD t 0), undef, undef, undef, undef, undef], defers := [] })
    ?assign ?body ?done ?stop
  case assign =>
    intro l t W K hK
    obtain ⟨z, hz⟩ : ∃ z, zs.getD t 0 = z := ⟨_, rfl⟩
    have he : encZ zs t = #[.int .i64 z] := by rw [← hz]; rfl
    rw [he]
    rw [hz] at hK
    gi_wp2
    exact hK
  case body =>
    rintro l pre t W ⟨⟨v, hbx, hrow, _⟩, hB'⟩ hlt
    have hc := hbx.cell
    have hf := hbx.frozen
    have hlr : pre.length < 65600 := by omega
    obtain ⟨y, hy⟩ : ∃ y, zs.getD t 0 = y := ⟨_, rfl⟩
    rw [hy]
    gi_wp2_with (refine wpListIn_append_own _ rfl _ _ 26 rfl w.heap.size 3 i0 (.int .i64 0) 1 8 Try.underlying26 hi hz0 hz1 hz2 rfl (by decide) v pre.length (zv (pre.map fun t => zs.getD t 0)) rfl (hrow.alloc _) ⟨W.heap.size, 0, none⟩ 1 1 [.int .i64 y] rfl rfl (cell_one_new _ _ _) (by simp [Value.oneCell']) (by unfold maxLen; omega) (by omega) (by have := hB'.size; simp; omega) ?_; intro v2 w4 hown' hgrow' _; obtain ⟨hv1, hv2, hr2, hk2, hb2⟩ := hbx.appended (tmp := .cells #[.int .i64 y] 3) (by decide) hrow hB'.size (Nat.le_refl _) hown' ⟨hgrow'.os, hgrow'.tape, hgrow'.output, hgrow'.size, hgrow'.block⟩; have hc1 := hv1.cell; have hf1 := hv1.frozen; obtain ⟨g', cap', rfl⟩ := ownsRow_succ hown')
    refine ⟨hk2, KS.below hb2 hSS, ⟨⟨_, hv2, ?_, trivial⟩, hB'.trans hb2⟩⟩
    rw [List.length_append, List.map_append, zv, List.map_append, List.map_singleton, hy]
    exact hr2
  case done =>
    rintro D ys W hD rfl ⟨⟨v, hbx, hrow, _⟩, hB'⟩ hK
    have hc := hbx.cell
    rw [List.length_range] at hrow
    go_wp2
    have hsl : (List.range n).map (fun t => zs.getD t 0) = zs := by
      apply List.ext_getElem
      · simp [HN.out]
      · intro i h1 h2
        simp [List.getD_eq_getElem?_getD, h2]
    rw [hsl] at hrow
    refine ⟨by simp, .inl ⟨_, _, rfl, run_takeDeferred hK, ?_⟩⟩
    refine ⟨_, results_tmp rfl _ _ _, ⟨v, rfl, ?_⟩, ?_⟩
    · exact ownsRow_putObj hrow _ hK rfl
    · exact hB'.trans (belowK_b (w := w) (Nat.le_refl _) W D _ _ (by simp at hD; omega) hK rfl rfl)
  case stop =>
    rintro D c pre W _ _ h _
    exact h.elim
set_option maxRecDepth 100000 in
theorem collectZ_any : Calls Try.prog 67 #[.func (.func 69) #[] #[.pointer (some ⟨p, 0, none⟩)]] w fun e w' => (∃ v, e = .returned v ∧ w'.ownsRow w.heap.size 3 1 v n (zv zs)) ∧ Below w.heap.size w w' := by
  have HS := Lib.hid ((callsIn_wide (n := 9)).1 (appendSeqZ_in a n c zs hn hnl w B hS p hp hB))
  clear hn hnl hS hp hB
  go_enter Try.func67, Try.ntmps67
  go_wp2_with (go_at_call 73; (with_reducible refine HS.out.mono ?_); rintro e w4 ⟨⟨v, rfl, hown⟩, hb⟩)
  go_ret
  exact ⟨⟨v, rfl, hown⟩, hb⟩
set_option maxRecDepth 100000 in
theorem sorted_any (ss : List Int) (hss : (zs.mergeSort fun x y => decide (x ≤ y)) = ss) : Calls Try.prog 58 #[.func (.func 69) #[] #[.pointer (some ⟨p, 0, none⟩)]] w fun e w' => (∃ v, e = .returned v ∧ w'.ownsRow w.heap.size 3 1 v n (zv ss)) ∧ Below w.heap.size w w' := by
  have HC := Lib.hid (collectZ_any a n c zs hn hnl w B hS p hp hB)
  have HN := Lib.hid hn
  have HSS := Lib.hid hss
  have hnl' := hnl
  clear hn hnl hS hp hB hss
  by_cases h0 : n = 0
  · subst h0
    obtain rfl : zs = [] := List.eq_nil_of_length_eq_zero HN.out
    obtain rfl : ss = [] := by rw [← HSS.out]; simp
    go_enter Try.func58, Try.ntmps58
    go_wp2_with (first
      | (go_at_call 67; (with_reducible refine HC.out.mono ?_); rintro e w4 ⟨⟨v, rfl, hown⟩, hb⟩; obtain ⟨a', c', rfl, _⟩ := own_ints hown; have HO := Lib.hid hown; clear hown)
      | (go_at_call 68; refine (Try.slices_Sort_int_none a' c' w4).mono ?_; rintro e w5 ⟨rfl, rfl⟩))
    go_ret
    exact ⟨⟨_, rfl, HO.out⟩, hb⟩
  · go_enter Try.func58, Try.ntmps58
    go_wp2_with (first
      | (go_at_call 67; (with_reducible refine HC.out.mono ?_); rintro e w4 ⟨⟨v, rfl, hown⟩, hb⟩; obtain ⟨g, cap, cur, rfl, hg, hh, h1, h2, h3, h4⟩ := hown.2.resolve_left (fun h => h0 h.2); have HH := Lib.hid hh; have HG := Lib.hid hg; have H1 := Lib.hid h1; have H2 : Hid (cap ≤ maxLen) := h2; have H3 := Lib.hid h3; have H4 := Lib.hid h4; clear hown hh hg h1 h2 h3 h4)
      | (go_at_call 68; have hc := Try.slices_Sort_int g 0 cap zs w4 (holds_of_blockI HH.out (by rw [HN.out, ← Nat.mul_one n]; exact H4.out)) (Array.getElem?_eq_some_iff.1 HH.out).1 (by rw [HN.out]; omega); rw [HN.out] at hc; refine hc.mono ?_; rintro e w5 ⟨rfl, nn, os, hw5⟩; have HW5 := Lib.hid hw5; clear hw5 hc))
    go_ret
    have hbl : Below w.heap.size w w5 := by
      rw [HW5.out]
      exact hb.grown (grownBy_sortedI _) hb.size (fun k e => by cases e; exact HG.out)
    have hown5 : w5.ownsRow w.heap.size 3 1 (.slice (some ⟨g, 0, none⟩) n cap) n (zv ss) := by
      have := ownsRow_sortedI (w := w4) (n := nn) (os := os) (e := 3) (ss := zs) (ts := ss) (by rw [← HSS.out]; simp) HG.out HH.out (by rw [HN.out]; exact H1.out) H2.out H3.out
      rw [HN.out, ← HSS.out, ← HW5.out] at this
      rw [← HSS.out]; exact this
    exact ⟨⟨_, rfl, hown5⟩, hbl⟩
end
end Go.Proofs.Ythamilolacfeoaa
