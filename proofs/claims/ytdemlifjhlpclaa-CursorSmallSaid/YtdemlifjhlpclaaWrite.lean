/-
  varint.WriteAll and varint.Write.
-/
import Derived.Test.YtdemlifjhlpclaaSize
import Derived.Test.YtdemlifjhlpclaaWords
import Derived.Maps.AppendAt
import Derived.Laws.Bits128
namespace Go.Proofs.Ytdemlifjhlpclaa
open Go.RowKit Go.Shelf
attribute [local go_sem] Oper.semAt_some

theorem infoByte : (Try.prog.info? 5).map (fun i => (i.zero, i.size, i.bytes)) = some (some (.int .u8 0), 1, 1) := by kernel_rfl

/-- The byte that is written for a group, as the program finds it. -/
def bytV (p : Nat × Bool) : Value := if p.2 then .int .u8 p.1 else .int .u8 (bits .or .u8 p.1 128)

theorem bytV_eq {p : Nat × Bool} (h : p.1 < 128) : bytV p = .int .u8 (Vi.byt p) := by
  obtain ⟨g, la⟩ := p
  cases la
  · have := u8_or128_right (g : Int) (by omega) (by simp at h; omega)
    simp [bytV, Vi.byt, this]
  · simp [bytV, Vi.byt]
theorem bytV_form (x : Nat) : (Vi.grp x).map bytV = (Vi.form x).map fun x : Nat => Value.int .u8 x := by
  rw [Vi.form, List.map_map]
  exact List.map_congr_left fun p hp => bytV_eq (Vi.grp_mem x p hp)

set_option maxRecDepth 100000 in
set_option maxHeartbeats 1000000 in
theorem writeAll_in (F : Fence) (n : Nat) (h0 : F.fn 50) (h1 : F.fn 45) (h2 : F.fn 63) (h3 : F.fn 66) (hro : F.round = none) (hn : 4 ≤ n)
    (a : Option Addr) (c : Nat) (xs : List Nat) (hx : ∀ x ∈ xs, x < 2 ^ 64) (hxl : xs.length ≤ 100000) (w : World) (hS : Seen w w.heap.size .u64 a xs) :
    CallsIn F n Try.prog 50 #[.slice a xs.length c] w fun e w' => ∃ v, e = .returned v ∧ w'.ownsRow w.heap.size 5 1 v (Vi.forms xs).length ((Vi.forms xs).map fun x : Nat => Value.int .u8 x) ∧ Below w.heap.size w w' := by
  refine callsIn_of_wp_marks Try.func50 rfl h0 ?_ hro
  simp only [Try.ntmps50, List.size_toArray, List.length_cons, List.length_nil, Nat.reduceAdd, Nat.reduceSub, Array.replicate_succ, Array.replicate_zero, List.push_toArray, List.append_toArray, List.nil_append, List.cons_append]
  have h1n : 1 ≤ n := by omega
  gi_wp2
  gi_loopw [3, 13] (fun s i wr => ∃ k : Nat, k ≤ xs.length ∧ i = .int .i64 k ∧ s = .int .i64 (Vi.sizes (xs.take k)) ∧ Below w.heap.size w wr) (fun _ i _ => xs.length - (intOf i).toNat)
  case atStart => exact ⟨0, by omega, rfl, by simp [Vi.sizes], Below.refl _ _⟩
  case round =>
    obtain ⟨k, hk, rfl, rfl, hB⟩ := hrel
    by_cases hlt : k < xs.length
    · obtain ⟨b, off, rfl, hb, hc⟩ := (hS.below hB).at hlt
      have hxk := hx _ (List.getElem_mem hlt)
      have hs1 := Vi.sizes_take_le xs k hx hk
      have hs2 := Vi.grp_len10 _ hxk
      gi_wp2_with (gi_at_call 45; refine (size_in F (n - 1) h1 h2 h3 hro (by omega) _ hxk _).mono ?_; rintro e w' ⟨rfl, hB2⟩)
      exact ⟨⟨k + 1, by omega, by go_num, by rw [Vi.take_snoc xs k hlt, Vi.sizes_snoc]; go_num, hB.trans (hB2.mono hB.size)⟩, by simp [intOf]; omega⟩
    · obtain rfl : k = xs.length := by omega
      rw [List.take_length]
      have hsz := Vi.sizes_le xs hx
      obtain ⟨i0, hi, hz0, hz1, hz2⟩ := info_parts infoByte
      gi_wp2_with (gi_at_make; refine wpListIn_make_own _ rfl _ _ 22 rfl w.heap.size 5 i0 (.int .u8 0) 1 Try.underlying22 hi hz0 hz1 .i64 .i64 _ (Vi.sizes xs) rfl rfl rfl (by rw [hz2]; omega) (by unfold maxLen; omega) hB.size ?_; intro w1 hown1 hgrow1)
      have hBx := Boxed.new w1 22 (.slice (some ⟨wr.heap.size, 0, none⟩) 0 (Vi.sizes xs))
      have hB1 : Below w.heap.size w w1 := hB.grown hgrow1 hB.size (fun k e => by cases e)
      have hB2 : Below w.heap.size w (w1.alloc (.cells #[.slice (some ⟨wr.heap.size, 0, none⟩) 0 (Vi.sizes xs)] 22)) := hB1.alloc hB1.size _
      have hown2 := hown1.alloc (.cells #[.slice (some ⟨wr.heap.size, 0, none⟩) 0 (Vi.sizes xs)] 22)
      obtain ⟨Bx, hBxe⟩ : ∃ Bx, w1.heap.size = Bx := ⟨_, rfl⟩
      have hBxw : w.heap.size ≤ Bx := by rw [← hBxe]; exact hB1.size
      rw [hBxe] at hBx ⊢
      obtain ⟨w2, hw2⟩ : ∃ w2, w1.alloc (.cells #[.slice (some ⟨wr.heap.size, 0, none⟩) 0 (Vi.sizes xs)] 22) = w2 := ⟨_, rfl⟩
      rw [hw2] at hBx hB2 hown2 ⊢
      obtain ⟨v0, hv0⟩ : ∃ v0, Value.slice (some ⟨wr.heap.size, 0, none⟩) 0 (Vi.sizes xs) = v0 := ⟨_, rfl⟩
      rw [hv0] at hBx hown2 ⊢
      clear hw2 hown1 hgrow1 hB1 hBxe hB hv0
      refine wpIn_loop (fun A W => ∃ (k : Nat) (u8 u27 u28 u29 u30 u31 u42 : Value) (ds : List Nat), k ≤ xs.length ∧
        A = { tmps := #[.slice a xs.length c, undef, .slice none 0 0, .int .i64 (Vi.sizes xs), undef, u5, .pointer (some ⟨Bx, 0, none⟩), undef, u8, undef, undef, .slice a xs.length c, .int .i64 xs.length, .int .i64 xs.length, .bool false, u15, u16, u17, u18, u19, u20, u21, .int .i64 (Vi.sizes xs), v0, .slice a xs.length c, .int .i64 xs.length, .int .i64 k, u27, u28, u29, u30, u31, undef, undef, undef, undef, undef, undef, undef, undef, undef, undef, u42, undef], defers := collOf ds } ∧
        Coll W ds ∧ (∀ D ∈ ds, w.heap.size ≤ D) ∧ (∃ v, Boxed W Bx 22 v ∧ W.ownsRow w.heap.size 5 1 v (Vi.forms (xs.take k)).length ((Vi.forms (xs.take k)).map fun x : Nat => Value.int .u8 x)) ∧ Below w.heap.size w W)
        (fun A _ => xs.length - (intOf (A.tmps.getD 26 undef)).toNat) ?_ ?_
      · exact ⟨0, undef, undef, undef, undef, undef, undef, undef, [], by omega, rfl, Coll.nil _, (fun D h => by simp at h), ⟨v0, hBx, by simpa [Vi.forms] using hown2⟩, hB2⟩
      · rintro A W ⟨k, u8, u27, u28, u29, u30, u31, u42, ds, hk, rfl, hC, hds, ⟨v, hbox, hrow⟩, hBW⟩
        by_cases hlt : k < xs.length
        · have hsz1 := Vi.sizes_take_le xs k hx hk
          have hxk := hx _ (List.getElem_mem hlt)
          obtain ⟨b, off, rfl, hb, hc⟩ := (hS.below hBW).at hlt
          gi_wp2_with (gi_at_call 63; refine (groups_in F (n - 1) h2 hro _ _).mono ?_; rintro e w' ⟨rfl, rfl⟩)
          obtain ⟨W0, hW0⟩ : ∃ W0, W.alloc (.cells #[.int .u64 xs[k]] 28) = W0 := ⟨_, rfl⟩
          have hbn := Boxed.new W 28 (.int .u64 xs[k])
          have hC0 := hC.below ((Below.refl _ W).alloc (Nat.le_refl _) (.cells #[.int .u64 xs[k]] 28))
          have hbox0 := hbox.alloc (.cells #[.int .u64 xs[k]] 28)
          have hrow0 := hrow.alloc (.cells #[.int .u64 xs[k]] 28)
          have hBW0 := hBW.alloc hBW.size (.cells #[.int .u64 xs[k]] 28)
          have hsz0 : W0.heap.size = W.heap.size + 1 := by rw [← hW0]; simp
          rw [hW0] at hbn hC0 hbox0 hrow0 hBW0 ⊢
          have hlen := Vi.grp_len10 _ hxk
          refine wpIn_rangeFunc_ownF hro h1n (gf := 66) (lb := #[.pointer (some ⟨W.heap.size, 0, none⟩)]) rfl h3 (enters_of Try.func66 (by kernel_rfl) rfl)
            (seqStopsA_iff.1 (groups_stops F (n - 1) h3 hro (by omega) W.heap.size xs[k] hxk _ hbn.cell hbn.lt)) walksK_t walksK_b (Below.refl _ _) (fun _ => rfl)
            (fun pre W' => ((∃ v, Boxed W' Bx 22 v ∧ W'.ownsRow w.heap.size 5 1 v ((Vi.forms (xs.take k)).length + pre.length) ((Vi.forms (xs.take k)).map (fun x : Nat => Value.int .u8 x) ++ pre.map bytV) ∧ True) ∧ Coll W' ds) ∧ Below w.heap.size w W')
            (fun _ _ _ => False)
            (OwnFrom.and (OwnFrom.and (Own.from (holdsRow_own w.heap.size Bx _ _ 1 (fun pre : List (Nat × Bool) => (Vi.forms (xs.take k)).length + pre.length) (fun pre => (Vi.forms (xs.take k)).map (fun x : Nat => Value.int .u8 x) ++ pre.map bytV) (fun _ _ => True)) _) (coll_own ds (fun D hD => by have := hC.lt D hD; omega))) (ownFrom_below (Nat.le_refl _) (by have := hBW.size; omega)))
            (fun _ _ _ _ _ hs _ _ => hs)
            ⟨⟨⟨v, hbox0, by simpa using hrow0, trivial⟩, hC0⟩, hBW0⟩
            (fun p => { tmps := #[.slice (some ⟨b, off, none⟩) xs.length c, undef, .slice none 0 0, .int .i64 (Vi.sizes xs), undef, u5, .pointer (some ⟨Bx, 0, none⟩), undef, .int .u64 xs[k], .int .u8 p.1, .bool p.2, .slice (some ⟨b, off, none⟩) xs.length c, .int .i64 xs.length, .int .i64 xs.length, .bool false, u15, u16, u17, u18, u19, u20, u21, .int .i64 (Vi.sizes xs), v0, .slice (some ⟨b, off, none⟩) xs.length c, .int .i64 xs.length, .int .i64 k, .bool true, .pointer (some ⟨b, off + k, none⟩), .int .u64 xs[k], .int .u64 xs[k], .func (.func 66) #[] #[.pointer (some ⟨W.heap.size, 0, none⟩)], .int .u8 p.1, .bool p.2, undef, undef, undef, undef, undef, undef, undef, undef, u42, undef], defers := [] }) ?assign ?body ?done ?stop
          case assign =>
            intro l p W' K hK
            gi_wp2
            simpa [encg] using hK
          case body =>
            rintro l pre ⟨g, la⟩ W' ⟨⟨⟨v', hbx, hrw, _⟩, hC'⟩, hB'⟩ hltp
            have hcx := hbx.cell
            have hfx := hbx.frozen
            have hsz' := hB'.size
            have hfl := Nat.le_of_eq (Vi.forms_len (xs.take k))
            cases la
            · gi_wp2_with (gi_at_builtin; refine wpListIn_append_own _ rfl _ _ 22 rfl w.heap.size 5 i0 (.int .u8 0) 1 1 Try.underlying22 hi hz0 hz1 hz2 rfl (by decide) _ _ _ rfl (hrw.alloc _) ⟨W'.heap.size, 0, none⟩ 1 1 [bytV (g, false)] rfl rfl (cell_one_new _ _ _) (by simp [Value.oneCell', bytV]) (by unfold maxLen; omega) (by omega) (by simp; omega) ?_; intro v2 w1 hown' hgrow _; obtain ⟨g', cap', rfl⟩ := ownsRow_succ hown'; obtain ⟨hv1, hv2, hr2, hk2, hb2⟩ := hbx.appended (by decide) hrw hB'.size hBxw hown' hgrow; have hc1 := hv1.cell; have hf1 := hv1.frozen)
              exact ⟨hk2, hk2.walks, ⟨⟨_, hv2, by simpa [Nat.add_assoc] using hr2, trivial⟩, hC'.others hk2⟩, hB'.trans hb2⟩
            · gi_wp2_with (gi_at_builtin; refine wpListIn_append_own _ rfl _ _ 22 rfl w.heap.size 5 i0 (.int .u8 0) 1 1 Try.underlying22 hi hz0 hz1 hz2 rfl (by decide) _ _ _ rfl (hrw.alloc _) ⟨W'.heap.size, 0, none⟩ 1 1 [bytV (g, true)] rfl rfl (cell_one_new _ _ _) (by simp [Value.oneCell', bytV]) (by unfold maxLen; omega) (by omega) (by simp; omega) ?_; intro v2 w1 hown' hgrow _; obtain ⟨g', cap', rfl⟩ := ownsRow_succ hown'; obtain ⟨hv1, hv2, hr2, hk2, hb2⟩ := hbx.appended (by decide) hrw hB'.size hBxw hown' hgrow; have hc1 := hv1.cell; have hf1 := hv1.frozen)
              exact ⟨hk2, hk2.walks, ⟨⟨_, hv2, by simpa [Nat.add_assoc] using hr2, trivial⟩, hC'.others hk2⟩, hB'.trans hb2⟩
          case done =>
            rintro D ys W' hD rfl ⟨⟨⟨v', hbx, hrw, _⟩, hC'⟩, hB'⟩ hK
            gi_wp2
            refine ⟨⟨k + 1, .int .u64 xs[k], _, _, _, _, _, _, D :: ds, by omega, rfl, hC'.cons (fun h => by have := hC.lt D h; omega) hK, fun E hE => ?_, ⟨v', hbx, ?_⟩, hB'⟩, ?_⟩
            · rcases List.mem_cons.1 hE with rfl | hE
              · have := hBW.size; omega
              · exact hds E hE
            · rw [Vi.take_snoc xs k hlt, Vi.forms_append, Vi.forms_one, List.length_append, List.map_append, ← bytV_form, Vi.form_len]
              exact hrw
            · simp [intOf]; omega
          case stop =>
            rintro D c' pre W' _ _ h _
            exact h.elim
        · obtain rfl : k = xs.length := by omega
          have hcx := hbox.cell
          gi_wp2
          refine leaves_coll (B := w.heap.size) (v := v) w ds W hC hds hBW fun W' hB' hK' => ⟨by simp [results, Try.results50, go_sem], v, rfl, ?_, hB'⟩
          have := hK'.row hrow
          rwa [List.take_length] at this

/-- Write: the form of a number. -/
theorem write_in (F : Fence) (n : Nat) (h00 : F.fn 24) (h0 : F.fn 50) (h1 : F.fn 45) (h2 : F.fn 63) (h3 : F.fn 66) (hro : F.round = none) (hn : 5 ≤ n)
    (x : Nat) (hx : x < 2 ^ 64) (w : World) :
    CallsIn F n Try.prog 24 #[.int .u64 x] w fun e w' => ∃ v, e = .returned v ∧ w'.ownsRow w.heap.size 5 1 v (Vi.form x).length ((Vi.form x).map fun x : Nat => Value.int .u8 x) ∧ Below w.heap.size w w' := by
  refine callsIn_of_wp Try.func24 rfl h00 ?_ hro
  simp only [Try.ntmps24, List.size_toArray, List.length_cons, List.length_nil, Nat.reduceAdd, Nat.reduceSub, Array.replicate_succ, Array.replicate_zero, List.push_toArray, List.append_toArray, List.nil_append, List.cons_append]
  have h1n : 1 ≤ n := by omega
  have hS : Seen (w.alloc (.cells #[.int .u64 x] 28)) (w.alloc (.cells #[.int .u64 x] 28)).heap.size .u64 (some ⟨w.heap.size, 0, none⟩) [x] := fun i y hy => by
    match i, hy with
    | 0, hy => simp at hy; subst hy; exact ⟨_, _, rfl, by simp, (Boxed.new w _ _).cell⟩
  have hc := writeAll_in F (n - 1) h0 h1 h2 h3 hro (by omega) (some ⟨w.heap.size, 0, none⟩) 1 [x] (by simp; exact hx) (by simp) _ hS
  rw [Vi.forms_one] at hc
  gi_wp2_with (gi_at_call 50; refine hc.mono ?_; rintro e w' ⟨v, rfl, hown, hB⟩)
  go_ret
  exact ⟨v, rfl, rebase hown (by simp), ((Below.refl _ w).alloc (Nat.le_refl _) _).trans (hB.mono (by simp))⟩

end Go.Proofs.Ytdemlifjhlpclaa
