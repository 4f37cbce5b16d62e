/-
  Of.
-/
import Derived.Test.YthamilolacfeoaaOfM
import Derived.Test.YthamilolacfeoaaIntsQ
namespace Go.Proofs.Ythamilolacfeoaa
open Go.RowKit Sq
set_option linter.unusedVariables false

namespace Sq
def badZ (z : Int) : Bool := decide (z < 1) || decide (281474976710656 < z)
theorem badZ_no {z : Int} (h : badZ z = false) : 1 ≤ z ∧ z ≤ 281474976710656 := by
  unfold badZ at h
  rw [Bool.or_eq_false_iff, decide_eq_false_iff_not, decide_eq_false_iff_not] at h
  omega
theorem sorted_perm (zs : List Int) : (zs.mergeSort fun x y => decide (x ≤ y)).Perm zs := List.mergeSort_perm _ _
theorem sorted_pair (zs : List Int) : (zs.mergeSort fun x y => decide (x ≤ y)).Pairwise (· ≤ ·) := by
  have := List.pairwise_mergeSort (le := fun x y : Int => decide (x ≤ y)) (by intro a b c h1 h2; simp at *; omega) (by intro a b; simp; omega) zs
  exact this.imp fun h => by simpa using h
end Sq
set_option maxRecDepth 100000 in
theorem of1_any (z : Int) (w : World) (r : Bool) (hr : badZ z = r) : Calls Try.prog 57 #[.int .i64 z] w fun e w' => e = .returned (.bool r) ∧ w' = w := by
  unfold badZ at hr
  by_cases h1 : z < 1
  · have h1' : decide (z < 1) = true := by simpa using h1
    obtain rfl : r = true := by rw [← hr, h1']; rfl
    clear hr
    go_enter Try.func57, Try.ntmps57
    go_wp2
    go_ret
    exact ⟨rfl, rfl⟩
  · have h1' : decide (z < 1) = false := by simpa using h1
    rw [h1', Bool.false_or] at hr
    go_enter Try.func57, Try.ntmps57
    go_wp2
    go_ret
    exact ⟨rfl, rfl⟩
section
variable (a : Option Addr) (n c : Nat) (zs : List Int) (hn : zs.length = n) (hnl : n ≤ 65600) (w : World) (B : Nat) (hS : SeenZ w B a zs) (hB : B ≤ w.heap.size)
include hn hnl hS hB
set_option maxRecDepth 100000 in
theorem indexZ_any (r : Bool) (hr : zs.any badZ = r) : Calls Try.prog 66 #[.slice a n c, .func (.func 57) #[] #[]] w fun e w' => (∃ k : Int, e = .returned (.int .i64 k) ∧ decide (0 ≤ k) = r) ∧ Below w.heap.size w w' := by
  have HN := Lib.hid hn
  have HS : Hid (SeenZ w B a zs) := hS
  have HB := Lib.hid hB
  have HR := Lib.hid hr
  have hni : (n : Int) ≤ 65600 := by omega
  clear hn hS hB hr
  go_enter Try.func66, Try.ntmps66
  go_wp2
  go_loopw [8] (fun i wr => ∃ (k : Nat), k ≤ n ∧ i = .int .i64 k ∧ Hid ((zs.drop k).any badZ = r) ∧ wr = w) (fun i _ => n - (intOf i).toNat)
  case atStart => exact ⟨0, Nat.zero_le _, rfl, HR, rfl⟩
  case round =>
    obtain ⟨k, hk, rfl, HK, rfl⟩ := hrel
    by_cases hkn : k < n
    · have hkl : k < zs.length := by rw [HN.out]; exact hkn
      obtain ⟨z, hz⟩ : ∃ z, zs[k]? = some z := ⟨_, List.getElem?_eq_getElem hkl⟩
      have hdr : zs.drop k = z :: zs.drop (k + 1) := by
        obtain ⟨h1, h2⟩ := List.getElem?_eq_some_iff.1 hz
        rw [List.drop_eq_getElem_cons h1, h2]
      obtain ⟨b, off, rfl, hb, hc1⟩ := HS.out k z hz
      obtain ⟨q, hq⟩ : ∃ q, badZ z = q := ⟨_, rfl⟩
      have HQ := Lib.hid hq
      have HD : Hid ((q || (zs.drop (k + 1)).any badZ) = r) := by show _ = _; rw [← HK.out, hdr, List.any_cons, hq]
      have hki : (k : Int) < 65600 := by omega
      clear hz hdr hb hq HK hkl
      cases q with
      | true =>
        obtain rfl : r = true := by rw [← HD.out]; rfl
        go_wp2_with (go_at_call 57; ((with_reducible refine (of1_any z _ true HQ.out).mono ?_); rintro e w2 ⟨rfl, rfl⟩))
        go_ret
        exact ⟨⟨_, rfl, by simp⟩, Below.refl _ _⟩
      | false =>
        go_wp2_with (go_at_call 57; ((with_reducible refine (of1_any z _ false HQ.out).mono ?_); rintro e w2 ⟨rfl, rfl⟩))
        exact ⟨⟨k + 1, hkn, by go_num, HD.out, by first | trivial | rfl⟩, by simp [intOf]; omega⟩
    · obtain rfl : n = k := by omega
      obtain rfl : r = false := by
        rw [← HK.out, List.drop_eq_nil_of_le (by rw [HN.out]; exact Nat.le_refl _)]; rfl
      clear hkn HK
      go_wp2
      go_ret
      exact ⟨⟨_, rfl, rfl⟩, Below.refl _ _⟩
set_option maxRecDepth 100000 in
theorem containsZ_any (r : Bool) (hr : zs.any badZ = r) : Calls Try.prog 56 #[.slice a n c, .func (.func 57) #[] #[]] w fun e w' => e = .returned (.bool r) ∧ Below w.heap.size w w' := by
  have HC := Lib.hid (indexZ_any a n c zs hn hnl w B hS hB r hr)
  clear hn hnl hS hB hr
  go_enter Try.func56, Try.ntmps56
  go_wp2_with (go_at_call 66; ((with_reducible refine HC.out.mono ?_); rintro e w2 ⟨⟨k, rfl, hk⟩, hb2⟩))
  go_ret
  exact ⟨rfl, hb2⟩
set_option maxRecDepth 100000 in
theorem of_arg (h : n ≤ 65536) (hr : zs.any badZ = true) : Calls Try.prog 33 #[.slice a n c] w fun e w' => e = .returned (.tuple #[.slice none 0 0, .slice none 0 0, .int .i64 2]) ∧ Below w.heap.size w w' := by
  have h1 : ¬ (65536 : Int) < (n : Int) := by omega
  have h2 : decide ((65536 : Int) < (n : Int)) = false := by simp; omega
  have HC := Lib.hid (containsZ_any a n c zs hn hnl w B hS hB true hr)
  clear hn hnl hS hB h hr
  go_enter Try.func33, Try.ntmps33
  go_wp2_with (go_at_call 56; ((with_reducible refine HC.out.mono ?_); rintro e w2 ⟨rfl, hb2⟩))
  go_ret3
  exact ⟨rfl, hb2⟩
end
set_option maxRecDepth 100000 in
theorem of_many (a : Option Addr) (n c : Nat) (w : World) (h : 65536 < n) : Calls Try.prog 33 #[.slice a n c] w fun e w' => e = .returned (.tuple #[.slice none 0 0, .slice none 0 0, .int .i64 5]) ∧ w' = w := by
  have h1 : (65536 : Int) < (n : Int) := by omega
  have h2 : decide ((65536 : Int) < (n : Int)) = true := by simp; omega
  go_enter Try.func33, Try.ntmps33
  go_wp2
  go_ret3
  exact ⟨rfl, rfl⟩
theorem own_take {w : World} {base g cap n : Nat} {e : TypeId} {xs ys : List Int} (h : w.ownsRow base e 1 (.slice (some ⟨g, 0, none⟩) n cap) n (zv (xs ++ ys))) : w.ownsRow base e 1 (.slice (some ⟨g, 0, none⟩) xs.length cap) xs.length (zv xs) := by
  have hl : xs.length + ys.length = n := by have := h.1; simpa using this
  rcases h.2 with ⟨h0, _⟩ | ⟨g', cap', cur, hv, hg, hh, h1, h2, h3, h4⟩
  · cases h0
  · injection hv with hv1 _ hv2
    injection hv1 with hv1
    injection hv1 with hv1
    subst hv1
    subst hv2
    refine ⟨by simp, .inr ⟨g, cap, cur, rfl, hg, hh, by omega, h2, h3, ?_⟩⟩
    have := congrArg (List.take xs.length) h4
    rw [List.take_take, Nat.min_eq_left (by omega)] at this
    rw [Nat.mul_one, this]
    simp [zv]
/-- A row stays where another one, of another type, grows. -/
theorem own_kept2 {W W' : World} {base base' : Nat} {e e' : TypeId} {size size' n n' : Nat} {v v' : Value} {xs xs' : List Value} (h : W.ownsRow base e size v n xs) (h' : W.ownsRow base' e' size' v' n' xs') (he : e ≠ e') (hg : W.grownBy W' v'.ownBlock) : W'.ownsRow base e size v n xs := by
  refine h.kept hg ?_
  rcases h.2 with ⟨rfl, _⟩ | ⟨g, cap, cur, rfl, _, hh, _⟩
  · exact .inl rfl
  · refine .inr fun e1 => ?_
    rcases h'.2 with ⟨rfl, _⟩ | ⟨g', cap', cur', rfl, _, hh', _⟩
    · simp [Value.ownBlock] at e1
    · obtain rfl : g = g' := by simpa [Value.ownBlock] using e1
      rw [hh] at hh'
      cases hh'
      exact he rfl
theorem own_below {W W' : World} {base : Nat} {e : TypeId} {size n : Nat} {v : Value} {xs : List Value} (h : W.ownsRow base e size v n xs) (hb : Below W.heap.size W W') : W'.ownsRow base e size v n xs := by
  refine h.kept (grown_of_below hb) ?_
  rcases h.2 with ⟨rfl, _⟩ | ⟨g, cap, cur, rfl, _⟩
  · exact .inl rfl
  · exact .inr (by simp [Value.ownBlock])
theorem own_ge {W : World} {base : Nat} {e : TypeId} {size n : Nat} {v : Value} {xs : List Value} (h : W.ownsRow base e size v n xs) : ∀ k, v.ownBlock = some k → base ≤ k := by
  intro k hk
  rcases h.2 with ⟨rfl, _⟩ | ⟨g, cap, cur, rfl, hb, _⟩
  · simp [Value.ownBlock] at hk
  · obtain rfl : g = k := by simpa [Value.ownBlock] using hk
    exact hb
theorem own_val {W : World} {base : Nat} {e : TypeId} {size n : Nat} {v : Value} {xs : List Value} (h : W.ownsRow base e size v n xs) : ∃ a c, v = .slice a n c := by
  rcases h.2 with ⟨rfl, rfl⟩ | ⟨g, cap, cur, rfl, _⟩
  · exact ⟨none, 0, rfl⟩
  · exact ⟨_, _, rfl⟩
open Go.Sort Go.Lib in
set_option maxRecDepth 100000 in
/-- slices.Compact of a row of one's own. -/
theorem compact_own (tv : Value) (T : List Int) (k : Nat) (hk : T.length = k) (w : World) (base : Nat) (h : w.ownsRow base 3 1 tv k (zv T)) (hb : base ≤ w.heap.size) :
    Calls Try.prog 60 #[tv] w fun e w' => (∃ a c, e = .returned (.slice a (compact T).length c) ∧ w'.ownsRow base 3 1 (.slice a (compact T).length c) (compact T).length (zv (compact T))) ∧ w.grownBy w' tv.ownBlock := by
  rcases h.2 with ⟨rfl, rfl⟩ | ⟨g, cap, cur, rfl, hg, hh, h1, h2, h3, h4⟩
  · obtain rfl : T = [] := List.eq_nil_of_length_eq_zero hk
    refine (Try.slices_Compact_int_empty none 0 w).mono ?_
    rintro e w' ⟨rfl, rfl⟩
    exact ⟨⟨none, 0, rfl, World.ownsRow_nil _ _ _ _⟩, ⟨rfl, rfl, rfl, Nat.le_refl _, fun _ _ _ => rfl⟩⟩
  · unfold maxLen at h2
    have hc := Try.slices_Compact_int g 0 cap T w (holds_of_blockI hh (by rw [hk, ← Nat.mul_one k]; exact h4)) (by omega) (by omega)
    rw [hk] at hc
    refine hc.mono ?_
    rintro e w' ⟨rfl, q, rfl⟩
    have hgr : putRow (Value.int .i64) (Sort.ahead w q) g 0 (compact T ++ List.replicate (k - (compact T).length) 0).toArray = grow (putRow (Value.int .i64) (Sort.ahead w q) g 0 (compact T ++ List.replicate (k - (compact T).length) 0).toArray) #[] := by
      unfold grow; simp; rfl
    rw [hgr]
    refine ⟨⟨_, cap, rfl, ?_⟩, grownBy_sortedI _⟩
    have hlen : (compact T ++ List.replicate (k - (compact T).length) 0).length = T.length := by
      have : (compact T).length ≤ T.length := by unfold compact compactUpTo; rw [List.length_map]; exact Nat.le_trans (List.length_filter_le _ _) (by simp)
      simp; omega
    have := ownsRow_sortedI (w := w) (n := q) (os := #[]) (e := 3) (base := base) hlen hg hh (by omega) (by unfold maxLen; omega) h3
    exact own_take this

section
variable (a : Option Addr) (n c : Nat) (zs : List Int) (hn : zs.length = n) (hnl : n ≤ 65536) (w : World) (B : Nat) (hS : SeenZ w B a zs) (hB : B ≤ w.heap.size) (hr : zs.any badZ = false)
include hn hnl hS hB hr
set_option maxRecDepth 100000 in
set_option maxHeartbeats 4000000 in
theorem of_any : Calls Try.prog 33 #[.slice a n c] w fun e w' => (∃ a1 c1 L a2 c2 T, e = .returned (.tuple #[.slice a1 L.length c1, .slice a2 T.length c2, .int .i64 0]) ∧ w'.ownsRow w.heap.size 34 2 (.slice a1 L.length c1) L.length (flat L) ∧ w'.ownsRow w.heap.size 3 1 (.slice a2 T.length c2) T.length (zv T) ∧ OfOut zs L T) ∧ Below w.heap.size w w' := by
  obtain ⟨i0, hi, hz0, hz1, hz2⟩ := info_parts infoR
  obtain ⟨i1, hi', hz0', hz1', hz2'⟩ := info_parts infoI
  have h1 : ¬ (65536 : Int) < (n : Int) := by omega
  have h2 : decide ((65536 : Int) < (n : Int)) = false := by simp; omega
  have HC := Lib.hid (containsZ_any a n c zs hn (by omega) w B hS hB false hr)
  have HN := Lib.hid hn
  have HS : Hid (SeenZ w B a zs) := hS
  have HB := Lib.hid hB
  have hni : (n : Int) ≤ 65536 := by omega
  have HNL := Lib.hid hnl
  obtain ⟨ss, hss⟩ : ∃ ss, (zs.mergeSort fun x y => decide (x ≤ y)) = ss := ⟨_, rfl⟩
  have HSS := Lib.hid hss
  have HPM : Hid (ss.Perm zs) := by rw [← hss]; exact sorted_perm zs
  have HPW : Hid (ss.Pairwise (· ≤ ·)) := by rw [← hss]; exact sorted_pair zs
  have HBD : Hid (∀ z ∈ ss, 1 ≤ z ∧ z ≤ 281474976710656) := fun z hz => badZ_no (by
    have := List.any_eq_false.1 hr z (HPM.out.mem_iff.1 hz)
    simpa using this)
  have HLS : Hid (ss.length = n) := HPM.out.length_eq.trans hn
  clear hn hS hB hr hss hnl
  go_enter Try.func33, Try.ntmps33
  go_wp2_with (first
    | (go_at_call 56; ((with_reducible refine HC.out.mono ?_); rintro e w2 ⟨rfl, hb2⟩; have HB2 := Lib.hid hb2; clear hb2))
    | (go_at_call 59; ((with_reducible refine (values_any a n c w2).mono ?_); rintro e w3 ⟨rfl, hw3⟩; have HB3 : Hid (Below w.heap.size w w3) := (by rw [hw3]; exact HB2.out.alloc HB2.out.size _); have HBX : Hid (Boxed w3 w2.heap.size 26 (.slice a n c)) := (by rw [hw3]; exact Boxed.new w2 _ _); clear hw3))
    | (go_at_call 58; ((with_reducible refine (sorted_any a n c zs HN.out (Nat.le_trans HNL.out (by decide)) w3 B (HS.out.below (HB3.out.mono HB.out)) w2.heap.size HBX.out (Nat.le_trans HB.out HB3.out.size) ss HSS.out).mono ?_); rintro e w4 ⟨⟨v, rfl, hown⟩, hb4⟩; obtain ⟨a4, c4, rfl, hS4, _, _, _⟩ := own_ints hown; have HS4 : Hid (SeenZ w4 w4.heap.size a4 ss) := hS4; have HB4 := Lib.hid (HB3.out.trans (hb4.mono HB3.out.size)); clear hown hS4 hb4)))
  clear h1 h2
  go_loopw [5, 6, 23] (fun lv tv iv wr => ∃ (k : Nat) (L : Rs) (T : List Int), k ≤ n ∧ iv = .int .i64 k ∧ Hid (OfI ss k L T) ∧ Hid (wr.ownsRow w4.heap.size 34 2 lv L.length (flat L)) ∧ Hid (wr.ownsRow w4.heap.size 3 1 tv T.length (zv T)) ∧ Hid (Below w4.heap.size w4 wr)) (fun _ _ iv _ => n - (intOf iv).toNat)
  case atStart => exact ⟨0, [], [], Nat.zero_le _, rfl, ofI_0 ss, World.ownsRow_nil _ _ _ _, World.ownsRow_nil _ _ _ _, Below.refl _ _⟩
  case round =>
    obtain ⟨k, L, T, hk, rfl, HI, HOL, HOT, HW⟩ := hrel
    by_cases hkn : k < n
    · obtain ⟨z, hz⟩ : ∃ z, ss[k]? = some z := ⟨_, List.getElem?_eq_getElem (by rw [HLS.out]; exact hkn)⟩
      have hzb := HBD.out z (List.mem_of_getElem? hz)
      have HLL : Hid (L.length < 65536) := by show _ < _; have := HI.out.lenL; have := HNL.out; omega
      have HLT : Hid (T.length < 65536) := by show _ < _; have := HI.out.lenT; have := HNL.out; omega
      obtain ⟨L', T', HI', hcs⟩ := ofI_s HPW.out HBD.out HI.out hz
      have HI2 : Hid (OfI ss (k + 1) L' T') := HI'
      obtain ⟨b, off, rfl, hb4, hc4⟩ := (HS4.out.below HW.out) k z hz
      obtain ⟨va, vc, rfl⟩ := own_val HOL.out
      obtain ⟨ta, tc, rfl⟩ := own_val HOT.out
      have hki : (k : Int) < 65536 := by have := HNL.out; omega
      rcases hcs with ⟨y, hk0, hy, hzy, rfl, rfl⟩ | ⟨L0, r, y, rfl, hk0, hy, hzy, hze, rfl, rfl⟩ | ⟨rfl, rfl, rfl, rfl⟩ | ⟨L0, r, y, rfl, hk0, hy, hzy, hze, rfl, rfl⟩
      · obtain ⟨j, hj⟩ : ∃ j, k - 1 = j := ⟨_, rfl⟩
        rw [hj] at hy
        obtain ⟨b', off', hbb, _, hc5⟩ := (HS4.out.below HW.out) j y hy
        cases hbb
        have e1 : (k : Int) - 1 = (j : Int) := by omega
        have e2 : decide (0 < k) = true := decide_eq_true hk0
        have hw2 : IntKind.i64.wrap ((k : Int) - 1) = (j : Int) := by rw [e1]; exact wrap_i (by omega) (by omega)
        have e3 : (z == y) = true := by simpa using hzy
        have e4 : (0 : Int) ≤ (j : Int) := by omega
        have e5 : (j : Int) < (n : Int) := by omega
        obtain ⟨q, hq⟩ : ∃ q, L.length = q := ⟨_, rfl⟩
        have HQ := Lib.hid hq
        have hq6 : (q : Int) < 65536 := by have := HLL.out; omega
        rw [hq]
        rw [hq] at HOL
        have hw1 : IntKind.i64.wrap ((q : Int) - 1) = (q : Int) - 1 := wrap_i (by omega) (by omega)
        clear hz hzb HI' hy hzy hb4 hq hj hq6
        go_wp2_with (at_builtin; refine wpList_append_own _ rfl _ _ 26 rfl w4.heap.size 3 i1 (.int .i64 0) 1 8 Try.underlying26 hi' hz0' hz1' hz2' rfl (by decide) _ _ _ rfl (HOT.out.alloc _) ⟨wr.heap.size, 0, none⟩ 1 1 [.int .i64 z] rfl rfl (cell_one_new _ _ _) (by simp [Value.oneCell']) (by have := HLT.out; unfold maxLen; omega) (by have := HLT.out; omega) (by have := HW.out.size; simp; omega) ?_; intro v6 w6 hown6 hgrow6 _; have HG6 : Hid ((wr.alloc (.cells #[.int .i64 z] 3)).grownBy w6 _) := ⟨hgrow6.os, hgrow6.tape, hgrow6.output, hgrow6.size, hgrow6.block⟩; have HO6 := Lib.hid hown6; have HL6 := Lib.hid (own_kept2 (HOL.out.alloc _) (HOT.out.alloc _) (by decide) HG6.out); have HB6 : Hid (Below w4.heap.size w4 w6) := (HW.out.alloc HW.out.size _).grown HG6.out (by have := HW.out.size; simp; omega) (own_ge HOT.out); clear hown6 hgrow6 HG6)
        exact ⟨⟨k + 1, L, T ++ [z], hkn, rfl, HI2, by show World.ownsRow _ _ _ _ _ _ _; rw [HQ.out]; exact HL6.out, by show World.ownsRow _ _ _ _ _ _ _; rw [List.length_append, zv, List.map_append]; exact HO6.out, HB6⟩, by simp [intOf]; omega⟩
      · obtain ⟨j, hj⟩ : ∃ j, k - 1 = j := ⟨_, rfl⟩
        rw [hj] at hy
        obtain ⟨b', off', hbb, _, hc5⟩ := (HS4.out.below HW.out) j y hy
        cases hbb
        have e1 : (k : Int) - 1 = (j : Int) := by omega
        have e2 : decide (0 < k) = true := decide_eq_true hk0
        have hw2 : IntKind.i64.wrap ((k : Int) - 1) = (j : Int) := by rw [e1]; exact wrap_i (by omega) (by omega)
        have e3 : (z == y) = false := by simpa using hzy
        have e4 : (0 : Int) ≤ (j : Int) := by omega
        have e5 : (j : Int) < (n : Int) := by omega
        obtain ⟨q, hq⟩ : ∃ q, L0.length = q := ⟨_, rfl⟩
        have HQ : Hid ((L0 ++ [r]).length = q + 1) := by show _ = _; simp [hq]
        have hq6 : (q : Int) < 65536 := by have := HLL.out; have := HQ.out; omega
        rw [HQ.out] at HOL
        rw [HQ.out]
        obtain ⟨g, cap, hvl⟩ := ownsRow_succ HOL.out
        injection hvl with hv1 _ hv2
        subst hv1
        subst hv2
        obtain ⟨f, hf⟩ : ∃ f, r.1 = f := ⟨_, rfl⟩
        obtain ⟨d, hd⟩ : ∃ d, r.2 = d := ⟨_, rfl⟩
        have hqr : (L0 ++ [r])[q]? = some r := by rw [← hq]; simp
        have c1 : wr.cell? ⟨g, q * 2, none⟩ = some (.int .i64 f) := by rw [HOL.out.cellAt _ (by omega), flat_fst _ q r hqr, hf]
        have c2 : wr.cell? ⟨g, q * 2 + 1, none⟩ = some (.int .i64 d) := by rw [HOL.out.cellAt _ (by omega), flat_snd _ q r hqr, hd]
        obtain ⟨_, _, hr2, hr3⟩ := HI.out.rt.last
        rw [hd] at hr2 hr3
        rw [hf] at hr3
        rw [hf, hd] at hze
        have hr1 : 1 ≤ f := by have := (ends_high HI.out.rt r (by simp)).1; rw [hf] at this; exact this
        have HE : Hid (IntKind.i64.wrap (f + d) = f + d) := wrap_i (by omega) (by omega)
        obtain ⟨m, hm⟩ : ∃ m, q + 1 = m := ⟨_, rfl⟩
        have HLM : Hid (m < 65536) := by show _ < _; rw [← hm, ← HQ.out]; exact HLL.out
        rw [hm] at HOL HQ
        rw [hm]
        have f1 : (m : Int) - 1 = (q : Int) := by omega
        have hw1 : IntKind.i64.wrap (q : Int) = (q : Int) := wrap_i (by omega) (by omega)
        have f3 : (0 : Int) ≤ (q : Int) := by omega
        have f4 : (q : Int) < (m : Int) := by omega
        have e7 : (z == f + d) = true := by simpa using hze
        have hw3 : IntKind.i64.wrap (d + 1) = d + 1 := wrap_i (by omega) (by omega)
        have hfz : wr.frozen? ⟨g, q * 2 + 1, none⟩ = false := by have := HOL.out.frozenAt (q * 2 + 1); simpa using this
        have HST := Lib.hid (HOL.out.stored (q * 2 + 1) (.int .i64 (d + 1)))
        have HGG : Hid (w4.heap.size ≤ g) := (HOL.out.lt g rfl).1
        have HFL : Hid ((flat (L0 ++ [r])).set (q * 2 + 1) (.int .i64 (d + 1)) = flat (L0 ++ [(r.1, r.2 + 1)])) := by
          show _ = _
          rw [← flat_set2 _ q (d + 1) r hqr, ← hd, ← hq]
          congr 1
          simp
        have HQ2 : Hid ((L0 ++ [(r.1, r.2 + 1)]).length = m) := by show _ = _; rw [← hm]; simp [hq]
        clear hz hzb HI' hy hzy hze hb4 hq hj hq6 hqr hf hr1 hr2 hr3 hm
        go_wp2_with (go_at_call 53; ((with_reducible refine (end_any f d _ HE.out _).mono ?_); rintro e w5 ⟨rfl, hb5⟩; have HB5 := Lib.hid hb5; have HOL5 := Lib.hid (own_below HOL.out hb5); have HOT5 := Lib.hid (own_below HOT.out hb5); have c25 : w5.cell? ⟨g, q * 2 + 1, none⟩ = some (.int .i64 d) := (hb5.cell (p := ⟨g, q * 2 + 1, none⟩) (HOL.out.lt g rfl).2).trans c2; have hfz5 : w5.frozen? ⟨g, q * 2 + 1, none⟩ = false := (hb5.frozen (p := ⟨g, q * 2 + 1, none⟩) (HOL.out.lt g rfl).2).trans hfz; clear hb5))
        have HS6 := HOL5.out.stored (q * 2 + 1) (.int .i64 (d + 1))
        have HLL2 : World.ownsRow (w5.setCell ⟨g, q * 2 + 1, none⟩ (.int .i64 (d + 1))) w4.heap.size 34 2 (.slice (some ⟨g, 0, none⟩) m vc) (L0 ++ [(r.1, r.2 + 1)]).length (flat (L0 ++ [(r.1, r.2 + 1)])) := by rw [HQ2.out, ← HFL.out]; exact HS6.1
        exact ⟨⟨k + 1, _, T, hkn, rfl, HI2, HLL2, own_kept2 HOT5.out HOL5.out (by decide) HS6.2, (HW.out.trans (HB5.out.mono HW.out.size)).setCell (p := ⟨g, q * 2 + 1, none⟩) HGG.out _⟩, by simp [intOf]; omega⟩
      · have e2 : decide (0 < 0) = false := rfl
        have hz0n : ([] : Rs).length = 0 := rfl
        rw [hz0n] at HOL
        rw [hz0n]
        rw [Nat.add_zero] at hc4
        clear hz hzb HI' hb4
        go_wp2_with (at_builtin; refine wpList_append_own _ rfl _ _ 22 rfl w4.heap.size 34 i0 (.agg #[.int .i64 0, .int .i64 0]) 2 16 Try.underlying22 hi hz0 hz1 hz2 rfl (by decide) _ _ _ rfl (HOL.out.alloc _) ⟨wr.heap.size, 0, none⟩ 1 1 [.int .i64 z, .int .i64 1] rfl rfl (cells_two_new _ _ _ _) (by simp [Value.oneCell']) (by have := HLL.out; unfold maxLen; omega) (by have := HLL.out; omega) (by have := HW.out.size; simp; omega) ?_; intro v6 w6 hown6 hgrow6 _; have HG6 : Hid ((wr.alloc (.cells #[.int .i64 z, .int .i64 1] 34)).grownBy w6 _) := ⟨hgrow6.os, hgrow6.tape, hgrow6.output, hgrow6.size, hgrow6.block⟩; have HO6 := Lib.hid hown6; have HT6 := Lib.hid (own_kept2 (HOT.out.alloc _) (HOL.out.alloc _) (by decide) HG6.out); have HB6 : Hid (Below w4.heap.size w4 w6) := (HW.out.alloc HW.out.size _).grown HG6.out (by have := HW.out.size; simp; omega) (own_ge HOL.out); clear hown6 hgrow6 HG6)
        exact ⟨⟨0 + 1, [(z, 1)], T, hkn, rfl, HI2, HO6.out, HT6.out, HB6⟩, by simp [intOf]; omega⟩
      · obtain ⟨j, hj⟩ : ∃ j, k - 1 = j := ⟨_, rfl⟩
        rw [hj] at hy
        obtain ⟨b', off', hbb, _, hc5⟩ := (HS4.out.below HW.out) j y hy
        cases hbb
        have e1 : (k : Int) - 1 = (j : Int) := by omega
        have e2 : decide (0 < k) = true := decide_eq_true hk0
        have hw2 : IntKind.i64.wrap ((k : Int) - 1) = (j : Int) := by rw [e1]; exact wrap_i (by omega) (by omega)
        have e3 : (z == y) = false := by simpa using hzy
        have e4 : (0 : Int) ≤ (j : Int) := by omega
        have e5 : (j : Int) < (n : Int) := by omega
        obtain ⟨q, hq⟩ : ∃ q, L0.length = q := ⟨_, rfl⟩
        have HQ : Hid ((L0 ++ [r]).length = q + 1) := by show _ = _; simp [hq]
        have hq6 : (q : Int) < 65536 := by have := HLL.out; have := HQ.out; omega
        rw [HQ.out] at HOL
        rw [HQ.out]
        obtain ⟨g, cap, hvl⟩ := ownsRow_succ HOL.out
        injection hvl with hv1 _ hv2
        subst hv1
        subst hv2
        obtain ⟨f, hf⟩ : ∃ f, r.1 = f := ⟨_, rfl⟩
        obtain ⟨d, hd⟩ : ∃ d, r.2 = d := ⟨_, rfl⟩
        have hqr : (L0 ++ [r])[q]? = some r := by rw [← hq]; simp
        have c1 : wr.cell? ⟨g, q * 2, none⟩ = some (.int .i64 f) := by rw [HOL.out.cellAt _ (by omega), flat_fst _ q r hqr, hf]
        have c2 : wr.cell? ⟨g, q * 2 + 1, none⟩ = some (.int .i64 d) := by rw [HOL.out.cellAt _ (by omega), flat_snd _ q r hqr, hd]
        obtain ⟨_, _, hr2, hr3⟩ := HI.out.rt.last
        rw [hd] at hr2 hr3
        rw [hf] at hr3
        rw [hf, hd] at hze
        have hr1 : 1 ≤ f := by have := (ends_high HI.out.rt r (by simp)).1; rw [hf] at this; exact this
        have HE : Hid (IntKind.i64.wrap (f + d) = f + d) := wrap_i (by omega) (by omega)
        obtain ⟨m, hm⟩ : ∃ m, q + 1 = m := ⟨_, rfl⟩
        have HLM : Hid (m < 65536) := by show _ < _; rw [← hm, ← HQ.out]; exact HLL.out
        rw [hm] at HOL HQ
        rw [hm]
        have f1 : (m : Int) - 1 = (q : Int) := by omega
        have hw1 : IntKind.i64.wrap (q : Int) = (q : Int) := wrap_i (by omega) (by omega)
        have f3 : (0 : Int) ≤ (q : Int) := by omega
        have f4 : (q : Int) < (m : Int) := by omega
        have e7 : (z == f + d) = false := by simpa using hze
        clear hz hzb HI' hy hzy hze hb4 hq hj hq6 hqr hf hd hr1 hr2 hr3 hm
        go_wp2_with (first
          | (go_at_call 53; ((with_reducible refine (end_eq f d _ HE.out _).mono ?_); rintro e w5 ⟨rfl, hw5⟩; have hb5 : Below wr.heap.size wr w5 := (by rw [hw5]; exact (Below.refl _ wr).alloc (Nat.le_refl _) _); have HB5 : Hid (Below w4.heap.size w4 w5) := HW.out.trans (hb5.mono HW.out.size); have HOL5 := Lib.hid (own_below HOL.out hb5); have HOT5 := Lib.hid (own_below HOT.out hb5); clear hb5 hw5))
          | (at_builtin; (refine wpList_append_own _ rfl _ _ 22 rfl w4.heap.size 34 i0 (.agg #[.int .i64 0, .int .i64 0]) 2 16 Try.underlying22 hi hz0 hz1 hz2 rfl (by decide) _ _ _ rfl (HOL5.out.alloc _) ⟨w5.heap.size, 0, none⟩ 1 1 [.int .i64 z, .int .i64 1] rfl rfl (cells_two_new _ _ _ _) (by simp [Value.oneCell']) (by have := HLM.out; unfold maxLen; omega) (by have := HLM.out; omega) (by have := HB5.out.size; simp; omega) ?_; intro v6 w6 hown6 hgrow6 _; have HG6 : Hid ((w5.alloc (.cells #[.int .i64 z, .int .i64 1] 34)).grownBy w6 _) := ⟨hgrow6.os, hgrow6.tape, hgrow6.output, hgrow6.size, hgrow6.block⟩; have HO6 := Lib.hid hown6; have HT6 := Lib.hid (own_kept2 (HOT5.out.alloc _) (HOL5.out.alloc _) (by decide) HG6.out); have HB6 : Hid (Below w4.heap.size w4 w6) := (HB5.out.alloc HB5.out.size _).grown HG6.out (by have := HB5.out.size; simp; omega) (own_ge HOL5.out); clear hown6 hgrow6 HG6)))
        exact ⟨⟨k + 1, L0 ++ [r] ++ [(z, 1)], T, hkn, rfl, HI2, by show World.ownsRow _ _ _ _ _ _ _; rw [List.length_append, HQ.out, flat_append]; exact HO6.out, HT6.out, HB6⟩, by simp [intOf]; omega⟩
    · obtain rfl : n = k := by omega
      have HOF := Lib.hid (ofOut_of HPM.out HLS.out HI.out)
      have HLT : Hid (T.length < 65537) := by show _ < _; have := HI.out.lenT; have := HNL.out; omega
      obtain ⟨va, vc, rfl⟩ := own_val HOL.out
      obtain ⟨ta, tc, rfl⟩ := own_val HOT.out
      clear hkn HI
      go_wp2_with (go_at_call 60; (refine (compact_own _ T _ rfl wr _ HOT.out HW.out.size).mono ?_); rintro e w5 ⟨⟨a5, c5, rfl, hown5⟩, hg5⟩; have HO5 := Lib.hid hown5; have HG5 := Lib.hid hg5; clear hown5 hg5)
      go_ret3
      have hb6 : Below w.heap.size w w5 := (HB4.out.trans (HW.out.mono HB4.out.size)).trans (((Below.refl _ wr).grown HG5.out (Nat.le_trans HB4.out.size HW.out.size) (fun k e => Nat.le_trans HB4.out.size (own_ge HOT.out k e))))
      exact ⟨⟨va, vc, L, a5, c5, _, rfl, rebase (own_kept2 HOL.out HOT.out (by decide) HG5.out) HB4.out.size, rebase HO5.out HB4.out.size, HOF.out⟩, hb6⟩
end
end Go.Proofs.Ythamilolacfeoaa
