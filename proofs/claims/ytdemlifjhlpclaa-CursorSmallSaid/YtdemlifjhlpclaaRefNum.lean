/-
  The reference reader: Fixed, Number, Count, End.
-/
import Derived.Test.YtdemlifjhlpclaaRefTake
import Derived.Test.YtdemlifjhlpclaaRefRead
namespace Go.Proofs.Ytdemlifjhlpclaa
open Go.RowKit
set_option linter.unusedVariables false

set_option maxRecDepth 100000 in
theorem refEnd_any (w : World) (a : Option Addr) (n c p : Nat) (xs : List Nat) (hn : xs.length = n) (hp : p ≤ n) (r : Int) (hr : Cu.rdEnd p xs = r) :
    Calls Try.prog 39 #[rv a n c p] w fun e w' => e = .returned (.int .i64 r) ∧ Below w.heap.size w w' := by
  subst hr
  unfold rv Cu.rdEnd
  rw [hn]
  have hB : Below w.heap.size w (w.alloc (.cells #[.slice a n c, .int .i64 p] 71)) := (Below.refl _ w).alloc (Nat.le_refl _) _
  by_cases h : p = n
  · rw [if_pos h]
    have h' : (n : Int) ≤ (p : Int) := by omega
    clear h
    go_enter Try.func39, Try.ntmps39
    go_wp2
    go_ret
    exact ⟨rfl, hB⟩
  · rw [if_neg h]
    have h' : (p : Int) < (n : Int) := by omega
    clear h
    go_enter Try.func39, Try.ntmps39
    go_wp2
    go_ret
    exact ⟨rfl, hB⟩

/-- Take, as the reader's Bytes. -/
theorem refTake_any (w : World) (a : Option Addr) (n c p : Nat) (k : Int) (hk63 : k ≤ 9223372036854775807) (xs : List Nat) (hn : xs.length = n) (hnm : n ≤ 1000000000) (hp : p ≤ n) (N : Nat) (hS : Seen w N .u8 a xs) (hN : N ≤ w.heap.size) (l : List Nat) (er : Int) (p' : Nat) (hr : Cu.rdBytes k p xs = (l, er, p')) (m : Nat) (hm : l.length = m) :
    Calls Try.prog 58 #[rv a n c p, .int .i64 k] w fun e w' => ∃ a' c', e = .returned (.tuple #[rv a n c p', .slice a' m c', .int .i64 er]) ∧ Seen w' w'.heap.size .u8 a' l ∧ m ≤ c' ∧ c' ≤ maxLen ∧ Below w.heap.size w w' := by
  unfold Cu.rdBytes at hr
  by_cases h1 : k < 0
  · rw [if_pos h1] at hr
    cases hr
    subst hm
    refine (refTake_neg w a n c p k h1).mono ?_
    rintro e w' ⟨rfl, hB⟩
    exact ⟨none, 0, rfl, Seen.nil _ _ _ _, Nat.le_refl _, by unfold maxLen; omega, hB⟩
  · rw [if_neg h1] at hr
    obtain ⟨k, rfl⟩ := Int.eq_ofNat_of_zero_le (a := k) (by omega)
    rw [Int.toNat_natCast] at hr
    by_cases h2 : xs.length < p + k
    · rw [if_pos h2] at hr
      cases hr
      subst hm
      refine (refTake_end w a n c p k hp hnm (by omega)).mono ?_
      rintro e w' ⟨rfl, hB⟩
      exact ⟨none, 0, rfl, Seen.nil _ _ _ _, Nat.le_refl _, by unfold maxLen; omega, hB⟩
    · rw [if_neg h2] at hr
      cases hr
      have hl : ((xs.drop p).take k).length = k := by rw [List.length_take, List.length_drop]; omega
      rw [hl] at hm
      subst hm
      refine (refTake_ok w a n c p k xs hn hnm (by omega) N hS hN).mono ?_
      rintro e w' ⟨v, rfl, hown, hB⟩
      obtain ⟨a', c', rfl, S', _, hc, hcm⟩ := own_slice hown
      exact ⟨a', c', rfl, S', hc, hcm, hB⟩

/-- The world of a boxed reader, a result, and a copy. -/
theorem mul_le (y v : Nat) (hv : v < 256) (hy : y < 256 ^ 7) : y * 256 + v < 2 ^ 64 := by
  have : (256 : Nat) ^ 7 = 72057594037927936 := by decide
  omega
theorem le_drop (bs : List Nat) (j : Nat) (hj : j < bs.length) : Cu.le (bs.drop j) = bs[j] + 256 * Cu.le (bs.drop (j + 1)) := by
  rw [List.drop_eq_getElem_cons hj]; rfl

set_option maxRecDepth 100000 in
set_option maxHeartbeats 2000000 in
theorem refFixed_any (w : World) (a : Option Addr) (n c p : Nat) (k : Int) (xs : List Nat) (hn : xs.length = n) (hnm : n ≤ 1000000000) (hp : p ≤ n) (hx : ∀ x ∈ xs, x < 256) (N : Nat) (hS : Seen w N .u8 a xs) (hN : N ≤ w.heap.size) (y : Nat) (er : Int) (p' : Nat) (hr : Cu.rdFixed k p xs = (y, er, p')) :
    Calls Try.prog 59 #[rv a n c p, .int .i64 k] w fun e w' => e = .returned (.tuple #[rv a n c p', .int .u64 y, .int .i64 er]) ∧ Below w.heap.size w w' := by
  obtain ⟨hsz, hB0, hb1, hb2⟩ := tkWorld_all w a n c p
  unfold Cu.rdFixed at hr
  by_cases h : k < 1 ∨ 8 < k
  · rw [if_pos h] at hr
    cases hr
    unfold rv
    by_cases h1 : k < 1
    · clear h
      go_enter Try.func59, Try.ntmps59
      go_wp2
      exact bodyPost_ret (v := .tuple #[.agg #[.slice a n c, .int .i64 p], .int .u64 0, .int .i64 2]) (by simp [results, Try.results59, go_sem]) rfl ⟨rfl, ((Below.refl _ w).alloc (Nat.le_refl _) _).alloc (by simp) _⟩
    · have h2 : 8 < k := by omega
      have h3 : 1 ≤ k := by omega
      clear h h1
      go_enter Try.func59, Try.ntmps59
      go_wp2
      exact bodyPost_ret (v := .tuple #[.agg #[.slice a n c, .int .i64 p], .int .u64 0, .int .i64 2]) (by simp [results, Try.results59, go_sem]) rfl ⟨rfl, ((Below.refl _ w).alloc (Nat.le_refl _) _).alloc (by simp) _⟩
  · rw [if_neg h] at hr
    obtain ⟨k, rfl⟩ := Int.eq_ofNat_of_zero_le (a := k) (by omega)
    rw [Int.toNat_natCast] at hr
    have k1 : (1 : Int) ≤ (k : Int) := by omega
    have k8 : (k : Int) ≤ 8 := by omega
    have hrb : ∃ l, Cu.rdBytes (k : Int) p xs = (l, er, p') ∧ y = Cu.le l ∧ l.length ≤ 8 ∧ ∀ x ∈ l, x < 256 := by
      unfold Cu.rdBytes
      rw [if_neg (by omega), Int.toNat_natCast]
      by_cases h2 : xs.length < p + k
      · rw [if_pos h2] at hr ⊢
        cases hr
        exact ⟨[], rfl, rfl, by simp, by simp⟩
      · rw [if_neg h2] at hr ⊢
        cases hr
        exact ⟨_, rfl, rfl, by rw [List.length_take]; omega, fun x h => hx x (List.mem_of_mem_drop (List.mem_of_mem_take h))⟩
    obtain ⟨l, hrb, rfl, hl8, hl256⟩ := hrb
    obtain ⟨m, hm⟩ : ∃ m, l.length = m := ⟨_, rfl⟩
    rw [hm] at hl8
    have HM := Lib.hid hm
    have HRB := Lib.hid hrb
    have HX := Lib.hid hl256
    have HN := Lib.hid hn
    have HB := Lib.hid hB0
    have HSZ := Lib.hid hsz
    clear h hr hm hrb hl256 hn
    have hS2 := hS.below (hB0.mono hN)
    have hN2 : N ≤ (tkWorld w a n c p).heap.size := Nat.le_trans hN hB0.size
    clear hsz hB0
    unfold tkWorld at hb1 hb2 hS2 hN2
    obtain ⟨d0, d1, f0, f1⟩ := two_cells hb1
    unfold rv
    go_enter Try.func59, Try.ntmps59
    go_wp2_with (go_at_call 58; ((with_reducible refine (refTake_any _ a n c p k (by omega) xs HN.out hnm hp N hS2 hN2 l er p' HRB.out m HM.out).mono ?_); rintro e w1 ⟨a1, c1, rfl, S1, hc1, hm1, hB1⟩))
    have hsz1 : w.heap.size + 2 ≤ w1.heap.size := by have := hB1.size; rw [World.size_alloc, World.size_alloc] at this; omega
    have hz1' : w.heap.size + 1 < w1.heap.size := by omega
    have hb2' := (hB1.block (w.heap.size + 1) (by simp)).trans hb2
    obtain ⟨e0, e1, g0, g1⟩ := two_cells hb2'
    have hBw := HB.out.trans (hB1.mono (HB.out.size))
    clear hB1 hb1 hb2 d0 d1 f0 f1 hS2 hN2
    unfold maxLen at hm1
    have HBW := Lib.hid hBw
    have HB2 := Lib.hid hb2'
    clear hBw hb2'
    have hm8 : (m : Int) ≤ 8 := by omega
    go_loop [10, 11] (fun x i => ∃ (j : Nat) (q : Int), q = (j : Int) - 1 ∧ j ≤ m ∧ i = .int .i64 q ∧ x = .int .u64 (Cu.le (l.drop j) : Nat)) (fun _ i => (intOf i + 1).toNat)
    case atStart => exact ⟨m, _, rfl, Nat.le_refl _, rfl, by rw [List.drop_eq_nil_of_le (by rw [HM.out]; exact Nat.le_refl _)]; rfl⟩
    case round =>
      obtain ⟨j, q, hq, hj, rfl, rfl⟩ := hrel
      by_cases hj0 : j = 0
      · obtain rfl : q = -1 := by omega
        subst hj0
        clear hq
        go_wp2
        exact bodyPost_ret (v := .tuple #[.agg #[.slice a n c, .int .i64 p'], .int .u64 (Cu.le l : Nat), .int .i64 er]) (by simp [results, Try.results59, go_sem, e0, e1, hz1']) rfl ⟨rfl, ((HBW.out.setCell (p := ⟨w.heap.size + 1, 0, none⟩) (by simp) _).setCell (p := ⟨w.heap.size + 1, 1, none⟩) (by simp) _).alloc (by simp; omega) _⟩
      · obtain ⟨t, rfl⟩ : ∃ t, j = t + 1 := ⟨j - 1, by omega⟩
        obtain rfl : q = (t : Int) := by omega
        clear hq
        obtain ⟨b, off, rfl, hbl, hc⟩ := (S1.alloc (Nat.le_refl _) (.cells #[.slice a n c, .int .i64 p'] 71)).at (i := t) (by rw [HM.out]; omega)
        obtain ⟨v, hv⟩ : ∃ v, l[t]'(by rw [HM.out]; omega) = v := ⟨_, rfl⟩
        rw [hv] at hc
        have hv256 : v < 256 := by rw [← hv]; exact HX.out _ (List.getElem_mem _)
        obtain ⟨y, hy⟩ : ∃ y, Cu.le (l.drop (t + 1)) = y := ⟨_, rfl⟩
        have hy7 : y < 72057594037927936 := by
          have h1 := Cu.le_lt (l.drop (t + 1)) (fun z hz => HX.out z (List.mem_of_mem_drop hz))
          rw [hy, List.length_drop, HM.out] at h1
          have h2 : (256 : Nat) ^ (m - (t + 1)) ≤ 256 ^ 7 := Nat.pow_le_pow_right (by decide) (by omega)
          have h3 : (256 : Nat) ^ 7 = 72057594037927936 := by decide
          omega
        have HT : Hid (Cu.le (l.drop t) = y * 256 + v) := by
          rw [le_drop l t (by rw [HM.out]; omega), hy, hv]; show _ = _; omega
        have ew1 : IntKind.u64.wrap ((y : Int) * 256) = (y : Int) * 256 := by rw [IntKind.wrap_u64]; exact Int.emod_eq_of_lt (by omega) (by omega)
        have ew2 : IntKind.u64.wrap ((y : Int) * 256 + (v : Int)) = (y : Int) * 256 + (v : Int) := by rw [IntKind.wrap_u64]; exact Int.emod_eq_of_lt (by omega) (by omega)
        have i1 : (t : Int) < (m : Int) := by omega
        have i0' : (0 : Int) ≤ (t : Int) := by omega
        rw [hy]
        clear hy hv
        go_wp2
        exact ⟨⟨t, _, rfl, by omega, by simp, by rw [HT.out]; simp⟩, by simp [intOf]⟩

end Go.Proofs.Ytdemlifjhlpclaa
