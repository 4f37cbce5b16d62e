/-
  The reference reader: Count.
-/
import Derived.Test.YtdemlifjhlpclaaRefNumber
namespace Go.Proofs.Ytdemlifjhlpclaa
open Go.RowKit
set_option linter.unusedVariables false

theorem rdCount_num (M s p : Nat) (xs : List Nat) (hs : 0 < s) (y1 : Nat) (e1 : Int) (p1 : Nat) (h : Cu.rdNumber M p xs = (y1, e1, p1)) :
    Cu.rdCount M s p xs = if e1 ≠ 0 then (0, e1, p) else if (xs.length - p1) / s < y1 then (0, 20, p) else (y1, 0, p1) := by
  unfold Cu.rdNumber at h
  unfold Cu.rdCount
  rw [if_neg (by omega), Int.toNat_natCast, Int.toNat_natCast]
  split at h
  · rename_i h1
    rw [if_pos h1]
    cases h
    rw [if_pos h1]
  · rename_i h1
    rw [if_neg h1]
    split at h
    · rename_i h2
      rw [if_pos h2]
      cases h
      rfl
    · rename_i h2
      rw [if_neg h2]
      cases h
      simp
theorem rdNumber_parts (M p : Nat) (xs : List Nat) (hx : ∀ x ∈ xs, x < 256) (hp : p ≤ xs.length) (y1 : Nat) (e1 : Int) (p1 : Nat) (h : Cu.rdNumber M p xs = (y1, e1, p1)) : p ≤ p1 ∧ p1 ≤ xs.length ∧ y1 ≤ M ∧ (e1 = 0 ∨ e1 = 10 ∨ e1 = 11 ∨ e1 = 12 ∨ e1 = 21) := by
  have hv := vi_parts (bs := xs.drop p) (fun b hb => hx b (List.mem_of_mem_drop hb))
  unfold Cu.rdNumber at h
  split at h
  · rename_i h1
    cases h
    rcases hv with ⟨_, _, h3⟩ | ⟨h3, _⟩
    · refine ⟨Nat.le_refl _, hp, Nat.zero_le _, ?_⟩
      rcases h3 with h | h | h <;> rw [h] <;> decide
    · exact absurd h3 h1
  · rename_i h1
    split at h
    · cases h
      exact ⟨Nat.le_refl _, hp, Nat.zero_le _, by decide⟩
    · rename_i h2
      cases h
      rcases hv with ⟨_, _, h3⟩ | ⟨h3, _, _, h4⟩
      · exfalso; apply h1; rcases h3 with h | h | h <;> rw [h] <;> decide
      · rw [List.length_drop] at h4
        exact ⟨by omega, by omega, by omega, .inl rfl⟩

set_option maxRecDepth 100000 in
set_option maxHeartbeats 4000000 in
theorem refCount_any (w : World) (a : Option Addr) (n c p : Nat) (most size : Int) (hmm : most ≤ 9223372036854775807) (hss : size ≤ 9223372036854775807) (xs : List Nat) (hn : xs.length = n) (hnm : n ≤ 1000000000) (hp : p ≤ n) (hnc : n ≤ c) (hcm : c ≤ maxLen) (hsn : a = none → c = 0) (hx : ∀ x ∈ xs, x < 256) (N : Nat) (hS : Seen w N .u8 a xs) (hN : N ≤ w.heap.size) (y : Nat) (er : Int) (p' : Nat) (hr : Cu.rdCount most size p xs = (y, er, p')) :
    Calls Try.prog 61 #[rv a n c p, .int .i64 most, .int .i64 size] w fun e w' => e = .returned (.tuple #[rv a n c p', .int .i64 y, .int .i64 er]) ∧ Below w.heap.size w w' := by
  obtain ⟨hsz, hB0, hb1, hb2⟩ := tkWorld_all w a n c p
  by_cases h : most < 0 ∨ size < 1
  · have hr2 : (0, (2 : Int), p) = (y, er, p') := by rw [← hr]; unfold Cu.rdCount; rw [if_pos h]
    obtain ⟨rfl, rfl, rfl⟩ : y = 0 ∧ er = 2 ∧ p = p' := by cases hr2; exact ⟨rfl, rfl, rfl⟩
    unfold rv
    clear hr hr2
    by_cases h1 : most < 0
    · clear h
      go_enter Try.func61, Try.ntmps61
      go_wp2
      exact bodyPost_ret (v := .tuple #[.agg #[.slice a n c, .int .i64 p], .int .i64 0, .int .i64 2]) (by simp [results, Try.results61, go_sem]) rfl ⟨rfl, ((Below.refl _ w).alloc (Nat.le_refl _) _).alloc (by simp) _⟩
    · have h2 : size < 1 := by omega
      have h3 : 0 ≤ most := by omega
      clear h h1
      go_enter Try.func61, Try.ntmps61
      go_wp2
      exact bodyPost_ret (v := .tuple #[.agg #[.slice a n c, .int .i64 p], .int .i64 0, .int .i64 2]) (by simp [results, Try.results61, go_sem]) rfl ⟨rfl, ((Below.refl _ w).alloc (Nat.le_refl _) _).alloc (by simp) _⟩
  · obtain ⟨M, rfl⟩ := Int.eq_ofNat_of_zero_le (a := most) (by omega)
    obtain ⟨s, rfl⟩ := Int.eq_ofNat_of_zero_le (a := size) (by omega)
    have s1 : (1 : Int) ≤ (s : Int) := by omega
    have M0 : (0 : Int) ≤ (M : Int) := by omega
    obtain ⟨r, hrr⟩ : ∃ r, Cu.rdNumber M p xs = r := ⟨_, rfl⟩
    obtain ⟨y1, e1, p1⟩ := r
    obtain ⟨q1, q2, q3, q4⟩ := rdNumber_parts M p xs hx (by omega) y1 e1 p1 hrr
    rw [rdCount_num M s p xs (by omega) y1 e1 p1 hrr] at hr
    have ew : IntKind.u64.wrap (M : Int) = (M : Int) := by rw [IntKind.wrap_u64]; exact Int.emod_eq_of_lt (by omega) (by omega)
    have ew2 : IntKind.i64.wrap (y1 : Int) = (y1 : Int) := IntWalk.i64_in _ (by omega)
    have HN := Lib.hid hn
    have HX := Lib.hid hx
    have HRN := Lib.hid hrr
    have HB := Lib.hid hB0
    have hS2 := hS.below (hB0.mono hN)
    have hN2 : N ≤ (tkWorld w a n c p).heap.size := Nat.le_trans hN hB0.size
    rw [hn] at q2 hr
    have HQ := Lib.hid q4
    have HR := Lib.hid hr
    have HSN := Lib.hid hsn
    clear h hrr hB0 hsz hn hx hr hsn
    unfold tkWorld at hb1 hb2 hS2 hN2
    obtain ⟨d0, d1, f0, f1⟩ := two_cells hb1
    unfold rv
    by_cases he1 : e1 = 0
    · have hr3 : Hid ((if (n - p1) / s < y1 then (0, (20 : Int), p) else (y1, 0, p1)) = (y, er, p')) := by have := HR.out; rw [if_neg (by simp [he1])] at this; exact this
      subst he1
      clear HR HQ q4
      go_enter Try.func61, Try.ntmps61
      go_wp2_with (go_at_call 60; ((with_reducible refine (refNumber_any _ a n c p M xs HN.out hnm hp hnc hcm HSN.out HX.out N hS2 hN2 y1 0 p1 HRN.out).mono ?_); rintro e w1 ⟨rfl, hB1⟩; have hb1' := (hB1.block w.heap.size (by simp; omega)).trans hb1; have hb2' := (hB1.block (w.heap.size + 1) (by simp)).trans hb2; obtain ⟨d0', d1', f0', f1'⟩ := two_cells hb1'; obtain ⟨e0, e1, g0, g1⟩ := two_cells hb2'; have hsz1 : w.heap.size + 2 ≤ w1.heap.size := (by have := hB1.size; rw [World.size_alloc, World.size_alloc] at this; omega); have hz1' : w.heap.size + 1 < w1.heap.size := (by omega); have hz0' : w.heap.size < w1.heap.size := (by omega); have HBW := Lib.hid (HB.out.trans (hB1.mono HB.out.size)); clear hB1 hb1' hb2'))
      go_loop [12, 13] (fun l i => ∃ (j m : Nat), j ≤ y1 ∧ m + j * s = n - p1 ∧ i = .int .u64 j ∧ l = .int .i64 m) (fun _ i => y1 - (intOf i).toNat)
      case atStart => exact ⟨0, n - p1, Nat.zero_le _, by rw [Nat.zero_mul, Nat.add_zero], rfl, by rw [Int.natCast_sub q2]⟩
      case round =>
        obtain ⟨j, m, hj, hjm, rfl, rfl⟩ := hrel
        have HJM := Lib.hid hjm
        clear hjm
        by_cases hlt : j < y1
        · have i1 : (j : Int) < (y1 : Int) := by omega
          by_cases hms : m < s
          · have hfin : (n - p1) / s < y1 := by
              have h1 : n - p1 < (j + 1) * s := by rw [Nat.succ_mul, ← HJM.out]; omega
              have := (Nat.div_lt_iff_lt_mul (k := s) (by omega)).2 h1
              omega
            have hr4 : (0, (20 : Int), p) = (y, er, p') := by have := hr3.out; rw [if_pos hfin] at this; exact this
            obtain ⟨rfl, rfl, rfl⟩ : y = 0 ∧ er = 20 ∧ p = p' := by cases hr4; exact ⟨rfl, rfl, rfl⟩
            have i2 : (m : Int) < (s : Int) := by omega
            clear hr4 hfin hr3 HJM
            go_wp2
            exact bodyPost_ret (v := .tuple #[.agg #[.slice a n c, .int .i64 p], .int .i64 0, .int .i64 20]) (by simp [results, Try.results61, go_sem, e0, e1, hz1']) rfl ⟨rfl, ((HBW.out.setCell (p := ⟨w.heap.size + 1, 0, none⟩) (by simp) _).setCell (p := ⟨w.heap.size + 1, 1, none⟩) (by simp) _).alloc (by simp; omega) _⟩
          · have i2 : (s : Int) ≤ (m : Int) := by omega
            have ewj : IntKind.u64.wrap ((j : Int) + 1) = (j : Int) + 1 := by rw [IntKind.wrap_u64]; exact Int.emod_eq_of_lt (by omega) (by omega)
            have hm5 : m ≤ 1000000000 := by have := HJM.out; omega
            go_wp2
            exact ⟨⟨j + 1, m - s, by omega, by rw [Nat.succ_mul]; have := HJM.out; omega, by go_num, by rw [Int.natCast_sub (by omega)]⟩, by simp [intOf]; omega⟩
        · obtain rfl : j = y1 := by omega
          have hfin : ¬ (n - p1) / s < j := by
            have h1 : j * s ≤ n - p1 := by rw [← HJM.out]; omega
            have := (Nat.le_div_iff_mul_le (k := s) (by omega)).2 h1
            omega
          have hr4 : (j, (0 : Int), p1) = (y, er, p') := by have := hr3.out; rw [if_neg hfin] at this; exact this
          obtain ⟨rfl, rfl, rfl⟩ : j = y ∧ er = 0 ∧ p1 = p' := by cases hr4; exact ⟨rfl, rfl, rfl⟩
          clear hr4 hfin hr3 HJM hlt
          go_wp2
          exact bodyPost_ret (v := .tuple #[.agg #[.slice a n c, .int .i64 p1], .int .i64 j, .int .i64 0]) (by simp [results, Try.results61, go_sem, e0, e1, hz1']) rfl ⟨rfl, ((HBW.out.setCell (p := ⟨w.heap.size + 1, 0, none⟩) (by simp) _).setCell (p := ⟨w.heap.size + 1, 1, none⟩) (by simp) _).alloc (by simp; omega) _⟩
    · have hr3 : (0, e1, p) = (y, er, p') := by have := HR.out; rw [if_pos he1] at this; exact this
      obtain ⟨rfl, rfl, rfl⟩ : y = 0 ∧ er = e1 ∧ p = p' := by cases hr3; exact ⟨rfl, rfl, rfl⟩
      have e1b : (er != 0) = true := by rcases HQ.out with rfl | rfl | rfl | rfl | rfl <;> first | rfl | exact absurd rfl he1
      clear HR HQ q4 hr3 he1
      go_enter Try.func61, Try.ntmps61
      go_wp2_with (go_at_call 60; ((with_reducible refine (refNumber_any _ a n c p M xs HN.out hnm hp hnc hcm HSN.out HX.out N hS2 hN2 y1 er p1 HRN.out).mono ?_); rintro e w1 ⟨rfl, hB1⟩; have hb1' := (hB1.block w.heap.size (by simp; omega)).trans hb1; have hb2' := (hB1.block (w.heap.size + 1) (by simp)).trans hb2; obtain ⟨d0', d1', f0', f1'⟩ := two_cells hb1'; obtain ⟨e0, e1, g0, g1⟩ := two_cells hb2'; have hsz1 : w.heap.size + 2 ≤ w1.heap.size := (by have := hB1.size; rw [World.size_alloc, World.size_alloc] at this; omega); have hz1' : w.heap.size + 1 < w1.heap.size := (by omega); have hz0' : w.heap.size < w1.heap.size := (by omega); have HBW := Lib.hid (HB.out.trans (hB1.mono HB.out.size)); clear hB1 hb1' hb2'))
      exact bodyPost_ret (v := .tuple #[.agg #[.slice a n c, .int .i64 p], .int .i64 0, .int .i64 er]) (by simp [results, Try.results61, go_sem, e0, e1, hz1']) rfl ⟨rfl, ((HBW.out.setCell (p := ⟨w.heap.size + 1, 0, none⟩) (by simp) _).setCell (p := ⟨w.heap.size + 1, 1, none⟩) (by simp) _).alloc (by simp; omega) _⟩

end Go.Proofs.Ytdemlifjhlpclaa
