/-
  The walk of CursorMost.
-/
import Derived.Test.YtdemlifjhlpclaaCAwake
namespace Go.Proofs.Ytdemlifjhlpclaa
open Go.RowKit
set_option linter.unusedVariables false

theorem write_n (x la : Nat) (hx : x < 2 ^ 64) (hla : (Vi.form x).length = la) (w : World) : Calls Try.prog 24 #[.int .u64 x] w fun e w' =>
    ∃ g c, e = .returned (.slice (some ⟨g, 0, none⟩) la c) ∧ w'.ownsRow w.heap.size 5 1 (.slice (some ⟨g, 0, none⟩) la c) la ((Vi.form x).map fun x : Nat => Value.int .u8 x) ∧ Seen w' w'.heap.size .u8 (some ⟨g, 0, none⟩) (Vi.form x) ∧ la ≤ c ∧ c ≤ 9223372036854775807 ∧ Below w.heap.size w w' := by
  subst hla
  refine (write_any x hx w).mono ?_
  rintro e w' ⟨v, rfl, hown, hB⟩
  obtain ⟨g, c, rfl⟩ := own_form hown (Vi.form_pos x)
  have hc := own_cap hown
  exact ⟨g, c, rfl, hown, Seen.of_own (k := .u8) hown, hc.1, hc.2, hB⟩

theorem rdNumber_form (most x la : Nat) (hx : x < 2 ^ 64) (hla : (Vi.form x).length = la) : Cu.rdNumber most 0 (Vi.form x) = if most < x then (0, 21, 0) else (x, 0, la) := by
  have h := Vi.read_form x hx []
  rw [List.append_nil, hla] at h
  unfold Cu.rdNumber
  rw [List.drop_zero, h]
  simp

set_option maxRecDepth 100000 in
set_option maxHeartbeats 2000000 in
theorem most_law (x most : Nat) (hx : x < 2 ^ 64) (hmost : most < 2 ^ 64) (w : World) :
    Calls Try.prog 8 #[.int .u64 x, .int .u64 most] w fun e w' => e = .returned (.bool true) ∧ Below w.heap.size w w' := by
  have la1 := Vi.form_len10 x hx
  have la0 := Vi.form_pos x
  obtain ⟨la, hla⟩ : ∃ la, (Vi.form x).length = la := ⟨_, rfl⟩
  rw [hla] at la1 la0
  have HLA := Lib.hid hla
  have hD := rdNumber_form most x la hx hla
  have hbf : Hid (∀ y ∈ Vi.form x, y < 256) := Vi.form_byte x
  clear hla
  by_cases hle : most < x
  · rw [if_pos hle] at hD
    have HD := Lib.hid hD
    have hlt : (most : Int) < (x : Int) := by omega
    clear hD hle
    go_enter Try.func8, Try.ntmps8
    go_wp2_with (first
      | (go_at_call 12; ((with_reducible refine (awake_any _).mono ?_); rintro e w1 ⟨rfl, hB1⟩))
      | (go_at_call 24; ((with_reducible refine (write_n x la hx HLA.out _).mono ?_); rintro e w2 ⟨g1, c1, rfl, hown1, S1, hn1, hm1, hB2⟩))
      | (go_at_call 19; ((with_reducible refine (newReader_any _ _ la c1 (Vi.form x) HLA.out hbf.out hn1 (by unfold maxLen; omega) (by simp) (by omega) _ S1 (Nat.le_refl _)).mono ?_); rintro e w3 ⟨B, rfl, hBB, hR1, hB3⟩))
      | (go_at_call 27; ((with_reducible refine (number_at _ B 0 (Vi.form x) most 0 21 0 HD.out hR1).mono ?_); rintro e w4 ⟨rfl, hR2, hK4⟩))
      | (go_at_call 21; ((with_reducible refine (at_any _ B 0 _ hR2).mono ?_); rintro e w5 ⟨rfl, rfl⟩)))
    have h1 : w.heap.size ≤ w2.heap.size := Nat.le_trans hB1.size hB2.size
    have hBw := (hB1.trans (hB2.mono hB1.size)).trans ((hB3.mono h1).trans (hK4.below (B := w.heap.size) (by intro k e; omega) (Nat.le_trans h1 hB3.size)))
    have S2 : Seen w4 w4.heap.size .u8 (some ⟨g1, 0, none⟩) (Vi.form x) := (hR1.past hK4 ((S1.below hB3))).more (Nat.le_trans hB3.size hK4.size)
    clear S1 hown1
    go_loopw [52] (fun i wr => ∃ k : Nat, k ≤ la ∧ i = .int .i64 k ∧ Rdr wr B k (Vi.form x) ∧ Seen wr wr.heap.size .u8 (some ⟨g1, 0, none⟩) (Vi.form x) ∧ Below w.heap.size w wr) (fun i _ => la - (intOf i).toNat)
    case atStart => exact ⟨0, Nat.zero_le _, rfl, hR2, S2, hBw⟩
    case round =>
      obtain ⟨k, hk, rfl, hR, hS, hB⟩ := hrel
      by_cases hlt : k < la
      · obtain ⟨b, off, he, _, hc⟩ := hS.at (i := k) (by rw [HLA.out]; exact hlt)
        cases he
        rw [Nat.zero_add] at hc
        obtain ⟨y, hy⟩ : ∃ y, (Vi.form x)[k]'(by rw [HLA.out]; exact hlt) = y := ⟨_, rfl⟩
        rw [hy] at hc
        have HR : Hid (Cu.rdByte k (Vi.form x) = (y, 0, k + 1)) := by
          unfold Cu.rdByte; rw [if_pos (by rw [HLA.out]; exact hlt), List.getD_eq_getElem?_getD, List.getElem?_eq_getElem (by rw [HLA.out]; exact hlt), hy]; rfl
        clear hy
        go_wp2_with (go_at_call 28; ((with_reducible refine (byte_at _ B k _ y 0 (k + 1) HR.out hR).mono ?_); rintro e w6 ⟨rfl, hR6, hK6⟩; have S6 := (hR.past hK6 hS).more hK6.size; have hc6 := hR.past_cell hK6 hc; have hB6 := hB.trans (hK6.below (B := w.heap.size) (by intro k e; omega) hB.size)))
        exact ⟨⟨k + 1, by omega, by go_num, hR6, S6, hB6⟩, by simp [intOf]; omega⟩
      · obtain rfl : k = la := by omega
        go_wp2_with (go_at_call 23; ((with_reducible refine (end_any _ B k _ 0 (by unfold Cu.rdEnd; rw [if_pos HLA.out.symm]) hR).mono ?_); rintro e w9 ⟨rfl, q9, rfl⟩))
        go_ret
        exact ⟨rfl, below_drewN hB q9⟩
  · rw [if_neg hle] at hD
    have HD := Lib.hid hD
    have hlt : (x : Int) ≤ (most : Int) := by omega
    clear hD hle
    go_enter Try.func8, Try.ntmps8
    go_wp2_with (first
      | (go_at_call 12; ((with_reducible refine (awake_any _).mono ?_); rintro e w1 ⟨rfl, hB1⟩))
      | (go_at_call 24; ((with_reducible refine (write_n x la hx HLA.out _).mono ?_); rintro e w2 ⟨g1, c1, rfl, hown1, S1, hn1, hm1, hB2⟩))
      | (go_at_call 19; ((with_reducible refine (newReader_any _ _ la c1 (Vi.form x) HLA.out hbf.out hn1 (by unfold maxLen; omega) (by simp) (by omega) _ S1 (Nat.le_refl _)).mono ?_); rintro e w3 ⟨B, rfl, hBB, hR1, hB3⟩))
      | (go_at_call 27; ((with_reducible refine (number_at _ B 0 (Vi.form x) most x 0 la HD.out hR1).mono ?_); rintro e w4 ⟨rfl, hR2, hK4⟩))
      | (go_at_call 23; ((with_reducible refine (end_any _ B la _ 0 (by unfold Cu.rdEnd; rw [if_pos HLA.out.symm]) hR2).mono ?_); rintro e w9 ⟨rfl, q9, rfl⟩)))
    have h1 : w.heap.size ≤ w2.heap.size := Nat.le_trans hB1.size hB2.size
    have hBw := (hB1.trans (hB2.mono hB1.size)).trans ((hB3.mono h1).trans (hK4.below (B := w.heap.size) (by intro k e; omega) (Nat.le_trans h1 hB3.size)))
    go_ret
    exact ⟨rfl, below_drewN hBw q9⟩

set_option maxRecDepth 100000 in
theorem most_walk (a0 : Int) (a1 : Int) (w0 : (Lit.int .u64 a0).wf = true) (w1 : (Lit.int .u64 a1).wf = true) (w : World) :
    Calls Try.prog 8 #[.int .u64 a0, .int .u64 a1] w fun e w' => e = .returned (.bool true) ∧ Below w.heap.size w w' := by
  have b0 := bounds_u64 w0
  have b1 := bounds_u64 w1
  obtain ⟨x, rfl⟩ := Int.eq_ofNat_of_zero_le b0.1
  obtain ⟨y, rfl⟩ := Int.eq_ofNat_of_zero_le b1.1
  exact most_law x y (by omega) (by omega) w

end Go.Proofs.Ytdemlifjhlpclaa
