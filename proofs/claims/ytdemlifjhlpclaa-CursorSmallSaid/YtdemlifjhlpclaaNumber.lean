/-
  Reader.Number and Reader.Count, by attempt.
-/
import Derived.Test.YtdemlifjhlpclaaNum
namespace Go.Proofs.Ytdemlifjhlpclaa
open Go.RowKit
set_option linter.unusedVariables false

set_option maxRecDepth 100000 in
theorem right_number (w : World) (M x most : Nat) (hM : w.cell? ⟨M, 0, none⟩ = some (.int .u64 most)) :
    Calls Try.prog 55 #[.int .u64 x, .pointer (some ⟨M, 0, none⟩)] w fun e w' => e = .returned (.int .i64 (if most < x then 21 else 0)) ∧ w = w' := by
  by_cases h : most < x
  · rw [if_pos h]
    have h' : (most : Int) < (x : Int) := by omega
    go_enter Try.func55, Try.ntmps55
    go_wp2
    go_ret
    exact ⟨rfl, rfl⟩
  · rw [if_neg h]
    have h' : (x : Int) ≤ (most : Int) := by omega
    go_enter Try.func55, Try.ntmps55
    go_wp2
    go_ret
    exact ⟨rfl, rfl⟩

/-- What attempt returns, and where the reader is. -/
def Took (B : Nat) (xs : List Nat) (w : World) (x : Nat) (er : Int) (p : Nat) (w' : World) : Prop := Rdr w' B p xs ∧ Chg (· = B) w w'
theorem Rdr.undo {w : World} {B p p' : Nat} {xs : List Nat} (h : Rdr w B p' xs) (hp : p ≤ xs.length) : Rdr (w.setCell ⟨B, 1, none⟩ (.int .i64 (p : Int))) B p xs := by
  obtain ⟨a, c, hb, hsh, hS, hx, _, hc, hcm⟩ := h
  exact ⟨a, c, ob_set1 hb _, hsh, hS.past hb (chg_set w B 0 1 _), hx, hp, hc, hcm⟩
theorem Rdr.cells {w : World} {B p : Nat} {xs : List Nat} (h : Rdr w B p xs) : w.cell? ⟨B, 1, none⟩ = some (.int .i64 p) ∧ w.frozen? ⟨B, 1, none⟩ = false ∧ p ≤ xs.length := by
  obtain ⟨a, c, hb, hsh, hS, hx, hp, hc, hcm⟩ := h
  obtain ⟨c0, c1, c2, c3, f1, f3⟩ := ob_cells hb
  exact ⟨c1, f1, hp⟩

set_option maxRecDepth 100000 in
set_option maxHeartbeats 1000000 in
theorem attempt_number (w : World) (B p M most : Nat) (xs : List Nat) (r : Nat × Int × Nat) (hr : Cu.rdNumber most p xs = r) (hM : Boxed w M 28 (.int .u64 most)) (hMB : M ≠ B) (hR : Rdr w B p xs) :
    Calls Try.prog 51 #[.pointer (some ⟨B, 0, none⟩), .func (.func 52) #[.pointer (some ⟨B, 0, none⟩)] #[], .func (.func 55) #[] #[.pointer (some ⟨M, 0, none⟩)]] w
      fun e w' => e = .returned (.tuple #[.int .u64 r.1, .int .i64 r.2.1]) ∧ Rdr w' B r.2.2 xs ∧ Chg (· = B) w w' := by
  subst hr
  obtain ⟨k1, kf, hp⟩ := hR.cells
  have hx : ∀ b ∈ xs.drop p, b < 256 := by obtain ⟨a, c, hb, hsh, hS, hx, _⟩ := hR; exact fun b hb => hx b (List.mem_of_mem_drop hb)
  have hP := Lib.hid hp
  clear hp
  rcases vi_parts hx with ⟨h1, h2, h3⟩ | ⟨h3, hx64, hm0, hml⟩
  · have hV : Hid (Vi.read (xs.drop p) = (0, 0, (Vi.read (xs.drop p)).2.2)) := Prod.ext h1 (Prod.ext h2 rfl)
    have hD : Hid (Cu.rdNumber most p xs = (0, (Vi.read (xs.drop p)).2.2, p)) := by unfold Cu.rdNumber; rw [if_pos (by rcases h3 with h | h | h <;> rw [h] <;> decide)]; rfl
    rw [hD.out]
    obtain ⟨er, her⟩ : ∃ er, (Vi.read (xs.drop p)).2.2 = er := ⟨_, rfl⟩
    have hV2 := hV.out
    rw [her] at h3 hV2 ⊢
    have e1 : (er == 0) = false := by rcases h3 with rfl | rfl | rfl <;> rfl
    have e2 : (er != 0) = true := by rcases h3 with rfl | rfl | rfl <;> rfl
    have H3 := Lib.hid h3
    have HV := Lib.hid hV2
    clear her h1 h2 hV hD h3 hV2
    go_enter Try.func51, Try.ntmps51
    go_wp2_with (go_at_call 52; refine (number_err w B p xs er H3.out HV.out hR).mono ?_; rintro e w1 ⟨rfl, hR1, hK⟩; obtain ⟨j1, jf, _⟩ := hR1.cells)
    go_ret2
    exact ⟨rfl, hR1.undo hP.out, hK.trans (chg_set w1 B 0 1 _)⟩
  · obtain ⟨r, hr⟩ : ∃ r, Vi.read (xs.drop p) = r := ⟨_, rfl⟩
    obtain ⟨x, m, er⟩ := r
    rw [hr] at h3 hx64 hm0 hml
    simp only at h3 hx64 hm0 hml
    subst h3
    have hpm : p + m ≤ xs.length := by rw [List.length_drop] at hml; have := hP.out; omega
    have HV := Lib.hid hr
    have HPM := Lib.hid hpm
    have HM0 := Lib.hid hm0
    by_cases h : most < x
    · have hD : Hid (Cu.rdNumber most p xs = (0, 21, p)) := by unfold Cu.rdNumber; rw [hr]; simp only; rw [if_neg (by simp), if_pos h]; rfl
      rw [hD.out]
      have HL : Hid ((if most < x then (21 : Int) else 0) = 21) := if_pos h
      clear hr h hpm hm0 hml hD
      go_enter Try.func51, Try.ntmps51
      go_wp2_with (first
        | (go_at_call 52; refine (number_ok w B p xs x m HM0.out HPM.out HV.out hR).mono ?_; rintro e w1 ⟨rfl, hR1, hK⟩; obtain ⟨j1, jf, _⟩ := hR1.cells)
        | (go_at_call 55; refine (right_number w1 M x most ((hM.kept hK.grownBy (by simp [hMB])).cell)).mono ?_; rw [HL.out]; rintro e w2 ⟨rfl, rfl⟩))
      go_ret2
      exact ⟨rfl, hR1.undo hP.out, hK.trans (chg_set w1 B 0 1 _)⟩
    · have hD : Hid (Cu.rdNumber most p xs = (x, 0, p + m)) := by unfold Cu.rdNumber; rw [hr]; simp only; rw [if_neg (by simp), if_neg h]; rfl
      rw [hD.out]
      have HL : Hid ((if most < x then (21 : Int) else 0) = 0) := if_neg h
      clear hr h hpm hm0 hml hD
      go_enter Try.func51, Try.ntmps51
      go_wp2_with (first
        | (go_at_call 52; refine (number_ok w B p xs x m HM0.out HPM.out HV.out hR).mono ?_; rintro e w1 ⟨rfl, hR1, hK⟩)
        | (go_at_call 55; refine (right_number w1 M x most ((hM.kept hK.grownBy (by simp [hMB])).cell)).mono ?_; rw [HL.out]; rintro e w2 ⟨rfl, rfl⟩))
      go_ret2
      exact ⟨rfl, hR1, hK⟩

set_option maxRecDepth 100000 in
set_option maxHeartbeats 1000000 in
theorem rnumber_any (w : World) (B p most : Nat) (xs : List Nat) (r : Nat × Int × Nat) (hr : Cu.rdNumber most p xs = r) (hR : Rdr w B p xs) :
    Calls Try.prog 27 #[.pointer (some ⟨B, 0, none⟩), .int .u64 most] w fun e w' => e = .returned (.tuple #[.int .u64 r.1, .int .i64 r.2.1]) ∧ Rdr w' B r.2.2 xs ∧ Chg (· = B) w w' := by
  have hb : Boxed (w.alloc (.cells #[.int .u64 most] 28)) w.heap.size 28 (.int .u64 most) := Boxed.new w _ _
  have hR1 := hR.below ((Below.refl _ w).alloc (Nat.le_refl _) (.cells #[.int .u64 (most : Int)] 28))
  have hne : w.heap.size ≠ B := by have := hR.lt; omega
  have HNE := Lib.hid hne
  have h0 := hR1.c0
  have HR := Lib.hid hr
  clear hr hne
  go_enter Try.func27, Try.ntmps27
  go_wp2_with (first
    | (go_at_call 48; refine (noneR_any _ B h0).mono ?_; rintro e w1 ⟨rfl, rfl⟩)
    | (go_at_call 51; refine (attempt_number _ B p w.heap.size most xs r HR.out hb HNE.out hR1).mono ?_; rintro e w2 ⟨rfl, hR2, hK⟩))
  go_ret2
  exact ⟨rfl, hR2, ((Chg.refl _ w).alloc _).trans hK⟩

end Go.Proofs.Ytdemlifjhlpclaa
