/-
  New, Take, Drain, All, and what a ring tells of itself.
-/
import Derived.Test.YtljodpdplmhdnaaPutS
namespace Go.Proofs.Ytljodpdplmhdnaa
namespace RS
open Go.RowKit
set_option linter.unusedVariables false

set_option maxRecDepth 100000 in
theorem new_ok (w : World) (cap : Nat) (h0 : 0 < cap) (h1 : cap ≤ 65536) : Calls Try.prog 32 #[.int .i64 cap] w fun e w' => e = .returned (.tuple #[.pointer (some ⟨w.heap.size, 0, none⟩), .int .i64 0]) ∧ Rng w' w.heap.size (RS w.heap.size none) cap [] 0 0 0 ∧ Below w.heap.size w w' := by
  have g1 : ¬ (cap : Int) < 1 := by omega
  have g2 : ¬ 65536 < (cap : Int) := by omega
  have g3 : decide ((cap : Int) < 1) = false := by simp; omega
  have g4 : decide (65536 < (cap : Int)) = false := by simp; omega
  go_enter Try.func32, Try.ntmps32
  go_wp2
  go_ret2
  refine ⟨rfl, ⟨none, 0, fun _ => (⟨#[]⟩, 0), 0, ⟨heap_alloc_new w _, .inl ⟨rfl, rfl⟩, h0, h1, Nat.zero_le _, Nat.le_refl _, Nat.le_refl _, Nat.le_refl _⟩, rfl, rfl⟩, (Below.refl _ w).alloc (Nat.le_refl _) _⟩
set_option maxRecDepth 100000 in
theorem new_bad (w : World) (n : Int) (h : n < 1 ∨ 65536 < n) : Calls Try.prog 32 #[.int .i64 n] w fun e w' => e = .returned (.tuple #[.pointer none, .int .i64 2]) ∧ Below w.heap.size w w' := by
  by_cases h1 : n < 1
  · have g1 : decide (n < 1) = true := by simp; omega
    clear h
    go_enter Try.func32, Try.ntmps32
    go_wp2
    go_ret2
    exact ⟨rfl, Below.refl _ _⟩
  · have g1 : decide (n < 1) = false := by simp; omega
    have h2 : 65536 < n := by omega
    have g2 : decide (65536 < n) = true := by simp; omega
    clear h
    go_enter Try.func32, Try.ntmps32
    go_wp2
    go_ret2
    exact ⟨rfl, Below.refl _ _⟩

section
variable (w : World) (B : Nat) (S : Nat → Prop) (cap : Nat) (l : List RV) (op ac rf : Nat) (h : Rng w B S cap l op ac rf)
include h
set_option maxRecDepth 100000 in
theorem take_ok (k : Nat) (m : Nat) (hm : min k l.length = m) : Calls Try.prog 35 #[.pointer (some ⟨B, 0, none⟩), .int .i64 k] w fun e w' => ∃ v, e = .returned (.tuple #[v, .int .i64 0]) ∧ w'.ownsRow w.heap.size 77 2 v m (flatR (l.take m)) ∧ Rng w' B S cap (l.drop m) op ac rf ∧ Chg S w w' := by
  obtain ⟨a, L, ps, f, hA, hs, rfl⟩ := h
  obtain ⟨n, hn⟩ : ∃ n, l.length = n := ⟨_, rfl⟩
  rw [hn] at hA hs hm
  have HA : Hid (At w B a L ps cap f n op ac rf) := hA
  have HMN : Hid (m ≤ n) := by show _ ≤ _; omega
  have hmi : (if (n : Int) < (k : Int) then (n : Int) else (k : Int)) = (m : Int) := by split <;> omega
  have hmi2 : (if n < k then (n : Int) else (k : Int)) = (m : Int) := by split <;> omega
  have g0 : ¬ (k : Int) < 0 := by omega
  have g1 : decide ((k : Int) < 0) = false := by simp
  obtain ⟨c0, c1, c2, c3, c4, c5, c6⟩ := hA.box.cells
  have HC0 : Hid (0 < cap) := hA.cap0
  have HS := Lib.hid hs
  have HN := Lib.hid hn
  clear hA hs hn hm
  go_enter Try.func35, Try.ntmps35
  go_wp2_with (first
    | (go_at_call 56; (with_reducible refine (none_any w B cap HC0.out c0).mono ?_); rintro e w1 ⟨rfl, hw⟩; obtain rfl : w = w1 := hw.symm)
    | (go_at_call 59; (with_reducible refine (remove_any w B a L ps cap f n op ac rf HA.out m HMN.out).mono ?_); rintro e w2 ⟨v, rfl, h1, ⟨ps', f', h2, h3⟩, h4⟩; have H1 := Lib.hid h1; have H2 := Lib.hid h2; have H3 := Lib.hid h3; have H4 := Lib.hid h4; clear h1 h2 h3 h4))
  go_ret2
  have e1 : (l.drop m).length = n - m := by rw [List.length_drop, HN.out]
  refine ⟨v, rfl, ?_, ⟨a, L, ps', f', by rw [e1]; exact H2.out, by rw [e1, H3.out, HS.out], rfl⟩, H4.out⟩
  have t := H1.out
  rw [Rg.sl_take ps HMN.out, HS.out] at t
  exact t
set_option maxRecDepth 100000 in
theorem take_bad (k : Int) (hk : k < 0) : Calls Try.prog 35 #[.pointer (some ⟨B, 0, none⟩), .int .i64 k] w fun e w' => e = .returned (.tuple #[.slice none 0 0, .int .i64 2]) ∧ Below w.heap.size w w' := by
  obtain ⟨a, L, ps, f, hA, hs, rfl⟩ := h
  have g1 : decide (k < 0) = true := by simp; omega
  obtain ⟨c0, c1, c2, c3, c4, c5, c6⟩ := hA.box.cells
  have HC0 : Hid (0 < cap) := hA.cap0
  clear hA hs
  go_enter Try.func35, Try.ntmps35
  go_wp2_with (go_at_call 56; (with_reducible refine (none_any w B cap HC0.out c0).mono ?_); rintro e w1 ⟨rfl, hw⟩; obtain rfl : w = w1 := hw.symm)
  go_ret2
  exact ⟨rfl, Below.refl _ _⟩
set_option maxRecDepth 100000 in
theorem drain_ok (m : Nat) (hm : l.length = m) : Calls Try.prog 36 #[.pointer (some ⟨B, 0, none⟩)] w fun e w' => ∃ v, e = .returned (.tuple #[v, .int .i64 op, .int .i64 0]) ∧ w'.ownsRow w.heap.size 77 2 v m (flatR l) ∧ Rng w' B S cap [] 0 ac rf ∧ Chg S w w' := by
  obtain ⟨a, L, ps, f, hA, hs, rfl⟩ := h
  rw [hm] at hA hs
  obtain ⟨c0, c1, c2, c3, c4, c5, c6⟩ := hA.box.cells
  have f4 := hA.box.free 4
  have HC0 : Hid (0 < cap) := hA.cap0
  have HA : Hid (At (w.setCell ⟨B, 4, none⟩ (.int .i64 0)) B a L ps cap f m 0 ac rf) := hA.turn (hA.box.set4 0) (fun Q hQ => set_other hQ) hA.hf hA.hn (Nat.zero_le _)
  have HCH : Hid (Chg (RS B a) w (w.setCell ⟨B, 4, none⟩ (.int .i64 0))) := (Chg.refl _ w).setCell (p := ⟨B, 4, none⟩) (.inl rfl) _
  have HS := Lib.hid hs
  clear hA hs hm
  go_enter Try.func36, Try.ntmps36
  go_wp2_with (first
    | (go_at_call 56; (with_reducible refine (none_any w B cap HC0.out c0).mono ?_); rintro e w1 ⟨rfl, hw⟩; obtain rfl : w = w1 := hw.symm)
    | (go_at_call 59; (with_reducible refine (remove_any (w.setCell ⟨B, 4, none⟩ (.int .i64 0)) B a L ps cap f m 0 ac rf HA.out m (Nat.le_refl _)).mono ?_); rintro e w2 ⟨v, rfl, h1, ⟨ps', f', h2, h3⟩, h4⟩; have H1 := Lib.hid h1; have H2 := Lib.hid h2; have H4 := Lib.hid h4; clear h1 h2 h3 h4))
  refine bodyPost_ret (v := .tuple #[v, .int .i64 op, .int .i64 0]) (by simp [results, Try.results36, go_sem]) rfl ?_
  have t := H1.out
  rw [HS.out] at t
  have t2 := H2.out
  rw [Nat.sub_self] at t2
  exact ⟨v, rfl, rebase t (by simp [World.setCell]), ⟨a, L, ps', f', t2, rfl, rfl⟩, HCH.out.trans H4.out⟩
set_option maxRecDepth 100000 in
theorem open_any (x : Nat) (hx : op = x) : Calls Try.prog 34 #[.pointer (some ⟨B, 0, none⟩)] w fun e w' => e = .returned (.int .i64 x) ∧ w' = w := by
  obtain ⟨a, L, ps, f, hA, hs, rfl⟩ := h
  rw [hx] at hA
  obtain ⟨c0, c1, c2, c3, c4, c5, c6⟩ := hA.box.cells
  have HC0 : Hid (0 < cap) := hA.cap0
  clear hA hs hx
  go_enter Try.func34, Try.ntmps34
  go_wp2_with (go_at_call 56; (with_reducible refine (none_any w B _ HC0.out c0).mono ?_); rintro e w1 ⟨rfl, hw⟩; obtain rfl : w = w1 := hw.symm)
  go_ret
  exact ⟨rfl, rfl⟩
set_option maxRecDepth 100000 in
theorem accepted_any (x : Nat) (hx : ac = x) : Calls Try.prog 37 #[.pointer (some ⟨B, 0, none⟩)] w fun e w' => e = .returned (.int .i64 x) ∧ w' = w := by
  obtain ⟨a, L, ps, f, hA, hs, rfl⟩ := h
  rw [hx] at hA
  obtain ⟨c0, c1, c2, c3, c4, c5, c6⟩ := hA.box.cells
  have HC0 : Hid (0 < cap) := hA.cap0
  clear hA hs hx
  go_enter Try.func37, Try.ntmps37
  go_wp2_with (go_at_call 56; (with_reducible refine (none_any w B _ HC0.out c0).mono ?_); rintro e w1 ⟨rfl, hw⟩; obtain rfl : w = w1 := hw.symm)
  go_ret
  exact ⟨rfl, rfl⟩
set_option maxRecDepth 100000 in
theorem refused_any (x : Nat) (hx : rf = x) : Calls Try.prog 38 #[.pointer (some ⟨B, 0, none⟩)] w fun e w' => e = .returned (.int .i64 x) ∧ w' = w := by
  obtain ⟨a, L, ps, f, hA, hs, rfl⟩ := h
  rw [hx] at hA
  obtain ⟨c0, c1, c2, c3, c4, c5, c6⟩ := hA.box.cells
  have HC0 : Hid (0 < cap) := hA.cap0
  clear hA hs hx
  go_enter Try.func38, Try.ntmps38
  go_wp2_with (go_at_call 56; (with_reducible refine (none_any w B _ HC0.out c0).mono ?_); rintro e w1 ⟨rfl, hw⟩; obtain rfl : w = w1 := hw.symm)
  go_ret
  exact ⟨rfl, rfl⟩
end
end RS
end Go.Proofs.Ytljodpdplmhdnaa
