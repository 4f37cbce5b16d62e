/-
  The reference reader: Number.
-/
import Derived.Test.YtdemlifjhlpclaaRefNum
import Derived.Test.YtdemlifjhlpclaaNum
namespace Go.Proofs.Ytdemlifjhlpclaa
open Go.RowKit
set_option linter.unusedVariables false

set_option maxRecDepth 100000 in
set_option maxHeartbeats 2000000 in
theorem refNumber_any (w : World) (a : Option Addr) (n c p most : Nat) (xs : List Nat) (hn : xs.length = n) (hnm : n ≤ 1000000000) (hp : p ≤ n) (hnc : n ≤ c) (hcm : c ≤ maxLen) (hsn : a = none → c = 0) (hx : ∀ x ∈ xs, x < 256) (N : Nat) (hS : Seen w N .u8 a xs) (hN : N ≤ w.heap.size) (y : Nat) (er : Int) (p' : Nat) (hr : Cu.rdNumber most p xs = (y, er, p')) :
    Calls Try.prog 60 #[rv a n c p, .int .u64 most] w fun e w' => e = .returned (.tuple #[rv a n c p', .int .u64 y, .int .i64 er]) ∧ Below w.heap.size w w' := by
  obtain ⟨hsz, hB0, hb1, hb2⟩ := tkWorld_all w a n c p
  unfold maxLen at hcm
  have hl : (xs.drop p).length = n - p := by rw [List.length_drop, hn]
  have HL := Lib.hid hl
  have HX : Hid (∀ x ∈ xs.drop p, x < 256) := fun x h => hx x (List.mem_of_mem_drop h)
  have HB := Lib.hid hB0
  have hvi := vi_parts HX.out
  have k1 : (p : Int) ≤ (n : Int) := by omega
  have k2 : (n : Int) ≤ (c : Int) := by omega
  have k0 : (0 : Int) ≤ (p : Int) := by omega
  have hS2 := hS.below (hB0.mono hN)
  have HN := Lib.hid hn
  clear hB0 hsz hl
  unfold tkWorld at hb1 hb2 hS2
  obtain ⟨d0, d1, f0, f1⟩ := two_cells hb1
  unfold rv
  by_cases hA : p = n
  · have hnil : xs.drop p = [] := List.drop_eq_nil_of_le (by omega)
    have hV : Hid (Vi.read (xs.drop p) = (0, 0, 10)) := by rw [hnil]; rfl
    have hr2 : (0, (10 : Int), p) = (y, er, p') := by rw [← hr]; unfold Cu.rdNumber; rw [hnil]; rfl
    cases hr2
    have hSA : ∀ w' N a', Seen w' N .u8 a' (xs.drop p) := fun w' N a' => by rw [hnil]; exact Seen.nil _ _ _ _
    have HSA := Lib.hid hSA
    have HP := Lib.hid hA
    clear hnil hSA hr hvi hn
    have hL0 : Hid ((xs.drop p).length = n - p) := HL.out
    cases a with
    | none =>
      have hc0 := hsn rfl
      subst hc0
      obtain rfl : n = 0 := by omega
      obtain rfl : p = 0 := by omega
      have HLZ : Hid ((xs.drop 0).length = 0) := HL.out
      go_enter Try.func60, Try.ntmps60
      go_wp2_with (go_at_call 65; ((with_reducible refine (refRead_any _ _ _ _ (xs.drop 0) HLZ.out _ hV.out HX.out 0 (HSA.out _ _ _) (by omega)).mono ?_); rintro e w1 ⟨rfl, hB1⟩; have hb1' := (hB1.block w.heap.size (by simp; omega)).trans hb1; have hb2' := (hB1.block (w.heap.size + 1) (by simp)).trans hb2; obtain ⟨d0', d1', f0', f1'⟩ := two_cells hb1'; obtain ⟨e0, e1, g0, g1⟩ := two_cells hb2'))
      have hBw : Below w.heap.size w w1 := HB.out.trans (hB1.mono HB.out.size)
      exact bodyPost_ret (v := .tuple #[.agg #[.slice none 0 0, .int .i64 0], .int .u64 0, .int .i64 10]) (by simp [results, Try.results60, go_sem, e0, e1]) rfl ⟨rfl, (hBw.setCell (p := ⟨w.heap.size + 1, 0, none⟩) (by simp) _).setCell (p := ⟨w.heap.size + 1, 1, none⟩) (by simp) _⟩
    | some ad =>
      subst hA
      have HLZ : Hid ((xs.drop p).length = 0) := by rw [HL.out]; show _ = _; omega
      by_cases hcp : c = p
      · subst hcp
        go_enter Try.func60, Try.ntmps60
        go_wp2_with (go_at_call 65; ((with_reducible refine (refRead_any _ _ _ _ (xs.drop c) HLZ.out _ hV.out HX.out 0 (HSA.out _ _ _) (by omega)).mono ?_); rintro e w1 ⟨rfl, hB1⟩; have hb1' := (hB1.block w.heap.size (by simp; omega)).trans hb1; have hb2' := (hB1.block (w.heap.size + 1) (by simp)).trans hb2; obtain ⟨d0', d1', f0', f1'⟩ := two_cells hb1'; obtain ⟨e0, e1, g0, g1⟩ := two_cells hb2'))
        have hBw : Below w.heap.size w w1 := HB.out.trans (hB1.mono HB.out.size)
        exact bodyPost_ret (v := .tuple #[.agg #[.slice (some ad) c c, .int .i64 c], .int .u64 0, .int .i64 10]) (by simp [results, Try.results60, go_sem, e0, e1]) rfl ⟨rfl, (hBw.setCell (p := ⟨w.heap.size + 1, 0, none⟩) (by simp) _).setCell (p := ⟨w.heap.size + 1, 1, none⟩) (by simp) _⟩
      · have hpc : (p : Int) < (c : Int) := by omega
        go_enter Try.func60, Try.ntmps60
        go_wp2_with (go_at_call 65; ((with_reducible refine (refRead_any _ _ _ _ (xs.drop p) HLZ.out _ hV.out HX.out 0 (HSA.out _ _ _) (by omega)).mono ?_); rintro e w1 ⟨rfl, hB1⟩; have hb1' := (hB1.block w.heap.size (by simp; omega)).trans hb1; have hb2' := (hB1.block (w.heap.size + 1) (by simp)).trans hb2; obtain ⟨d0', d1', f0', f1'⟩ := two_cells hb1'; obtain ⟨e0, e1, g0, g1⟩ := two_cells hb2'))
        have hBw : Below w.heap.size w w1 := HB.out.trans (hB1.mono HB.out.size)
        exact bodyPost_ret (v := .tuple #[.agg #[.slice (some ad) p c, .int .i64 p], .int .u64 0, .int .i64 10]) (by simp [results, Try.results60, go_sem, e0, e1]) rfl ⟨rfl, (hBw.setCell (p := ⟨w.heap.size + 1, 0, none⟩) (by simp) _).setCell (p := ⟨w.heap.size + 1, 1, none⟩) (by simp) _⟩
  · have hpx : p < xs.length := by omega
    obtain ⟨b, off, rfl, _, _⟩ := hS.at (i := p) hpx
    have hpc : (p : Int) < (c : Int) := by omega
    have hpn : (p : Int) < (n : Int) := by omega
    have hcp : ¬ c = p := by omega
    have hSd := seen_drop hS2 p
    rcases hvi with ⟨h1, h2, h3⟩ | ⟨h3, hx64, hm0, hml⟩
    · have hV2 : Vi.read (xs.drop p) = (0, 0, (Vi.read (xs.drop p)).2.2) := Prod.ext h1 (Prod.ext h2 rfl)
      have hr2 : (0, (Vi.read (xs.drop p)).2.2, p) = (y, er, p') := by rw [← hr]; unfold Cu.rdNumber; rw [if_pos (by rcases h3 with h | h | h <;> rw [h] <;> decide)]
      obtain ⟨e0, he0⟩ : ∃ e0, (Vi.read (xs.drop p)).2.2 = e0 := ⟨_, rfl⟩
      rw [he0] at hr2 hV2 h3
      obtain ⟨rfl, rfl, rfl⟩ : y = 0 ∧ er = e0 ∧ p = p' := by cases hr2; exact ⟨rfl, rfl, rfl⟩
      clear hr2
      have e1 : (er != 0) = true := by rcases h3 with rfl | rfl | rfl <;> rfl
      have hV := Lib.hid hV2
      clear hr h1 h2 h3 hV2 he0
      go_enter Try.func60, Try.ntmps60
      go_wp2_with (go_at_call 65; ((with_reducible refine (refRead_any _ _ _ _ (xs.drop p) HL.out _ hV.out HX.out N hSd (by omega)).mono ?_); rintro e w1 ⟨rfl, hB1⟩; have hb1' := (hB1.block w.heap.size (by simp; omega)).trans hb1; have hb2' := (hB1.block (w.heap.size + 1) (by simp)).trans hb2; obtain ⟨d0', d1', f0', f1'⟩ := two_cells hb1'; obtain ⟨e0, e1, g0, g1⟩ := two_cells hb2'))
      have hBw : Below w.heap.size w w1 := HB.out.trans (hB1.mono HB.out.size)
      exact bodyPost_ret (v := .tuple #[.agg #[.slice (some ⟨b, off, none⟩) n c, .int .i64 p], .int .u64 0, .int .i64 er]) (by simp [results, Try.results60, go_sem, e0, e1]) rfl ⟨rfl, (hBw.setCell (p := ⟨w.heap.size + 1, 0, none⟩) (by simp) _).setCell (p := ⟨w.heap.size + 1, 1, none⟩) (by simp) _⟩
    · obtain ⟨r, hrr⟩ : ∃ r, Vi.read (xs.drop p) = r := ⟨_, rfl⟩
      obtain ⟨x, m, e0⟩ := r
      rw [hrr] at h3 hx64 hm0 hml
      simp only at h3 hx64 hm0 hml
      subst h3
      have hV := Lib.hid hrr
      by_cases hmo : most < x
      · have hr2 : (0, (21 : Int), p) = (y, er, p') := by rw [← hr]; unfold Cu.rdNumber; rw [hrr]; simp only; rw [if_neg (by simp), if_pos hmo]
        obtain ⟨rfl, rfl, rfl⟩ : y = 0 ∧ er = 21 ∧ p = p' := by cases hr2; exact ⟨rfl, rfl, rfl⟩
        clear hr2
        have hmoI : (most : Int) < (x : Int) := by omega
        clear hr hrr hmo
        go_enter Try.func60, Try.ntmps60
        go_wp2_with (go_at_call 65; ((with_reducible refine (refRead_any _ _ _ _ (xs.drop p) HL.out _ hV.out HX.out N hSd (by omega)).mono ?_); rintro e w1 ⟨rfl, hB1⟩; have hb1' := (hB1.block w.heap.size (by simp; omega)).trans hb1; have hb2' := (hB1.block (w.heap.size + 1) (by simp)).trans hb2; obtain ⟨d0', d1', f0', f1'⟩ := two_cells hb1'; obtain ⟨e0, e1, g0, g1⟩ := two_cells hb2'))
        have hBw : Below w.heap.size w w1 := HB.out.trans (hB1.mono HB.out.size)
        exact bodyPost_ret (v := .tuple #[.agg #[.slice (some ⟨b, off, none⟩) n c, .int .i64 p], .int .u64 0, .int .i64 21]) (by simp [results, Try.results60, go_sem, e0, e1]) rfl ⟨rfl, (hBw.setCell (p := ⟨w.heap.size + 1, 0, none⟩) (by simp) _).setCell (p := ⟨w.heap.size + 1, 1, none⟩) (by simp) _⟩
      · have hr2 : (x, (0 : Int), p + m) = (y, er, p') := by rw [← hr]; unfold Cu.rdNumber; rw [hrr]; simp only; rw [if_neg (by simp), if_neg hmo]
        obtain ⟨rfl, rfl, rfl⟩ : y = x ∧ er = 0 ∧ p + m = p' := by cases hr2; exact ⟨rfl, rfl, rfl⟩
        clear hr2
        have hmoI : (y : Int) ≤ (most : Int) := by omega
        have hm9 : (m : Int) ≤ (n : Int) := by rw [HL.out] at hml; omega
        clear hr hrr hmo
        go_enter Try.func60, Try.ntmps60
        go_wp2_with (go_at_call 65; ((with_reducible refine (refRead_any _ _ _ _ (xs.drop p) HL.out _ hV.out HX.out N hSd (by omega)).mono ?_); rintro e w1 ⟨rfl, hB1⟩; have hb1' := (hB1.block w.heap.size (by simp; omega)).trans hb1; have hb2' := (hB1.block (w.heap.size + 1) (by simp)).trans hb2; obtain ⟨d0', d1', f0', f1'⟩ := two_cells hb1'; obtain ⟨e0, e1, g0, g1⟩ := two_cells hb2'))
        have hBw : Below w.heap.size w w1 := HB.out.trans (hB1.mono HB.out.size)
        exact bodyPost_ret (v := .tuple #[.agg #[.slice (some ⟨b, off, none⟩) n c, .int .i64 ((p + m : Nat) : Int)], .int .u64 y, .int .i64 0]) (by simp [results, Try.results60, go_sem, e0, e1]) rfl ⟨rfl, (hBw.setCell (p := ⟨w.heap.size + 1, 0, none⟩) (by simp) _).setCell (p := ⟨w.heap.size + 1, 1, none⟩) (by simp) _⟩

end Go.Proofs.Ytdemlifjhlpclaa
