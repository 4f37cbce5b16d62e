/-
  RingWrong's walk.
-/
import Derived.Test.YtljodpdplmhdnaaStand
namespace Go.Proofs.Ytljodpdplmhdnaa
open Go.RowKit
set_option linter.unusedVariables false
set_option maxRecDepth 100000 in
set_option maxHeartbeats 4000000 in
theorem wrong_any (c q : Nat) (n : Int) (hc : c < 256) (hq : q < 256) (w : World) : Calls Try.prog 10 #[.int .u8 c, .int .i64 n, .int .u8 q] w fun e w' => e = .returned (.bool true) ∧ Below w.heap.size w w' := by
  obtain ⟨m0, hm0⟩ : ∃ m0, (if (0 : Int) < n then (0 : Int) else n) = m0 := ⟨_, rfl⟩
  obtain ⟨m1, hm1⟩ : ∃ m1, (if n < (65537 : Int) then (65537 : Int) else n) = m1 := ⟨_, rfl⟩
  obtain ⟨m2, hm2⟩ : ∃ m2, (if (-1 : Int) < n then (-1 : Int) else n) = m2 := ⟨_, rfl⟩
  have HM0 : Hid (m0 < 1 ∨ 65536 < m0) := by show _ ∨ _; rw [← hm0]; split <;> omega
  have HM1 : Hid (m1 < 1 ∨ 65536 < m1) := by show _ ∨ _; rw [← hm1]; split <;> omega
  have HM2 : Hid (m2 < 0) := by show _ < _; rw [← hm2]; split <;> omega
  obtain ⟨cap, hcap⟩ : ∃ cap, 1 + c % 20 = cap := ⟨_, rfl⟩
  have HCAP := Lib.hid hcap
  have HC := Lib.hid hc
  obtain ⟨r, hr⟩ : ∃ r, q % 50 = r := ⟨_, rfl⟩
  have hr2 : (q : Int) % 50 = (r : Int) := by omega
  have hwq2 : IntKind.i64.wrap (q : Int) = (q : Int) := by rw [IntKind.wrap_i64]; omega
  have HR50 : Hid (r ≤ 50) := by show _ ≤ _; omega
  clear hc hq hcap hr
  go_enter Try.func10, Try.ntmps10
  go_wp2_with (go_at_call 12; (with_reducible refine (awake_any w).mono ?_); rintro e w1 ⟨rfl, h1⟩; have HB1 := Lib.hid h1; clear h1)
  have hblk : (w1.alloc (.cells #[.int .i64 m0, .int .i64 m1] 3)).heap[w1.heap.size]? = some (.cells #[.int .i64 m0, .int .i64 m1] 3 (0, 0)) := heap_alloc_new w1 _
  have HBL := Lib.hid hblk
  have HBW : Hid (Below w.heap.size w (w1.alloc (.cells #[.int .i64 m0, .int .i64 m1] 3))) := HB1.out.alloc HB1.out.size _
  have hs1 : w1.heap.size < (w1.alloc (.cells #[.int .i64 m0, .int .i64 m1] 3)).heap.size := by simp
  have HS1 := Lib.hid hs1
  clear hblk hs1
  generalize (w1.alloc (.cells #[.int .i64 m0, .int .i64 m1] 3)) = w2 at HBL HBW HS1 ⊢
  go_loopw [27] (fun i wr => ∃ k : Nat, k ≤ 2 ∧ i = .int .i64 k ∧ Hid (Below w2.heap.size w2 wr)) (fun i _ => 2 - (intOf i).toNat)
  case atStart => exact ⟨0, by omega, rfl, Below.refl _ _⟩
  case round =>
    obtain ⟨k, hk, rfl, HB⟩ := hrel
    have hbl : wr.heap[w1.heap.size]? = some (.cells #[.int .i64 m0, .int .i64 m1] 3 (0, 0)) := (HB.out.block w1.heap.size HS1.out).trans HBL.out
    have x0 : wr.cell? ⟨w1.heap.size, 0, none⟩ = some (.int .i64 m0) := by unfold World.cell?; rw [hbl]; rfl
    have x1 : wr.cell? ⟨w1.heap.size, 1, none⟩ = some (.int .i64 m1) := by unfold World.cell?; rw [hbl]; rfl
    clear hbl
    by_cases h2 : k = 2
    · subst h2
      have HB3 : Hid (Below w.heap.size w wr) := HBW.out.trans (HB.out.mono HBW.out.size)
      have HC2 : Hid (c < 256) := HC
      clear x0 x1 hk
      go_wp2_with (go_at_call 14; (with_reducible refine (made_any c cap HC2.out HCAP.out wr).mono ?_); rintro e w4 ⟨rfl, h1, h2⟩; obtain ⟨S4, h3⟩ := Stand.made w cap HB3.out h1 h2; have HT4 := Lib.hid h3; clear h1 h2 h3)
      obtain ⟨B, hB⟩ : ∃ B, wr.heap.size = B := ⟨_, rfl⟩
      rw [hB] at HT4
      simp only [hB]
      clear hB
      go_loopw [54] (fun i wq => ∃ k : Nat, k ≤ r ∧ i = .int .i64 k ∧ ∃ S l op ac rf, Hid (Stand w wq B S cap l op ac rf) ∧ Hid (ac + rf = k)) (fun i _ => r - (intOf i).toNat)
      case atStart => exact ⟨0, Nat.zero_le _, rfl, S4, [], 0, 0, 0, HT4, rfl⟩
      case round =>
        obtain ⟨k, hk, rfl, S, l, op, ac, rf, HT, HK⟩ := hrel
        by_cases hkr : k < r
        · have HS6 : Hid (ac + rf ≤ 1000000) := by show _ ≤ _; have := HK.out; have := HR50.out; omega
          have hw1 : IntKind.i64.wrap ((k : Int) + 1) = (k : Int) + 1 := by rw [IntKind.wrap_i64]; have := HR50.out; omega
          go_wp2_with (go_at_call 16; (with_reducible refine (HT.out.put HS6.out (k : Int)).mono ?_); rintro e w5 ⟨b, S', l', op', ac', rf', rfl, h1, h2, h3⟩; have HT5 := Lib.hid h1; have HP5 := Lib.hid h2; clear h1 h2 h3)
          have HK5 : Hid (ac' + rf' = k + 1) := by
            show _ = _
            have := HK.out
            rcases HP5.out with ⟨_, _, _, _, h1, h2⟩ | ⟨_, _, _, _, h1, h2⟩ <;> omega
          refine ⟨?_, by simp [intOf]; omega⟩
          repeat apply Exists.intro
          refine ⟨⟨k + 1, hkr, rfl, S', l', op', ac', rf', HT5, HK5⟩, ?_⟩
          simp
          repeat' (first | exact rfl | omega | apply And.intro)
        · obtain rfl : r = k := by omega
          clear hkr hk
          obtain ⟨len, hlen⟩ : ∃ len, l.length = len := ⟨_, rfl⟩
          have HL := Lib.hid hlen
          clear hlen
          have hm2i : decide (m2 < 0) = true := by have := HM2.out; simp; omega
          go_wp2_with (first
            | (go_at_call 23; (with_reducible refine (RI.len_any wr B S cap l op ac rf HT.out.rng len HL.out).mono ?_); rintro e wx ⟨rfl, hw⟩; obtain rfl : wr = wx := hw.symm)
            | (go_at_call 22; (with_reducible refine (RI.open_any wr B S cap l op ac rf HT.out.rng op rfl).mono ?_); rintro e wx ⟨rfl, hw⟩; obtain rfl : wr = wx := hw.symm)
            | (go_at_call 17; (with_reducible refine (RI.take_bad wr B S cap l op ac rf HT.out.rng m2 HM2.out).mono ?_); rintro e w7 ⟨rfl, h1⟩; have HT7 := Lib.hid (HT.out.below h1); clear h1)
            | (go_at_call 23; (with_reducible refine (RI.len_any w7 B S cap l op ac rf HT7.out.rng len HL.out).mono ?_); rintro e wx ⟨rfl, hw⟩; obtain rfl : w7 = wx := hw.symm)
            | (go_at_call 22; (with_reducible refine (RI.open_any w7 B S cap l op ac rf HT7.out.rng op rfl).mono ?_); rintro e wx ⟨rfl, hw⟩; obtain rfl : w7 = wx := hw.symm))
          go_ret
          exact ⟨rfl, HT7.out.bel⟩
    · have h01 : k = 0 ∨ k = 1 := by omega
      clear h2 hk
      rcases h01 with rfl | rfl
      · go_wp2_with (go_at_call 28; (with_reducible refine (RI.new_bad wr m0 HM0.out).mono ?_); rintro e w4 ⟨rfl, h1⟩; have HB4 := Lib.hid (HB.out.trans (h1.mono HB.out.size)); clear h1)
        exact ⟨⟨1, by omega, rfl, HB4⟩, by simp [intOf]⟩
      · go_wp2_with (go_at_call 28; (with_reducible refine (RI.new_bad wr m1 HM1.out).mono ?_); rintro e w4 ⟨rfl, h1⟩; have HB4 := Lib.hid (HB.out.trans (h1.mono HB.out.size)); clear h1)
        exact ⟨⟨2, by omega, rfl, HB4⟩, by simp [intOf]⟩
theorem wrong8_walk (a0 a1 a2 : Int) (w0 : (Lit.int .u8 a0).wf = true) (w1 : (Lit.int .i64 a1).wf = true) (w2 : (Lit.int .u8 a2).wf = true) (w : World) : Calls Try.prog 10 #[.int .u8 a0, .int .i64 a1, .int .u8 a2] w fun e w' => e = .returned (.bool true) ∧ Below w.heap.size w w' := by
  have h0 := bounds_u8 w0
  have h2 := bounds_u8 w2
  obtain ⟨c, rfl⟩ := Int.eq_ofNat_of_zero_le h0.1
  obtain ⟨q, rfl⟩ := Int.eq_ofNat_of_zero_le h2.1
  exact wrong_any c q a1 (by omega) (by omega) w
end Go.Proofs.Ytljodpdplmhdnaa
