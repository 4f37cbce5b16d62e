/-
  The reference's Seal.
-/
import Derived.Test.YtoecddkglenigaaDoorRUpd
namespace Go.Proofs.YtoecddkglenigaaDoor
open Go.RowKit
set_option linter.unusedVariables false

set_option maxRecDepth 100000 in
set_option maxHeartbeats 2000000 in
theorem rseal_any (a : Option Addr) (n c : Nat) (bs : List Nat) (hbs : ∀ y ∈ bs, y < 256) (hn : bs.length = n) (hn5 : n ≤ 300) (B : Nat) (w : World) (hS : Seen w B .u8 a bs) (hBw : B ≤ w.heap.size) :
    Calls Tryd.prog 19 #[.slice a n c] w fun e w' => ∃ v, e = .returned v ∧ w'.ownsRow w.heap.size 5 1 v (n + 4) ((bs ++ Crc.le4 (Crc.upd 0 bs)).map fun x : Nat => Value.int .u8 x) ∧ Below w.heap.size w w' := by
  obtain ⟨i0, hi, hz0, hz1, hz2⟩ := info_parts infoB
  obtain ⟨s, hs⟩ : ∃ s, Crc.upd 0 bs = s := ⟨_, rfl⟩
  have hsl : s < 2 ^ 32 := by rw [← hs]; exact Crc.upd_lt hbs (by decide)
  rw [hs]
  obtain ⟨d1, hd1⟩ : ∃ d, s / 256 = d := ⟨_, rfl⟩
  obtain ⟨d2, hd2⟩ : ∃ d, s / 65536 = d := ⟨_, rfl⟩
  obtain ⟨b3, hb3⟩ : ∃ d, s / 16777216 = d := ⟨_, rfl⟩
  obtain ⟨b0, hb0⟩ : ∃ d, s % 256 = d := ⟨_, rfl⟩
  obtain ⟨b1, hb1⟩ : ∃ d, d1 % 256 = d := ⟨_, rfl⟩
  obtain ⟨b2, hb2⟩ : ∃ d, d2 % 256 = d := ⟨_, rfl⟩
  have HLE : Hid (Crc.le4 s = [b0, b1, b2, b3]) := by
    show _ = _
    unfold Crc.le4
    rw [hd1, hd2, hb0, hb1, hb2, hb3]
  have f1 : (s : Int) / 256 = (d1 : Int) := by omega
  have f2 : (s : Int).tdiv 256 = (d1 : Int) := by rw [Int.tdiv_eq_ediv_of_nonneg (by omega)]; exact f1
  have f3 : (s : Int) / 65536 = (d2 : Int) := by omega
  have f4 : (s : Int).tdiv 65536 = (d2 : Int) := by rw [Int.tdiv_eq_ediv_of_nonneg (by omega)]; exact f3
  have f5 : (s : Int) / 16777216 = (b3 : Int) := by omega
  have f6 : (s : Int).tdiv 16777216 = (b3 : Int) := by rw [Int.tdiv_eq_ediv_of_nonneg (by omega)]; exact f5
  have f7 : (d1 : Int) % 4294967296 = (d1 : Int) := by omega
  have f8 : (d2 : Int) % 4294967296 = (d2 : Int) := by omega
  have f9 : (b3 : Int) % 4294967296 = (b3 : Int) := by omega
  have g1 : (s : Int) % 256 = (b0 : Int) := by omega
  have g2 : (s : Int).tmod 256 = (b0 : Int) := by rw [Int.tmod_eq_emod_of_nonneg (by omega)]; exact g1
  have g3 : (d1 : Int) % 256 = (b1 : Int) := by omega
  have g4 : (d1 : Int).tmod 256 = (b1 : Int) := by rw [Int.tmod_eq_emod_of_nonneg (by omega)]; exact g3
  have g5 : (d2 : Int) % 256 = (b2 : Int) := by omega
  have g6 : (d2 : Int).tmod 256 = (b2 : Int) := by rw [Int.tmod_eq_emod_of_nonneg (by omega)]; exact g5
  have k0 : (b0 : Int) % 256 = (b0 : Int) := by omega
  have k1 : (b1 : Int) % 256 = (b1 : Int) := by omega
  have k2 : (b2 : Int) % 256 = (b2 : Int) := by omega
  have k3 : (b3 : Int) % 256 = (b3 : Int) := by omega
  have k4 : (b0 : Int) < 256 := by omega
  have k5 : (b1 : Int) < 256 := by omega
  have k6 : (b2 : Int) < 256 := by omega
  have k7 : (b3 : Int) < 256 := by omega
  have HSM := Lib.hid hs
  have HN := Lib.hid hn
  have HN5 := Lib.hid hn5
  have HBS : Hid (∀ y ∈ bs, y < 256) := hbs
  have HS : Hid (Seen w B .u8 a bs) := hS
  have HB := Lib.hid hBw
  clear hs hsl hn hbs hS hBw hd1 hd2 hb3 hb0 hb1 hb2
  have key : ∀ (w1 W2 : World) (v2 : Value), Below w.heap.size w w1 → W2.ownsRow w1.heap.size 5 1 v2 n (bs.map fun x : Nat => Value.int .u8 x) → Below w1.heap.size w1 W2 → ∀ (w4 : World) (v4 : Value), w4.ownsRow w1.heap.size 5 1 v4 (n + 4) ((bs.map fun x : Nat => Value.int .u8 x) ++ [.int .u8 b0, .int .u8 b1, .int .u8 b2, .int .u8 b3]) → Below w1.heap.size w1 w4 →
      w4.ownsRow w.heap.size 5 1 v4 (n + 4) ((bs ++ Crc.le4 s).map fun x : Nat => Value.int .u8 x) ∧ Below w.heap.size w w4 := by
    intro w1 W2 v2 h1 _ _ w4 v4 h2 h3
    refine ⟨?_, h1.trans (h3.mono h1.size)⟩
    rw [HLE.out, List.map_append]
    exact rebase h2 h1.size
  by_cases hn0 : n = 0
  · have hb0 : Hid (bs = []) := List.eq_nil_of_length_eq_zero (HN.out.trans hn0)
    have H0 := Lib.hid hn0
    clear hn0
    go_enter Tryd.func19, Tryd.ntmps19
    go_wp2_with (first
      | (go_at_call 37; ((with_reducible refine (rsum4_any a n c bs HN.out HN5.out HBS.out B _ HS.out HB.out s HSM.out).mono ?_); rintro e w1 ⟨rfl, hb1⟩; have HB1 := Lib.hid hb1; have HO := Lib.hid (own_empty w1); have HA1 : Hid (Below w1.heap.size w1 (w1.alloc (.cells #[] 5))) := (Below.refl _ w1).alloc (Nat.le_refl _) _; clear hb1))
      | (at_builtin; refine wpList_append_nothing _ rfl _ _ 22 rfl 5 i0 Tryd.underlying22 hi _ _ _ rfl (Nat.le_refl _) _ _ _ H0.out rfl ?_)
      | (at_builtin; refine wpList_append_own _ rfl _ _ 22 rfl w1.heap.size 5 i0 (.int .u8 0) 1 1 Tryd.underlying22 hi hz0 hz1 hz2 rfl (by decide) _ _ _ rfl (HO.out.alloc _) ⟨w1.heap.size + 1, 0, none⟩ 4 4 [.int .u8 b0, .int .u8 b1, .int .u8 b2, .int .u8 b3] rfl rfl (seen_cells (seen_new (w1.alloc (.cells #[] 5)) [b0, b1, b2, b3] _ _ _ rfl (w1.heap.size + 1) (by simp))) (by intro u hu; simp at hu; rcases hu with rfl | rfl | rfl | rfl <;> rfl) (by unfold maxLen; omega) (by omega) (by simp; omega) ?_; intro v4 w4 hown4 hgrow4 _))
    go_ret
    have hA2 := (HA1.out.alloc HA1.out.size (.cells #[.int .u8 b0, .int .u8 b1, .int .u8 b2, .int .u8 b3] 5)).grown hgrow4 (by simp; omega) (fun k e => (HO.out.lt k e).1)
    have e0 : n + 4 = 0 + 4 := by have := H0.out; omega
    refine ⟨_, rfl, key w1 _ _ HB1.out (by rw [H0.out, hb0.out]; exact HO.out) HA1.out _ _ ?_ hA2⟩
    rw [e0, hb0.out]; exact hown4
  · obtain ⟨b, off, rfl, _, _⟩ := HS.out.at (i := 0) (by have := HN.out; omega)
    go_enter Tryd.func19, Tryd.ntmps19
    go_wp2_with (first
      | (go_at_call 37; ((with_reducible refine (rsum4_any _ n c bs HN.out HN5.out HBS.out B _ HS.out HB.out s HSM.out).mono ?_); rintro e w1 ⟨rfl, hb1⟩; have HB1 := Lib.hid hb1; have HO := Lib.hid (own_empty w1); have HA1 : Hid (Below w1.heap.size w1 (w1.alloc (.cells #[] 5))) := (Below.refl _ w1).alloc (Nat.le_refl _) _; clear hb1))
      | (at_builtin; refine wpList_append_own _ rfl _ _ 22 rfl w1.heap.size 5 i0 (.int .u8 0) 1 1 Tryd.underlying22 hi hz0 hz1 hz2 rfl (by decide) _ _ _ rfl HO.out _ _ _ (bs.map fun x : Nat => Value.int .u8 x) rfl (by rw [List.length_map, HN.out, Nat.mul_one]) (seen_cells (HS.out.below ((HB1.out.trans (HA1.out.mono HB1.out.size)).mono HB.out))) (by intro u hu; obtain ⟨z, _, rfl⟩ := List.mem_map.1 hu; rfl) (by unfold maxLen; omega) (by omega) HA1.out.size ?_; intro v2 w2 hown2 hgrow2 _; rw [Nat.zero_add] at hown2; obtain ⟨g2, c2, rfl⟩ := own_form hown2 (by omega); have HO2 := Lib.hid hown2; have HB2 := Lib.hid (HA1.out.grown hgrow2 HA1.out.size (fun k e => (HO.out.lt k e).1)); clear hown2 hgrow2)
      | (at_builtin; refine wpList_append_own _ rfl _ _ 22 rfl w1.heap.size 5 i0 (.int .u8 0) 1 1 Tryd.underlying22 hi hz0 hz1 hz2 rfl (by decide) _ _ _ rfl (HO2.out.alloc _) ⟨w2.heap.size, 0, none⟩ 4 4 [.int .u8 b0, .int .u8 b1, .int .u8 b2, .int .u8 b3] rfl rfl (seen_cells (seen_new w2 [b0, b1, b2, b3] _ _ _ rfl _ rfl)) (by intro u hu; simp at hu; rcases hu with rfl | rfl | rfl | rfl <;> rfl) (by unfold maxLen; omega) (by omega) (by have := HB2.out.size; simp; omega) ?_; intro v4 w4 hown4 hgrow4 _))
    go_ret
    have hA2 := (HB2.out.alloc HB2.out.size (.cells #[.int .u8 b0, .int .u8 b1, .int .u8 b2, .int .u8 b3] 5)).grown hgrow4 (by have := HB2.out.size; simp; omega) (fun k e => (HO2.out.lt k e).1)
    exact ⟨_, rfl, key w1 _ _ HB1.out HO2.out HB2.out _ _ hown4 hA2⟩

end Go.Proofs.YtoecddkglenigaaDoor
