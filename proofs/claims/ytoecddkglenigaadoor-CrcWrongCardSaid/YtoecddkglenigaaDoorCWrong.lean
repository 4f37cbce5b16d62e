/-
  The walk of CrcWrong.
-/
import Derived.Test.YtoecddkglenigaaDoorAwake4
import Derived.Test.YtoecddkglenigaaDoorOpen
import Derived.Test.YtoecddkglenigaaDoorDam
import Derived.Test.YtoecddkglenigaaDoorTab
namespace Go.Proofs.YtoecddkglenigaaDoor
open Go.RowKit
set_option linter.unusedVariables false

set_option maxRecDepth 100000 in
set_option maxHeartbeats 4000000 in
theorem cwrong_law (n : Int) (a : Option Addr) (m cap : Nat) (bs : List Nat) (hbs : ∀ y ∈ bs, y < 256) (hm : bs.length = m) (hmc : m ≤ cap) (hcm : cap ≤ maxLen) (w : World) (hS : Seen w w.heap.size .u8 a bs) (hT : HT w) :
    Calls Tryd.prog 14 #[.int .i64 n, .slice a m cap] w fun e w' => e = .returned (.bool true) ∧ Below w.heap.size w w' := by
  obtain ⟨k0, hk0⟩ : ∃ k0, min n (-1) = k0 := ⟨_, rfl⟩
  obtain ⟨k1, hk1⟩ : ∃ k1, max n 16777217 = k1 := ⟨_, rfl⟩
  have hb0 : k0 < 0 := by omega
  have hb1 : 16777216 < k1 := by omega
  have HBS : Hid (∀ y ∈ bs, y < 256) := hbs
  have HM := Lib.hid hm
  have HS : Hid (Seen w w.heap.size .u8 a bs) := hS
  have HTT : Hid (HT w) := hT
  clear hbs hm hS hT
  go_enter Tryd.func14, Tryd.ntmps14
  go_wp2
  have HB0 : Hid (Below w.heap.size w (w.alloc (.cells #[.int .i64 k0, .int .i64 k1] 3))) := (Below.refl _ w).alloc (Nat.le_refl _) _
  have HC0 : Hid ((w.alloc (.cells #[.int .i64 k0, .int .i64 k1] 3)).heap[w.heap.size]? = some (.cells #[.int .i64 k0, .int .i64 k1] 3)) := heap_alloc_new w _
  obtain ⟨W0, hW0⟩ : ∃ W0, w.alloc (.cells #[.int .i64 k0, .int .i64 k1] 3) = W0 := ⟨_, rfl⟩
  rw [hW0] at HB0 HC0 ⊢
  have hsz : W0.heap.size = w.heap.size + 1 := by rw [← hW0]; simp
  have HSZ := Lib.hid hsz
  clear hW0 hsz
  go_loopw [33] (fun iv wr => ∃ k : Nat, k ≤ 2 ∧ iv = .int .i64 k ∧ Below W0.heap.size W0 wr) (fun i _ => 2 - (intOf i).toNat)
  case atStart => exact ⟨0, by omega, rfl, Below.refl _ _⟩
  case round =>
    obtain ⟨k, hk, rfl, hbel⟩ := hrel
    have HBE := Lib.hid hbel
    clear hbel
    by_cases hk2 : k < 2
    · obtain ⟨x, hx, hxb⟩ : ∃ x, wr.cell? ⟨w.heap.size, k, none⟩ = some (.int .i64 x) ∧ (x < 0 ∨ 16777216 < x) := by
        have hc : wr.heap[w.heap.size]? = some (.cells #[.int .i64 k0, .int .i64 k1] 3) := (HBE.out.block _ (by have := HSZ.out; omega)).trans HC0.out
        have : k = 0 ∨ k = 1 := by omega
        rcases this with rfl | rfl
        · exact ⟨k0, by unfold World.cell?; rw [hc]; rfl, .inl hb0⟩
        · exact ⟨k1, by unfold World.cell?; rw [hc]; rfl, .inr hb1⟩
      have H1 : Hid (x < 0 ∨ 16777216 < x) := hxb
      have H2 : Hid (x < 1 ∨ 16777216 < x ∨ (0 : Int) < 0 ∨ 8 * x ≤ 0) := by show _ ∨ _; omega
      have H3 : Hid ((20 : Int) < 1 ∨ (16777216 : Int) < 20 ∨ x < 0 ∨ 8 * 20 ≤ x) := by show _ ∨ _; omega
      have H4 : Hid (x < 4 ∨ 16777216 < x) := by show _ ∨ _; omega
      have H5 : Hid (x < 0 ∨ 160 ≤ x) := by show _ ∨ _; omega
      clear hb0 hb1
      rcases hxb with hx0 | hx1
      · have hx6 : ¬ 160 ≤ x := by omega
        go_wp2_with (first
          | (go_at_call 22; ((with_reducible refine (shift_arg _ x H1.out _).mono ?_); rintro e w1 ⟨rfl, rfl⟩))
          | (go_at_call 34; ((with_reducible refine (join_arg _ _ x H1.out _).mono ?_); rintro e w1 ⟨rfl, rfl⟩))
          | (go_at_call 23; ((with_reducible refine (bit_arg x 0 H2.out _).mono ?_); rintro e w1 ⟨rfl, rfl⟩))
          | (go_at_call 23; ((with_reducible refine (bit_arg 20 x H3.out _).mono ?_); rintro e w1 ⟨rfl, rfl⟩))
          | (go_at_call 25; ((with_reducible refine (damages_arg x H4.out _ _).mono ?_); rintro e w1 ⟨rfl, rfl⟩))
          | (go_at_call 25; ((with_reducible refine (damages_bad x H5.out _).mono ?_); rintro e w1 ⟨rfl, rfl⟩)))
        have HBX : Hid (Below W0.heap.size W0 ((wr.alloc (.cells #[.int .i64 x] 3)).alloc (.cells #[.int .i64 2, .int .i64 2, .int .i64 2, .int .i64 2, .int .i64 2] 33))) := (HBE.out.alloc HBE.out.size _).alloc (by have := HBE.out.size; simp; omega) _
        have HCX : Hid (((wr.alloc (.cells #[.int .i64 x] 3)).alloc (.cells #[.int .i64 2, .int .i64 2, .int .i64 2, .int .i64 2, .int .i64 2] 33)).heap[wr.heap.size + 1]? = some (.cells #[.int .i64 2, .int .i64 2, .int .i64 2, .int .i64 2, .int .i64 2] 33)) := by
          have := heap_alloc_new (wr.alloc (.cells #[.int .i64 x] 3)) (.cells #[.int .i64 2, .int .i64 2, .int .i64 2, .int .i64 2, .int .i64 2] 33)
          simpa [Hid] using this
        obtain ⟨W2, hW2⟩ : ∃ W2, (wr.alloc (.cells #[.int .i64 x] 3)).alloc (.cells #[.int .i64 2, .int .i64 2, .int .i64 2, .int .i64 2, .int .i64 2] 33) = W2 := ⟨_, rfl⟩
        rw [hW2] at HBX HCX ⊢
        clear hW2
        go_loopw [89] (fun iv wq => ∃ j : Nat, j ≤ 5 ∧ iv = .int .i64 j ∧ W2 = wq) (fun i _ => 5 - (intOf i).toNat)
        case atStart => exact ⟨0, by omega, rfl, rfl⟩
        case round =>
          obtain ⟨j, hj, rfl, rfl⟩ := hrel
          by_cases hj5 : j < 5
          · have hc5 : W2.cell? ⟨wr.heap.size + 1, j, none⟩ = some (.int .i64 2) := by
              unfold World.cell?
              rw [HCX.out]
              have : j = 0 ∨ j = 1 ∨ j = 2 ∨ j = 3 ∨ j = 4 := by omega
              rcases this with rfl | rfl | rfl | rfl | rfl <;> rfl
            go_wp2
            exact ⟨⟨j + 1, hj5, rfl, trivial⟩, by simp [intOf]; omega⟩
          · have hj6 : 5 ≤ j := by omega
            go_wp2
            exact ⟨⟨k + 1, hk2, rfl, HBX.out⟩, by simp [intOf]; omega⟩
      · have hx6 : 160 ≤ x := by omega
        have hx7 : ¬ x < 0 := by omega
        go_wp2_with (first
          | (go_at_call 22; ((with_reducible refine (shift_arg _ x H1.out _).mono ?_); rintro e w1 ⟨rfl, rfl⟩))
          | (go_at_call 34; ((with_reducible refine (join_arg _ _ x H1.out _).mono ?_); rintro e w1 ⟨rfl, rfl⟩))
          | (go_at_call 23; ((with_reducible refine (bit_arg x 0 H2.out _).mono ?_); rintro e w1 ⟨rfl, rfl⟩))
          | (go_at_call 23; ((with_reducible refine (bit_arg 20 x H3.out _).mono ?_); rintro e w1 ⟨rfl, rfl⟩))
          | (go_at_call 25; ((with_reducible refine (damages_arg x H4.out _ _).mono ?_); rintro e w1 ⟨rfl, rfl⟩))
          | (go_at_call 25; ((with_reducible refine (damages_bad x H5.out _).mono ?_); rintro e w1 ⟨rfl, rfl⟩)))
        have HBX : Hid (Below W0.heap.size W0 ((wr.alloc (.cells #[.int .i64 x] 3)).alloc (.cells #[.int .i64 2, .int .i64 2, .int .i64 2, .int .i64 2, .int .i64 2] 33))) := (HBE.out.alloc HBE.out.size _).alloc (by have := HBE.out.size; simp; omega) _
        have HCX : Hid (((wr.alloc (.cells #[.int .i64 x] 3)).alloc (.cells #[.int .i64 2, .int .i64 2, .int .i64 2, .int .i64 2, .int .i64 2] 33)).heap[wr.heap.size + 1]? = some (.cells #[.int .i64 2, .int .i64 2, .int .i64 2, .int .i64 2, .int .i64 2] 33)) := by
          have := heap_alloc_new (wr.alloc (.cells #[.int .i64 x] 3)) (.cells #[.int .i64 2, .int .i64 2, .int .i64 2, .int .i64 2, .int .i64 2] 33)
          simpa [Hid] using this
        obtain ⟨W2, hW2⟩ : ∃ W2, (wr.alloc (.cells #[.int .i64 x] 3)).alloc (.cells #[.int .i64 2, .int .i64 2, .int .i64 2, .int .i64 2, .int .i64 2] 33) = W2 := ⟨_, rfl⟩
        rw [hW2] at HBX HCX ⊢
        clear hW2
        go_loopw [89] (fun iv wq => ∃ j : Nat, j ≤ 5 ∧ iv = .int .i64 j ∧ W2 = wq) (fun i _ => 5 - (intOf i).toNat)
        case atStart => exact ⟨0, by omega, rfl, rfl⟩
        case round =>
          obtain ⟨j, hj, rfl, rfl⟩ := hrel
          by_cases hj5 : j < 5
          · have hc5 : W2.cell? ⟨wr.heap.size + 1, j, none⟩ = some (.int .i64 2) := by
              unfold World.cell?
              rw [HCX.out]
              have : j = 0 ∨ j = 1 ∨ j = 2 ∨ j = 3 ∨ j = 4 := by omega
              rcases this with rfl | rfl | rfl | rfl | rfl <;> rfl
            go_wp2
            exact ⟨⟨j + 1, hj5, rfl, trivial⟩, by simp [intOf]; omega⟩
          · have hj6 : 5 ≤ j := by omega
            go_wp2
            exact ⟨⟨k + 1, hk2, rfl, HBX.out⟩, by simp [intOf]; omega⟩
    · have hk3 : 2 ≤ k := by omega
      clear hb0 hb1
      obtain ⟨m1, hm1⟩ : ∃ m1 : Nat, min m 300 = m1 := ⟨_, rfl⟩
      unfold maxLen at hcm
      have hmi : min (m : Int) 300 = (m1 : Int) := by omega
      have b3 : (m1 : Int) ≤ (cap : Int) := by omega
      have b5 : (0 : Int) ≤ (m1 : Int) := by omega
      have b6 : (m1 : Int) ≤ 300 := by omega
      have b7 : m1 ≤ cap := by omega
      have HCAP : Hid (m1 ≤ cap) := b7
      have HN1 : Hid ((bs.take m1).length = m1) := by show _ = _; rw [List.length_take, HM.out]; omega
      have HX1 : Hid (∀ y ∈ bs.take m1, y < 256) := fun y hy => HBS.out y (List.mem_of_mem_take hy)
      have HL1 : Hid (m1 ≤ maxLen) := by show m1 ≤ maxLen; unfold maxLen; omega
      have HL2 : Hid (m1 ≤ 1000000000) := by show m1 ≤ _; omega
      have HB0w : Hid (Below w.heap.size w wr) := HB0.out.trans (HBE.out.mono (by have := HSZ.out; omega))
      have HS1 : Hid (Seen wr w.heap.size .u8 a (bs.take m1)) := fun i x hx => (HS.out.below HB0w.out) i x (by
        have hi : i < m1 := by have := (List.getElem?_eq_some_iff.1 hx).1; rw [HN1.out] at this; exact this
        rwa [List.getElem?_take_of_lt hi] at hx)
      have HT1 : Hid (HT wr) := HTT.out.below HB0w.out
      have HD3 : Hid ((3 : Int) < 4 ∨ (16777216 : Int) < 3) := .inl (by decide)
      have HB3 : Hid ((0 : Int) < 1 ∨ (16777216 : Int) < 0 ∨ (0 : Int) < 0 ∨ 8 * (0 : Int) ≤ 0) := .inl (by decide)
      obtain ⟨r, hr⟩ : ∃ r, decide (4 ≤ m1 ∧ Crc.upd 0 (bs.take m1) = 558161692) = r := ⟨_, rfl⟩
      cases r with
      | false =>
        have HR := Lib.hid hr
        clear hr hm1
        go_wp2_with (first
          | (go_at_call 36; ((with_reducible refine (open_no _ m1 cap (bs.take m1) HX1.out HN1.out HL1.out _ w.heap.size HS1.out HT1.out HR.out).mono ?_); rintro e w1 ⟨rfl, rfl⟩))
          | (go_at_call 27; ((with_reducible refine (sealed_any _ m1 cap (bs.take m1) HX1.out HN1.out HL1.out _ w.heap.size HS1.out HT1.out false HR.out).mono ?_); rintro e w1 ⟨rfl, rfl⟩))
          | (go_at_call 25; ((with_reducible refine (damages_arg 3 HD3.out _ _).mono ?_); rintro e w1 ⟨rfl, rfl⟩))
          | (go_at_call 23; ((with_reducible refine (bit_arg 0 0 HB3.out _).mono ?_); rintro e w1 ⟨rfl, rfl⟩))
          | (go_at_call 15; ((with_reducible refine (awake_any _ HT1.out).mono ?_); rintro e w7 ⟨rfl, hb7⟩)))
        go_ret
        exact ⟨rfl, HB0w.out.trans (hb7.mono HB0w.out.size)⟩
      | true =>
        have h4 : 4 ≤ m1 := by simp at hr; exact hr.1
        obtain ⟨b, off, rfl, _, _⟩ := HS1.out.at (i := 0) (by rw [HN1.out]; omega)
        have HR := Lib.hid hr
        clear hr hm1
        go_wp2_with (first
          | (go_at_call 36; ((with_reducible refine (open_yes b off m1 cap (bs.take m1) HX1.out HN1.out HL2.out HCAP.out _ w.heap.size HS1.out HB0w.out.size HT1.out HR.out).mono ?_); rintro e w5 ⟨v, rfl, hown, hb5⟩; have HB5 := Lib.hid hb5; clear hb5))
          | (go_at_call 27; ((with_reducible refine (sealed_any _ m1 cap (bs.take m1) HX1.out HN1.out HL1.out _ w.heap.size (HS1.out.below (HB5.out.mono HB0w.out.size)) (HT1.out.below HB5.out) true HR.out).mono ?_); rintro e w1 ⟨rfl, rfl⟩))
          | (go_at_call 25; ((with_reducible refine (damages_arg 3 HD3.out _ _).mono ?_); rintro e w1 ⟨rfl, rfl⟩))
          | (go_at_call 23; ((with_reducible refine (bit_arg 0 0 HB3.out _).mono ?_); rintro e w1 ⟨rfl, rfl⟩))
          | (go_at_call 15; ((with_reducible refine (awake_any _ (HT1.out.below HB5.out)).mono ?_); rintro e w7 ⟨rfl, hb7⟩)))
        go_ret
        exact ⟨rfl, (HB0w.out.trans (HB5.out.mono HB0w.out.size)).trans (hb7.mono (Nat.le_trans HB0w.out.size HB5.out.size))⟩

theorem cwrong_walk (a0 : Int) (a1 : Option Addr) (len1 cap1 : Nat) (z1 : List Int) (w : World) (w0 : (Lit.int .i64 a0).wf = true) (w1 : IsRow .u8 w a1 len1 cap1 z1) (wx : HT w) :
    Calls Tryd.prog 14 #[.int .i64 a0, .slice a1 len1 cap1] w fun e w' => e = .returned (.bool true) ∧ Below w.heap.size w w' := by
  obtain ⟨xs, hn, hS, hx, h1, h2⟩ := row_u8 w1
  exact cwrong_law a0 a1 len1 cap1 xs hx hn h1 h2 w hS wx

end Go.Proofs.YtoecddkglenigaaDoor
