/-
  varint.Read: its contract.
-/
import Derived.LoopTactic
import Derived.Lib.Hide
import Derived.WalkMore
import Derived.Test.YtdemlifjhlpclaaRead
import Derived.Test.YtdemlifjhlpclaaReadSpec
namespace Go.Proofs.Ytdemlifjhlpclaa
open Go.RowKit
set_option linter.unusedVariables false

set_option maxRecDepth 100000 in
set_option maxHeartbeats 1000000 in
/-- Read: what Vi.read says of the bytes. -/
theorem read_any (w : World) (a : Option Addr) (c : Nat) (bs : List Nat) (hbs : ∀ y ∈ bs, y < 256) (hS : Seen w w.heap.size .u8 a bs) (hlen : bs.length ≤ maxLen) :
    Calls Try.prog 43 #[.slice a bs.length c] w fun e w' =>
      e = .returned (.tuple #[.int .u64 (Vi.read bs).1, .int .i64 (Vi.read bs).2.1, .int .i64 (Vi.read bs).2.2]) ∧ Below w.heap.size w w' := by
  have hlen' := hlen
  unfold maxLen at hlen'
  go_enter Try.func43, Try.ntmps43
  go_wp2
  go_step3
  go_wp2
  go_step3
  go_wp2
  go_loopw [7, 8, 15] (fun s f i wr => ∃ k x : Nat, k ≤ bs.length ∧ k ≤ 9 ∧ x < 128 ^ k ∧ s = .int .i64 0 ∧ f = .int .i64 10 ∧ i = .int .i64 k ∧ Boxed wr w.heap.size 22 (.slice a bs.length c) ∧ Boxed wr (w.heap.size + 1) 28 (.int .u64 x) ∧
      Hid (Vi.read bs = Vi.rd (bs.drop k) k x) ∧ Below w.heap.size w wr) (fun _ _ i _ => bs.length - (intOf i).toNat)
  case atStart =>
    refine ⟨0, 0, by omega, by omega, by simp, rfl, rfl, rfl, (Boxed.new w _ _).alloc _, by have := Boxed.new (w.alloc (.cells #[.slice a bs.length c] 22)) 28 (.int .u64 0); simpa using this, rfl, ((Below.refl _ w).alloc (Nat.le_refl _) _).alloc (by simp) _⟩
  case round =>
    obtain ⟨k, x, hk, hk9, hx, rfl, rfl, rfl, hb, hX, HR, hB⟩ := hrel
    have hbc := hb.cell
    have hXc := hX.cell
    have hXf := hX.frozen
    by_cases hlt : k < bs.length
    · obtain ⟨bb, off, rfl, hbb, hc⟩ := (hS.below hB).at hlt
      obtain ⟨y, hyy⟩ : ∃ y, bs[k] = y := ⟨_, rfl⟩
      have hy : y < 256 := by rw [← hyy]; exact hbs _ (List.getElem_mem hlt)
      rw [hyy] at hc
      by_cases hov : k = 9 ∧ 1 < y
      · have HR2 : Hid (Vi.read bs = (0, 0, 11)) := HR.out.trans (Vi.rd_over hlt hov.1 (by rw [hyy]; exact hov.2))
        obtain ⟨h9, h1⟩ := hov
        have H9 := Lib.hid h9
        clear hyy HR h9
        go_wp2_with (go_at_call 62; refine (look_over _ _ _ _ _ _ _ _ _ hlen hlt H9.out hy hbc hc h1).mono ?_; rintro e w' ⟨rfl, rfl⟩)
        rw [Exit.noGoto_ret]
        go_ret3
        exact ⟨by rw [HR2.out]; rfl, hB⟩
      · by_cases hze : k ≠ 0 ∧ y = 0
        · have HR2 : Hid (Vi.read bs = (0, 0, 12)) := HR.out.trans (Vi.rd_zero hlt hze.1 (by rw [hyy]; exact hze.2))
          have HZ := Lib.hid hze
          clear hyy HR hov hze
          go_wp2_with (go_at_call 62; refine (look_zero _ _ _ _ _ _ _ _ _ hlen hlt hk9 HZ.out.1 HZ.out.2 hbc hc).mono ?_; rintro e w' ⟨rfl, rfl⟩)
          rw [Exit.noGoto_ret]
          go_ret3
          exact ⟨by rw [HR2.out]; rfl, hB⟩
        · have h9 : k = 9 → y ≤ 1 := fun h => by omega
          have h0 : k ≠ 0 → y ≠ 0 := fun h h' => hze ⟨h, h'⟩
          have HV := Lib.hid (orV_eq hx hk9 hy h9)
          have hgr := Vi.grow (y := y) hx
          have hX2 := hX.set (.int .u64 (orV x y k))
          have hb2 : Boxed (wr.setCell ⟨w.heap.size + 1, 0, none⟩ (.int .u64 (orV x y k))) w.heap.size 22 (.slice (some ⟨bb, off, none⟩) bs.length c) := hb.kept (grownBy_setCell' _ _ _) (by simp)
          have hB2 : Below w.heap.size w ((wr.setCell ⟨w.heap.size + 1, 0, none⟩ (.int .u64 (orV x y k))).drew) := (hB.setCell (p := ⟨w.heap.size + 1, 0, none⟩) (by simp) _).drew
          have HP : Hid ((k = 9 → y ≤ 1) ∧ (k ≠ 0 → y ≠ 0)) := ⟨h9, h0⟩
          by_cases hy1 : y < 128
          · have HR2 : Hid (Vi.read bs = (x + y % 128 * 128 ^ k, k + 1, 0)) := by
              have := Vi.rd_last (x := x) hlt (by rw [hyy]; exact h9) (by rw [hyy]; exact h0) (by rw [hyy]; exact hy1)
              rw [hyy] at this
              exact HR.out.trans this
            have hX3 := hX2.cell
            have hi1 : (y : Int) < 128 := by omega
            clear hyy HR hov hze h9 h0
            go_wp2_with (go_at_call 62; refine (look_ok _ _ _ _ _ _ _ _ _ _ hlen hlt hk9 hy hbc hXc hXf hc HP.out.1 HP.out.2).mono ?_; rintro e w' ⟨rfl, rfl⟩)
            rw [Exit.noGoto_ret]
            go_ret3
            exact ⟨by rw [HR2.out, HV.out]; rfl, hB2⟩
          · have HR2 : Hid (Vi.read bs = Vi.rd (bs.drop (k + 1)) (k + 1) (x + y % 128 * 128 ^ k)) := by
              have := Vi.rd_more (x := x) hlt (by rw [hyy]; exact h9) (by rw [hyy]; exact h0) (by rw [hyy]; omega)
              rw [hyy] at this
              exact HR.out.trans this
            have hk8 : k ≤ 8 := by omega
            have hi1 : (128 : Int) ≤ (y : Int) := by omega
            clear hyy HR hov hze h9 h0
            go_wp2_with (go_at_call 62; refine (look_ok _ _ _ _ _ _ _ _ _ _ hlen hlt hk9 hy hbc hXc hXf hc HP.out.1 HP.out.2).mono ?_; rintro e w' ⟨rfl, rfl⟩)
            refine ⟨⟨k + 1, x + y % 128 * 128 ^ k, by omega, by omega, hgr, rfl, rfl, by go_num, hb2, ?_, HR2, hB2⟩, by simp [intOf]; omega⟩
            rw [← HV.out]
            exact hX2
    · obtain rfl : k = bs.length := by omega
      have HR2 : Hid (Vi.read bs = (0, 0, 10)) := HR.out.trans (by rw [List.drop_length]; rfl)
      clear HR
      go_wp2
      rw [Exit.noGoto_ret]
      go_ret3
      exact ⟨by rw [HR2.out]; rfl, hB⟩

end Go.Proofs.Ytdemlifjhlpclaa
