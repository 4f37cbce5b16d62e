/-
  Open.
-/
import Derived.Test.YtoecddkglenigaaDoorSeal
import Derived.Lib.SliceRun
namespace Go.Proofs.YtoecddkglenigaaDoor
open Go.RowKit
set_option linter.unusedVariables false

theorem own_empty (w : World) : (w.alloc (.cells #[] 5)).ownsRow w.heap.size 5 1 (.slice (some ⟨w.heap.size, 0, none⟩) 0 0) 0 ([] : List Value) := by
  have := World.ownsRow_lit (base := w.heap.size) (e := 5) (size := 1) w #[] 0 (Nat.le_refl _) (Nat.zero_le _) rfl
  simpa using this

set_option maxRecDepth 100000 in
set_option maxHeartbeats 2000000 in
theorem clone_any (b off n c : Nat) (bs : List Nat) (hn : bs.length = n) (hl : n ≤ 1000000000) (B : Nat) (w : World) (hS : Seen w B .u8 (some ⟨b, off, none⟩) bs) (hBw : B ≤ w.heap.size) :
    Calls Tryd.prog 58 #[.slice (some ⟨b, off, none⟩) n c] w fun e w' => ∃ v, e = .returned v ∧ w'.ownsRow w.heap.size 5 1 v n (bs.map fun x : Nat => Value.int .u8 x) ∧ Below w.heap.size w w' := by
  have HN := Lib.hid hn
  clear hn
  obtain ⟨i0, hi, hz0, hz1, hz2⟩ := info_parts infoB
  have hnil := fun W : World => Lib.run_eql_slice_nil (P := Tryd.prog) W 22 5 (some ⟨b, off, none⟩) n c 0 0 Tryd.underlying22
  have hA1 : Below w.heap.size w (w.alloc (.cells #[] 5)) := (Below.refl _ w).alloc (Nat.le_refl _) _
  have hO := own_empty w
  by_cases hn0 : n = 0
  · have hb0 : Hid (bs = []) := List.eq_nil_of_length_eq_zero (HN.out.trans hn0)
    have H0 := Lib.hid hn0
    clear hn0
    go_enter Tryd.func58, Tryd.ntmps58
    go_wp2_with (at_builtin; refine wpList_append_nothing _ rfl _ _ 22 rfl 5 i0 Tryd.underlying22 hi _ _ _ rfl (Nat.le_refl _) _ _ _ H0.out rfl ?_)
    go_ret
    refine ⟨_, rfl, ?_, hA1⟩
    rw [hb0.out, H0.out]
    exact hO
  · go_enter Tryd.func58, Tryd.ntmps58
    go_wp2_with (at_builtin; refine wpList_append_own _ rfl _ _ 22 rfl w.heap.size 5 i0 (.int .u8 0) 1 1 Tryd.underlying22 hi hz0 hz1 hz2 rfl (by decide) _ _ _ rfl hO _ _ _ (bs.map fun x : Nat => Value.int .u8 x) rfl (by rw [List.length_map, HN.out, Nat.mul_one]) (seen_cells (hS.below (hA1.mono hBw))) (by intro u hu; obtain ⟨z, _, rfl⟩ := List.mem_map.1 hu; rfl) (by unfold maxLen; omega) (by omega) hA1.size ?_; intro v2 w2 hown2 hgrow2 _)
    go_ret
    refine ⟨_, rfl, ?_, hA1.grown hgrow2 hA1.size (fun k e => (hO.lt k e).1)⟩
    rw [Nat.zero_add] at hown2
    exact hown2

/-- Open. -/
theorem open_no (a : Option Addr) (n cap : Nat) (xs : List Nat) (hxs : ∀ y ∈ xs, y < 256) (hn : xs.length = n) (hlen : n ≤ maxLen) (w : World) (B : Nat) (hS : Seen w B .u8 a xs) (hT : HT w) (hr : decide (4 ≤ n ∧ Crc.upd 0 xs = 558161692) = false) :
    Calls Tryd.prog 36 #[.slice a n cap] w fun e w' => e = .returned (.tuple #[.slice none 0 0, .int .i64 2]) ∧ w = w' := by
  have HX : Hid (∀ y ∈ xs, y < 256) := hxs
  have HN := Lib.hid hn
  have HL := Lib.hid hlen
  have HS : Hid (Seen w B .u8 a xs) := hS
  have HT' : Hid (HT w) := hT
  have HR := Lib.hid hr
  clear hxs hn hlen hS hT hr
  go_enter Tryd.func36, Tryd.ntmps36
  go_wp2_with (go_at_call 27; ((with_reducible refine (sealed_any a n cap xs HX.out HN.out HL.out _ B HS.out HT'.out false HR.out).mono ?_); rintro e w1 ⟨rfl, rfl⟩))
  go_ret2
  exact ⟨rfl, rfl⟩
theorem open_yes (b off n cap : Nat) (xs : List Nat) (hxs : ∀ y ∈ xs, y < 256) (hn : xs.length = n) (hlen : n ≤ 1000000000) (hcap : n ≤ cap) (w : World) (B : Nat) (hS : Seen w B .u8 (some ⟨b, off, none⟩) xs) (hBw : B ≤ w.heap.size) (hT : HT w) (hr : decide (4 ≤ n ∧ Crc.upd 0 xs = 558161692) = true) :
    Calls Tryd.prog 36 #[.slice (some ⟨b, off, none⟩) n cap] w fun e w' => ∃ v, e = .returned (.tuple #[v, .int .i64 0]) ∧ w'.ownsRow w.heap.size 5 1 v (n - 4) ((xs.take (n - 4)).map fun x : Nat => Value.int .u8 x) ∧ Below w.heap.size w w' := by
  have h4 : 4 ≤ n := by simp at hr; exact hr.1
  obtain ⟨m, rfl⟩ : ∃ m, n = m + 4 := ⟨n - 4, by omega⟩
  rw [Nat.add_sub_cancel]
  have hmi : ((m + 4 : Nat) : Int) - 4 = (m : Int) := by omega
  have hm0 : (0 : Int) ≤ (m : Int) := by omega
  have hmc : (m : Int) ≤ (cap : Int) := by omega
  have hmc2 : m ≤ cap := by omega
  have hm30 : (m : Int) ≤ 1000000000 := by omega
  have HX : Hid (∀ y ∈ xs, y < 256) := hxs
  have HN := Lib.hid hn
  have HL : Hid (m + 4 ≤ maxLen) := by show _ ≤ _; unfold maxLen; omega
  have HTK : Hid ((xs.take m).length = m) := by show _ = _; rw [List.length_take, hn]; omega
  have HML : Hid (m ≤ 1000000000) := by show _ ≤ _; omega
  have HS : Hid (Seen w B .u8 (some ⟨b, off, none⟩) xs) := hS
  have HS2 : Hid (Seen w B .u8 (some ⟨b, off, none⟩) (xs.take m)) := fun i x hx => hS i x (by
    have hi : i < m := by have := (List.getElem?_eq_some_iff.1 hx).1; rw [HTK.out] at this; exact this
    rwa [List.getElem?_take_of_lt hi] at hx)
  have HT' : Hid (HT w) := hT
  have HR := Lib.hid hr
  have HB := Lib.hid hBw
  clear hxs hn hlen hS hT hr hBw h4
  go_enter Tryd.func36, Tryd.ntmps36
  go_wp2_with (first
    | (go_at_call 27; ((with_reducible refine (sealed_any _ (m + 4) cap xs HX.out HN.out HL.out _ B HS.out HT'.out true HR.out).mono ?_); rintro e w1 ⟨rfl, rfl⟩))
    | (go_at_call 58; ((with_reducible refine (clone_any b off m _ (xs.take m) HTK.out HML.out B _ HS2.out HB.out).mono ?_); rintro e w1 ⟨v, rfl, hown, hb1⟩)))
  go_ret2
  exact ⟨_, rfl, hown, hb1⟩
end Go.Proofs.YtoecddkglenigaaDoor
