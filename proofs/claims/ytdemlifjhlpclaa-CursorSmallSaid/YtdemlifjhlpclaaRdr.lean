/-
  A reader: NewReader, At, Left, End, Byte, Bytes, number.
-/
import Derived.Test.YtdemlifjhlpclaaTake
namespace Go.Proofs.Ytdemlifjhlpclaa
open Go.RowKit
set_option linter.unusedVariables false

set_option maxRecDepth 100000 in
set_option maxHeartbeats 1000000 in
theorem newReader_any (w : World) (a : Option Addr) (n c : Nat) (xs : List Nat) (hn : xs.length = n) (hx : ∀ x ∈ xs, x < 256) (hc : n ≤ c) (hcm : c ≤ maxLen) (hs : a = none → c = 0) (hm : n ≤ 1000000000) (N : Nat) (hS : Seen w N .u8 a xs) (hN : N ≤ w.heap.size) :
    Calls Try.prog 19 #[.slice a n c] w fun e w' => ∃ B, e = .returned (.pointer (some ⟨B, 0, none⟩)) ∧ w.heap.size ≤ B ∧ Rdr w' B 0 xs ∧ Below w.heap.size w w' := by
  go_enter Try.func19, Try.ntmps19
  go_wp2_with (go_at_call 47; refine (clone_any w a n c xs hn hc hcm hs hm N hS hN).mono ?_; rintro e w1 ⟨v, rfl, hown, hB⟩; obtain ⟨a1, c1, rfl, S1, hl1, hc1, hm1⟩ := own_slice hown)
  go_ret
  refine ⟨w1.heap.size, rfl, hB.size, ⟨a1, c1, ?_, ?_, ?_, hx, Nat.zero_le _, by rw [hl1]; exact hc1, hm1⟩, hB.alloc hB.size _⟩
  · rw [hl1]; exact World.alloc_heap_new w1 _
  · rcases hown.2 with ⟨h, _⟩ | ⟨g, cap, cur, h, _⟩
    · cases h; exact .inl ⟨rfl, rfl⟩
    · cases h; exact .inr ⟨g, rfl⟩
  · exact S1.alloc (Nat.le_refl _) _

set_option maxRecDepth 100000 in
theorem at_any (w : World) (B p : Nat) (xs : List Nat) (hR : Rdr w B p xs) :
    Calls Try.prog 21 #[.pointer (some ⟨B, 0, none⟩)] w fun e w' => e = .returned (.int .i64 p) ∧ w = w' := by
  obtain ⟨a, c, hb, hsh, hS, hx, hp, hc, hcm⟩ := hR
  obtain ⟨c0, c1, c2, c3, f1, f3⟩ := ob_cells hb
  go_enter Try.func21, Try.ntmps21
  go_wp2_with (go_at_call 48; refine (noneR_any _ B c0).mono ?_; rintro e w1 ⟨rfl, rfl⟩)
  go_ret
  exact ⟨rfl, rfl⟩
set_option maxRecDepth 100000 in
theorem left_rd (w : World) (B p : Nat) (xs : List Nat) (n : Nat) (hn : xs.length = n) (hR : Rdr w B p xs) :
    Calls Try.prog 22 #[.pointer (some ⟨B, 0, none⟩)] w fun e w' => e = .returned (.int .i64 ((n : Int) - p)) ∧ ∃ q, w' = w.drewN q := by
  subst hn
  obtain ⟨a, c, hb, hsh, hS, hx, hp, hc, hcm⟩ := hR
  unfold maxLen at hcm
  obtain ⟨c0, c1, c2, c3, f1, f3⟩ := ob_cells hb
  go_enter Try.func22, Try.ntmps22
  go_wp2_with (first
    | (go_at_call 48; refine (noneR_any _ B c0).mono ?_; rintro e w1 ⟨rfl, rfl⟩)
    | (go_at_call 49; refine (left_any _ _ _ _ hp (by omega) c1 c2).mono ?_; rintro e w1 ⟨rfl, q, rfl⟩))
  go_ret
  exact ⟨rfl, _, rfl⟩
set_option maxRecDepth 100000 in
theorem end_any (w : World) (B p : Nat) (xs : List Nat) (r : Int) (hr : Cu.rdEnd p xs = r) (hR : Rdr w B p xs) :
    Calls Try.prog 23 #[.pointer (some ⟨B, 0, none⟩)] w fun e w' => e = .returned (.int .i64 r) ∧ ∃ q, w' = w.drewN q := by
  subst hr
  obtain ⟨a, c, hb, hsh, hS, hx, hp, hc, hcm⟩ := hR
  unfold maxLen at hcm
  obtain ⟨c0, c1, c2, c3, f1, f3⟩ := ob_cells hb
  unfold Cu.rdEnd
  by_cases h : p = xs.length
  · rw [if_pos h]
    have e1 : (((xs.length : Int) - (p : Int)) != 0) = false := by simp; omega
    clear h
    go_enter Try.func23, Try.ntmps23
    go_wp2_with (first
      | (go_at_call 48; refine (noneR_any _ B c0).mono ?_; rintro e w1 ⟨rfl, rfl⟩)
      | (go_at_call 49; refine (left_any _ _ _ _ hp (by omega) c1 c2).mono ?_; rintro e w1 ⟨rfl, q, rfl⟩))
    go_ret
    exact ⟨rfl, _, rfl⟩
  · rw [if_neg h]
    have e1 : (((xs.length : Int) - (p : Int)) != 0) = true := by simp; omega
    clear h
    go_enter Try.func23, Try.ntmps23
    go_wp2_with (first
      | (go_at_call 48; refine (noneR_any _ B c0).mono ?_; rintro e w1 ⟨rfl, rfl⟩)
      | (go_at_call 49; refine (left_any _ _ _ _ hp (by omega) c1 c2).mono ?_; rintro e w1 ⟨rfl, q, rfl⟩))
    go_ret
    exact ⟨rfl, _, rfl⟩

theorem Rdr.c0 {w : World} {B p : Nat} {xs : List Nat} (h : Rdr w B p xs) : w.cell? ⟨B, 0, none⟩ = some (.bool true) := by
  obtain ⟨a, c, hb, _⟩ := h
  exact (ob_cells hb).1

set_option maxRecDepth 100000 in
theorem byte_any (w : World) (B p : Nat) (xs : List Nat) (r : Nat × Int × Nat) (hr : Cu.rdByte p xs = r) (hR : Rdr w B p xs) :
    Calls Try.prog 28 #[.pointer (some ⟨B, 0, none⟩)] w fun e w' => e = .returned (.tuple #[.int .u8 r.1, .int .i64 r.2.1]) ∧ Rdr w' B r.2.2 xs ∧ Chg (· = B) w w' := by
  subst hr
  have h0 := hR.c0
  unfold Cu.rdByte
  by_cases h : p < xs.length
  · rw [if_pos h]
    have HH := Lib.hid h
    clear h
    go_enter Try.func28, Try.ntmps28
    go_wp2_with (first
      | (go_at_call 48; refine (noneR_any _ B h0).mono ?_; rintro e w1 ⟨rfl, rfl⟩)
      | (go_at_call 54; refine (take_ok w B p 1 xs hR HH.out).mono ?_; rintro e w1 ⟨a, c, rfl, hS, hc1, hcm, hs1, hR1, hK⟩; obtain ⟨b, off, rfl, _, hcell⟩ := hS 0 (xs.getD p 0) (by have := HH.out; simp [List.getElem?_drop, List.getD_eq_getElem?_getD, this]); rw [Nat.add_zero] at hcell))
    go_ret2
    exact ⟨rfl, hR1, hK⟩
  · rw [if_neg h]
    have HH := Lib.hid h
    clear h
    go_enter Try.func28, Try.ntmps28
    go_wp2_with (first
      | (go_at_call 48; refine (noneR_any _ B h0).mono ?_; rintro e w1 ⟨rfl, rfl⟩)
      | (go_at_call 54; refine (take_end w B p 1 xs hR (by have := HH.out; omega)).mono ?_; rintro e w1 ⟨rfl, hR1, hK⟩))
    go_ret2
    exact ⟨rfl, hR1, hK⟩

set_option maxRecDepth 100000 in
set_option maxHeartbeats 1000000 in
theorem bytes_any (w : World) (B p : Nat) (xs : List Nat) (n : Int) (hn1 : n ≤ 9223372036854775807) (hm : xs.length ≤ 1000000000) (r : List Nat × Int × Nat) (hr : Cu.rdBytes n p xs = r) (hR : Rdr w B p xs) :
    Calls Try.prog 26 #[.pointer (some ⟨B, 0, none⟩), .int .i64 n] w fun e w' => ∃ v, e = .returned (.tuple #[v, .int .i64 r.2.1]) ∧ w'.ownsRow w.heap.size 5 1 v r.1.length (r.1.map fun x : Nat => Value.int .u8 x) ∧ Rdr w' B r.2.2 xs ∧ Chg (· = B) w w' := by
  subst hr
  have h0 := hR.c0
  unfold Cu.rdBytes
  by_cases h : n < 0
  · rw [if_pos h]
    go_enter Try.func26, Try.ntmps26
    go_wp2_with (go_at_call 48; refine (noneR_any _ B h0).mono ?_; rintro e w1 ⟨rfl, rfl⟩)
    go_ret2
    exact ⟨_, rfl, World.ownsRow_nil _ _ _ _, hR, Chg.refl _ _⟩
  · rw [if_neg h]
    obtain ⟨k, rfl⟩ := Int.eq_ofNat_of_zero_le (a := n) (by omega)
    rw [Int.toNat_natCast]
    clear h
    by_cases h : xs.length < p + k
    · rw [if_pos h]
      have HH := Lib.hid h
      clear h
      go_enter Try.func26, Try.ntmps26
      go_wp2_with (first
        | (go_at_call 48; refine (noneR_any _ B h0).mono ?_; rintro e w1 ⟨rfl, rfl⟩)
        | (go_at_call 54; refine (take_end w B p k xs hR HH.out).mono ?_; rintro e w1 ⟨rfl, hR1, hK⟩)
        | (go_at_call 47; refine (clone_nil _).mono ?_; rintro e w2 ⟨rfl, rfl⟩))
      go_ret2
      exact ⟨_, rfl, World.ownsRow_nil _ _ _ _, hR1, hK⟩
    · rw [if_neg h]
      have hl : ((xs.drop p).take k).length = k := by rw [List.length_take, List.length_drop]; omega
      have hk : p + k ≤ xs.length := by omega
      have HL := Lib.hid hl
      have HH := Lib.hid hk
      clear h hl hk
      have hBl := hR.lt
      go_enter Try.func26, Try.ntmps26
      go_wp2_with (first
        | (go_at_call 48; refine (noneR_any _ B h0).mono ?_; rintro e w1 ⟨rfl, rfl⟩)
        | (go_at_call 54; refine (take_ok w B p k xs hR HH.out).mono ?_; rintro e w1 ⟨a, c, rfl, hS, hc1, hcm, hs1, hR1, hK⟩)
        | (go_at_call 47; refine (clone_any w1 a k c _ HL.out hc1 hcm hs1 (by have := HH.out; omega) B hS (Nat.le_of_lt hR1.lt)).mono ?_; rintro e w2 ⟨v, rfl, hown, hB2⟩))
      go_ret2
      refine ⟨v, rfl, ?_, hR1.below hB2, hK.trans (Chg.of_below _ hB2)⟩
      rw [HL.out]
      exact rebase hown hK.size

end Go.Proofs.Ytdemlifjhlpclaa
