/-
  Reader.Count for all integers, and Reader.Fixed.
-/
import Derived.Test.YtdemlifjhlpclaaCount
namespace Go.Proofs.Ytdemlifjhlpclaa
open Go.RowKit
set_option linter.unusedVariables false

set_option maxRecDepth 100000 in
set_option maxHeartbeats 1000000 in
theorem count_bad (w : World) (B p : Nat) (most size : Int) (xs : List Nat) (h : most < 0 ∨ size < 1) (hR : Rdr w B p xs) :
    Calls Try.prog 25 #[.pointer (some ⟨B, 0, none⟩), .int .i64 most, .int .i64 size] w fun e w' => e = .returned (.tuple #[.int .i64 0, .int .i64 2]) ∧ Rdr w' B p xs ∧ Chg (· = B) w w' := by
  have hB0 : Below w.heap.size w (((w.alloc (.cells #[.pointer (some ⟨B, 0, none⟩)] 44)).alloc (.cells #[.int .i64 most] 3)).alloc (.cells #[.int .i64 size] 3)) := ((((Below.refl _ w).alloc (Nat.le_refl _) _).alloc (by simp) _).alloc (by simp; omega) _)
  have hR1 := hR.below hB0
  have h0 := hR1.c0
  have hT : (decide (most < 0) || decide (size < 1)) = true := by rcases h with h | h <;> simp [h]
  by_cases h1 : most < 0
  · clear h
    go_enter Try.func25, Try.ntmps25
    go_wp2_with (go_at_call 48; refine (noneR_any _ B h0).mono ?_; rintro e w1 ⟨rfl, rfl⟩)
    go_ret2
    exact ⟨rfl, hR1, Chg.of_below _ hB0⟩
  · have h2 : size < 1 := by omega
    have h3 : 0 ≤ most := by omega
    clear h h1
    go_enter Try.func25, Try.ntmps25
    go_wp2_with (go_at_call 48; refine (noneR_any _ B h0).mono ?_; rintro e w1 ⟨rfl, rfl⟩)
    go_ret2
    exact ⟨rfl, hR1, Chg.of_below _ hB0⟩

theorem count_any (w : World) (B p : Nat) (most size : Int) (xs : List Nat) (r : Nat × Int × Nat) (hr : Cu.rdCount most size p xs = r) (hmost : most ≤ 9223372036854775807) (hs1 : size ≤ 9223372036854775807) (hxm : xs.length ≤ 1000000000) (hR : Rdr w B p xs) :
    Calls Try.prog 25 #[.pointer (some ⟨B, 0, none⟩), .int .i64 most, .int .i64 size] w fun e w' => e = .returned (.tuple #[.int .i64 r.1, .int .i64 r.2.1]) ∧ Rdr w' B r.2.2 xs ∧ Chg (· = B) w w' := by
  by_cases h : most < 0 ∨ size < 1
  · have : r = (0, 2, p) := by rw [← hr]; unfold Cu.rdCount; rw [if_pos h]
    rw [this]
    exact count_bad w B p most size xs h hR
  · obtain ⟨m, rfl⟩ := Int.eq_ofNat_of_zero_le (a := most) (by omega)
    obtain ⟨s, rfl⟩ := Int.eq_ofNat_of_zero_le (a := size) (by omega)
    exact count_ok w B p m s xs r (by rw [← rdCount_cnt _ _ _ _ (by omega)]; exact hr) (by omega) (by omega) (by omega) hxm hR

/-- What the program makes of the number so far and a byte. -/
def orF (x y i : Nat) : Int := bits .or .u64 x (IntKind.u64.wrap ((y : Int) * 2 ^ (8 * i)))
theorem orF_eq {x y i : Nat} (hx : x < 256 ^ i) (hi : i < 8) (hy : y < 256) : orF x y i = ((x + 256 ^ i * y : Nat) : Int) := by
  have hp : (2 : Nat) ^ (8 * i) = 256 ^ i := by rw [Nat.pow_mul]
  have h7 : (256 : Nat) ^ i ≤ 256 ^ 7 := Nat.pow_le_pow_right (by decide) (by omega)
  have e7 : (256 : Nat) ^ 7 = 72057594037927936 := by decide
  have hb : y * 2 ^ (8 * i) < 18446744073709551616 := by
    rw [hp]
    calc y * 256 ^ i ≤ 255 * 72057594037927936 := Nat.mul_le_mul (by omega) (by omega)
      _ < _ := by decide
  have hw : IntKind.u64.wrap ((y : Int) * 2 ^ (8 * i)) = ((y * 2 ^ (8 * i) : Nat) : Int) := by
    have e : ((y : Int) * 2 ^ (8 * i)) = ((y * 2 ^ (8 * i) : Nat) : Int) := by push_cast; rfl
    rw [e, IntKind.wrap_u64]
    exact Int.emod_eq_of_lt (by omega) (by omega)
  unfold orF
  rw [hw, u64_or_nat x _ (by omega) hb, Nat.or_comm, Nat.mul_comm, ← Nat.two_pow_add_eq_or_of_lt (by rw [hp]; exact hx), hp, Nat.add_comm]

set_option maxRecDepth 100000 in
set_option maxHeartbeats 1000000 in
theorem fixed_any (w : World) (B p : Nat) (n : Int) (xs : List Nat) (r : Nat × Int × Nat) (hr : Cu.rdFixed n p xs = r) (hR : Rdr w B p xs) :
    Calls Try.prog 32 #[.pointer (some ⟨B, 0, none⟩), .int .i64 n] w fun e w' => e = .returned (.tuple #[.int .u64 r.1, .int .i64 r.2.1]) ∧ Rdr w' B r.2.2 xs ∧ Chg (· = B) w w' := by
  subst hr
  have h0 := hR.c0
  unfold Cu.rdFixed
  by_cases h : n < 1 ∨ 8 < n
  · rw [if_pos h]
    by_cases h1 : n < 1
    · clear h
      go_enter Try.func32, Try.ntmps32
      go_wp2_with (go_at_call 48; refine (noneR_any _ B h0).mono ?_; rintro e w1 ⟨rfl, rfl⟩)
      go_ret2
      exact ⟨rfl, hR, Chg.refl _ _⟩
    · have h2 : 8 < n := by omega
      have h3 : 1 ≤ n := by omega
      clear h h1
      go_enter Try.func32, Try.ntmps32
      go_wp2_with (go_at_call 48; refine (noneR_any _ B h0).mono ?_; rintro e w1 ⟨rfl, rfl⟩)
      go_ret2
      exact ⟨rfl, hR, Chg.refl _ _⟩
  · rw [if_neg h]
    obtain ⟨k, rfl⟩ := Int.eq_ofNat_of_zero_le (a := n) (by omega)
    rw [Int.toNat_natCast]
    have k1 : (1 : Int) ≤ (k : Int) := by omega
    have k8 : (k : Int) ≤ 8 := by omega
    clear h
    by_cases h : xs.length < p + k
    · rw [if_pos h]
      have HH := Lib.hid h
      clear h
      go_enter Try.func32, Try.ntmps32
      go_wp2_with (first
        | (go_at_call 48; refine (noneR_any _ B h0).mono ?_; rintro e w1 ⟨rfl, rfl⟩)
        | (go_at_call 54; refine (take_end w B p k xs hR HH.out).mono ?_; rintro e w1 ⟨rfl, hR1, hK⟩))
      go_loop [8, 29] (fun x i => x = .int .u64 0 ∧ i = .int .i64 0) (fun _ _ => 0)
      case atStart => exact ⟨rfl, rfl⟩
      case round =>
        obtain ⟨rfl, rfl⟩ := hrel
        go_wp2
        go_ret2
        exact ⟨rfl, hR1, hK⟩
    · rw [if_neg h]
      have hl : ((xs.drop p).take k).length = k := by rw [List.length_take, List.length_drop]; omega
      have hk : p + k ≤ xs.length := by omega
      have hx : ∀ y ∈ (xs.drop p).take k, y < 256 := by obtain ⟨a, c, hb, hsh, hS, hx, _⟩ := hR; exact fun y hy => hx y (List.mem_of_mem_drop (List.mem_of_mem_take hy))
      obtain ⟨bs, hbs⟩ : ∃ bs, (xs.drop p).take k = bs := ⟨_, rfl⟩
      rw [hbs] at hl hx ⊢
      have HBS := Lib.hid hbs
      have HL := Lib.hid hl
      have HX := Lib.hid hx
      have HH := Lib.hid hk
      clear h hl hk hbs hx
      go_enter Try.func32, Try.ntmps32
      go_wp2_with (first
        | (go_at_call 48; refine (noneR_any _ B h0).mono ?_; rintro e w1 ⟨rfl, rfl⟩)
        | (go_at_call 54; refine (take_ok w B p k xs hR HH.out).mono ?_; rintro e w1 ⟨a, c, rfl, hS, hc1, hcm, hs1, hR1, hK⟩; rw [HBS.out] at hS))
      unfold maxLen at hcm
      go_loop [8, 29] (fun x i => ∃ j : Nat, j ≤ k ∧ i = .int .i64 j ∧ x = .int .u64 (Cu.le (bs.take j))) (fun _ i => k - (intOf i).toNat)
      case atStart => exact ⟨0, Nat.zero_le _, rfl, rfl⟩
      case round =>
        obtain ⟨j, hj, rfl, rfl⟩ := hrel
        by_cases hlt : j < k
        · obtain ⟨b, off, rfl, _, hc⟩ := hS.at (i := j) (by rw [HL.out]; exact hlt)
          obtain ⟨y, hy⟩ : ∃ y, bs[j]'(by rw [HL.out]; exact hlt) = y := ⟨_, rfl⟩
          rw [hy] at hc
          have hy256 : y < 256 := by rw [← hy]; exact HX.out _ (List.getElem_mem _)
          have hlj : (bs.take j).length = j := by rw [List.length_take, HL.out]; omega
          have hle : Cu.le (bs.take j) < 256 ^ j := by have := Cu.le_lt (bs.take j) (fun z hz => HX.out z (List.mem_of_mem_take hz)); rw [hlj] at this; exact this
          have hs : bs.take (j + 1) = bs.take j ++ [y] := by rw [← hy]; exact Vi.take_snoc bs j (by rw [HL.out]; exact hlt)
          have HO : Hid (orF (Cu.le (bs.take j)) y j = (Cu.le (bs.take (j + 1)) : Nat)) := by rw [orF_eq hle (by omega) hy256, hs, Cu.le_snoc, hlj]; rfl
          have j8 : (j : Int) < 8 := by omega
          have j0 : (0 : Int) ≤ (j : Int) := by omega
          clear hy hlj hle hs
          unfold orF at HO
          go_wp2
          exact ⟨⟨j + 1, by omega, by go_num, congrArg (Value.int .u64) HO.out⟩, by simp [intOf]; omega⟩
        · obtain rfl : j = k := by omega
          have HT : Hid (bs.take j = bs) := List.take_of_length_le (by rw [HL.out]; exact Nat.le_refl _)
          go_wp2
          go_ret2
          exact ⟨by rw [HT.out]; rfl, hR1, hK⟩

end Go.Proofs.Ytdemlifjhlpclaa
