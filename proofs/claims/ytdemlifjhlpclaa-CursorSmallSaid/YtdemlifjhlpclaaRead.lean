/-
  varint.Read.
-/
import Derived.WalkKit
import Derived.RegionTactic
import Derived.ChangeAlike
import Derived.WalkSpells
import Derived.WalkLawsBesides
import Derived.Outline
import Derived.Laws.ShiftsVarLaws
import Derived.Laws.BitsAllLaws
import Derived.Laws.ResultCell
import Derived.Test.YtdemlifjhlpclaaProg
import Derived.Test.YtdemlifjhlpclaaWords
import Derived.Test.YtdemlifjhlpclaaMath
namespace Go.Proofs.Ytdemlifjhlpclaa
open Go.RowKit
set_option linter.unusedVariables false

/-- What the program makes of the number so far and a byte. -/
def orV (x y i : Nat) : Int := bits .or .u64 x (IntKind.u64.wrap ((y : Int) % 128 * 2 ^ (7 * i)))

set_option maxRecDepth 100000 in
set_option maxHeartbeats 1000000 in
/-- The closure of Read, at a byte that is allowed. -/
theorem look_ok (w : World) (Bb Bx b off n c i x y : Nat) (hn : n ≤ maxLen) (hi : i < n) (hi9 : i ≤ 9) (hy : y < 256)
    (hb : w.cell? ⟨Bb, 0, none⟩ = some (.slice (some ⟨b, off, none⟩) n c)) (hX : w.cell? ⟨Bx, 0, none⟩ = some (.int .u64 x)) (hf : w.frozen? ⟨Bx, 0, none⟩ = false)
    (hc : w.cell? ⟨b, off + i, none⟩ = some (.int .u8 y)) (h9 : i = 9 → y ≤ 1) (h0 : i ≠ 0 → y ≠ 0) :
    Calls Try.prog 62 #[.int .i64 i, .pointer (some ⟨Bb, 0, none⟩), .pointer (some ⟨Bx, 0, none⟩)] w fun e w' =>
      e = .returned (.tuple #[.bool (decide ((y : Int) < 128)), .int .i64 0]) ∧ (w.setCell ⟨Bx, 0, none⟩ (.int .u64 (orV x y i))).drew = w' := by
  unfold maxLen at hn
  unfold orV
  by_cases hi0 : i = 0
  · have e0 : ((i : Int) != 0) = false := by simp; omega
    have e9 : ((i : Int) == 9) = false := by simp; omega
    clear hi0 h9 h0
    go_enter Try.func62, Try.ntmps62
    go_wp2
    go_region
    go_wp2
    go_ret2
    exact ⟨rfl, rfl⟩
  · have e0 : ((i : Int) != 0) = true := by simp; omega
    have ey : ((y : Int) == 0) = false := by have := h0 hi0; simp; omega
    by_cases hi9 : i = 9
    · have e9 : ((i : Int) == 9) = true := by simp; omega
      have hy1 : (y : Int) ≤ 1 := by have := h9 hi9; omega
      clear hi0 h9 h0 hi9
      go_enter Try.func62, Try.ntmps62
      go_wp2
      go_region
      go_wp2
      go_ret2
      exact ⟨rfl, rfl⟩
    · have e9 : ((i : Int) == 9) = false := by simp; omega
      clear hi0 h9 h0 hi9
      go_enter Try.func62, Try.ntmps62
      go_wp2
      go_region
      go_wp2
      go_ret2
      exact ⟨rfl, rfl⟩

set_option maxRecDepth 100000 in
set_option maxHeartbeats 1000000 in
/-- The closure of Read, at a tenth byte that is too great. -/
theorem look_over (w : World) (Bb Bx b off n c i y : Nat) (hn : n ≤ maxLen) (hi : i < n) (hi9 : i = 9) (hy : y < 256)
    (hb : w.cell? ⟨Bb, 0, none⟩ = some (.slice (some ⟨b, off, none⟩) n c)) (hc : w.cell? ⟨b, off + i, none⟩ = some (.int .u8 y)) (h1 : 1 < y) :
    Calls Try.prog 62 #[.int .i64 i, .pointer (some ⟨Bb, 0, none⟩), .pointer (some ⟨Bx, 0, none⟩)] w fun e w' =>
      e = .returned (.tuple #[.bool false, .int .i64 11]) ∧ w = w' := by
  unfold maxLen at hn
  · have e9 : ((i : Int) == 9) = true := by simp; omega
    have hy1 : (1 : Int) < (y : Int) := by omega
    have hi9' : (i : Int) ≤ 9 := by omega
    clear hi9 h1
    go_enter Try.func62, Try.ntmps62
    go_wp2
    go_ret2
    exact ⟨rfl, rfl⟩

set_option maxRecDepth 100000 in
set_option maxHeartbeats 1000000 in
/-- The closure of Read, at a last byte that is 0. -/
theorem look_zero (w : World) (Bb Bx b off n c i y : Nat) (hn : n ≤ maxLen) (hi : i < n) (hi9 : i ≤ 9) (hi0 : i ≠ 0) (hy : y = 0)
    (hb : w.cell? ⟨Bb, 0, none⟩ = some (.slice (some ⟨b, off, none⟩) n c)) (hc : w.cell? ⟨b, off + i, none⟩ = some (.int .u8 y)) :
    Calls Try.prog 62 #[.int .i64 i, .pointer (some ⟨Bb, 0, none⟩), .pointer (some ⟨Bx, 0, none⟩)] w fun e w' =>
      e = .returned (.tuple #[.bool false, .int .i64 12]) ∧ w = w' := by
  unfold maxLen at hn
  have e0 : ((i : Int) != 0) = true := by simp; omega
  have ey : ((y : Int) == 0) = true := by simp; omega
  have hy1 : (y : Int) ≤ 1 := by omega
  by_cases hi9 : i = 9
  · have e9 : ((i : Int) == 9) = true := by simp; omega
    clear hi0 hi9 hy
    go_enter Try.func62, Try.ntmps62
    go_wp2
    go_ret2
    exact ⟨rfl, rfl⟩
  · have e9 : ((i : Int) == 9) = false := by simp; omega
    clear hi0 hi9 hy
    go_enter Try.func62, Try.ntmps62
    go_wp2
    go_ret2
    exact ⟨rfl, rfl⟩

theorem orV_eq {x y i : Nat} (hx : x < 128 ^ i) (hi : i ≤ 9) (hy : y < 256) (h9 : i = 9 → y ≤ 1) : orV x y i = ((x + y % 128 * 128 ^ i : Nat) : Int) := by
  have hp : (2 : Nat) ^ (7 * i) = 128 ^ i := by rw [Nat.pow_mul]
  have hb : y % 128 * 2 ^ (7 * i) < 18446744073709551616 := by
    by_cases h : i = 9
    · subst h; have := h9 rfl; have : y % 128 ≤ 1 := by omega
      calc y % 128 * 2 ^ (7 * 9) ≤ 1 * 2 ^ (7 * 9) := Nat.mul_le_mul_right _ this
        _ < _ := by decide
    · have h2 : (2 : Nat) ^ (7 * i) ≤ 2 ^ 56 := Nat.pow_le_pow_right (by decide) (by omega)
      calc y % 128 * 2 ^ (7 * i) ≤ 127 * 2 ^ 56 := Nat.mul_le_mul (by omega) h2
        _ < _ := by decide
  have hxb : x < 18446744073709551616 := by
    have : (128 : Nat) ^ i ≤ 128 ^ 9 := Nat.pow_le_pow_right (by decide) hi
    have h3 : (128 : Nat) ^ 9 < 18446744073709551616 := by decide
    omega
  have hw : IntKind.u64.wrap ((y : Int) % 128 * 2 ^ (7 * i)) = ((y % 128 * 2 ^ (7 * i) : Nat) : Int) := by
    have e : ((y : Int) % 128 * 2 ^ (7 * i)) = ((y % 128 * 2 ^ (7 * i) : Nat) : Int) := by push_cast; rfl
    rw [e, IntKind.wrap_u64]
    exact Int.emod_eq_of_lt (by omega) (by omega)
  unfold orV
  rw [hw, u64_or_nat x _ hxb hb, Nat.or_comm, Nat.mul_comm, ← Nat.two_pow_add_eq_or_of_lt (by rw [hp]; exact hx), hp, Nat.mul_comm, Nat.add_comm]

end Go.Proofs.Ytdemlifjhlpclaa
