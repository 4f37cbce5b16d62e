/-
  A number's digits are read as the number.
-/
import Derived.Test.YtainjicbmjfnkaaDoorNum
namespace Go.Proofs.YtainjicbmjfnkaaDoor
open Go.RowKit
set_option linter.unusedVariables false
namespace Ev
theorem parse_snoc (M : Nat) (c : UInt8) : ∀ (l : List UInt8) (acc v : Nat), Lib.parseUintM M acc l = .ok v → Lib.parseUintM M acc (l ++ [c]) = Lib.parseUintM M v [c]
  | [], acc, v, h => by
    simp only [Lib.parseUintM] at h
    cases h
    rfl
  | d :: r, acc, v, h => by
    rw [List.cons_append]
    unfold Lib.parseUintM at h ⊢
    split at h
    · rename_i h1
      rw [if_pos h1]
      split at h
      · cases h
      · rename_i h2
        rw [if_neg h2]
        split at h
        · cases h
        · rename_i h3
          rw [if_neg h3]
          exact parse_snoc M c r _ v h
    · cases h
theorem parse_digit (M v d : Nat) (hd : d < 10) (hv : v * 10 + d ≤ M) (hv2 : v < 1844674407370955162) : Lib.parseUintM M v [UInt8.ofNat (48 + d)] = .ok (v * 10 + d) := by
  have hn : (UInt8.ofNat (48 + d)).toNat = 48 + d := by simp; omega
  unfold Lib.parseUintM
  rw [hn, if_pos ⟨by omega, by omega⟩, if_neg (by omega), if_neg (by omega)]
  unfold Lib.parseUintM
  rw [show v * 10 + (48 + d - 48) = v * 10 + d by omega]
theorem parse_dec (M : Nat) (hM : M ≤ 18446744073709551615) (u : Nat) (hu : u ≤ M) : Lib.parseUintM M 0 (Lib.decDigits u) = .ok u := by
  induction u using Nat.strongRecOn with
  | _ u ih =>
    by_cases h : u < 10
    · rw [Lib.decDigits, dif_pos h]
      have := parse_digit M 0 u h (by omega) (by omega)
      simpa using this
    · rw [Lib.decDigits, dif_neg h, parse_snoc M _ _ 0 (u / 10) (ih (u / 10) (by omega) (by omega)), parse_digit M (u / 10) (u % 10) (by omega) (by omega) (by omega)]
      congr 1
      omega
theorem num_dec (u : Nat) (hu : u < 18446744073709551616) : num (Lib.decDigits u) = some u := by
  have hne : Lib.decDigits u ≠ [] := by
    intro h
    have := Lib.decDigits_length u
    rw [h] at this
    have := Lib.nDigits_pos u
    simp at *
    omega
  unfold num Lib.parseUintB
  rw [if_neg hne, parse_dec (2 ^ 64 - 1) (by decide) u (by omega)]
theorem num_itoa (u : Nat) (hu : u < 18446744073709551616) : num (Lib.itoa (u : Int)) = some u := by rw [Lib.itoa_nonneg, num_dec u hu]
end Ev
end Go.Proofs.YtainjicbmjfnkaaDoor
