/-
  Find.
-/
import Derived.Test.YtainjicbmjfnkaaDoorName
namespace Go.Proofs.YtainjicbmjfnkaaDoor
open Go.RowKit
set_option linter.unusedVariables false

namespace Ev
/-- What Find returns. -/
def FindOut (s : ByteArray) (k : Nat) (r : Bool) : Prop := (r = true ∧ 1 ≤ k ∧ k ≤ 10 ∧ s = str (kname k)) ∨ (r = false ∧ k = 0 ∧ ∀ j, 1 ≤ j → j ≤ 10 → s ≠ str (kname j))
theorem names_apart : ∀ j k : Fin 11, 1 ≤ j.val → 1 ≤ k.val → j ≠ k → kname j.val ≠ kname k.val := by decide
theorem str_inj {a b : List UInt8} (h : str a = str b) : a = b := by
  have := congrArg (fun s : ByteArray => s.data.toList) h
  simpa [str] using this
theorem str_beq (s t : ByteArray) : (s.toList == t.toList) = decide (s = t) := by
  by_cases h : s = t
  · subst h; simp
  · have h2 : s.toList ≠ t.toList := by
      intro e
      rw [ByteArray.toList_eq, ByteArray.toList_eq] at e
      apply h
      cases s with
      | mk a => cases t with
        | mk b => exact congrArg ByteArray.mk (Array.toList_inj.1 e)
    rw [decide_eq_false h]
    rw [beq_eq_false_iff_ne]
    exact h2
theorem FindOut.only {s : ByteArray} {k k' : Nat} {r r' : Bool} (h : FindOut s k r) (h' : FindOut s k' r') : k = k' ∧ r = r' := by
  rcases h with ⟨rfl, h1, h2, h3⟩ | ⟨rfl, rfl, h3⟩ <;> rcases h' with ⟨rfl, h4, h5, h6⟩ | ⟨rfl, rfl, h6⟩
  · refine ⟨?_, rfl⟩
    rcases Nat.lt_trichotomy k k' with h | h | h
    · exact absurd (str_inj (h3.symm.trans h6)) (names_apart ⟨k, by omega⟩ ⟨k', by omega⟩ h1 h4 (fun e => by have := congrArg Fin.val e; simp at this; omega))
    · exact h
    · exact absurd (str_inj (h3.symm.trans h6)) (names_apart ⟨k, by omega⟩ ⟨k', by omega⟩ h1 h4 (fun e => by have := congrArg Fin.val e; simp at this; omega))
  · exact absurd h3 (h6 k h1 h2)
  · exact absurd h6 (h3 k' h4 h5)
  · exact ⟨rfl, rfl⟩
end Ev
set_option maxRecDepth 100000 in
set_option maxHeartbeats 1000000 in
theorem find_any (s : ByteArray) (k0 : Nat) (r0 : Bool) (hr : Ev.FindOut s k0 r0) (w : World) (hE : Ev.HE w) : Calls Tryd.prog 24 #[.string s] w fun e w' => e = .returned (.tuple #[.int .u8 k0, .bool r0]) ∧ w' = w := by
  have HR := Lib.hid hr
  have HEW : Hid (Ev.HE w) := hE
  clear hr hE
  go_enter Tryd.func24, Tryd.ntmps24
  go_wp2
  go_loopw [4] (fun s4 wr => ∃ k : Nat, 1 ≤ k ∧ k ≤ 11 ∧ s4 = .int .u8 k ∧ Hid (∀ j, 1 ≤ j → j < k → s ≠ Ev.str (Ev.kname j)) ∧ w = wr) (fun i _ => 11 - (intOf i).toNat)
  case atStart => exact ⟨1, by omega, by omega, rfl, Lib.hid (fun j h1 h2 => by omega), rfl⟩
  case round =>
    obtain ⟨k, h1, h2, rfl, HN, rfl⟩ := hrel
    have HK6 : Hid (k < 256) := by show _ < _; omega
    by_cases h3 : k ≤ 10
    · have HT : Hid (decide (1 ≤ k ∧ k ≤ 10) = true) := by show _ = _; simp; omega
      obtain ⟨c0, _⟩ := HEW.out.kind h1 h3
      have hk11 : (k : Int) < 11 := by omega
      have c1 : w.cell? ⟨0, k * 2, none⟩ = some (.string (Ev.str (Ev.kname k))) := by rw [Nat.mul_comm]; exact c0
      have hkw : IntKind.u8.wrap ((k : Int) + 1) = (k : Int) + 1 := by rw [IntKind.wrap_u8]; omega
      by_cases hs : s = Ev.str (Ev.kname k)
      · have hb : ((Ev.str (Ev.kname k)).toList == s.toList) = true := by rw [Ev.str_beq, decide_eq_true_eq]; exact hs.symm
        have HO := Ev.FindOut.only HR.out (.inl ⟨rfl, h1, h3, hs⟩)
        obtain ⟨rfl, rfl⟩ := HO
        clear c0 hs
        go_wp2_with (go_at_call 43; ((with_reducible refine (known_any _ HK6.out true HT.out w).mono ?_); rintro e w' ⟨rfl, rfl⟩))
        go_ret2
        exact ⟨rfl, rfl⟩
      · have hb : ((Ev.str (Ev.kname k)).toList == s.toList) = false := by rw [Ev.str_beq, decide_eq_false_iff_not]; exact fun e => hs e.symm
        have HN2 : Hid (∀ j, 1 ≤ j → j < k + 1 → s ≠ Ev.str (Ev.kname j)) := fun j hj1 hj2 => by
          rcases Nat.lt_or_ge j k with h | h
          · exact HN.out j hj1 h
          · rw [show j = k by omega]; exact hs
        clear c0 hs
        go_wp2_with (go_at_call 43; ((with_reducible refine (known_any k HK6.out true HT.out w).mono ?_); rintro e w' ⟨rfl, rfl⟩))
        exact ⟨⟨k + 1, by omega, by omega, rfl, HN2, trivial⟩, by simp [intOf]; omega⟩
    · obtain rfl : k = 11 := by omega
      have HT : Hid (decide (1 ≤ 11 ∧ 11 ≤ 10) = false) := by show _ = _; decide
      have HO := Ev.FindOut.only HR.out (.inr ⟨rfl, rfl, fun j hj1 hj2 => HN.out j hj1 (by omega)⟩)
      obtain ⟨rfl, rfl⟩ := HO
      have HP : Hid (Calls Tryd.prog 43 #[.int .u8 11] w fun e w' => e = .returned (.bool false) ∧ w' = w) := known_any 11 HK6.out false HT.out w
      clear h1 h2 h3
      go_wp2_with (go_at_call 43; ((with_reducible refine HP.out.mono ?_); rintro e w' ⟨rfl, rfl⟩))
      go_ret2
      exact ⟨rfl, rfl⟩
end Go.Proofs.YtainjicbmjfnkaaDoor
