/-
  Words that are joined are split again.
-/
import Derived.Test.YtainjicbmjfnkaaDoorNumDec
import Derived.Test.YtainjicbmjfnkaaDoorSplit
import Derived.Test.YtainjicbmjfnkaaDoorJoinS
namespace Go.Proofs.YtainjicbmjfnkaaDoor
open Go.RowKit
set_option linter.unusedVariables false
namespace Ev
theorem index_no (c : UInt8) : ∀ x : List UInt8, c ∉ x → Lib.index x [c] = -1
  | [], _ => by simp [Lib.index]
  | b :: l, h => by
    have hb : c ≠ b := fun e => h (by rw [e]; exact List.mem_cons_self)
    have hl : c ∉ l := fun e => h (List.mem_cons_of_mem _ e)
    rw [Lib.index]
    simp [List.isPrefixOf, hb, index_no c l hl]
theorem index_at (c : UInt8) (r : List UInt8) : ∀ x : List UInt8, c ∉ x → Lib.index (x ++ c :: r) [c] = (x.length : Int)
  | [], _ => by simp [Lib.index, List.isPrefixOf]
  | b :: l, h => by
    have hb : c ≠ b := fun e => h (by rw [e]; exact List.mem_cons_self)
    have hl : c ∉ l := fun e => h (List.mem_cons_of_mem _ e)
    rw [List.cons_append, Lib.index, index_at c r l hl]
    simp [List.isPrefixOf, hb]

theorem splitK_join (c : UInt8) : ∀ (ws : List (List UInt8)) (k : Nat), ws ≠ [] → (∀ x ∈ ws, c ∉ x) → ws.length ≤ k + 1 → Lib.splitK [c] 0 k (Lib.join ws [c]) = ws
  | [], _, h, _, _ => absurd rfl h
  | [x], k, _, h, _ => by
    rw [Lib.join_one]
    have hx := index_no c x (h x (by simp))
    cases k with
    | zero => rfl
    | succ k => unfold Lib.splitK; rw [hx]; rfl
  | x :: y :: r, k, _, h, hl => by
    have hj : Lib.join (x :: y :: r) [c] = x ++ c :: Lib.join (y :: r) [c] := by
      rw [Lib.join_cons, Lib.join_cons]
      simp [Lib.joinTail]
    have hx := index_at c (Lib.join (y :: r) [c]) x (h x (by simp))
    cases k with
    | zero => simp at hl
    | succ k =>
      rw [hj]
      unfold Lib.splitK
      have hne : ((x.length : Int) == -1) = false := by simp
      rw [hx, hne]
      have ih := splitK_join c (y :: r) k (by simp) (fun z hz => h z (List.mem_cons_of_mem _ hz)) (by simp at hl ⊢; omega)
      simp [ih]
theorem join_ge (c : UInt8) : ∀ ws : List (List UInt8), ws ≠ [] → ws.length ≤ (Lib.join ws [c]).length + 1
  | [], h => absurd rfl h
  | [x], _ => by simp
  | x :: y :: r, _ => by
    have ih := join_ge c (y :: r) (by simp)
    have hj : Lib.join (x :: y :: r) [c] = x ++ c :: Lib.join (y :: r) [c] := by
      rw [Lib.join_cons, Lib.join_cons]
      simp [Lib.joinTail]
    rw [hj]
    simp only [List.length_append, List.length_cons] at ih ⊢
    omega
theorem wordsOf_join (ws : List (List UInt8)) (h0 : ws ≠ []) (h9 : ws.length ≤ 9) (h : ∀ x ∈ ws, (32 : UInt8) ∉ x) : wordsOf (Lib.join ws [32]) = ws := by
  unfold wordsOf Lib.splitN
  refine splitK_join 32 ws _ h0 h ?_
  have := join_ge 32 ws h0
  omega
theorem dec_no_space (u : Nat) : (32 : UInt8) ∉ Lib.decDigits u := by
  induction u using Nat.strongRecOn with
  | _ u ih =>
    have hd : ∀ d, d < 10 → (32 : UInt8) ≠ UInt8.ofNat (48 + d) := by
      intro d hd e
      have := congrArg UInt8.toNat e
      simp at this
      omega
    rw [Lib.decDigits]
    split
    · rename_i h
      intro hm
      exact hd u h (List.mem_singleton.1 hm)
    · rename_i h
      intro hm
      rcases List.mem_append.1 hm with hm | hm
      · exact ih (u / 10) (by omega) hm
      · exact hd (u % 10) (by omega) (List.mem_singleton.1 hm)
theorem kname_no_space : ∀ k : Fin 256, (32 : UInt8) ∉ kname k.val := by decide +kernel
end Ev
end Go.Proofs.YtainjicbmjfnkaaDoor
