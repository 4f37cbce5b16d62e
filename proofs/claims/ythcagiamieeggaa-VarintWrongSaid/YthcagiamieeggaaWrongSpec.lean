/-
  Plain mathematics: forms that are wrong.
-/
import Derived.Test.YthcagiamieeggaaAllSpec
namespace Go.Proofs.Ythcagiamieeggaa.Vi

theorem rd_run : ∀ (L t : List Nat) (i x : Nat), (∀ c ∈ L, 128 ≤ c) → i + L.length ≤ 9 → ∃ x', rd (L ++ t) i x = rd t (i + L.length) x' := by
  intro L
  induction L with
  | nil => intro t i x _ _; exact ⟨x, rfl⟩
  | cons c r ih =>
    intro t i x hc hl
    have h1 := hc c (by simp)
    simp only [List.length_cons] at hl
    obtain ⟨x', hx'⟩ := ih t (i + 1) (x + c % 128 * 128 ^ i) (fun d hd => hc d (by simp [hd])) (by omega)
    refine ⟨x', ?_⟩
    rw [List.cons_append, rd, if_neg (by omega), if_neg (by omega), if_neg (by omega), hx']
    simp only [List.length_cons]
    congr 1; omega
theorem read_run (L : List Nat) (hc : ∀ c ∈ L, 128 ≤ c) (hl : L.length ≤ 9) : read L = (0, 0, 10) := by
  obtain ⟨x', h⟩ := rd_run L [] 0 0 hc (by omega)
  rw [List.append_nil] at h
  rw [read, h]; rfl
theorem read_over (L t : List Nat) (c : Nat) (hc : ∀ c ∈ L, 128 ≤ c) (hl : L.length = 9) (h1 : 1 < c) : read (L ++ c :: t) = (0, 0, 11) := by
  obtain ⟨x', h⟩ := rd_run L (c :: t) 0 0 hc (by omega)
  rw [read, h, rd, if_pos ⟨by omega, h1⟩]
theorem read_run10 (L : List Nat) (hc : ∀ c ∈ L, 128 ≤ c) (hl : L.length = 10) : read L = (0, 0, 11) := by
  have e : L = L.take 9 ++ L[9] :: L.drop 10 := by
    conv => lhs; rw [← List.take_append_drop 9 L]
    congr 1
    rw [List.drop_eq_getElem_cons (by omega)]
  rw [e]
  exact read_over _ _ _ (fun d hd => hc d (List.mem_of_mem_take hd)) (by simp; omega) (by have := hc L[9] (List.getElem_mem _); omega)
theorem read_zero (L : List Nat) (hc : ∀ c ∈ L, 128 ≤ c) (h0 : 0 < L.length) (hl : L.length ≤ 9) : read (L ++ [0]) = (0, 0, 12) := by
  obtain ⟨x', h⟩ := rd_run L [0] 0 0 hc (by omega)
  rw [read, h, rd, if_neg (by omega), if_pos ⟨by omega, rfl⟩]
theorem or128 (c : Nat) (h : c < 256) : 128 ≤ c ||| 128 ∧ c ||| 128 < 256 := by
  refine ⟨Nat.right_le_or, ?_⟩
  exact Nat.or_lt_two_pow (n := 8) h (by decide)
theorem or128' (c : Nat) (h : c < 256) : 128 ≤ 128 ||| c ∧ 128 ||| c < 256 := by rw [Nat.or_comm]; exact or128 c h
/-- All bytes of a form but the last one have 128 added. -/
theorem form_more (x : Nat) : ∀ (j c : Nat), (form x)[j]? = some c → j + 1 < (form x).length → 128 ≤ c := by
  induction x using Nat.strongRecOn with
  | _ x ih =>
    intro j c hj hl
    by_cases hx : x < 128
    · rw [form_small hx] at hl; simp at hl
    · rw [form_big (by omega)] at hj hl
      cases j with
      | zero => simp at hj; omega
      | succ j =>
        simp only [List.getElem?_cons_succ] at hj
        simp only [List.length_cons] at hl
        exact ih (x / 128) (by omega) j c hj (by omega)

end Go.Proofs.Ythcagiamieeggaa.Vi
