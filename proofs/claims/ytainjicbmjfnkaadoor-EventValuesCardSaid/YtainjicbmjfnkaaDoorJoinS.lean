/-
  The words of an event's text, joined.
-/
import Derived.Test.YtainjicbmjfnkaaDoorRowS
import Derived.Lib.ItoaLen
namespace Go.Proofs.YtainjicbmjfnkaaDoor
open Go.RowKit
set_option linter.unusedVariables false

theorem joinTail_len (sep : List UInt8) (M : Nat) : ∀ r : List (List UInt8), (∀ x ∈ r, x.length ≤ M) → (Lib.joinTail sep r).length ≤ r.length * (sep.length + M)
  | [], _ => by simp [Lib.joinTail]
  | x :: r, h => by
    have h1 := joinTail_len sep M r (fun y hy => h y (by simp [hy]))
    have h2 := h x (by simp)
    simp only [Lib.joinTail, List.map_cons, List.flatten_cons, List.length_append, List.length_cons, Nat.succ_mul] at h1 ⊢
    omega
theorem join_len (xs : List (List UInt8)) (sep : List UInt8) (M : Nat) (h : ∀ x ∈ xs, x.length ≤ M) : (Lib.join xs sep).length ≤ xs.length * (sep.length + M) := by
  cases xs with
  | nil => simp [Lib.join_nil]
  | cons x r =>
    rw [Lib.join_cons, List.length_append]
    have h1 := joinTail_len sep M r (fun y hy => h y (by simp [hy]))
    have h2 := h x (by simp)
    simp only [List.length_cons, Nat.succ_mul]
    omega
/-- strings.Join at an owned row of texts. -/
theorem join_words (ws : List (List UInt8)) (m : Nat) (hm : ws.length = m) (h0 : 0 < m) (hl : m ≤ 100) (hM : ∀ x ∈ ws, x.length ≤ 100) (v : Value) (base : Nat) (w : World) (hrow : w.ownsRow base 9 1 v m (ws.map strV)) :
    ∃ g cap, v = .slice (some ⟨g, 0, none⟩) m cap ∧ Calls Tryd.prog 41 #[.slice (some ⟨g, 0, none⟩) m cap, .string ⟨#[32]⟩] w fun e w' => e = .returned (.string (Ev.str (Lib.join ws [32]))) ∧ Below w.heap.size w w' := by
  subst hm
  rcases hrow.2 with ⟨_, h0'⟩ | ⟨g, cap, cur, rfl, hg, hh, h1, h2, _⟩
  · omega
  refine ⟨g, cap, rfl, ?_⟩
  have hmm : (ws.map Ev.str).map (fun x : ByteArray => x.data.toList) = ws := by
    rw [List.map_map]; exact (List.map_congr_left fun d _ => by simp [Ev.str]).trans (List.map_id _)
  have hJ := Tryd.strings_Join g 0 cap (ws.map Ev.str) ⟨#[32]⟩ w (fun j x hx => by
      have hc := hrow.cells (g := g) rfl j (.string x) (by rw [List.getElem?_map] at hx ⊢; cases h : ws[j]? with
        | none => rw [h] at hx; cases hx
        | some d => rw [h] at hx; cases hx; rfl)
      rw [Nat.zero_add]
      by_cases hj : j = 0
      · subst hj; simpa [Addr.add] using hc
      · simpa [Addr.add, hj] using hc) (hrow.lt g rfl).2 (by rw [List.length_map]; omega) (by rw [List.length_map]; exact h1) (by
      rw [hmm]
      have := join_len ws [32] 100 hM
      simp only [List.length_singleton] at this
      show (Lib.join _ [32]).length ≤ _
      omega)
  rw [hmm, List.length_map] at hJ
  exact hJ

namespace Ev
/-- The words of an event's text. -/
def head (sq tm : Int) (cp kd : Nat) : List (List UInt8) := [Lib.itoa sq, Lib.itoa tm, Lib.itoa cp, kname kd]
def text (sq tm : Int) (cp kd : Nat) (vs : List Nat) : List UInt8 := Lib.join (head sq tm cp kd ++ vs.map Lib.decDigits) [32]
theorem kname_len : ∀ k : Fin 256, (kname k.val).length ≤ 20 := by decide +kernel
theorem val_lt {tk gr to_ wg tc : Int} {mk : Nat} {gt : Int} (hmk : mk < 2 ^ 64) (f : Nat) : val tk gr to_ wg tc mk gt f < 18446744073709551616 := by
  unfold val
  split
  · omega
  · rw [IntKind.wrap_u64]; omega
theorem vals_lt {kd : Nat} {tk gr to_ wg tc : Int} {mk : Nat} {gt : Int} (hmk : mk < 2 ^ 64) : ∀ x ∈ vals kd tk gr to_ wg tc mk gt, x < 18446744073709551616 := by
  intro x hx
  obtain ⟨f, _, rfl⟩ := List.mem_map.1 hx
  exact val_lt hmk f
theorem vals_len {kd : Nat} {tk gr to_ wg tc : Int} {mk : Nat} {gt : Int} (hk : kd < 256) : (vals kd tk gr to_ wg tc mk gt).length ≤ 4 := by
  have h := kfs_len ⟨kd, hk⟩
  simp only [vals, List.length_map]
  exact h
theorem words_len {sq tm : Int} {cp kd : Nat} (hs : I64 sq) (ht : I64 tm) (hc : cp < 256) (hk : kd < 256) {vs : List Nat} (hv : ∀ x ∈ vs, x < 18446744073709551616) : ∀ x ∈ head sq tm cp kd ++ vs.map Lib.decDigits, x.length ≤ 100 := by
  intro x hx
  rcases List.mem_append.1 hx with h | h
  · simp only [head, List.mem_cons, List.not_mem_nil, or_false] at h
    rcases h with rfl | rfl | rfl | rfl
    · have := Lib.itoa_length_le sq hs.1 hs.2; omega
    · have := Lib.itoa_length_le tm ht.1 ht.2; omega
    · have := Lib.itoa_length_le (cp : Int) (by omega) (by omega); omega
    · have h := kname_len ⟨kd, hk⟩; simp only at h; omega
  · obtain ⟨d, hd, rfl⟩ := List.mem_map.1 h
    rw [Lib.decDigits_length]
    have := Lib.nDigits_le20 d (hv d hd)
    omega
end Ev
end Go.Proofs.YtainjicbmjfnkaaDoor
