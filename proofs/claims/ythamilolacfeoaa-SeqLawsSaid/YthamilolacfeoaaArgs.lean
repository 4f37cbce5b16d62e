/-
  Slices of numbers that come in.
-/
import Derived.OpenShut
import Derived.Test.YthamilolacfeoaaWords
namespace Go.Proofs.Ythamilolacfeoaa
open Go.RowKit

/-- What is known of a slice of integers that came in: it is nil, or it leads to a row of cells. -/
def IsRow (k : IntKind) (w : World) (a : Option Addr) (len cap : Nat) (zs : List Int) : Prop :=
  (a = none ∧ len = 0 ∧ cap = 0 ∧ zs = []) ∨
  ∃ x, a = some x ∧ len ≤ cap ∧ cap ≤ maxLen ∧ zs.length = cap ∧ (∀ i, i < zs.length → w.cell? (x.add i) = some (.int k (zs.getD i 0))) ∧ ∀ n ∈ zs, (Lit.int k n).wf = true

theorem row_seen {k : IntKind} {w : World} {a : Option Addr} {len cap : Nat} {zs : List Int} (top : Nat) (hk : ∀ n : Int, (Lit.int k n).wf = true → 0 ≤ n ∧ n < top) (h : IsRow k w a len cap zs) :
    ∃ xs : List Nat, xs.length = len ∧ Seen w w.heap.size k a xs ∧ (∀ x ∈ xs, x < top) ∧ len ≤ cap ∧ cap ≤ maxLen := by
  rcases h with ⟨rfl, rfl, rfl, rfl⟩ | ⟨x, rfl, hl, hm, hz, hcell, hwz⟩
  · exact ⟨[], rfl, Seen.nil _ _ _ _, by simp, Nat.le_refl _, by unfold maxLen; omega⟩
  · have hbd : ∀ i, i < cap → 0 ≤ zs.getD i 0 ∧ zs.getD i 0 < top := fun i hi => by
      rw [List.getD_eq_getElem?_getD, List.getElem?_eq_getElem (by omega)]
      exact hk _ (hwz _ (List.getElem_mem _))
    refine ⟨(List.range len).map fun i => (zs.getD i 0).toNat, by simp, fun i y hy => ?_, fun y hy => ?_, hl, hm⟩
    · have hi : i < len := by have := (List.getElem?_eq_some_iff.1 hy).1; simpa using this
      have hy2 : y = (zs.getD i 0).toNat := by simp [hi] at hy; simpa using hy.symm
      have hc := hcell i (by omega)
      obtain ⟨b, off, spot⟩ := x
      have hs : spot = none := by simpa [Addr.add] using World.cell?_spot (hcell 0 (by omega))
      subst hs
      have hb := hbd i (by omega)
      have e : ((⟨b, off, none⟩ : Addr).add i) = ⟨b, off + i, none⟩ := by
        unfold Addr.add; split
        · rename_i h0; subst h0; rfl
        · rfl
      rw [e] at hc
      refine ⟨b, off, rfl, ?_, ?_⟩
      · rcases Nat.lt_or_ge b w.heap.size with h | h
        · exact h
        · simp [World.cell?, Array.getElem?_eq_none h] at hc
      · rw [hc, hy2]; congr 2; omega
    · simp only [List.mem_map, List.mem_range] at hy
      obtain ⟨i, hi, rfl⟩ := hy
      have := hbd i (by omega)
      omega
theorem row_u8 {w : World} {a : Option Addr} {len cap : Nat} {zs : List Int} (h : IsRow .u8 w a len cap zs) :
    ∃ xs : List Nat, xs.length = len ∧ Seen w w.heap.size .u8 a xs ∧ (∀ x ∈ xs, x < 256) ∧ len ≤ cap ∧ cap ≤ maxLen :=
  row_seen 256 (fun n hn => by have := bounds_u8 hn; omega) h
theorem row_u64 {w : World} {a : Option Addr} {len cap : Nat} {zs : List Int} (h : IsRow .u64 w a len cap zs) :
    ∃ xs : List Nat, xs.length = len ∧ Seen w w.heap.size .u64 a xs ∧ (∀ x ∈ xs, x < 2 ^ 64) ∧ len ≤ cap ∧ cap ≤ maxLen :=
  row_seen (2 ^ 64) (fun n hn => by have := bounds_u64 hn; omega) h

end Go.Proofs.Ythamilolacfeoaa
