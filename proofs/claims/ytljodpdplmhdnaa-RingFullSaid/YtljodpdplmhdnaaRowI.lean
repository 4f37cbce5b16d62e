/-
  Rows of slots, and slots that are compared.
-/
import Derived.Test.YtljodpdplmhdnaaTakeI
import Derived.Laws.StructEq
namespace Go.Proofs.Ytljodpdplmhdnaa
namespace RI
open Go.RowKit
set_option linter.unusedVariables false

/-- A row of slots of its own. -/
def Sl (w : World) (base : Nat) (a : Option Addr) (m c : Nat) (l : List RV) : Prop := w.ownsRow base 34 2 (.slice a m c) m (flatR l)
theorem sl_form {w : World} {base m : Nat} {v : Value} {l : List RV} (h : w.ownsRow base 34 2 v m (flatR l)) : ∃ a c, v = .slice a m c ∧ Sl w base a m c l ∧ l.length = m := by
  have hl : l.length = m := by have := h.1; rw [flatR_len] at this; omega
  rcases h.2 with ⟨rfl, rfl⟩ | ⟨g, cap, cur, rfl, hg, hh, h1, h2, _⟩
  · exact ⟨none, 0, rfl, h, hl⟩
  · exact ⟨_, cap, rfl, h, hl⟩
theorem Sl.len {w : World} {base : Nat} {a : Option Addr} {m c : Nat} {l : List RV} (h : Sl w base a m c l) : l.length = m := by
  have := h.1
  rw [flatR_len] at this
  omega
theorem Sl.at {w : World} {base : Nat} {a : Option Addr} {m c : Nat} {l : List RV} (h : Sl w base a m c l) {i : Nat} {p : RV} (hp : l[i]? = some p) : ∃ g, a = some ⟨g, 0, none⟩ ∧ w.cell? ⟨g, i * 2, none⟩ = some (.int .i64 p.1) ∧ w.cell? ⟨g, i * 2 + 1, none⟩ = some (.int .i64 p.2) := by
  have hl : i < l.length := (List.getElem?_eq_some_iff.1 hp).1
  have hn := h.len
  rcases h.2 with ⟨h0, h1⟩ | ⟨g, cap, cur, hv, _, hh, _⟩
  · omega
  · injection hv with hv1 _ hv2
    subst hv1
    subst hv2
    refine ⟨g, rfl, ?_, ?_⟩
    · rw [h.cellAt (i * 2) (by omega)]; exact flatR_fst l i p hp
    · rw [h.cellAt (i * 2 + 1) (by omega)]; exact flatR_snd l i p hp
theorem Sl.ge {w : World} {base : Nat} {a : Option Addr} {m c : Nat} {l : List RV} (h : Sl w base a m c l) {g : Nat} (hg : a = some ⟨g, 0, none⟩) : base ≤ g := by
  rcases h.2 with ⟨h0, _⟩ | ⟨g', cap, cur, hv, hb, _⟩
  · injection h0 with h0; rw [hg] at h0; cases h0
  · injection hv with hv1; rw [hg] at hv1; cases hv1; exact hb
/-- A row apart from a ring. -/
def Apart (S : Nat → Prop) (a : Option Addr) : Prop := ∀ g, a = some ⟨g, 0, none⟩ → ¬ S g
theorem Sl.keep {w w' : World} {base : Nat} {a : Option Addr} {m c : Nat} {l : List RV} {S : Nat → Prop} (h : Sl w base a m c l) (hk : Chg S w w') (hS : Apart S a) : Sl w' base a m c l := by
  refine ⟨h.1, ?_⟩
  rcases h.2 with h2 | ⟨g, cap, cur, hv, hg, hh, h3⟩
  · exact .inl h2
  · refine .inr ⟨g, cap, cur, hv, hg, hk.at_block hh ?_, h3⟩
    injection hv with hv1
    exact hS g hv1
theorem Sl.below {w w' : World} {base : Nat} {a : Option Addr} {m c : Nat} {l : List RV} (h : Sl w base a m c l) (hb : Below w.heap.size w w') : Sl w' base a m c l := h.keep (Chg.of_below (fun _ => False) hb) fun _ _ h => h
theorem Sl.apart {w : World} {base : Nat} {a : Option Addr} {m c : Nat} {l : List RV} {S : Nat → Prop} (h : Sl w base a m c l) (hS : ∀ k, S k → k < base) : Apart S a := fun g e hs => by
  rcases h.2 with ⟨h0, _⟩ | ⟨g', cap, cur, hv, hg, _⟩
  · injection h0 with h0; rw [e] at h0; cases h0
  · injection hv with hv1; rw [e] at hv1; cases hv1; have := hS g hs; omega
theorem Sl.apart_then {w : World} {base : Nat} {a : Option Addr} {m c : Nat} {l : List RV} {S S' : Nat → Prop} (h : Sl w base a m c l) (hA : Apart S a) (hS : ∀ k, S' k → S k ∨ w.heap.size ≤ k) : Apart S' a := fun g e hs => by
  rcases hS g hs with h1 | h1
  · exact hA g e h1
  · rcases h.2 with ⟨h0, _⟩ | ⟨g', cap, cur, hv, hg, hh, _⟩
    · injection h0 with h0; rw [e] at h0; cases h0
    · injection hv with hv1; rw [e] at hv1; cases hv1; have := (Array.getElem?_eq_some_iff.1 hh).1; omega

set_option maxRecDepth 100000 in
theorem run_eq_slot (x y : Int) (a b : Int) (w : World) : (Op.equalIn 10000 34 (.agg #[.int .i64 x, .int .i64 a]) (.agg #[.int .i64 y, .int .i64 b])).run Try.prog w = .ok (x == y && (a == b)) w := by
  have hU : Try.prog.underlying 34 = some (.struct (Try.prog.fieldsOf 34)) := by kernel_rfl
  have hF : (Try.prog.fieldsOf 34).toList.map (fun f => (f.name, f.type, f.offset)) = [("Item", 3, 0), ("Before", 3, 1)] := by kernel_rfl
  have hx : ∀ (w : World), (Op.equalIn 9999 3 (.int .i64 x) (.int .i64 y)).run Try.prog w = .ok (x == y) w := fun w => run_equalIn_int (P := Try.prog) w 9998 3 .i64 .i64 x y Try.underlying3
  have hi : ∀ (a b : Int) (w : World), (Op.equalIn 9999 3 (.int .i64 a) (.int .i64 b)).run Try.prog w = .ok (a == b) w := fun a b w => run_equalIn_int (P := Try.prog) w 9998 3 .i64 .i64 a b Try.underlying3
  show (Op.equalIn (9999 + 1) _ _ _).run _ _ = _
  rw [run_equalIn_struct w 9999 _ _ _ hU (by kernel_rfl)]
  obtain ⟨f0, f1, hl⟩ : ∃ f0 f1, (Try.prog.fieldsOf 34).toList = [f0, f1] := by
    have hlen : (Try.prog.fieldsOf 34).toList.length = 2 := by kernel_rfl
    match (Try.prog.fieldsOf 34).toList, hlen with
    | [f0, f1], _ => exact ⟨f0, f1, rfl⟩
  rw [hl] at hF ⊢
  simp only [List.map_cons, List.map_nil, List.cons.injEq, Prod.mk.injEq, and_true] at hF
  obtain ⟨⟨a0, b0, d0⟩, ⟨a1, b1, d1⟩⟩ := hF
  simp only [Op.eqFields, a0, b0, d0, a1, b1, d1]
  simp [part, Try.underlying3, Try.underlying3, run_underlying, isAgg, hi, go_sem]
  (repeat' split) <;> simp_all
end RI
end Go.Proofs.Ytljodpdplmhdnaa
