/-
  append of bytes; Open of sealed bytes.
-/
import Derived.Test.YtoecddkglenigaaDoorRSealed
import Derived.Test.YtoecddkglenigaaDoorConcat
import Derived.Test.YtoecddkglenigaaDoorFind
import Derived.Deep.QuietTactic
import Derived.BigQuiet
namespace Go.Proofs.YtoecddkglenigaaDoor
open Go.RowKit
set_option linter.unusedVariables false

/-- append of bytes to an owned row. -/
theorem app_bytes (w : World) {ops : Array Oper} {rest : List Oper} {o : Oper} {a : Act} {Q : Exit → Act → World → Prop}
    (hg : o.guard = none) (s x : Operand) (hop : o.op = Op.call { callee := Callee.builtin Builtin.append, args := #[s, x], argTypes := #[22, 22] })
    (base n : Nat) (v : Value) (ys : List Nat) (hs : a.eval s = v) (hown : w.ownsRow base 5 1 v n (ys.map fun x : Nat => Value.int .u8 x))
    (A : Option Addr) (m c : Nat) (xs : List Nat) (hxl : xs.length = m) (hx : a.eval x = .slice A m c) (B : Nat) (hS : Seen w B .u8 A xs) (hlen : n + m ≤ 1000000) (hb : base ≤ w.heap.size)
    (hK : ∀ v' w', w'.ownsRow base 5 1 v' (n + m) ((ys ++ xs).map fun x : Nat => Value.int .u8 x) → Below base w w' → wpList Tryd.prog ops Q rest (a.put o.dst v') w') : wpList Tryd.prog ops Q (o :: rest) a w := by
  obtain ⟨i0, hi, hz0, hz1, hz2⟩ := info_parts infoB
  by_cases hm0 : m = 0
  · have e : xs = [] := List.eq_nil_of_length_eq_zero (hxl.trans hm0)
    refine wpList_append_zero w hg s x 22 hop 5 i0 Tryd.underlying22 hi base 1 n v _ hs hown A m c hm0 hx (hK v w ?_ (Below.refl _ _))
    rw [e, hm0, List.append_nil]; exact hown
  · obtain ⟨b, off, rfl, _, _⟩ := hS.at (i := 0) (by omega)
    refine wpList_append_own w hg s x 22 hop base 5 i0 (.int .u8 0) 1 1 Tryd.underlying22 hi hz0 hz1 hz2 rfl (by decide) _ _ _ hs hown _ _ _ (xs.map fun x : Nat => Value.int .u8 x) hx (by rw [List.length_map, hxl, Nat.mul_one]) (seen_cells hS) (by intro u hu; obtain ⟨z, _, rfl⟩ := List.mem_map.1 hu; rfl) (by unfold maxLen; omega) (by omega) hb ?_
    intro v2 w2 hown2 hgrow2 _
    refine hK v2 w2 (by rw [List.map_append]; exact hown2) ?_
    exact (Below.refl base w).grown hgrow2 hb (fun k e => (hown.lt k e).1)

theorem open_t (a : Option Addr) (n cap : Nat) (xs : List Nat) (hxs : ∀ y ∈ xs, y < 256) (hn : xs.length = n) (hlen : n ≤ 304) (hcap : n ≤ cap) (w : World) (B : Nat) (hS : Seen w B .u8 a xs) (hBw : B ≤ w.heap.size) (hT : HT w) (hr : decide (4 ≤ n ∧ Crc.upd 0 xs = 558161692) = true) :
    Calls Tryd.prog 36 #[.slice a n cap] w fun e w' => ∃ A c m, e = .returned (.tuple #[.slice A m c, .int .i64 0]) ∧ n - 4 = m ∧ w'.ownsRow w.heap.size 5 1 (.slice A m c) m ((xs.take m).map fun x : Nat => Value.int .u8 x) ∧ Below w.heap.size w w' := by
  have h4 : 4 ≤ n := by simp at hr; exact hr.1
  obtain ⟨b0, o0, rfl⟩ : ∃ b0 o0, a = some ⟨b0, o0, none⟩ := by obtain ⟨b0, o0, e, _, _⟩ := hS.at (i := 0) (by omega); exact ⟨b0, o0, e⟩
  refine (open_yes b0 o0 n cap xs hxs hn (by omega) hcap w B hS hBw hT hr).mono ?_
  rintro e w' ⟨v, rfl, h1, h2⟩
  obtain ⟨A, c, rfl, _, _, _, _⟩ := own_slice h1
  exact ⟨A, c, n - 4, rfl, rfl, h1, h2⟩

end Go.Proofs.YtoecddkglenigaaDoor
