/-
  The tables of event out of the row's condition: names and fields of the kinds, names of the fields.
-/
import Derived.Test.YtainjicbmjfnkaaDoorRows
import Derived.Test.YtainjicbmjfnkaaDoorArgs
import Derived.Test.YtainjicbmjfnkaaDoorHeap
import Derived.MakeChecks
import Derived.Lib.LaidTab
import Derived.OpenShut
import Derived.ChangeArms
import Derived.DataReads
namespace Go.Proofs.YtainjicbmjfnkaaDoor
open Go.RowKit
set_option linter.unusedVariables false

namespace Ev
/-- The names and the fields of the kinds. -/
def tab : List (List UInt8 × List Nat) := [([], []), ([115, 112, 97, 119, 110], [0, 1, 3, 5]), ([119, 97, 107, 101], [0]), ([98, 108, 111, 99, 107], [6]), ([101, 120, 105, 116], [6]), ([116, 105, 99, 107], [4, 6]), ([112, 105, 99, 107], [6]),
  ([114, 101, 119, 101, 105, 103, 104, 116], [0, 3]), ([114, 101, 103, 114, 111, 117, 112], [1, 3]), ([109, 105, 103, 114, 97, 116, 101], [0, 2]), ([98, 97, 108, 97, 110, 99, 101], [6])]
def names : List (List UInt8) := [[116, 97, 115, 107], [103, 114, 111, 117, 112], [116, 111], [119, 101, 105, 103, 104, 116], [116, 105, 99, 107, 115], [109, 97, 115, 107], [103, 111, 116]]
def str (l : List UInt8) : ByteArray := ⟨l.toArray⟩
theorem str_of {s : ByteArray} {l : List UInt8} (h : s.data.toList = l) : s = str l := by
  cases s with
  | mk a => exact congrArg ByteArray.mk (by rw [← h])
/-- The tables as they lie in a world. -/
def KindAt (w : World) (k : Nat) (nm : List UInt8) (fs : List Nat) : Prop := w.cell? ⟨0, 2 * k, none⟩ = some (.string (str nm)) ∧
  ∃ a c, w.cell? ⟨0, 2 * k + 1, none⟩ = some (.slice a fs.length c) ∧ Seen w w.heap.size .u8 a fs ∧ fs.length ≤ c ∧ c ≤ maxLen
def HE (w : World) : Prop := 1 < w.heap.size ∧ (∀ k nm fs, tab[k]? = some (nm, fs) → KindAt w k nm fs) ∧ ∀ (i : Nat) (nm : List UInt8), names[i]? = some nm → w.cell? ⟨1, i, none⟩ = some (.string (str nm))
theorem HE.below {w w' : World} (h : HE w) (hb : Below w.heap.size w w') : HE w' := by
  refine ⟨Nat.lt_of_lt_of_le h.1 hb.size, fun k nm fs hk => ?_, fun i nm hi => (hb.cell (p := ⟨1, i, none⟩) h.1).trans (h.2.2 i nm hi)⟩
  obtain ⟨h1, a, c, h2, h3, h4, h5⟩ := h.2.1 k nm fs hk
  have h0 : 0 < w.heap.size := Nat.lt_trans Nat.zero_lt_one h.1
  exact ⟨(hb.cell (p := ⟨0, 2 * k, none⟩) h0).trans h1, a, c, (hb.cell (p := ⟨0, 2 * k + 1, none⟩) h0).trans h2, (h3.below hb).more hb.size, h4, h5⟩
/-- The reading of a kind. -/
def datum : List UInt8 × List Nat → DataW Unit := fun x => .agg [.lit (.string x.1), if x.2 = [] then .nil else .slice (x.2.map fun z : Nat => .lit (.int .u8 z)) []]
theorem tab_datum : (.agg (tab.map datum) : DataW Unit) = Rows.laid_quantum_event_kinds := by rfl
theorem names_datum : (.agg (names.map fun l => .lit (.string l)) : DataW Unit) = Rows.laid_quantum_event_fieldNames := by rfl

theorem cell_lt {w : World} {p : Addr} {v : Value} (h : w.cell? p = some v) : p.block < w.heap.size := by
  unfold World.cell? at h
  rcases Nat.lt_or_ge p.block w.heap.size with h1 | h1
  · exact h1
  · rw [Array.getElem?_eq_none h1] at h; cases h
set_option maxRecDepth 100000 in
theorem slice_of {w : World} {fuel : Nat} {cs : List Value} {l : List Nat} {x : DataW Unit × List MemPlace} (h : DataW.trod (fun _ => ()) Tryd.prog w 0 (fun _ => true) false fuel 81 cs = some x)
    (hx : x.1 = if l = [] then .nil else .slice (l.map fun z : Nat => .lit (.int .u8 z)) []) : ∃ a c, cs = [.slice a l.length c] ∧ Seen w w.heap.size .u8 a l ∧ l.length ≤ c ∧ c ≤ maxLen := by
  rcases DataW.trod_slice Tryd.underlying81 h with ⟨rfl, rfl⟩ | ⟨a, len, cap, elems, rest, n, rfl, rfl, rfl, _, hlc, hcm, hel, hat, _⟩
  · by_cases hl : l = []
    · subst hl; exact ⟨none, 0, rfl, fun i y hy => by simp at hy, Nat.le_refl _, by unfold maxLen; omega⟩
    · rw [if_neg hl] at hx; cases hx
  · by_cases hl : l = []
    · rw [if_pos hl] at hx; cases hx
    · rw [if_neg hl] at hx
      injection hx with hx1 hx2
      have hlen : elems.length = l.length := by have := congrArg List.length hx1; simpa using this
      have key : ∀ i x, l[i]? = some x → w.cell? (a.add i) = some (.int .u8 (x : Nat)) := by
        intro i y hy
        have hi : i < l.length := (List.getElem?_eq_some_iff.1 hy).1
        have h1 := hat i (by omega)
        rw [show Tryd.prog.cellsOf 84 = 1 from by kernel_rfl, Nat.mul_one] at h1
        obtain ⟨e, he⟩ : ∃ e, elems[i]? = some e := ⟨_, List.getElem?_eq_getElem (by omega)⟩
        rw [he] at h1
        obtain ⟨cs1, hc1, ht1⟩ := Option.bind_eq_some_iff.1 h1
        obtain ⟨m, hm1, hm2, _⟩ := DataW.trod_int (k := .u8) (by kernel_rfl) ht1
        have h2 : (elems.map (·.1))[i]? = (l.map fun z : Nat => (.lit (.int .u8 z) : DataW Unit))[i]? := by rw [hx1]
        rw [List.getElem?_map, List.getElem?_map, he, hy] at h2
        simp only [Option.map_some, Option.some.injEq] at h2
        rw [hm2] at h2
        simp only [DataW.lit.injEq, Lit.int.injEq, true_and] at h2
        rw [hm1, h2] at hc1
        exact Go.ChangeShapes.cell_of_cells?_one hc1
      have hpos : 0 < l.length := List.length_pos_iff.2 hl
      obtain ⟨x0, hx0⟩ : ∃ x, l[0]? = some x := ⟨_, List.getElem?_eq_getElem hpos⟩
      have hc0 := key 0 x0 hx0
      have hspot : a.spot = none := by have := World.cell?_spot hc0; simpa [Addr.add] using this
      obtain ⟨b, o, s⟩ := a
      simp only at hspot
      subst hspot
      refine ⟨some ⟨b, o, none⟩, cap, by rw [← hlen, hel], fun i y hy => ⟨b, o, rfl, ?_, ?_⟩, by rw [← hlen, hel]; exact hlc, hcm⟩
      · have := cell_lt hc0; rw [Go.WideShapes.add_plain] at this; exact this
      · have := key i y hy; rw [Go.WideShapes.add_plain] at this; exact this
set_option maxRecDepth 100000 in
theorem kind_of {w : World} {fuel : Nat} {cs : List Value} {x : DataW Unit × List MemPlace} {nm : List UInt8} {fs : List Nat} (h : DataW.trod (fun _ => ()) Tryd.prog w 0 (fun _ => true) false fuel 82 cs = some x) (hx : x.1 = datum (nm, fs)) :
    ∃ a c, cs = [.string (str nm), .slice a fs.length c] ∧ Seen w w.heap.size .u8 a fs ∧ fs.length ≤ c ∧ c ≤ maxLen := by
  obtain ⟨xs, m, rfl, rfl, hcl, hxl, hat⟩ := DataW.trod_struct Tryd.underlying82 h
  have hcl2 : cs.length = 2 := hcl.trans (by kernel_rfl)
  obtain ⟨c0, c1, rfl⟩ : ∃ c0 c1, cs = [c0, c1] := by
    match cs, hcl2 with
    | [c0, c1], _ => exact ⟨c0, c1, rfl⟩
  obtain ⟨x0, x1, rfl⟩ : ∃ x0 x1, xs = [x0, x1] := by
    match xs, hxl with
    | [x0, x1], _ => exact ⟨x0, x1, rfl⟩
  have h0 := hat 0 _ rfl
  have h1 := hat 1 _ rfl
  simp only [List.getElem?_cons_zero, List.getElem?_cons_succ] at h0 h1
  have hx' : [x0.1, x1.1] = [.lit (.string nm), if fs = [] then .nil else .slice (fs.map fun z : Nat => .lit (.int .u8 z)) []] := by
    have := hx
    simp only [datum, List.map_cons, List.map_nil, DataW.agg.injEq] at this
    exact this
  simp only [List.cons.injEq, and_true] at hx'
  obtain ⟨s, hs, hs2, _⟩ := DataW.trod_string (by kernel_rfl) h0
  obtain ⟨a, c, hc1, h2, h3, h4⟩ := slice_of h1 hx'.2
  have e0 : c0 = .string s := by
    have : [c0].take 1 = [Value.string s] := hs
    simpa using this
  have e1 : c1 = .slice a fs.length c := by
    have : [c1].take 1 = [Value.slice a fs.length c] := hc1
    simpa using this
  have e2 : s = str nm := by
    rw [hs2] at hx'
    have := hx'.1
    simp only [DataW.lit.injEq, Lit.string.injEq] at this
    exact str_of this
  exact ⟨a, c, by rw [e0, e1, e2], h2, h3, h4⟩
set_option maxRecDepth 100000 in
theorem he_of_vars (W : World) {r1 : List (String × DataW Unit)} {ps : List MemPlace} (h : DataW.LaidVars Tryd.prog W (("quantum/event.kinds", Rows.laid_quantum_event_kinds) :: ("quantum/event.fieldNames", Rows.laid_quantum_event_fieldNames) :: r1) ps) : HE W := by
  obtain ⟨g, t, cs, fuel, p, q, hg, ht, hv, hd, ⟨g2, t2, cs2, fuel2, p2, q2, hg2, ht2, hv2, hd2, _, _⟩, _⟩ := h
  obtain rfl := Option.some.inj ((show Tryd.prog.globalNamed "quantum/event.kinds" = some 0 from by kernel_rfl).symm.trans hg)
  obtain rfl := Option.some.inj ((show (Tryd.prog.globals[0]?).map (·.type) = some 83 from by kernel_rfl).symm.trans ht)
  obtain rfl := Option.some.inj ((show Tryd.prog.globalNamed "quantum/event.fieldNames" = some 1 from by kernel_rfl).symm.trans hg2)
  obtain rfl := Option.some.inj ((show (Tryd.prog.globals[1]?).map (·.type) = some 88 from by kernel_rfl).symm.trans ht2)
  obtain ⟨xs, m, rfl, hx, hcl, hxl, hat⟩ := DataW.trod_array Tryd.underlying83 hd
  obtain ⟨xs2, m2, rfl, hx2, hcl2, hxl2, hat2⟩ := DataW.trod_array Tryd.underlying88 hd2
  have hn2 : ∀ (i : Nat) (nm : List UInt8), names[i]? = some nm → W.cell? ⟨1, i, none⟩ = some (.string (str nm)) := by
    intro i nm hi
    have hil : i < 7 := (List.getElem?_eq_some_iff.1 hi).1
    obtain ⟨e, he⟩ : ∃ e, xs2[i]? = some e := ⟨_, List.getElem?_eq_getElem (by omega)⟩
    have h1 := hat2 i hil
    rw [he, show Tryd.prog.cellsOf 9 = 1 from by kernel_rfl, Nat.mul_one] at h1
    obtain ⟨s, hs, hs2, _⟩ := DataW.trod_string (by kernel_rfl) h1
    have h3 : (xs2.map (·.1))[i]? = (names.map fun l => (.lit (.string l) : DataW Unit))[i]? := by
      have := congrArg Prod.fst hx2
      simp only at this
      rw [← names_datum, DataW.agg.injEq] at this
      rw [this]
    rw [List.getElem?_map, List.getElem?_map, he, hi, hs2] at h3
    simp only [Option.map_some, Option.some.injEq, DataW.lit.injEq, Lit.string.injEq] at h3
    have hc : cs2.toList[i]? = some (.string s) := by
      have := congrArg (·[0]?) hs
      simpa [List.getElem?_take, List.getElem?_drop] using this
    have := World.var?_cell (show Tryd.prog.globalNamed "quantum/event.fieldNames" = some 1 from by kernel_rfl) hv2 i
    rw [this, ← str_of h3]
    simpa using hc
  have h1s : 1 < W.heap.size := cell_lt (hn2 0 _ rfl)
  refine ⟨h1s, ?_, hn2⟩
  intro k nm fs hk
  have hkl : k < 11 := (List.getElem?_eq_some_iff.1 hk).1
  obtain ⟨e, he⟩ : ∃ e, xs[k]? = some e := ⟨_, List.getElem?_eq_getElem (by omega)⟩
  have h1 := hat k hkl
  rw [he, show Tryd.prog.cellsOf 82 = 2 from by kernel_rfl] at h1
  have h3 : (xs.map (·.1))[k]? = (tab.map datum)[k]? := by
    have := congrArg Prod.fst hx
    simp only at this
    rw [← tab_datum, DataW.agg.injEq] at this
    rw [this]
  rw [List.getElem?_map, List.getElem?_map, he, hk] at h3
  simp only [Option.map_some, Option.some.injEq] at h3
  obtain ⟨a, c, hc, h4, h5, h6⟩ := kind_of h1 h3
  have hcell := World.var?_cell (show Tryd.prog.globalNamed "quantum/event.kinds" = some 0 from by kernel_rfl) hv
  have e0 : cs.toList[2 * k]? = some (.string (str nm)) := by
    have := congrArg (·[0]?) hc
    simp [List.getElem?_drop] at this
    rw [Nat.mul_comm]; simpa using this
  have e1 : cs.toList[2 * k + 1]? = some (.slice a fs.length c) := by
    have := congrArg (·[1]?) hc
    simp [List.getElem?_drop] at this
    rw [Nat.mul_comm]; simpa using this
  exact ⟨by rw [hcell]; simpa using e0, a, c, by rw [hcell]; simpa using e1, h4, h5, h6⟩
end Ev
end Go.Proofs.YtainjicbmjfnkaaDoor
