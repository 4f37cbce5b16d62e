/-
  The rows that CursorBack keeps.
-/
import Derived.Test.YtdemlifjhlpclaaBack
import Derived.Test.YtdemlifjhlpclaaCAwake
namespace Go.Proofs.Ytdemlifjhlpclaa
open Go.RowKit
set_option linter.unusedVariables false

theorem row_types {w : World} {b1 b2 s1 s2 n1 n2 g : Nat} {e1 e2 : TypeId} {v1 v2 : Value} {xs1 xs2 : List Value} (h1 : w.ownsRow b1 e1 s1 v1 n1 xs1) (h2 : w.ownsRow b2 e2 s2 v2 n2 xs2) (he : e1 ≠ e2) (hg : v1.ownBlock = some g) : v2.ownBlock ≠ some g := by
  intro hg2
  rcases h1.2 with ⟨rfl, _⟩ | ⟨g1, c1, cur1, rfl, _, hh1, _⟩
  · cases hg
  · rcases h2.2 with ⟨rfl, _⟩ | ⟨g2, c2, cur2, rfl, _, hh2, _⟩
    · cases hg2
    · have e1' : g1 = g := by simpa [Value.ownBlock] using hg
      have e2' : g2 = g := by simpa [Value.ownBlock] using hg2
      subst e1'; subst e2'
      rw [hh1] at hh2
      injection hh2 with hh2
      injection hh2 with _ hh2
      exact he hh2
theorem ob_row {w : World} {B base n size g : Nat} {t e : TypeId} {at_ en : Int} {u v : Value} {xs : List Value} (h : w.heap[B]? = some (ob t at_ en u)) (ho : w.ownsRow base e size v n xs) (he : t ≠ e) (hg : v.ownBlock = some g) : g ≠ B := by
  intro e'
  subst e'
  rcases ho.2 with ⟨rfl, _⟩ | ⟨g1, c1, cur1, rfl, _, hh1, _⟩
  · cases hg
  · have e1' : g1 = g := by simpa [Value.ownBlock] using hg
    subst e1'
    rw [h] at hh1
    injection hh1 with hh1
    injection hh1 with _ hh1
    exact he hh1
/-- The cells of pieces. -/
def pcells (l : List Pc) : List Value := l.flatMap fun t => [.int .u8 t.kd, .int .u8 t.pn, .int .u64 t.X, .slice t.sa t.sn t.sc]
theorem pcells_snoc (l : List Pc) (t : Pc) : pcells (l ++ [t]) = pcells l ++ [.int .u8 t.kd, .int .u8 t.pn, .int .u64 t.X, .slice t.sa t.sn t.sc] := by simp [pcells]
theorem pcells_len (l : List Pc) : (pcells l).length = l.length * 4 := by
  induction l with
  | nil => rfl
  | cons t l ih => simp only [pcells, List.flatMap_cons, List.length_append, List.length_cons, List.length_nil] at ih ⊢; omega
theorem pcells_at {l : List Pc} {i : Nat} {t : Pc} (h : l[i]? = some t) : (pcells l)[i * 4]? = some (.int .u8 t.kd) ∧ (pcells l)[i * 4 + 1]? = some (.int .u8 t.pn) ∧ (pcells l)[i * 4 + 2]? = some (.int .u64 t.X) ∧ (pcells l)[i * 4 + 3]? = some (.slice t.sa t.sn t.sc) := by
  have hi := (List.getElem?_eq_some_iff.1 h).1
  have e : pcells l = pcells (l.take i) ++ ([.int .u8 t.kd, .int .u8 t.pn, .int .u64 t.X, .slice t.sa t.sn t.sc] ++ pcells (l.drop (i + 1))) := by
    conv => lhs; rw [← List.take_append_drop i l]
    rw [List.drop_eq_getElem_cons hi, (List.getElem?_eq_some_iff.1 h).2]
    simp [pcells]
  have hl : (pcells (l.take i)).length = i * 4 := by rw [pcells_len, List.length_take]; rw [Nat.min_eq_left (Nat.le_of_lt hi)]
  rw [e]
  refine ⟨?_, ?_, ?_, ?_⟩
  · rw [List.getElem?_append_right (by omega), hl, Nat.sub_self]; rfl
  · rw [List.getElem?_append_right (by omega), hl, Nat.add_sub_cancel_left]; rfl
  · rw [List.getElem?_append_right (by omega), hl, Nat.add_sub_cancel_left]; rfl
  · rw [List.getElem?_append_right (by omega), hl, Nat.add_sub_cancel_left]; rfl
/-- The places of pieces. -/
def places (l : List Pc) : List Value := (List.range (l.length + 1)).map fun i => .int .i64 (Pc.pos l i : Nat)
theorem pos_snoc {l : List Pc} {t : Pc} {i : Nat} (h : i ≤ l.length) : Pc.pos (l ++ [t]) i = Pc.pos l i := by
  unfold Pc.pos
  rw [List.take_append_of_le_length h]
theorem places_snoc (l : List Pc) (t : Pc) : places (l ++ [t]) = places l ++ [.int .i64 (((Pc.flat l).length + t.bytes.length : Nat) : Int)] := by
  unfold places
  rw [List.length_append, List.length_singleton, List.range_succ, List.map_append]
  congr 1
  · refine List.map_congr_left fun i hi => ?_
    rw [pos_snoc (by have := List.mem_range.1 hi; omega)]
  · have : Pc.pos (l ++ [t]) (l.length + 1) = (Pc.flat l).length + t.bytes.length := by
      have e := Pc.pos_all (l ++ [t])
      rw [List.length_append, List.length_singleton, Pc.flat_snoc, List.length_append] at e
      exact e
    simp [this]
theorem places_at (l : List Pc) {i : Nat} (h : i ≤ l.length) : (places l)[i]? = some (.int .i64 (Pc.pos l i : Nat)) := by
  unfold places
  rw [List.getElem?_map, List.getElem?_range (by omega)]
  rfl
theorem places_len (l : List Pc) : (places l).length = l.length + 1 := by simp [places]

/-- What stands while the pieces are written. -/
def Keeps (w wr : World) (B lim : Nat) (kl : List Pc) (v kv ev : Value) : Prop :=
  Wtr wr w.heap.size B lim v (Pc.flat kl) ∧ wr.ownsRow w.heap.size 39 4 kv kl.length (pcells kl) ∧ wr.ownsRow w.heap.size 3 1 ev (kl.length + 1) (places kl) ∧ Below w.heap.size w wr ∧ w.heap.size ≤ B
theorem Keeps.below {w wr w' : World} {B lim : Nat} {kl : List Pc} {v kv ev : Value} (h : Keeps w wr B lim kl v kv ev) (hb : Below wr.heap.size wr w') : Keeps w w' B lim kl v kv ev :=
  ⟨h.1.below hb, own_below h.2.1 hb, own_below h.2.2.1 hb, h.2.2.2.1.trans (hb.mono h.2.2.2.1.size), h.2.2.2.2⟩
/-- A call of the writer. -/
theorem Keeps.wrote {w wr w' : World} {B lim : Nat} {kl kl' : List Pc} {v v' kv ev : Value} (h : Keeps w wr B lim kl v kv ev) (hk : Chg (WS B v) wr w') (hW : Wtr w' w.heap.size B lim v' (Pc.flat kl')) :
    Wtr w' w.heap.size B lim v' (Pc.flat kl') ∧ w'.ownsRow w.heap.size 39 4 kv kl.length (pcells kl) ∧ w'.ownsRow w.heap.size 3 1 ev (kl.length + 1) (places kl) ∧ Below w.heap.size w w' := by
  obtain ⟨h1, h2, h3, h4, h5⟩ := h
  refine ⟨hW, own_chg h2 hk fun g hg => ?_, own_chg h3 hk fun g hg => ?_, below_ws h1 h5 h4 hk⟩
  · rintro (e | e)
    · exact ob_row h1.1 h2 (by decide) hg e
    · exact row_types h1.2.1 h2 (by decide) e hg
  · rintro (e | e)
    · exact ob_row h1.1 h3 (by decide) hg e
    · exact row_types h1.2.1 h3 (by decide) e hg
/-- One of the rows grows. -/
theorem own_grown {w w' : World} {b1 b2 s1 s2 n1 n2 : Nat} {e1 e2 : TypeId} {v1 v2 : Value} {xs1 xs2 : List Value} (h1 : w.ownsRow b1 e1 s1 v1 n1 xs1) (h2 : w.ownsRow b2 e2 s2 v2 n2 xs2) (he : e2 ≠ e1) (hg : w.grownBy w' v1.ownBlock) : w'.ownsRow b2 e2 s2 v2 n2 xs2 :=
  own_chg h2 (Chg.of_grown hg) fun g hg2 e => row_types h2 h1 he hg2 e
theorem wtr_grown {w w' : World} {base B lim b1 s1 n1 : Nat} {e1 : TypeId} {v v1 : Value} {xs : List Nat} {xs1 : List Value} (hW : Wtr w base B lim v xs) (h1 : w.ownsRow b1 e1 s1 v1 n1 xs1) (h8 : 5 ≠ e1) (ht : 85 ≠ e1) (hg : w.grownBy w' v1.ownBlock) : Wtr w' base B lim v xs :=
  hW.kept (Chg.of_grown hg) (fun e => ob_row hW.1 h1 ht e rfl) (fun g hg2 e => row_types hW.2.1 h1 h8 hg2 e)
theorem below_grown {w wr w' : World} {e1 : TypeId} {s1 n1 : Nat} {v1 : Value} {xs1 : List Value} (hB : Below w.heap.size w wr) (h1 : wr.ownsRow w.heap.size e1 s1 v1 n1 xs1) (hg : wr.grownBy w' v1.ownBlock) : Below w.heap.size w w' :=
  hB.grown hg hB.size (fun k e => (h1.lt k e).1)
theorem infoP : (Try.prog.info? 39).map (fun i => (i.zero, i.size, i.bytes)) = some (some (.agg #[.int .u8 0, .int .u8 0, .int .u64 0, .slice none 0 0]), 4, 40) := by kernel_rfl
theorem infoI : (Try.prog.info? 3).map (fun i => (i.zero, i.size, i.bytes)) = some (some (.int .i64 0), 1, 8) := by kernel_rfl

end Go.Proofs.Ytdemlifjhlpclaa
