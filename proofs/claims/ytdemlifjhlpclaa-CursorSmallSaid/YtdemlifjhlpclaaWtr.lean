/-
  A writer: NewWriter, Len, Out, Bytes.
-/
import Derived.Test.YtdemlifjhlpclaaTake
import Derived.WalkMore
namespace Go.Proofs.Ytdemlifjhlpclaa
open Go.RowKit
set_option linter.unusedVariables false

theorem run_append_zero {P : Program} (w : World) (t ty e : TypeId) (i : TypeInfo) (ht : P.underlying t = some (.slice e)) (hi : P.info? e = some i) (A : Option Addr) (c : Nat) :
    (Builtin.append_ #[t, t] ty #[.slice none 0 0, .slice A 0 c]).run P w = .ok (.slice none 0 0) w := by
  cases A <;> simp [Builtin.append_, run_underlying ht, sizeOf, typeInfo, hi, Builtin.lenOf, Builtin.firstCells, loadCells, loadCellsFrom]
/-- append of nothing to an owned row. -/
theorem wpList_append_zero {P : Program} (w : World) {ops : Array Oper} {rest : List Oper} {o : Oper} {a : Act} {Q : Exit → Act → World → Prop}
    (hg : o.guard = none) (s x : Operand) (t : TypeId) (hop : o.op = Op.call { callee := Callee.builtin Builtin.append, args := #[s, x], argTypes := #[t, t] })
    (e : TypeId) (i : TypeInfo) (h1 : P.underlying t = some (.slice e)) (h2 : P.info? e = some i) (base size n : Nat) (v : Value) (xs : List Value) (hs : a.eval s = v) (hown : w.ownsRow base e size v n xs)
    (A : Option Addr) (m c : Nat) (hm : m = 0) (hx : a.eval x = .slice A m c) (hK : wpList P ops Q rest (a.put o.dst v) w) : wpList P ops Q (o :: rest) a w := by
  subst hm
  rcases hown.2 with ⟨rfl, rfl⟩ | ⟨g, cap, cur, rfl, _, _, hn, _⟩
  · refine wpList_plain hg fun K hK' => ?_
    have hrun := run_append_zero (P := P) w t o.type e i h1 h2 A c
    unfold Oper.wp
    simp [execOp, hop, resolve, invoke, builtin, hs, hx, hrun, Result.andThen]
    exact hK' _ _ hK
  · exact wpList_append_nothing w hg s x t hop e i h1 h2 _ n cap hs hn A 0 c rfl hx hK
/-- append of something to an owned row: the row is as before, or it is new. -/
theorem wpList_append_fresh {P : Program} (w : World) {ops : Array Oper} {rest : List Oper} {o : Oper} {a : Act} {Q : Exit → Act → World → Prop}
    (hg : o.guard = none) (s x : Operand) (t : TypeId) (hop : o.op = Op.call { callee := Callee.builtin Builtin.append, args := #[s, x], argTypes := #[t, t] })
    (base : Nat) (e : TypeId) (i : TypeInfo) (z : Value) (size bytes : Nat) (h1 : P.underlying t = some (.slice e)) (h2 : P.info? e = some i) (h3 : i.zero = some z) (h4 : i.size = size) (h5 : i.bytes = bytes) (h6 : z.cells.size = size) (h7 : 0 < size)
    (v : Value) (n : Nat) (xs : List Value) (hs : a.eval s = v) (hown : w.ownsRow base e size v n xs)
    (ad : Addr) (m c : Nat) (news : List Value) (hx : a.eval x = .slice (some ad) m c) (hn : news.length = m * size) (hc : ∀ j u, news[j]? = some u → w.cell? (ad.add j) = some u) (h1c : ∀ u ∈ news, u.oneCell' = true)
    (hm : 0 < m) (b1 : n + m ≤ maxLen) (b2 : (n + m) * bytes ≤ 140737488355328) (hb : base ≤ w.heap.size)
    (hK : ∀ v' w', w'.ownsRow base e size v' (n + m) (xs ++ news) → w.grownBy w' v.ownBlock → (v'.ownBlock = v.ownBlock ∨ ∀ g, v'.ownBlock = some g → w.heap.size ≤ g) → wpList P ops Q rest (a.put o.dst v') w') :
    wpList P ops Q (o :: rest) a w := by
  have grow : ∀ (ao : Option Addr) (cap : Nat), v = .slice ao n cap → (ao = none → n = 0 ∧ cap = 0) → (∀ b, ao = some b → ∀ j u, xs[j]? = some u → w.cell? (b.add j) = some u) → cap < n + m → wpList P ops Q (o :: rest) a w := by
    intro ao cap hv hnone hold hfull
    refine wpList_append_grows w hg s x t hop e i z size bytes h1 h2 h3 h4 h5 h6 h7 ao n cap xs (hs.trans hv) hnone hown.1 hold ad m c news hx hn hc h1c hfull b1 b2 fun v' w' r1 r2 => ?_
    refine hK v' w' (rebase r1 hb) ⟨r2.os, r2.tape, r2.output, r2.size, fun k hk _ => r2.block k hk (by simp)⟩ (.inr fun g hg => (r1.lt g hg).1)
  rcases hown.2 with ⟨h, h0⟩ | ⟨g, cap, cur, h, hg', hh, hnc, _⟩
  · exact grow none 0 (by rw [h, h0]) (fun _ => ⟨h0, rfl⟩) (fun b e => by cases e) (by omega)
  · by_cases hfull : cap < n + m
    · refine grow (some ⟨g, 0, none⟩) cap h (fun e => by cases e) (fun b e => ?_) hfull
      cases e
      exact hown.cells (by rw [h]; rfl)
    · subst h
      refine wpList_append_fits w hg s x t hop base e i size h1 h2 h4 g n cap xs hs hown ad m c news hx hn hc h1c (by omega) fun w' r1 r2 => ?_
      exact hK _ w' r1 r2 (.inl rfl)

/-- In the world w, block B is a writer with a limit and the bytes xs, in the row v. -/
def Wtr (w : World) (base B lim : Nat) (v : Value) (xs : List Nat) : Prop :=
  w.heap[B]? = some (ob 85 xs.length lim v) ∧ w.ownsRow base 5 1 v xs.length (xs.map fun x : Nat => Value.int .u8 x) ∧ xs.length ≤ lim ∧ lim ≤ 16777216
theorem Wtr.lt {w : World} {base B lim : Nat} {v : Value} {xs : List Nat} (h : Wtr w base B lim v xs) : B < w.heap.size := (Array.getElem?_eq_some_iff.1 h.1).1
theorem Wtr.kept {w w' : World} {base B lim : Nat} {v : Value} {xs : List Nat} {S : Nat → Prop} (h : Wtr w base B lim v xs) (hk : Chg S w w') (hB : ¬ S B) (hv : ∀ g, v.ownBlock = some g → ¬ S g) : Wtr w' base B lim v xs := by
  obtain ⟨h1, h2, h3⟩ := h
  refine ⟨hk.at_block h1 hB, ?_, h3⟩
  cases hg : v.ownBlock with
  | none =>
    have : w.grownBy w w.heap.size := World.grownBy.refl _ _
    rcases h2.2 with ⟨rfl, h0⟩ | ⟨g, cap, cur, rfl, _⟩
    · exact ⟨h2.1, .inl ⟨rfl, h0⟩⟩
    · cases hg
  | some g =>
    refine ⟨h2.1, ?_⟩
    rcases h2.2 with h | ⟨g', cap, cur, rfl, hb, hh, r⟩
    · exact .inl h
    · have e : g' = g := by simpa [Value.ownBlock] using hg
      subst e
      exact .inr ⟨g', cap, cur, rfl, hb, hk.at_block hh (hv g' hg), r⟩
theorem Wtr.below {w w' : World} {base B lim : Nat} {v : Value} {xs : List Nat} (h : Wtr w base B lim v xs) (hk : Below w.heap.size w w') : Wtr w' base B lim v xs :=
  h.kept (Chg.of_below (fun _ => False) hk) (fun e => e) (fun _ _ e => e)

set_option maxRecDepth 100000 in
theorem newWriter_ok (w : World) (lim base : Nat) (hl : lim ≤ 16777216) :
    Calls Try.prog 15 #[.int .i64 lim] w fun e w' => ∃ B, e = .returned (.tuple #[.pointer (some ⟨B, 0, none⟩), .int .i64 0]) ∧ w.heap.size ≤ B ∧ Wtr w' base B lim (.slice none 0 0) [] ∧ Below w.heap.size w w' := by
  have h0 : (0 : Int) ≤ (lim : Int) := by omega
  have h1 : (lim : Int) ≤ 16777216 := by omega
  go_enter Try.func15, Try.ntmps15
  go_wp2
  go_ret2
  exact ⟨w.heap.size, rfl, Nat.le_refl _, ⟨World.alloc_heap_new w _, World.ownsRow_nil _ _ _ _, Nat.zero_le _, hl⟩, (Below.refl _ w).alloc (Nat.le_refl _) _⟩
set_option maxRecDepth 100000 in
theorem newWriter_bad (w : World) (lim : Int) (hl : lim < 0 ∨ 16777216 < lim) :
    Calls Try.prog 15 #[.int .i64 lim] w fun e w' => e = .returned (.tuple #[.pointer none, .int .i64 2]) ∧ w = w' := by
  by_cases h : lim < 0
  · clear hl
    go_enter Try.func15, Try.ntmps15
    go_wp2
    go_ret2
    exact ⟨rfl, rfl⟩
  · have h1 : 16777216 < lim := by omega
    have h0 : 0 ≤ lim := by omega
    clear hl h
    go_enter Try.func15, Try.ntmps15
    go_wp2
    go_ret2
    exact ⟨rfl, rfl⟩

set_option maxRecDepth 100000 in
theorem len_any (w : World) (base B lim : Nat) (v : Value) (xs : List Nat) (n : Nat) (hn : xs.length = n) (hW : Wtr w base B lim v xs) :
    Calls Try.prog 17 #[.pointer (some ⟨B, 0, none⟩)] w fun e w' => e = .returned (.int .i64 n) ∧ w = w' := by
  subst hn
  obtain ⟨c0, c1, c2, c3, f1, f3⟩ := ob_cells hW.1
  go_enter Try.func17, Try.ntmps17
  go_wp2_with (go_at_call 46; refine (noneW_any _ B c0).mono ?_; rintro e w1 ⟨rfl, rfl⟩)
  go_ret
  exact ⟨rfl, rfl⟩

set_option maxRecDepth 100000 in
theorem out_any (w : World) (base B lim : Nat) (v : Value) (xs : List Nat) (n : Nat) (hn : xs.length = n) (hW : Wtr w base B lim v xs) :
    Calls Try.prog 18 #[.pointer (some ⟨B, 0, none⟩)] w fun e w' => ∃ v', e = .returned v' ∧ w'.ownsRow w.heap.size 5 1 v' n (xs.map fun x : Nat => Value.int .u8 x) ∧ Below w.heap.size w w' := by
  subst hn
  obtain ⟨hb, hown, hl, hl2⟩ := hW
  have hnn : ∀ a n c, v = .slice a n c → a = none → c = 0 := fun a n c hv ha => by
    subst hv; subst ha
    rcases hown.2 with ⟨h, _⟩ | ⟨g, cap, cur, h, _⟩ <;> cases h; rfl
  obtain ⟨a, c, rfl, S, hxl, hc, hcm⟩ := own_slice hown
  obtain ⟨c0, c1, c2, c3, f1, f3⟩ := ob_cells hb
  go_enter Try.func18, Try.ntmps18
  go_wp2_with (first
    | (go_at_call 46; refine (noneW_any _ B c0).mono ?_; rintro e w1 ⟨rfl, rfl⟩)
    | (go_at_call 47; refine (clone_any w a _ c xs rfl hc hcm (hnn a _ c rfl) (by omega) _ S (Nat.le_refl _)).mono ?_; rintro e w2 ⟨v', rfl, hown2, hB2⟩))
  go_ret
  exact ⟨_, rfl, hown2, hB2⟩

end Go.Proofs.Ytdemlifjhlpclaa
