/-
  Contracts of varint and quantumkit in the forms in which laws use them; worlds that differ in some blocks.
-/
import Derived.OpenShut
import Derived.IntWalk
import Derived.Test.YtdemlifjhlpclaaAny
import Derived.Test.YtdemlifjhlpclaaReadAny
import Derived.Test.YtdemlifjhlpclaaHeap
import Derived.Test.YtdemlifjhlpclaaForms
import Derived.Test.YtdemlifjhlpclaaArgs
import Derived.Test.YtdemlifjhlpclaaAppend
namespace Go.Proofs.Ytdemlifjhlpclaa
open Go.RowKit
set_option linter.unusedVariables false

theorem infoB : (Try.prog.info? 5).map (fun i => (i.zero, i.size, i.bytes)) = some (some (.int .u8 0), 1, 1) := by kernel_rfl
theorem seen_take {w : World} {B : Nat} {k : IntKind} {a : Option Addr} {xs : List Nat} (h : Seen w B k a xs) (n : Nat) : Seen w B k a (xs.take n) := fun i x hx => by
  rw [List.getElem?_take] at hx
  split at hx
  · exact h i x hx
  · simp at hx
theorem read_at (w : World) (a : Option Addr) (c : Nat) (bs : List Nat) (n : Nat) (r : Nat × Nat × Int) (hn : bs.length = n) (hr : Vi.read bs = r) (hbs : ∀ y ∈ bs, y < 256) (B : Nat) (hS : Seen w B .u8 a bs) (hB : B ≤ w.heap.size) (hlen : n ≤ maxLen) :
    Calls Try.prog 43 #[.slice a n c] w fun e w' => e = .returned (.tuple #[.int .u64 r.1, .int .i64 r.2.1, .int .i64 r.2.2]) ∧ Below w.heap.size w w' := by
  subst hn; subst hr
  exact read_any w a c bs hbs (hS.more hB) hlen
theorem same_at (a b : Option Addr) (c d : Nat) (xs ys : List Nat) (n m : Nat) (r : Bool) (hn : xs.length = n) (hm : ys.length = m) (hr : decide (xs = ys) = r) (B1 B2 : Nat) (w : World) (hx : Seen w B1 .u8 a xs) (hy : Seen w B2 .u8 b ys) (hxl : n ≤ maxLen) (hyl : m ≤ maxLen) :
    Calls Try.prog 33 #[.slice a n c, .slice b m d] w fun e w' => e = .returned (.bool r) ∧ Below w.heap.size w w' := by
  subst hn; subst hm; subst hr
  exact sameBytes_any a b c d xs ys (max B1 B2) w (hx.more (by omega)) (hy.more (by omega)) hxl hyl
theorem own_cap {w : World} {base size n g cap : Nat} {e : TypeId} {xs : List Value} (h : w.ownsRow base e size (.slice (some ⟨g, 0, none⟩) n cap) n xs) : n ≤ cap ∧ cap ≤ maxLen := by
  rcases h.2 with ⟨h1, _⟩ | ⟨g, cap', cur, hv, _, _, h1, h2, _⟩
  · cases h1
  · injection hv with _ _ e; subst e; exact ⟨h1, h2⟩
theorem seen_cells {w : World} {B : Nat} {k : IntKind} {ad : Addr} {xs : List Nat} (h : Seen w B k (some ad) xs) : ∀ j u, (xs.map fun x : Nat => Value.int k x)[j]? = some u → w.cell? (ad.add j) = some u := by
  intro j u hu
  rw [List.getElem?_map] at hu
  cases hx : xs[j]? with
  | none => rw [hx] at hu; simp at hu
  | some x =>
    rw [hx] at hu
    simp at hu
    obtain ⟨b, off, e, _, hc⟩ := h j x hx
    cases e
    rw [← hu]
    by_cases h0 : j = 0
    · subst h0; simpa [Addr.add] using hc
    · simpa [Addr.add, h0] using hc
/-- An owned row of numbers, nil or not. -/
theorem own_slice {w : World} {base n : Nat} {k : IntKind} {e : TypeId} {v : Value} {xs : List Nat} (h : w.ownsRow base e 1 v n (xs.map fun x : Nat => Value.int k x)) :
    ∃ a c, v = .slice a n c ∧ Seen w w.heap.size k a xs ∧ xs.length = n ∧ n ≤ c ∧ c ≤ maxLen := by
  have hl : xs.length = n := by simpa using h.1
  rcases h.2 with ⟨rfl, rfl⟩ | ⟨g, cap, cur, rfl, hg, hh, h1, h2, _⟩
  · exact ⟨none, 0, rfl, by rw [List.eq_nil_of_length_eq_zero hl]; exact Seen.nil _ _ _ _, hl, Nat.le_refl _, by unfold maxLen; omega⟩
  · exact ⟨_, cap, rfl, Seen.of_own h, hl, h1, h2⟩

/-- The blocks of w that are not in S are as they were. -/
structure Chg (S : Nat → Prop) (w w' : World) : Prop where
  os : w'.os = w.os
  tape : w'.tape = w.tape
  output : w'.output = w.output
  size : w.heap.size ≤ w'.heap.size
  block : ∀ k, k < w.heap.size → ¬ S k → w'.heap[k]? = w.heap[k]?
theorem Chg.refl (S : Nat → Prop) (w : World) : Chg S w w := ⟨rfl, rfl, rfl, Nat.le_refl _, fun _ _ _ => rfl⟩
theorem Chg.trans {S : Nat → Prop} {a b c : World} (h : Chg S a b) (k : Chg S b c) : Chg S a c :=
  ⟨k.os.trans h.os, k.tape.trans h.tape, k.output.trans h.output, Nat.le_trans h.size k.size, fun i hi hS => (k.block i (Nat.lt_of_lt_of_le hi h.size) hS).trans (h.block i hi hS)⟩
theorem Chg.mono {S S' : Nat → Prop} {w w' : World} (h : Chg S w w') (hS : ∀ k, k < w.heap.size → S k → S' k) : Chg S' w w' := ⟨h.os, h.tape, h.output, h.size, fun k hk hn => h.block k hk (fun hs => hn (hS k hk hs))⟩
theorem Chg.of_below (S : Nat → Prop) {w w' : World} (h : Below w.heap.size w w') : Chg S w w' := ⟨h.os, h.tape, h.output, h.size, fun k hk _ => h.block k hk⟩
theorem Chg.below {S : Nat → Prop} {w w' : World} {B : Nat} (h : Chg S w w') (hS : ∀ k, S k → B ≤ k) (hB : B ≤ w.heap.size) : Below B w w' :=
  ⟨h.os, h.tape, h.output, h.size, fun k hk => h.block k (by omega) (fun hs => by have := hS k hs; omega)⟩
theorem Chg.drewN {S : Nat → Prop} {a w : World} (h : Chg S a w) (q : Nat) : Chg S a (w.drewN q) := ⟨h.os, h.tape, h.output, h.size, h.block⟩
theorem Chg.setCell {S : Nat → Prop} {a w : World} (h : Chg S a w) {p : Addr} (hp : S p.block) (u : Value) : Chg S a (w.setCell p u) :=
  h.trans ⟨rfl, rfl, rfl, by simp [World.setCell], fun k hk hS => Below.heap_setCell _ _ _ _ (fun e => by subst e; exact hS hp)⟩
theorem Chg.alloc {S : Nat → Prop} {a w : World} (h : Chg S a w) (o : Obj) : Chg S a (w.alloc o) := h.trans (Chg.of_below S ((Below.refl _ w).alloc (Nat.le_refl _) o))
theorem Chg.grown {S : Nat → Prop} {a w w' : World} {row : Option Nat} (h : Chg S a w) (hg : w.grownBy w' row) (hr : ∀ k, row = some k → S k) : Chg S a w' :=
  h.trans ⟨hg.os, hg.tape, hg.output, hg.size, fun k hk hS => hg.block k hk (fun e => hS (hr k e.symm))⟩
theorem Chg.at_block {S : Nat → Prop} {w w' : World} (h : Chg S w w') {k : Nat} {o : Obj} (ho : w.heap[k]? = some o) (hS : ¬ S k) : w'.heap[k]? = some o := (h.block k (Array.getElem?_eq_some_iff.1 ho).1 hS).trans ho
theorem Chg.grownBy {B : Nat} {w w' : World} (h : Chg (· = B) w w') : w.grownBy w' (some B) := ⟨h.os, h.tape, h.output, h.size, fun k hk hn => h.block k hk (fun e => hn (by rw [e]))⟩
theorem Chg.of_grown {w w' : World} {row : Option Nat} (h : w.grownBy w' row) : Chg (fun k => row = some k) w w' := ⟨h.os, h.tape, h.output, h.size, fun k hk hn => h.block k hk (fun e => hn e.symm)⟩

/-- The cells of a reader or a writer. -/
def ob (t : TypeId) (at_ en : Int) (v : Value) : Obj := .cells #[.bool true, .int .i64 at_, .int .i64 en, v] t (0, 0)
section
variable {w : World} {B : Nat} {t : TypeId} {at_ en : Int} {v : Value}
theorem ob_cells (h : w.heap[B]? = some (ob t at_ en v)) : w.cell? ⟨B, 0, none⟩ = some (.bool true) ∧ w.cell? ⟨B, 1, none⟩ = some (.int .i64 at_) ∧ w.cell? ⟨B, 2, none⟩ = some (.int .i64 en) ∧ w.cell? ⟨B, 3, none⟩ = some v ∧ w.frozen? ⟨B, 1, none⟩ = false ∧ w.frozen? ⟨B, 3, none⟩ = false := by
  unfold ob at h
  refine ⟨?_, ?_, ?_, ?_, ?_, ?_⟩ <;> simp [World.cell?, World.frozen?, h]
theorem ob_set1 (h : w.heap[B]? = some (ob t at_ en v)) (n : Int) : (w.setCell ⟨B, 1, none⟩ (.int .i64 n)).heap[B]? = some (ob t n en v) := by
  unfold ob at h ⊢
  simp [World.setCell, Array.getElem?_modify, h]
theorem ob_set3 (h : w.heap[B]? = some (ob t at_ en v)) (u : Value) : (w.setCell ⟨B, 3, none⟩ u).heap[B]? = some (ob t at_ en u) := by
  unfold ob at h ⊢
  simp [World.setCell, Array.getElem?_modify, h]
/-- Numbers of another kind lie in no such block. -/
theorem ob_apart (h : w.heap[B]? = some (ob t at_ en v)) {off x : Nat} {k : IntKind} (hk : k ≠ .i64) (hv : ∀ x : Int, v ≠ .int k x) : w.cell? ⟨B, off, none⟩ ≠ some (.int k x) := by
  unfold ob at h
  match off with
  | 0 | 1 | 2 | 3 => simp [World.cell?, h, hv] <;> intro e <;> first | exact absurd e.symm hk | exact hv _ e
  | off + 4 => simp [World.cell?, h]
end
theorem Seen.past {w w' : World} {B N : Nat} {t : TypeId} {at_ en : Int} {a' : Option Addr} {n c : Nat} (hb : w.heap[B]? = some (ob t at_ en (.slice a' n c))) {a : Option Addr} {xs : List Nat} (h : Seen w N .u8 a xs) (hk : Chg (· = B) w w') : Seen w' N .u8 a xs := fun i x hx => by
  obtain ⟨b, off, e, hbN, hc⟩ := h i x hx
  refine ⟨b, off, e, hbN, ?_⟩
  have hne : b ≠ B := fun e => by subst e; exact ob_apart hb (by decide) (by intro x h; cases h) hc
  have hbl := World.block_lt_of_cell? w _ hc
  exact (World.cell?_of_block (w := w) (hk.block b hbl hne)).trans hc

end Go.Proofs.Ytdemlifjhlpclaa
