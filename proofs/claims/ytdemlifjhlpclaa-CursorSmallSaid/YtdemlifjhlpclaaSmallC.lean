/-
  What CursorSmall calls, at its own memory.
-/
import Derived.Test.YtdemlifjhlpclaaCWrites
import Derived.Test.YtdemlifjhlpclaaCReads
namespace Go.Proofs.Ytdemlifjhlpclaa
open Go.RowKit
set_option linter.unusedVariables false

def nine : List Int := [-9223372036854775808, -1, 0, 1, 2, 7, 8, 9, 9223372036854775807]
def four : List Int := [0, 1, 3, 9223372036854775807]
def nineU : List Int := [0, 1, 127, 128, 255, 256, 72057594037927936, 72057594037927935, 18446744073709551615]
def tenB : List Nat := [0, 1, 128, 1, 255, 3, 127, 128, 128, 0]
theorem nine_bd : ∀ v ∈ nine, -9223372036854775808 ≤ v ∧ v ≤ 9223372036854775807 := by decide
theorem four_bd : ∀ v ∈ four, -9223372036854775808 ≤ v ∧ v ≤ 9223372036854775807 := by decide
theorem nineU_bd : ∀ v ∈ nineU, 0 ≤ v ∧ v ≤ 18446744073709551615 := by decide
theorem tenB_bd : ∀ v ∈ tenB, v < 256 := by decide
def nineObj : Obj := .cells #[.int .i64 (-9223372036854775808), .int .i64 (-1), .int .i64 0, .int .i64 1, .int .i64 2, .int .i64 7, .int .i64 8, .int .i64 9, .int .i64 9223372036854775807] 3 (0, 0)
def fourObj : Obj := .cells #[.int .i64 0, .int .i64 1, .int .i64 3, .int .i64 9223372036854775807] 3 (0, 0)
def nineUObj : Obj := .cells #[.int .u64 0, .int .u64 1, .int .u64 127, .int .u64 128, .int .u64 255, .int .u64 256, .int .u64 72057594037927936, .int .u64 72057594037927935, .int .u64 18446744073709551615] 28 (0, 0)
def tenObj : Obj := .cells #[.int .u8 0, .int .u8 1, .int .u8 128, .int .u8 1, .int .u8 255, .int .u8 3, .int .u8 127, .int .u8 128, .int .u8 128, .int .u8 0] 5 (0, 0)
theorem nine_cell {w : World} {b i : Nat} {v : Int} (h : w.heap[b]? = some nineObj) (hv : nine[i]? = some v) : w.cell? ⟨b, i, none⟩ = some (.int .i64 v) := by
  unfold nineObj at h
  match i, hv with
  | 0, hv | 1, hv | 2, hv | 3, hv | 4, hv | 5, hv | 6, hv | 7, hv | 8, hv => simp [nine] at hv; subst hv; simp [World.cell?, h]
theorem four_cell {w : World} {b i : Nat} {v : Int} (h : w.heap[b]? = some fourObj) (hv : four[i]? = some v) : w.cell? ⟨b, i, none⟩ = some (.int .i64 v) := by
  unfold fourObj at h
  match i, hv with
  | 0, hv | 1, hv | 2, hv | 3, hv => simp [four] at hv; subst hv; simp [World.cell?, h]
theorem nineU_cell {w : World} {b i : Nat} {v : Int} (h : w.heap[b]? = some nineUObj) (hv : nineU[i]? = some v) : w.cell? ⟨b, i, none⟩ = some (.int .u64 v) := by
  unfold nineUObj at h
  match i, hv with
  | 0, hv | 1, hv | 2, hv | 3, hv | 4, hv | 5, hv | 6, hv | 7, hv | 8, hv => simp [nineU] at hv; subst hv; simp [World.cell?, h]
theorem ten_seen {w : World} {b : Nat} (h : w.heap[b]? = some tenObj) : Seen w w.heap.size .u8 (some ⟨b, 0, none⟩) tenB := by
  unfold tenObj at h
  exact Seen.of_block (k := .u8) (off := 0) h (fun i v hv => by
    match i, hv with
    | 0, hv | 1, hv | 2, hv | 3, hv | 4, hv | 5, hv | 6, hv | 7, hv | 8, hv | 9, hv => simp [tenB] at hv; subst hv; rfl)

/-- Five calls in a block of their own. -/
def actsObj (t0 t1 t2 t3 t4 : Act0) : Obj := .cells #[.int .u8 t0.kd, .int .i64 t0.N, .int .i64 t0.M, .int .u64 t0.X, .slice t0.sa t0.sn t0.sc, .int .u8 t1.kd, .int .i64 t1.N, .int .i64 t1.M, .int .u64 t1.X, .slice t1.sa t1.sn t1.sc, .int .u8 t2.kd, .int .i64 t2.N, .int .i64 t2.M, .int .u64 t2.X, .slice t2.sa t2.sn t2.sc, .int .u8 t3.kd, .int .i64 t3.N, .int .i64 t3.M, .int .u64 t3.X, .slice t3.sa t3.sn t3.sc, .int .u8 t4.kd, .int .i64 t4.N, .int .i64 t4.M, .int .u64 t4.X, .slice t4.sa t4.sn t4.sc] 30 (0, 0)
theorem acts_own {w : World} {b : Nat} {t0 t1 t2 t3 t4 : Act0} (h : w.heap[b]? = some (actsObj t0 t1 t2 t3 t4)) (hb : b < w.heap.size) : Acts w w.heap.size (some ⟨b, 0, none⟩) [t0, t1, t2, t3, t4] := by
  unfold actsObj at h
  intro i t ht
  refine ⟨b, 0, rfl, hb, ?_⟩
  match i, ht with
  | 0, ht | 1, ht | 2, ht | 3, ht | 4, ht => cases ht; refine ⟨?_, ?_, ?_, ?_, ?_⟩ <;> simp [World.cell?, h]

/-- The calls of a reader that CursorSmall makes. -/
def rdActs (k : Nat) (n m : Int) (X : Nat) : List Act0 := [⟨k, n, m, X, none, 0, 0⟩, ⟨0, 0, 0, 0, none, 0, 0⟩, ⟨k, n, m, X, none, 0, 0⟩, ⟨3, 0, 0, 1000, none, 0, 0⟩, ⟨k, n, m, X, none, 0, 0⟩]
theorem small_reads (W : World) (b g f t l c : Nat) (hl : l = t - f) (hc : c = 10 - f) (hft : f ≤ t) (ht : t ≤ 10) (hb : W.heap[b]? = some tenObj) (a : Option Addr) (ha : a = some ⟨b, f, none⟩ ∨ f = t) (hn : a = none → 10 - f = 0) (k : Nat) (hk : k < 5) (n m : Int) (X : Nat) (hn1 : -9223372036854775808 ≤ n ∧ n ≤ 9223372036854775807) (hm1 : -9223372036854775808 ≤ m ∧ m ≤ 9223372036854775807) (hX : X < 2 ^ 64)
    (hg : W.heap[g]? = some (actsObj ⟨k, n, m, X, none, 0, 0⟩ ⟨0, 0, 0, 0, none, 0, 0⟩ ⟨k, n, m, X, none, 0, 0⟩ ⟨3, 0, 0, 1000, none, 0, 0⟩ ⟨k, n, m, X, none, 0, 0⟩)) :
    Calls Try.prog 11 #[.slice a l c, .slice (some ⟨g, 0, none⟩) 5 5] W fun e w' => e = .returned (.bool true) ∧ Below W.heap.size W w' := by
  subst hl; subst hc
  have hA := acts_own hg (Array.getElem?_eq_some_iff.1 hg).1
  have hS : Seen W W.heap.size .u8 a ((tenB.drop f).take (t - f)) := by
    rcases ha with rfl | rfl
    · have := seen_drop (ten_seen hb) f
      rw [Nat.zero_add] at this
      exact seen_take this _
    · intro i x hi; simp at hi
  refine (reads_any _ a (t - f) (10 - f) ((tenB.drop f).take (t - f)) (by rw [List.length_take, List.length_drop, show tenB.length = 10 from rfl]; omega) (fun x hx => tenB_bd x (List.mem_of_mem_drop (List.mem_of_mem_take hx))) (by omega) (by unfold maxLen; omega) hn _ hS (Nat.le_refl _) (some ⟨g, 0, none⟩) 5 5 (rdActs k n m X) rfl ?_ (by unfold maxLen; omega) (Nat.le_refl _) _ hA (Nat.le_refl _)).mono ?_
  · intro u hu
    have hz : (-9223372036854775808 : Int) ≤ 0 ∧ (0 : Int) ≤ 9223372036854775807 := by decide
    simp only [rdActs, List.mem_cons, List.not_mem_nil, or_false] at hu
    rcases hu with rfl | rfl | rfl | rfl | rfl
    · exact ⟨by show k < 256; omega, hn1.1, hn1.2, hm1.1, hm1.2, hX⟩
    · exact ⟨by decide, hz.1, hz.2, hz.1, hz.2, by decide⟩
    · exact ⟨by show k < 256; omega, hn1.1, hn1.2, hm1.1, hm1.2, hX⟩
    · exact ⟨by decide, hz.1, hz.2, hz.1, hz.2, by decide⟩
    · exact ⟨by show k < 256; omega, hn1.1, hn1.2, hm1.1, hm1.2, hX⟩
  · rintro e w' ⟨rfl, hB2⟩
    exact ⟨rfl, hB2⟩
/-- The calls of a writer that CursorSmall makes. -/
theorem small_writes (W : World) (b g q : Nat) (hq : q < 8) (hb : W.heap[b]? = some tenObj) (lim n : Int) (X : Nat) (hl1 : -9223372036854775808 ≤ lim ∧ lim ≤ 9223372036854775807) (hn1 : -9223372036854775808 ≤ n ∧ n ≤ 9223372036854775807) (hX : X < 2 ^ 64)
    (hg : W.heap[g]? = some (actsObj ⟨2, n, 0, X, none, 0, 0⟩ ⟨3, 0, 0, X, none, 0, 0⟩ ⟨0, 0, 0, X, none, 0, 0⟩ ⟨1, 0, 0, 0, some ⟨b, 0, none⟩, q, 10⟩ ⟨2, 1, 0, X, none, 0, 0⟩)) :
    Calls Try.prog 13 #[.int .i64 lim, .slice (some ⟨g, 0, none⟩) 5 5] W fun e w' => e = .returned (.bool true) ∧ Below W.heap.size W w' := by
  have hA := acts_own hg (Array.getElem?_eq_some_iff.1 hg).1
  have hS := seen_take (ten_seen hb) q
  have hml : (0 : Nat) ≤ maxLen := Nat.zero_le _
  have hnil : ∀ (w : World) (Q : Nat) (t : Act0), t.sa = none → t.sn = 0 → t.sc = 0 → ActB w Q t := fun w Q t h1 h2 h3 => ⟨by omega, by rw [h3]; exact hml, [], by rw [h2]; rfl, fun i x hi => by simp at hi⟩
  refine (writes_any _ lim hl1.1 hl1.2 (some ⟨g, 0, none⟩) 5 5 [⟨2, n, 0, X, none, 0, 0⟩, ⟨3, 0, 0, X, none, 0, 0⟩, ⟨0, 0, 0, X, none, 0, 0⟩, ⟨1, 0, 0, 0, some ⟨b, 0, none⟩, q, 10⟩, ⟨2, 1, 0, X, none, 0, 0⟩] rfl ?_ W.heap.size (Nat.le_refl _) ?_ (by unfold maxLen; omega) (Nat.le_refl _) _ hA (Nat.le_refl _)).mono ?_
  · intro u hu
    have hz : (-9223372036854775808 : Int) ≤ 0 ∧ (0 : Int) ≤ 9223372036854775807 := by decide
    have hz1 : (-9223372036854775808 : Int) ≤ 1 ∧ (1 : Int) ≤ 9223372036854775807 := by decide
    simp only [List.mem_cons, List.not_mem_nil, or_false] at hu
    rcases hu with rfl | rfl | rfl | rfl | rfl
    · exact ⟨(by decide : (2 : Nat) < 256), hn1.1, hn1.2, hz.1, hz.2, hX⟩
    · exact ⟨(by decide : (3 : Nat) < 256), hz.1, hz.2, hz.1, hz.2, hX⟩
    · exact ⟨(by decide : (0 : Nat) < 256), hz.1, hz.2, hz.1, hz.2, hX⟩
    · exact ⟨(by decide : (1 : Nat) < 256), hz.1, hz.2, hz.1, hz.2, (by decide : (0 : Nat) < 2 ^ 64)⟩
    · exact ⟨(by decide : (2 : Nat) < 256), hz1.1, hz1.2, hz.1, hz.2, hX⟩
  · intro u hu
    simp only [List.mem_cons, List.not_mem_nil, or_false] at hu
    rcases hu with rfl | rfl | rfl | rfl | rfl
    · exact hnil _ _ _ rfl rfl rfl
    · exact hnil _ _ _ rfl rfl rfl
    · exact hnil _ _ _ rfl rfl rfl
    · exact ⟨by show q ≤ 10; omega, by show 10 ≤ maxLen; unfold maxLen; omega, tenB.take q, by show _ = q; rw [List.length_take, show tenB.length = 10 from rfl]; omega, hS⟩
    · exact hnil _ _ _ rfl rfl rfl
  · rintro e w' ⟨rfl, hB2⟩
    exact ⟨rfl, hB2⟩
theorem writes_none (W : World) (lim : Int) (hl1 : -9223372036854775808 ≤ lim ∧ lim ≤ 9223372036854775807) :
    Calls Try.prog 13 #[.int .i64 lim, .slice none 0 0] W fun e w' => e = .returned (.bool true) ∧ Below W.heap.size W w' :=
  writes_any W lim hl1.1 hl1.2 none 0 0 [] rfl (fun t ht => by cases ht) 0 (Nat.zero_le _) (fun t ht => by cases ht) (by unfold maxLen; omega) (Nat.le_refl _) 0 (fun i t ht => by simp at ht) (Nat.zero_le _)

end Go.Proofs.Ytdemlifjhlpclaa

/-
  Objects that are none.
-/
namespace Go.Proofs.Ytdemlifjhlpclaa
open Go.RowKit
set_option linter.unusedVariables false

/-- A pointer to no object. -/
def Nob (w : World) (a : Option Addr) : Prop := a = none ∨ ∃ B, a = some ⟨B, 0, none⟩ ∧ B < w.heap.size ∧ w.cell? ⟨B, 0, none⟩ = some (.bool false)
theorem Nob.below {w w' : World} {a : Option Addr} (h : Nob w a) (hB : Below w.heap.size w w') : Nob w' a := by
  rcases h with h | ⟨B, e, hl, hc⟩
  · exact .inl h
  · exact .inr ⟨B, e, Nat.lt_of_lt_of_le hl hB.size, (hB.cell (p := ⟨B, 0, none⟩) hl).trans hc⟩
def Tells1 (w : World) (v : Value) (e : Ending) (w' : World) : Prop := e = .returned v ∧ Below w.heap.size w w'

theorem nobR (w : World) (a : Option Addr) (h : Nob w a) : Calls Try.prog 48 #[.pointer a] w fun e w' => e = .returned (.bool true) ∧ w = w' := by
  rcases h with rfl | ⟨B, rfl, _, hc⟩
  · go_enter Try.func48, Try.ntmps48
    go_wp2
    go_ret
    exact ⟨rfl, rfl⟩
  · go_enter Try.func48, Try.ntmps48
    go_wp2
    go_ret
    exact ⟨rfl, rfl⟩
theorem nobW (w : World) (a : Option Addr) (h : Nob w a) : Calls Try.prog 46 #[.pointer a] w fun e w' => e = .returned (.bool true) ∧ w = w' := by
  rcases h with rfl | ⟨B, rfl, _, hc⟩
  · go_enter Try.func46, Try.ntmps46
    go_wp2
    go_ret
    exact ⟨rfl, rfl⟩
  · go_enter Try.func46, Try.ntmps46
    go_wp2
    go_ret
    exact ⟨rfl, rfl⟩
set_option maxRecDepth 100000 in
theorem nob_rbyte (w : World) (a : Option Addr) (h : Nob w a) : Calls Try.prog 28 #[.pointer a] w (Tells1 w (.tuple #[.int .u8 0, .int .i64 1])) := by
  have H := Lib.hid h
  clear h
  go_enter Try.func28, Try.ntmps28
  go_wp2_with (go_at_call 48; go_loud ((refine (nobR _ a (H.out.below (by first | exact Below.refl _ _ | exact (Below.refl _ _).alloc (Nat.le_refl _) _ | exact ((Below.refl _ _).alloc (Nat.le_refl _) _).alloc (by simp) _ | exact (((Below.refl _ _).alloc (Nat.le_refl _) _).alloc (by simp) _).alloc (by simp; omega) _))).mono ?_); rintro e w1 ⟨rfl, rfl⟩))
  go_ret2
  exact ⟨rfl, by first | exact Below.refl _ _ | exact (Below.refl _ _).alloc (Nat.le_refl _) _ | exact ((Below.refl _ _).alloc (Nat.le_refl _) _).alloc (by simp) _ | exact (((Below.refl _ _).alloc (Nat.le_refl _) _).alloc (by simp) _).alloc (by simp; omega) _⟩
set_option maxRecDepth 100000 in
theorem nob_rbytes (w : World) (a : Option Addr) (h : Nob w a) : Calls Try.prog 26 #[.pointer a, .int .i64 (-1)] w (Tells1 w (.tuple #[.slice none 0 0, .int .i64 1])) := by
  have H := Lib.hid h
  clear h
  go_enter Try.func26, Try.ntmps26
  go_wp2_with (go_at_call 48; go_loud ((refine (nobR _ a (H.out.below (by first | exact Below.refl _ _ | exact (Below.refl _ _).alloc (Nat.le_refl _) _ | exact ((Below.refl _ _).alloc (Nat.le_refl _) _).alloc (by simp) _ | exact (((Below.refl _ _).alloc (Nat.le_refl _) _).alloc (by simp) _).alloc (by simp; omega) _))).mono ?_); rintro e w1 ⟨rfl, rfl⟩))
  go_ret2
  exact ⟨rfl, by first | exact Below.refl _ _ | exact (Below.refl _ _).alloc (Nat.le_refl _) _ | exact ((Below.refl _ _).alloc (Nat.le_refl _) _).alloc (by simp) _ | exact (((Below.refl _ _).alloc (Nat.le_refl _) _).alloc (by simp) _).alloc (by simp; omega) _⟩
set_option maxRecDepth 100000 in
theorem nob_rfixed (w : World) (a : Option Addr) (h : Nob w a) : Calls Try.prog 32 #[.pointer a, .int .i64 0] w (Tells1 w (.tuple #[.int .u64 0, .int .i64 1])) := by
  have H := Lib.hid h
  clear h
  go_enter Try.func32, Try.ntmps32
  go_wp2_with (go_at_call 48; go_loud ((refine (nobR _ a (H.out.below (by first | exact Below.refl _ _ | exact (Below.refl _ _).alloc (Nat.le_refl _) _ | exact ((Below.refl _ _).alloc (Nat.le_refl _) _).alloc (by simp) _ | exact (((Below.refl _ _).alloc (Nat.le_refl _) _).alloc (by simp) _).alloc (by simp; omega) _))).mono ?_); rintro e w1 ⟨rfl, rfl⟩))
  go_ret2
  exact ⟨rfl, by first | exact Below.refl _ _ | exact (Below.refl _ _).alloc (Nat.le_refl _) _ | exact ((Below.refl _ _).alloc (Nat.le_refl _) _).alloc (by simp) _ | exact (((Below.refl _ _).alloc (Nat.le_refl _) _).alloc (by simp) _).alloc (by simp; omega) _⟩
set_option maxRecDepth 100000 in
theorem nob_rnumber (w : World) (a : Option Addr) (h : Nob w a) : Calls Try.prog 27 #[.pointer a, .int .u64 0] w (Tells1 w (.tuple #[.int .u64 0, .int .i64 1])) := by
  have H := Lib.hid h
  clear h
  go_enter Try.func27, Try.ntmps27
  go_wp2_with (go_at_call 48; go_loud ((refine (nobR _ a (H.out.below (by first | exact Below.refl _ _ | exact (Below.refl _ _).alloc (Nat.le_refl _) _ | exact ((Below.refl _ _).alloc (Nat.le_refl _) _).alloc (by simp) _ | exact (((Below.refl _ _).alloc (Nat.le_refl _) _).alloc (by simp) _).alloc (by simp; omega) _))).mono ?_); rintro e w1 ⟨rfl, rfl⟩))
  go_ret2
  exact ⟨rfl, by first | exact Below.refl _ _ | exact (Below.refl _ _).alloc (Nat.le_refl _) _ | exact ((Below.refl _ _).alloc (Nat.le_refl _) _).alloc (by simp) _ | exact (((Below.refl _ _).alloc (Nat.le_refl _) _).alloc (by simp) _).alloc (by simp; omega) _⟩
set_option maxRecDepth 100000 in
theorem nob_rcount (w : World) (a : Option Addr) (h : Nob w a) : Calls Try.prog 25 #[.pointer a, .int .i64 (-1), .int .i64 0] w (Tells1 w (.tuple #[.int .i64 0, .int .i64 1])) := by
  have H := Lib.hid h
  clear h
  go_enter Try.func25, Try.ntmps25
  go_wp2_with (go_at_call 48; go_loud ((refine (nobR _ a (H.out.below (by first | exact Below.refl _ _ | exact (Below.refl _ _).alloc (Nat.le_refl _) _ | exact ((Below.refl _ _).alloc (Nat.le_refl _) _).alloc (by simp) _ | exact (((Below.refl _ _).alloc (Nat.le_refl _) _).alloc (by simp) _).alloc (by simp; omega) _))).mono ?_); rintro e w1 ⟨rfl, rfl⟩))
  go_ret2
  exact ⟨rfl, by first | exact Below.refl _ _ | exact (Below.refl _ _).alloc (Nat.le_refl _) _ | exact ((Below.refl _ _).alloc (Nat.le_refl _) _).alloc (by simp) _ | exact (((Below.refl _ _).alloc (Nat.le_refl _) _).alloc (by simp) _).alloc (by simp; omega) _⟩
set_option maxRecDepth 100000 in
theorem nob_rend (w : World) (a : Option Addr) (h : Nob w a) : Calls Try.prog 23 #[.pointer a] w (Tells1 w (.int .i64 1)) := by
  have H := Lib.hid h
  clear h
  go_enter Try.func23, Try.ntmps23
  go_wp2_with (go_at_call 48; go_loud ((refine (nobR _ a (H.out.below (by first | exact Below.refl _ _ | exact (Below.refl _ _).alloc (Nat.le_refl _) _ | exact ((Below.refl _ _).alloc (Nat.le_refl _) _).alloc (by simp) _ | exact (((Below.refl _ _).alloc (Nat.le_refl _) _).alloc (by simp) _).alloc (by simp; omega) _))).mono ?_); rintro e w1 ⟨rfl, rfl⟩))
  go_ret
  exact ⟨rfl, by first | exact Below.refl _ _ | exact (Below.refl _ _).alloc (Nat.le_refl _) _ | exact ((Below.refl _ _).alloc (Nat.le_refl _) _).alloc (by simp) _ | exact (((Below.refl _ _).alloc (Nat.le_refl _) _).alloc (by simp) _).alloc (by simp; omega) _⟩
set_option maxRecDepth 100000 in
theorem nob_rat (w : World) (a : Option Addr) (h : Nob w a) : Calls Try.prog 21 #[.pointer a] w (Tells1 w (.int .i64 0)) := by
  have H := Lib.hid h
  clear h
  go_enter Try.func21, Try.ntmps21
  go_wp2_with (go_at_call 48; go_loud ((refine (nobR _ a (H.out.below (by first | exact Below.refl _ _ | exact (Below.refl _ _).alloc (Nat.le_refl _) _ | exact ((Below.refl _ _).alloc (Nat.le_refl _) _).alloc (by simp) _ | exact (((Below.refl _ _).alloc (Nat.le_refl _) _).alloc (by simp) _).alloc (by simp; omega) _))).mono ?_); rintro e w1 ⟨rfl, rfl⟩))
  go_ret
  exact ⟨rfl, by first | exact Below.refl _ _ | exact (Below.refl _ _).alloc (Nat.le_refl _) _ | exact ((Below.refl _ _).alloc (Nat.le_refl _) _).alloc (by simp) _ | exact (((Below.refl _ _).alloc (Nat.le_refl _) _).alloc (by simp) _).alloc (by simp; omega) _⟩
set_option maxRecDepth 100000 in
theorem nob_rleft (w : World) (a : Option Addr) (h : Nob w a) : Calls Try.prog 22 #[.pointer a] w (Tells1 w (.int .i64 0)) := by
  have H := Lib.hid h
  clear h
  go_enter Try.func22, Try.ntmps22
  go_wp2_with (go_at_call 48; go_loud ((refine (nobR _ a (H.out.below (by first | exact Below.refl _ _ | exact (Below.refl _ _).alloc (Nat.le_refl _) _ | exact ((Below.refl _ _).alloc (Nat.le_refl _) _).alloc (by simp) _ | exact (((Below.refl _ _).alloc (Nat.le_refl _) _).alloc (by simp) _).alloc (by simp; omega) _))).mono ?_); rintro e w1 ⟨rfl, rfl⟩))
  go_ret
  exact ⟨rfl, by first | exact Below.refl _ _ | exact (Below.refl _ _).alloc (Nat.le_refl _) _ | exact ((Below.refl _ _).alloc (Nat.le_refl _) _).alloc (by simp) _ | exact (((Below.refl _ _).alloc (Nat.le_refl _) _).alloc (by simp) _).alloc (by simp; omega) _⟩
set_option maxRecDepth 100000 in
theorem nob_wbytes (w : World) (a : Option Addr) (h : Nob w a) (b : Option Addr) (n c : Nat) : Calls Try.prog 30 #[.pointer a, .slice b n c] w (Tells1 w (.int .i64 1)) := by
  have H := Lib.hid h
  clear h
  go_enter Try.func30, Try.ntmps30
  go_wp2_with (go_at_call 46; go_loud ((refine (nobW _ a (H.out.below (by first | exact Below.refl _ _ | exact (Below.refl _ _).alloc (Nat.le_refl _) _ | exact ((Below.refl _ _).alloc (Nat.le_refl _) _).alloc (by simp) _ | exact (((Below.refl _ _).alloc (Nat.le_refl _) _).alloc (by simp) _).alloc (by simp; omega) _))).mono ?_); rintro e w1 ⟨rfl, rfl⟩))
  go_ret
  exact ⟨rfl, by first | exact Below.refl _ _ | exact (Below.refl _ _).alloc (Nat.le_refl _) _ | exact ((Below.refl _ _).alloc (Nat.le_refl _) _).alloc (by simp) _ | exact (((Below.refl _ _).alloc (Nat.le_refl _) _).alloc (by simp) _).alloc (by simp; omega) _⟩
set_option maxRecDepth 100000 in
theorem nob_wfixed (w : World) (a : Option Addr) (h : Nob w a) : Calls Try.prog 29 #[.pointer a, .int .u64 0, .int .i64 0] w (Tells1 w (.int .i64 1)) := by
  have H := Lib.hid h
  clear h
  go_enter Try.func29, Try.ntmps29
  go_wp2_with (go_at_call 46; go_loud ((refine (nobW _ a (H.out.below (by first | exact Below.refl _ _ | exact (Below.refl _ _).alloc (Nat.le_refl _) _ | exact ((Below.refl _ _).alloc (Nat.le_refl _) _).alloc (by simp) _ | exact (((Below.refl _ _).alloc (Nat.le_refl _) _).alloc (by simp) _).alloc (by simp; omega) _))).mono ?_); rintro e w1 ⟨rfl, rfl⟩))
  go_ret
  exact ⟨rfl, by first | exact Below.refl _ _ | exact (Below.refl _ _).alloc (Nat.le_refl _) _ | exact ((Below.refl _ _).alloc (Nat.le_refl _) _).alloc (by simp) _ | exact (((Below.refl _ _).alloc (Nat.le_refl _) _).alloc (by simp) _).alloc (by simp; omega) _⟩
set_option maxRecDepth 100000 in
theorem nob_wlen (w : World) (a : Option Addr) (h : Nob w a) : Calls Try.prog 17 #[.pointer a] w (Tells1 w (.int .i64 0)) := by
  have H := Lib.hid h
  clear h
  go_enter Try.func17, Try.ntmps17
  go_wp2_with (go_at_call 46; go_loud ((refine (nobW _ a (H.out.below (by first | exact Below.refl _ _ | exact (Below.refl _ _).alloc (Nat.le_refl _) _ | exact ((Below.refl _ _).alloc (Nat.le_refl _) _).alloc (by simp) _ | exact (((Below.refl _ _).alloc (Nat.le_refl _) _).alloc (by simp) _).alloc (by simp; omega) _))).mono ?_); rintro e w1 ⟨rfl, rfl⟩))
  go_ret
  exact ⟨rfl, by first | exact Below.refl _ _ | exact (Below.refl _ _).alloc (Nat.le_refl _) _ | exact ((Below.refl _ _).alloc (Nat.le_refl _) _).alloc (by simp) _ | exact (((Below.refl _ _).alloc (Nat.le_refl _) _).alloc (by simp) _).alloc (by simp; omega) _⟩
set_option maxRecDepth 100000 in
theorem nob_wout (w : World) (a : Option Addr) (h : Nob w a) : Calls Try.prog 18 #[.pointer a] w (Tells1 w (.slice none 0 0)) := by
  have H := Lib.hid h
  clear h
  go_enter Try.func18, Try.ntmps18
  go_wp2_with (go_at_call 46; go_loud ((refine (nobW _ a (H.out.below (by first | exact Below.refl _ _ | exact (Below.refl _ _).alloc (Nat.le_refl _) _ | exact ((Below.refl _ _).alloc (Nat.le_refl _) _).alloc (by simp) _ | exact (((Below.refl _ _).alloc (Nat.le_refl _) _).alloc (by simp) _).alloc (by simp; omega) _))).mono ?_); rintro e w1 ⟨rfl, rfl⟩))
  go_ret
  exact ⟨rfl, by first | exact Below.refl _ _ | exact (Below.refl _ _).alloc (Nat.le_refl _) _ | exact ((Below.refl _ _).alloc (Nat.le_refl _) _).alloc (by simp) _ | exact (((Below.refl _ _).alloc (Nat.le_refl _) _).alloc (by simp) _).alloc (by simp; omega) _⟩
set_option maxRecDepth 100000 in
theorem nob_wbyte (w : World) (a : Option Addr) (h : Nob w a) : Calls Try.prog 31 #[.pointer a, .int .u8 1] w (Tells1 w (.int .i64 1)) := by
  have H := Lib.hid h
  clear h
  have hB0 : Below w.heap.size w (w.alloc (.cells #[.int .u8 1] 5)) := (Below.refl _ _).alloc (Nat.le_refl _) _
  have HB0 := Lib.hid hB0
  clear hB0
  go_enter Try.func31, Try.ntmps31
  go_wp2_with (go_at_call 30; go_loud ((refine (nob_wbytes _ a (H.out.below HB0.out) _ _ _).mono ?_); rintro e w1 ⟨rfl, hB1⟩))
  go_ret
  exact ⟨rfl, HB0.out.trans (hB1.mono HB0.out.size)⟩
set_option maxRecDepth 100000 in
theorem nob_wnumber (w : World) (a : Option Addr) (h : Nob w a) : Calls Try.prog 34 #[.pointer a, .int .u64 1] w (Tells1 w (.int .i64 1)) := by
  have H := Lib.hid h
  obtain ⟨la, hla⟩ : ∃ la, (Vi.form 1).length = la := ⟨_, rfl⟩
  have HLA := Lib.hid hla
  clear h hla
  go_enter Try.func34, Try.ntmps34
  go_wp2_with (first
    | (go_at_call 24; go_loud ((refine (write_n 1 la (by decide) HLA.out _).mono ?_); rintro e w1 ⟨g, c, rfl, hown, hS, hc1, hc2, hB1⟩; have HB0 := Lib.hid hB1; clear hown hS hB1))
    | (go_at_call 30; go_loud ((refine (nob_wbytes _ a (H.out.below HB0.out) _ _ _).mono ?_); rintro e w2 ⟨rfl, hB1⟩)))
  go_ret
  exact ⟨rfl, HB0.out.trans (hB1.mono HB0.out.size)⟩

/-- The readers that are none: nil, and a zero object. -/
def zeroR : Obj := .cells #[.bool false, .int .i64 0, .int .i64 0, .slice none 0 0] 83 (0, 0)
def zeroW : Obj := .cells #[.bool false, .int .i64 0, .int .i64 0, .slice none 0 0] 85 (0, 0)
theorem nob_zero {w : World} {B : Nat} {t : TypeId} (h : w.heap[B]? = some (.cells #[.bool false, .int .i64 0, .int .i64 0, .slice none 0 0] t (0, 0))) : Nob w (some ⟨B, 0, none⟩) :=
  .inr ⟨B, rfl, (Array.getElem?_eq_some_iff.1 h).1, by simp [World.cell?, h]⟩

set_option maxRecDepth 100000 in
set_option maxHeartbeats 4000000 in
theorem nobody_any (w : World) : Calls Try.prog 14 #[] w fun e w' => e = .returned (.bool true) ∧ Below w.heap.size w w' := by
  have rB : Below w.heap.size w ((w.alloc (.cells #[.bool false, .int .i64 0, .int .i64 0, .slice none 0 0] 83)).alloc (.cells #[.pointer none, .pointer (some ⟨w.heap.size, 0, none⟩)] 44)) := ((Below.refl _ _).alloc (Nat.le_refl _) _).alloc (by simp) _
  have r0 : ((w.alloc (.cells #[.bool false, .int .i64 0, .int .i64 0, .slice none 0 0] 83)).alloc (.cells #[.pointer none, .pointer (some ⟨w.heap.size, 0, none⟩)] 44)).heap[w.heap.size]? = some (.cells #[.bool false, .int .i64 0, .int .i64 0, .slice none 0 0] 83 (0, 0)) := (Below.heap_alloc _ _ _ (by simp)).trans (World.alloc_heap_new w _)
  have r1 : ((w.alloc (.cells #[.bool false, .int .i64 0, .int .i64 0, .slice none 0 0] 83)).alloc (.cells #[.pointer none, .pointer (some ⟨w.heap.size, 0, none⟩)] 44)).heap[w.heap.size + 1]? = some (.cells #[.pointer none, .pointer (some ⟨w.heap.size, 0, none⟩)] 44 (0, 0)) := by
    have := World.alloc_heap_new (w.alloc (.cells #[.bool false, .int .i64 0, .int .i64 0, .slice none 0 0] 83)) (.cells #[.pointer none, .pointer (some ⟨w.heap.size, 0, none⟩)] 44)
    rw [World.size_alloc] at this
    exact this
  obtain ⟨W1, rW⟩ : ∃ W1, ((w.alloc (.cells #[.bool false, .int .i64 0, .int .i64 0, .slice none 0 0] 83)).alloc (.cells #[.pointer none, .pointer (some ⟨w.heap.size, 0, none⟩)] 44)) = W1 := ⟨_, rfl⟩
  rw [rW] at rB r0 r1
  have rN : Hid (∀ k, k < 2 → ∃ a, Nob W1 a ∧ W1.cell? ⟨w.heap.size + 1, k, none⟩ = some (.pointer a)) := fun k hk => by
    match k, hk with
    | 0, _ => exact ⟨none, .inl rfl, by simp [World.cell?, r1]⟩
    | 1, _ => exact ⟨_, nob_zero r0, by simp [World.cell?, r1]⟩
  have rL : Hid (w.heap.size + 1 < W1.heap.size) := (Array.getElem?_eq_some_iff.1 r1).1
  have rHB := Lib.hid rB
  clear rB r0 r1
  go_enter Try.func14, Try.ntmps14
  go_wp2
  clear rW
  go_loopw [22] (fun i wr => ∃ k : Nat, k ≤ 2 ∧ i = .int .i64 k ∧ Hid (Below W1.heap.size W1 wr)) (fun i _ => 2 - (intOf i).toNat)
  case atStart => exact ⟨0, by omega, rfl, Below.refl _ _⟩
  case round =>
    obtain ⟨k, hk, rfl, HBW⟩ := hrel
    by_cases hlt : k < 2
    · obtain ⟨a, hna, hca⟩ := rN.out k hlt
      have hc := (HBW.out.cell (p := ⟨w.heap.size + 1, k, none⟩) rL.out).trans hca
      have HNB := Lib.hid (hna.below HBW.out)
      have hkI : (k : Int) < 2 := by omega
      clear hna hca
      go_wp2_with (first
        | (go_at_call 28; go_loud ((refine (nob_rbyte _ a HNB.out).mono ?_); rintro e w9 ⟨rfl, hB9⟩; have HNB2 := Lib.hid (HNB.out.below hB9); have HBW2 := Lib.hid (HBW.out.trans (hB9.mono HBW.out.size)); clear HNB HBW hB9; obtain ⟨HNB, HBW⟩ : _ ∧ _ := ⟨HNB2, HBW2⟩; clear HNB2 HBW2))
        | (go_at_call 26; go_loud ((refine (nob_rbytes _ a HNB.out).mono ?_); rintro e w9 ⟨rfl, hB9⟩; have HNB2 := Lib.hid (HNB.out.below hB9); have HBW2 := Lib.hid (HBW.out.trans (hB9.mono HBW.out.size)); clear HNB HBW hB9; obtain ⟨HNB, HBW⟩ : _ ∧ _ := ⟨HNB2, HBW2⟩; clear HNB2 HBW2))
        | (go_at_call 32; go_loud ((refine (nob_rfixed _ a HNB.out).mono ?_); rintro e w9 ⟨rfl, hB9⟩; have HNB2 := Lib.hid (HNB.out.below hB9); have HBW2 := Lib.hid (HBW.out.trans (hB9.mono HBW.out.size)); clear HNB HBW hB9; obtain ⟨HNB, HBW⟩ : _ ∧ _ := ⟨HNB2, HBW2⟩; clear HNB2 HBW2))
        | (go_at_call 27; go_loud ((refine (nob_rnumber _ a HNB.out).mono ?_); rintro e w9 ⟨rfl, hB9⟩; have HNB2 := Lib.hid (HNB.out.below hB9); have HBW2 := Lib.hid (HBW.out.trans (hB9.mono HBW.out.size)); clear HNB HBW hB9; obtain ⟨HNB, HBW⟩ : _ ∧ _ := ⟨HNB2, HBW2⟩; clear HNB2 HBW2))
        | (go_at_call 25; go_loud ((refine (nob_rcount _ a HNB.out).mono ?_); rintro e w9 ⟨rfl, hB9⟩; have HNB2 := Lib.hid (HNB.out.below hB9); have HBW2 := Lib.hid (HBW.out.trans (hB9.mono HBW.out.size)); clear HNB HBW hB9; obtain ⟨HNB, HBW⟩ : _ ∧ _ := ⟨HNB2, HBW2⟩; clear HNB2 HBW2))
        | (go_at_call 23; go_loud ((refine (nob_rend _ a HNB.out).mono ?_); rintro e w9 ⟨rfl, hB9⟩; have HNB2 := Lib.hid (HNB.out.below hB9); have HBW2 := Lib.hid (HBW.out.trans (hB9.mono HBW.out.size)); clear HNB HBW hB9; obtain ⟨HNB, HBW⟩ : _ ∧ _ := ⟨HNB2, HBW2⟩; clear HNB2 HBW2))
        | (go_at_call 21; go_loud ((refine (nob_rat _ a HNB.out).mono ?_); rintro e w9 ⟨rfl, hB9⟩; have HNB2 := Lib.hid (HNB.out.below hB9); have HBW2 := Lib.hid (HBW.out.trans (hB9.mono HBW.out.size)); clear HNB HBW hB9; obtain ⟨HNB, HBW⟩ : _ ∧ _ := ⟨HNB2, HBW2⟩; clear HNB2 HBW2))
        | (go_at_call 22; go_loud ((refine (nob_rleft _ a HNB.out).mono ?_); rintro e w9 ⟨rfl, hB9⟩; have HNB2 := Lib.hid (HNB.out.below hB9); have HBW2 := Lib.hid (HBW.out.trans (hB9.mono HBW.out.size)); clear HNB HBW hB9; obtain ⟨HNB, HBW⟩ : _ ∧ _ := ⟨HNB2, HBW2⟩; clear HNB2 HBW2)))
      exact ⟨⟨k + 1, by omega, by go_num, HBW⟩, by simp [intOf]; omega⟩
    · have hge : 2 ≤ k := by omega
      clear hlt
      obtain ⟨w3, rfl⟩ : ∃ w3 : World, w3 = wr := ⟨_, rfl⟩
      have HB3 := Lib.hid (rHB.out.trans (HBW.out.mono rHB.out.size))
      clear HBW
      have vB : Below w3.heap.size w3 ((w3.alloc (.cells #[.bool false, .int .i64 0, .int .i64 0, .slice none 0 0] 85)).alloc (.cells #[.pointer none, .pointer (some ⟨w3.heap.size, 0, none⟩)] 34)) := ((Below.refl _ _).alloc (Nat.le_refl _) _).alloc (by simp) _
      have v0 : ((w3.alloc (.cells #[.bool false, .int .i64 0, .int .i64 0, .slice none 0 0] 85)).alloc (.cells #[.pointer none, .pointer (some ⟨w3.heap.size, 0, none⟩)] 34)).heap[w3.heap.size]? = some (.cells #[.bool false, .int .i64 0, .int .i64 0, .slice none 0 0] 85 (0, 0)) := (Below.heap_alloc _ _ _ (by simp)).trans (World.alloc_heap_new w3 _)
      have v1 : ((w3.alloc (.cells #[.bool false, .int .i64 0, .int .i64 0, .slice none 0 0] 85)).alloc (.cells #[.pointer none, .pointer (some ⟨w3.heap.size, 0, none⟩)] 34)).heap[w3.heap.size + 1]? = some (.cells #[.pointer none, .pointer (some ⟨w3.heap.size, 0, none⟩)] 34 (0, 0)) := by
        have := World.alloc_heap_new (w3.alloc (.cells #[.bool false, .int .i64 0, .int .i64 0, .slice none 0 0] 85)) (.cells #[.pointer none, .pointer (some ⟨w3.heap.size, 0, none⟩)] 34)
        rw [World.size_alloc] at this
        exact this
      obtain ⟨W4, vW⟩ : ∃ W4, ((w3.alloc (.cells #[.bool false, .int .i64 0, .int .i64 0, .slice none 0 0] 85)).alloc (.cells #[.pointer none, .pointer (some ⟨w3.heap.size, 0, none⟩)] 34)) = W4 := ⟨_, rfl⟩
      rw [vW] at vB v0 v1
      have vN : Hid (∀ k, k < 2 → ∃ a, Nob W4 a ∧ W4.cell? ⟨w3.heap.size + 1, k, none⟩ = some (.pointer a)) := fun k hk => by
        match k, hk with
        | 0, _ => exact ⟨none, .inl rfl, by simp [World.cell?, v1]⟩
        | 1, _ => exact ⟨_, nob_zero v0, by simp [World.cell?, v1]⟩
      have vL : Hid (w3.heap.size + 1 < W4.heap.size) := (Array.getElem?_eq_some_iff.1 v1).1
      have vHB := Lib.hid vB
      clear vB v0 v1
      go_wp2
      clear vW
      go_loopw [87] (fun i wr => ∃ k : Nat, k ≤ 2 ∧ i = .int .i64 k ∧ Hid (Below W4.heap.size W4 wr)) (fun i _ => 2 - (intOf i).toNat)
      case atStart => exact ⟨0, by omega, rfl, Below.refl _ _⟩
      case round =>
        obtain ⟨k2, hk2, rfl, HBW⟩ := hrel
        by_cases hlt : k2 < 2
        · obtain ⟨a, hna, hca⟩ := vN.out k2 hlt
          have hc := (HBW.out.cell (p := ⟨w3.heap.size + 1, k2, none⟩) vL.out).trans hca
          have HNB := Lib.hid (hna.below HBW.out)
          have hkI : (k2 : Int) < 2 := by omega
          clear hna hca
          go_wp2_with (first
            | (go_at_call 31; go_loud ((refine (nob_wbyte _ a HNB.out).mono ?_); rintro e w9 ⟨rfl, hB9⟩; have HNB2 := Lib.hid (HNB.out.below hB9); have HBW2 := Lib.hid (HBW.out.trans (hB9.mono HBW.out.size)); clear HNB HBW hB9; obtain ⟨HNB, HBW⟩ : _ ∧ _ := ⟨HNB2, HBW2⟩; clear HNB2 HBW2))
            | (go_at_call 30; go_loud ((refine (nob_wbytes _ a HNB.out _ _ _).mono ?_); rintro e w9 ⟨rfl, hB9⟩; have HNB2 := Lib.hid (HNB.out.below hB9); have HBW2 := Lib.hid (HBW.out.trans (hB9.mono HBW.out.size)); clear HNB HBW hB9; obtain ⟨HNB, HBW⟩ : _ ∧ _ := ⟨HNB2, HBW2⟩; clear HNB2 HBW2))
            | (go_at_call 29; go_loud ((refine (nob_wfixed _ a HNB.out).mono ?_); rintro e w9 ⟨rfl, hB9⟩; have HNB2 := Lib.hid (HNB.out.below hB9); have HBW2 := Lib.hid (HBW.out.trans (hB9.mono HBW.out.size)); clear HNB HBW hB9; obtain ⟨HNB, HBW⟩ : _ ∧ _ := ⟨HNB2, HBW2⟩; clear HNB2 HBW2))
            | (go_at_call 34; go_loud ((refine (nob_wnumber _ a HNB.out).mono ?_); rintro e w9 ⟨rfl, hB9⟩; have HNB2 := Lib.hid (HNB.out.below hB9); have HBW2 := Lib.hid (HBW.out.trans (hB9.mono HBW.out.size)); clear HNB HBW hB9; obtain ⟨HNB, HBW⟩ : _ ∧ _ := ⟨HNB2, HBW2⟩; clear HNB2 HBW2))
            | (go_at_call 17; go_loud ((refine (nob_wlen _ a HNB.out).mono ?_); rintro e w9 ⟨rfl, hB9⟩; have HNB2 := Lib.hid (HNB.out.below hB9); have HBW2 := Lib.hid (HBW.out.trans (hB9.mono HBW.out.size)); clear HNB HBW hB9; obtain ⟨HNB, HBW⟩ : _ ∧ _ := ⟨HNB2, HBW2⟩; clear HNB2 HBW2))
            | (go_at_call 18; go_loud ((refine (nob_wout _ a HNB.out).mono ?_); rintro e w9 ⟨rfl, hB9⟩; have HNB2 := Lib.hid (HNB.out.below hB9); have HBW2 := Lib.hid (HBW.out.trans (hB9.mono HBW.out.size)); clear HNB HBW hB9; obtain ⟨HNB, HBW⟩ : _ ∧ _ := ⟨HNB2, HBW2⟩; clear HNB2 HBW2)))
          exact ⟨⟨k2 + 1, by omega, by go_num, HBW⟩, by simp [intOf]; omega⟩
        · have hge2 : 2 ≤ k2 := by omega
          clear hlt
          have HB5 := Lib.hid (HB3.out.trans ((vHB.out.trans (HBW.out.mono vHB.out.size)).mono HB3.out.size))
          clear HBW
          go_wp2_with (go_at_call 43; go_loud ((refine (read_at _ none 0 [] 0 (0, 0, 10) rfl rfl (fun y hy => by cases hy) 0 (fun i x hi => by simp at hi) (Nat.zero_le _) (Nat.zero_le _)).mono ?_); rintro e w9 ⟨rfl, hB9⟩))
          go_ret
          exact ⟨rfl, HB5.out.trans (hB9.mono HB5.out.size)⟩

end Go.Proofs.Ytdemlifjhlpclaa

/-
  The walk of CursorSmall.
-/
namespace Go.Proofs.Ytdemlifjhlpclaa
open Go.RowKit
set_option linter.unusedVariables false

theorem u64_nat (v : Int) : ∃ X : Nat, IntKind.u64.wrap v = (X : Int) ∧ X < 2 ^ 64 := by
  have h := bounds_u64 (wf_wrap .u64 v)
  exact ⟨(IntKind.u64.wrap v).toNat, by omega, by omega⟩
theorem nine_at {k : Nat} (h : k < 9) : ∃ v, nine[k]? = some v ∧ -9223372036854775808 ≤ v ∧ v ≤ 9223372036854775807 := by
  have : k < nine.length := h
  exact ⟨nine[k], List.getElem?_eq_getElem this, nine_bd _ (List.getElem_mem _)⟩
theorem four_at {k : Nat} (h : k < 4) : ∃ v, four[k]? = some v ∧ -9223372036854775808 ≤ v ∧ v ≤ 9223372036854775807 := by
  have : k < four.length := h
  exact ⟨four[k], List.getElem?_eq_getElem this, four_bd _ (List.getElem_mem _)⟩
theorem nineU_at {k : Nat} (h : k < 9) : ∃ v : Nat, nineU[k]? = some (v : Int) ∧ v < 2 ^ 64 := by
  have hl : k < nineU.length := h
  have hb := nineU_bd nineU[k] (List.getElem_mem _)
  exact ⟨nineU[k].toNat, by rw [Int.toNat_of_nonneg hb.1]; exact List.getElem?_eq_getElem hl, by omega⟩

set_option maxRecDepth 100000 in
set_option maxHeartbeats 4000000 in
theorem small_walk (w : World) : Calls Try.prog 5 #[] w fun e w' => e = .returned (.bool true) ∧ Below w.heap.size w w' := by
  have hB0 : Below w.heap.size w ((w.alloc nineObj).alloc tenObj) := ((Below.refl _ w).alloc (Nat.le_refl _) _).alloc (by simp) _
  have hN0 : ((w.alloc nineObj).alloc tenObj).heap[w.heap.size]? = some nineObj := (Below.heap_alloc _ _ _ (by simp)).trans (World.alloc_heap_new w _)
  have hT0 : ((w.alloc nineObj).alloc tenObj).heap[w.heap.size + 1]? = some tenObj := by
    have := World.alloc_heap_new (w.alloc nineObj) tenObj
    rw [World.size_alloc] at this
    exact this
  have hZ0 : ((w.alloc nineObj).alloc tenObj).heap.size = w.heap.size + 2 := by simp
  obtain ⟨W0, hW0⟩ : ∃ W0, (w.alloc nineObj).alloc tenObj = W0 := ⟨_, rfl⟩
  rw [hW0] at hB0 hN0 hT0 hZ0
  have HB0 := Lib.hid hB0
  have HN0 := Lib.hid hN0
  have HT0 := Lib.hid hT0
  have HZ0 := Lib.hid hZ0
  clear hB0 hN0 hT0 hZ0
  unfold nineObj tenObj at hW0
  go_enter Try.func5, Try.ntmps5
  go_wp2
  have HW0 := Lib.hid hW0
  clear hW0
  go_loopw [21] (fun i wr => ∃ f : Nat, f ≤ 11 ∧ i = .int .i64 f ∧ Hid (Below W0.heap.size W0 wr)) (fun i _ => 11 - (intOf i).toNat)
  case atStart => exact ⟨0, by omega, rfl, Below.refl _ _⟩
  case round =>
    obtain ⟨f, hf, rfl, HBf⟩ := hrel
    by_cases hltf : f < 11
    · have hfI : (f : Int) ≤ 10 := by omega
      go_wp2
      go_loopw [4] (fun i wr => ∃ t : Nat, f ≤ t ∧ t ≤ 11 ∧ i = .int .i64 t ∧ Hid (Below W0.heap.size W0 wr)) (fun i _ => 11 - (intOf i).toNat)
      case atStart => exact ⟨f, Nat.le_refl _, by omega, rfl, HBf⟩
      case round =>
        clear HBf
        obtain ⟨t, hft, ht, rfl, HBt⟩ := hrel
        by_cases hltt : t < 11
        · have htI : (t : Int) ≤ 10 := by omega
          go_wp2
          go_loopw [31] (fun i wr => ∃ k : Nat, k ≤ 5 ∧ i = .int .u8 k ∧ Hid (Below W0.heap.size W0 wr)) (fun i _ => 5 - (intOf i).toNat)
          case atStart => exact ⟨0, by omega, rfl, HBt⟩
          case round =>
            clear HBt
            obtain ⟨k, hk, rfl, HBk⟩ := hrel
            by_cases hltk : k < 5
            · have hkI : (k : Int) < 5 := by omega
              go_wp2
              go_loopw [36] (fun i wr => ∃ n : Nat, n ≤ 9 ∧ i = .int .i64 n ∧ Hid (Below W0.heap.size W0 wr)) (fun i _ => 9 - (intOf i).toNat)
              case atStart => exact ⟨0, by omega, rfl, HBk⟩
              case round =>
                clear HBk
                obtain ⟨n, hn, rfl, HBn⟩ := hrel
                by_cases hltn : n < 9
                · obtain ⟨v, hv, hv1, hv2⟩ := nine_at hltn
                  have hnc := nine_cell ((HBn.out.block w.heap.size (by rw [HZ0.out]; omega)).trans HN0.out) hv
                  clear hv
                  have hnI : (n : Int) < 9 := by omega
                  obtain ⟨X, hX, hX64⟩ := u64_nat v
                  obtain ⟨w4, rfl⟩ : ∃ w4 : World, w4 = wr := ⟨_, rfl⟩
                  have HF4 : Hid ((w4.alloc (.cells #[.int .i64 0, .int .i64 1, .int .i64 3, .int .i64 9223372036854775807] 3)).heap[w4.heap.size]? = some fourObj) := World.alloc_heap_new w4 fourObj
                  have HB4 := Lib.hid (HBn.out.alloc HBn.out.size (.cells #[.int .i64 0, .int .i64 1, .int .i64 3, .int .i64 9223372036854775807] 3))
                  have hl4 : w4.heap.size < (w4.alloc (.cells #[.int .i64 0, .int .i64 1, .int .i64 3, .int .i64 9223372036854775807] 3)).heap.size := by simp
                  have HL4 := Lib.hid hl4
                  clear hl4
                  go_wp2
                  go_loopw [42] (fun i wr => ∃ m : Nat, m ≤ 4 ∧ i = .int .i64 m ∧ Hid (Below W0.heap.size W0 wr) ∧ Hid (wr.heap[w4.heap.size]? = some fourObj)) (fun i _ => 4 - (intOf i).toNat)
                  case atStart => exact ⟨0, by omega, rfl, HB4, HF4⟩
                  case round =>
                    clear HB4 HF4 HL4
                    obtain ⟨m, hm, rfl, HBm, HFm⟩ := hrel
                    by_cases hltm : m < 4
                    · obtain ⟨u, hu, hu1, hu2⟩ := four_at hltm
                      have huc := four_cell HFm.out hu
                      clear hu
                      have hmI : (m : Int) < 4 := by omega
                      have HV : Hid (-9223372036854775808 ≤ v ∧ v ≤ 9223372036854775807) := ⟨hv1, hv2⟩
                      have HU : Hid (-9223372036854775808 ≤ u ∧ u ≤ 9223372036854775807) := ⟨hu1, hu2⟩
                      have HX64 := Lib.hid hX64
                      have hact := World.alloc_heap_new wr (actObj k v u X (.slice none 0 0))
                      unfold actObj at hact
                      obtain ⟨c0, c1, c2, c3, c4⟩ := act_cells (by unfold actObj; exact hact)
                      have hftI : (f : Int) ≤ (t : Int) := by omega
                      have hf0 : (0 : Int) ≤ (f : Int) := by omega
                      clear hact hX64
                      have HBA := Lib.hid (HBm.out.alloc HBm.out.size (.cells #[.int .u8 k, .int .i64 v, .int .i64 u, .int .u64 X, .slice none 0 0] 30))
                      have hB2 : Below wr.heap.size wr ((wr.alloc (actObj k v u X (.slice none 0 0))).alloc (actsObj ⟨k, v, u, X, none, 0, 0⟩ ⟨0, 0, 0, 0, none, 0, 0⟩ ⟨k, v, u, X, none, 0, 0⟩ ⟨3, 0, 0, 1000, none, 0, 0⟩ ⟨k, v, u, X, none, 0, 0⟩)) := ((Below.refl _ wr).alloc (Nat.le_refl _) _).alloc (by simp) _
                      have hacts : ((wr.alloc (actObj k v u X (.slice none 0 0))).alloc (actsObj ⟨k, v, u, X, none, 0, 0⟩ ⟨0, 0, 0, 0, none, 0, 0⟩ ⟨k, v, u, X, none, 0, 0⟩ ⟨3, 0, 0, 1000, none, 0, 0⟩ ⟨k, v, u, X, none, 0, 0⟩)).heap[wr.heap.size + 1]? = some (actsObj ⟨k, v, u, X, none, 0, 0⟩ ⟨0, 0, 0, 0, none, 0, 0⟩ ⟨k, v, u, X, none, 0, 0⟩ ⟨3, 0, 0, 1000, none, 0, 0⟩ ⟨k, v, u, X, none, 0, 0⟩) := by
                        have := World.alloc_heap_new (wr.alloc (actObj k v u X (.slice none 0 0))) (actsObj ⟨k, v, u, X, none, 0, 0⟩ ⟨0, 0, 0, 0, none, 0, 0⟩ ⟨k, v, u, X, none, 0, 0⟩ ⟨3, 0, 0, 1000, none, 0, 0⟩ ⟨k, v, u, X, none, 0, 0⟩)
                        rw [World.size_alloc] at this
                        exact this
                      have hwl : w.heap.size + 1 < wr.heap.size := by have h1 := HBm.out.size; have h2 := HZ0.out; omega
                      have HA0 : Hid (((wr.alloc (actObj k v u X (.slice none 0 0))).alloc (actsObj ⟨k, v, u, X, none, 0, 0⟩ ⟨0, 0, 0, 0, none, 0, 0⟩ ⟨k, v, u, X, none, 0, 0⟩ ⟨3, 0, 0, 1000, none, 0, 0⟩ ⟨k, v, u, X, none, 0, 0⟩)).heap[wr.heap.size]? = some (actObj k v u X (.slice none 0 0))) := (Below.heap_alloc _ _ _ (by simp)).trans (World.alloc_heap_new wr _)
                      have hwl2 : wr.heap.size < ((wr.alloc (actObj k v u X (.slice none 0 0))).alloc (actsObj ⟨k, v, u, X, none, 0, 0⟩ ⟨0, 0, 0, 0, none, 0, 0⟩ ⟨k, v, u, X, none, 0, 0⟩ ⟨3, 0, 0, 1000, none, 0, 0⟩ ⟨k, v, u, X, none, 0, 0⟩)).heap.size := by simp; omega
                      have HWL2 := Lib.hid hwl2
                      clear hwl2
                      have HTE := Lib.hid ((hB2.block (w.heap.size + 1) hwl).trans ((HBm.out.block (w.heap.size + 1) (by have := HZ0.out; omega)).trans HT0.out))
                      have HAC := Lib.hid hacts
                      have H4L : Hid (w4.heap.size < wr.heap.size) := (Array.getElem?_eq_some_iff.1 HFm.out).1
                      have HB2 := Lib.hid hB2
                      obtain ⟨ad, had⟩ : ∃ ad, (if 10 = f then (some ⟨w.heap.size + 1, 0, none⟩ : Option Addr) else some ⟨w.heap.size + 1, f, none⟩) = ad := ⟨_, rfl⟩
                      have HAD1 : Hid (ad = some ⟨w.heap.size + 1, f, none⟩ ∨ f = t) := by
                        rw [← had]
                        by_cases h : 10 = f
                        · exact .inr (by omega)
                        · exact .inl (if_neg h)
                      have HAD2 : Hid (ad = none → 10 - f = 0) := by
                        rw [← had]
                        intro h
                        split at h <;> cases h
                      clear hacts hB2 hwl HBA
                      go_wp2
                      go_region_held3 (fun W => W.cell? ⟨wr.heap.size, 0, none⟩ = some (.int .u8 k) ∧ W.cell? ⟨wr.heap.size, 1, none⟩ = some (.int .i64 v) ∧ W.cell? ⟨wr.heap.size, 2, none⟩ = some (.int .i64 u) ∧ W.cell? ⟨wr.heap.size, 3, none⟩ = some (.int .u64 X) ∧ W.cell? ⟨wr.heap.size, 4, none⟩ = some (.slice none 0 0)) (first | go_keep | exact ⟨c0, c1, c2, c3, c4⟩ | exact ⟨d0, d1, d2, d3, d4⟩) ((go_at_call 11; refine (small_reads _ (w.heap.size + 1) (wr.heap.size + 1) f t _ _ rfl rfl hft (by omega) (by exact HTE.out) ad HAD1.out HAD2.out k (by omega) v u X HV.out HU.out HX64.out (by exact HAC.out)).mono ?_; rintro e w5 ⟨rfl, hB5⟩; obtain ⟨d0, d1, d2, d3, d4⟩ := act_cells ((hB5.block wr.heap.size (by exact HWL2.out)).trans HA0.out)))
                      all_goals
                        rename_i hcont hheld
                        have HB5 : Hid (Below wr.heap.size wr w5) := HB2.out.trans (Below.mono ⟨hB5.os, hB5.tape, hB5.output, hB5.size, hB5.block⟩ HB2.out.size)
                        have HBZ := Lib.hid (HBm.out.trans (HB5.out.mono HBm.out.size))
                        have HFZ := Lib.hid ((HB5.out.block w4.heap.size H4L.out).trans HFm.out)
                        clear hheld hB5 d0 d1 d2 d3 d4 c0 c1 c2 c3 c4 had
                        refine hcont _ _ ?_
                        clear hcont
                        go_wp2
                        first
                        | exact ⟨⟨m + 1, by omega, by go_num, HBZ, HFZ⟩, by simp [intOf]; omega⟩
                        | (refine ⟨?_, by simp [intOf]; omega⟩
                           repeat apply Exists.intro
                           refine ⟨⟨m + 1, by omega, by go_num, HBZ, HFZ⟩, ?_⟩
                           simp
                           repeat' (first | exact rfl | omega | apply And.intro))
                    · have hgem : 4 ≤ m := by omega
                      clear hltm HFm
                      go_wp2
                      first
                      | exact ⟨⟨n + 1, by omega, by go_num, HBm⟩, by simp [intOf]; omega⟩
                      | (refine ⟨?_, by simp [intOf]; omega⟩
                         repeat apply Exists.intro
                         refine ⟨⟨n + 1, by omega, by go_num, HBm⟩, ?_⟩
                         simp
                         repeat' (first | exact rfl | omega | apply And.intro))
                · have hgen : 9 ≤ n := by omega
                  clear hltn
                  go_wp2
                  first
                  | exact ⟨⟨k + 1, by omega, by go_num, HBn⟩, by simp [intOf]; omega⟩
                  | (refine ⟨?_, by simp [intOf]; omega⟩
                     repeat apply Exists.intro
                     refine ⟨⟨k + 1, by omega, by go_num, HBn⟩, ?_⟩
                     simp
                     repeat' (first | exact rfl | omega | apply And.intro))
            · have hgek : 5 ≤ k := by omega
              clear hltk
              go_wp2
              first
              | exact ⟨⟨t + 1, by omega, by omega, by go_num, HBk⟩, by simp [intOf]; omega⟩
              | (refine ⟨?_, by simp [intOf]; omega⟩
                 repeat apply Exists.intro
                 refine ⟨⟨t + 1, by omega, by omega, by go_num, HBk⟩, ?_⟩
                 simp
                 repeat' (first | exact rfl | omega | apply And.intro))
        · have hget : 11 ≤ t := by omega
          clear hltt
          go_wp2
          first
          | exact ⟨⟨f + 1, by omega, by go_num, HBt⟩, by simp [intOf]; omega⟩
          | (refine ⟨?_, by simp [intOf]; omega⟩
             repeat apply Exists.intro
             refine ⟨⟨f + 1, by omega, by go_num, HBt⟩, ?_⟩
             simp
             repeat' (first | exact rfl | omega | apply And.intro))
    · have hgef : 11 ≤ f := by omega
      clear hltf
      go_wp2
      go_loopw [11] (fun i wr => ∃ q : Nat, q ≤ 13 ∧ i = .int .i64 ((q : Int) - 1) ∧ Hid (Below W0.heap.size W0 wr)) (fun i _ => 13 - (intOf i + 1).toNat)
      case atStart => exact ⟨0, by omega, rfl, HBf⟩
      case round =>
        clear HBf
        obtain ⟨q, hq, rfl, HBq⟩ := hrel
        by_cases hltq : q < 13
        · have hqI : (q : Int) - 1 < 12 := by omega
          have hqI2 : (q : Int) < 13 := by omega
          go_wp2
          go_loopw [74] (fun i wr => ∃ n : Nat, n ≤ 9 ∧ i = .int .i64 n ∧ Hid (Below W0.heap.size W0 wr)) (fun i _ => 9 - (intOf i).toNat)
          case atStart => exact ⟨0, by omega, rfl, HBq⟩
          case round =>
            clear HBq
            obtain ⟨n, hn, rfl, HBn⟩ := hrel
            by_cases hltn : n < 9
            · obtain ⟨v, hv, hv1, hv2⟩ := nine_at hltn
              have hnc := nine_cell ((HBn.out.block w.heap.size (by rw [HZ0.out]; omega)).trans HN0.out) hv
              clear hv
              have hnI : (n : Int) < 9 := by omega
              obtain ⟨w4, rfl⟩ : ∃ w4 : World, w4 = wr := ⟨_, rfl⟩
              have HF4 : Hid ((w4.alloc (.cells #[.int .u64 0, .int .u64 1, .int .u64 127, .int .u64 128, .int .u64 255, .int .u64 256, .int .u64 72057594037927936, .int .u64 72057594037927935, .int .u64 18446744073709551615] 28)).heap[w4.heap.size]? = some nineUObj) := World.alloc_heap_new w4 nineUObj
              have HB4 := Lib.hid (HBn.out.alloc HBn.out.size (.cells #[.int .u64 0, .int .u64 1, .int .u64 127, .int .u64 128, .int .u64 255, .int .u64 256, .int .u64 72057594037927936, .int .u64 72057594037927935, .int .u64 18446744073709551615] 28))
              go_wp2
              go_loopw [80] (fun i wr => ∃ m : Nat, m ≤ 9 ∧ i = .int .i64 m ∧ Hid (Below W0.heap.size W0 wr) ∧ Hid (wr.heap[w4.heap.size]? = some nineUObj)) (fun i _ => 9 - (intOf i).toNat)
              case atStart => exact ⟨0, by omega, rfl, HB4, HF4⟩
              case round =>
                clear HB4 HF4
                obtain ⟨m, hm, rfl, HBm, HFm⟩ := hrel
                by_cases hltm : m < 9
                · obtain ⟨x, hu, hx64⟩ := nineU_at hltm
                  have huc := nineU_cell HFm.out hu
                  clear hu
                  have hmI : (m : Int) < 9 := by omega
                  have HV : Hid (-9223372036854775808 ≤ v ∧ v ≤ 9223372036854775807) := ⟨hv1, hv2⟩
                  have HX64 := Lib.hid hx64
                  obtain ⟨r, hr⟩ : ∃ r, x % 8 = r := ⟨_, rfl⟩
                  have hr8 : r < 8 := by omega
                  have hrI : (x : Int) % 8 = (r : Int) := by omega
                  have hrI2 : (r : Int) ≤ 10 := by omega
                  have hr0 : (0 : Int) ≤ (r : Int) := by omega
                  clear hr hx64
                  have HAC : Hid ((wr.alloc (actsObj ⟨2, v, 0, x, none, 0, 0⟩ ⟨3, 0, 0, x, none, 0, 0⟩ ⟨0, 0, 0, x, none, 0, 0⟩ ⟨1, 0, 0, 0, some ⟨w.heap.size + 1, 0, none⟩, r, 10⟩ ⟨2, 1, 0, x, none, 0, 0⟩)).heap[wr.heap.size]? = some (actsObj ⟨2, v, 0, x, none, 0, 0⟩ ⟨3, 0, 0, x, none, 0, 0⟩ ⟨0, 0, 0, x, none, 0, 0⟩ ⟨1, 0, 0, 0, some ⟨w.heap.size + 1, 0, none⟩, r, 10⟩ ⟨2, 1, 0, x, none, 0, 0⟩)) := World.alloc_heap_new wr (actsObj ⟨2, v, 0, x, none, 0, 0⟩ ⟨3, 0, 0, x, none, 0, 0⟩ ⟨0, 0, 0, x, none, 0, 0⟩ ⟨1, 0, 0, 0, some ⟨w.heap.size + 1, 0, none⟩, r, 10⟩ ⟨2, 1, 0, x, none, 0, 0⟩)
                  have hB2 : Below wr.heap.size wr (wr.alloc (actsObj ⟨2, v, 0, x, none, 0, 0⟩ ⟨3, 0, 0, x, none, 0, 0⟩ ⟨0, 0, 0, x, none, 0, 0⟩ ⟨1, 0, 0, 0, some ⟨w.heap.size + 1, 0, none⟩, r, 10⟩ ⟨2, 1, 0, x, none, 0, 0⟩)) := (Below.refl _ wr).alloc (Nat.le_refl _) _
                  have hwl : w.heap.size + 1 < wr.heap.size := by have h1 := HBm.out.size; have h2 := HZ0.out; omega
                  have HTE := Lib.hid ((hB2.block (w.heap.size + 1) hwl).trans ((HBm.out.block (w.heap.size + 1) (by have := HZ0.out; omega)).trans HT0.out))
                  have H4L : Hid (w4.heap.size < wr.heap.size) := (Array.getElem?_eq_some_iff.1 HFm.out).1
                  have HB2 := Lib.hid hB2
                  have HLQ : Hid (-9223372036854775808 ≤ (q : Int) - 1 ∧ (q : Int) - 1 ≤ 9223372036854775807) := by show _ ∧ _; omega
                  clear hB2 hwl
                  unfold actsObj at HTE HAC HB2
                  go_wp2_with (go_at_call 13; go_loud ((refine (small_writes _ (w.heap.size + 1) wr.heap.size r hr8 HTE.out ((q : Int) - 1) v x HLQ.out HV.out HX64.out HAC.out).mono ?_); rintro e w5 ⟨rfl, hB5⟩))
                  have HB5 := Lib.hid (HB2.out.trans (hB5.mono HB2.out.size))
                  have HBZ := Lib.hid (HBm.out.trans (HB5.out.mono HBm.out.size))
                  have HFZ := Lib.hid ((HB5.out.block w4.heap.size H4L.out).trans HFm.out)
                  clear hB5
                  first
                  | exact ⟨⟨m + 1, by omega, by go_num, HBZ, HFZ⟩, by simp [intOf]; omega⟩
                  | (refine ⟨?_, by simp [intOf]; omega⟩
                     repeat apply Exists.intro
                     refine ⟨⟨m + 1, by omega, by go_num, HBZ, HFZ⟩, ?_⟩
                     simp
                     repeat' (first | exact rfl | omega | apply And.intro))
                · have hgem : 9 ≤ m := by omega
                  clear hltm HFm
                  go_wp2
                  first
                  | exact ⟨⟨n + 1, by omega, by go_num, HBm⟩, by simp [intOf]; omega⟩
                  | (refine ⟨?_, by simp [intOf]; omega⟩
                     repeat apply Exists.intro
                     refine ⟨⟨n + 1, by omega, by go_num, HBm⟩, ?_⟩
                     simp
                     repeat' (first | exact rfl | omega | apply And.intro))
            · have hgen : 9 ≤ n := by omega
              clear hltn
              go_wp2
              first
              | exact ⟨⟨q + 1, by omega, by go_num, HBn⟩, by simp [intOf]; omega⟩
              | (refine ⟨?_, by simp [intOf]; omega⟩
                 repeat apply Exists.intro
                 refine ⟨⟨q + 1, by omega, by go_num, HBn⟩, ?_⟩
                 simp
                 repeat' (first | exact rfl | omega | apply And.intro))
        · have hgeq : 13 ≤ q := by omega
          have hqI : ¬ (q : Int) - 1 < 12 := by omega
          have hqI2 : ¬ (q : Int) < 13 := by omega
          clear hltq
          have HBW := HBq
          clear HBq
          go_wp2_with (first
            | (go_at_call 13; go_loud ((refine (writes_none _ _ (by decide)).mono ?_); rintro e w9 ⟨rfl, hB9⟩; have HBW2 := Lib.hid (HBW.out.trans (hB9.mono HBW.out.size)); clear HBW hB9; obtain ⟨HBW, _⟩ : _ ∧ True := ⟨HBW2, trivial⟩; clear HBW2))
            | (go_at_call 14; go_loud ((refine (nobody_any _).mono ?_); rintro e w9 ⟨rfl, hB9⟩; have HBW2 := Lib.hid (HBW.out.trans (hB9.mono HBW.out.size)); clear HBW hB9; obtain ⟨HBW, _⟩ : _ ∧ True := ⟨HBW2, trivial⟩; clear HBW2))
            | (go_at_call 12; go_loud ((refine (awake_any _).mono ?_); rintro e w9 ⟨rfl, hB9⟩; have HBW2 := Lib.hid (HBW.out.trans (hB9.mono HBW.out.size)); clear HBW hB9; obtain ⟨HBW, _⟩ : _ ∧ True := ⟨HBW2, trivial⟩; clear HBW2)))
          go_ret
          exact ⟨rfl, HB0.out.trans (HBW.out.mono HB0.out.size)⟩

end Go.Proofs.Ytdemlifjhlpclaa
