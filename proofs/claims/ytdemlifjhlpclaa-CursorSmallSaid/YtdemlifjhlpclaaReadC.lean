/-
  quantumlaw02.read: one call of a reader, and of the reference reader.
-/
import Derived.Test.YtdemlifjhlpclaaRefCount
import Derived.Test.YtdemlifjhlpclaaOver
import Derived.BigRegion
namespace Go.Proofs.Ytdemlifjhlpclaa
open Go.RowKit
set_option linter.unusedVariables false

/-- A call. -/
@[reducible] def av (kd : Nat) (N M : Int) (X : Nat) (sl : Value) : Value := .agg #[.int .u8 kd, .int .i64 N, .int .i64 M, .int .u64 X, sl]
def actObj (kd : Nat) (N M : Int) (X : Nat) (sl : Value) : Obj := .cells #[.int .u8 kd, .int .i64 N, .int .i64 M, .int .u64 X, sl] 30 (0, 0)
def rrObj (a : Option Addr) (n c p : Nat) : Obj := .cells #[.slice a n c, .int .i64 p] 71 (0, 0)
def nnObj : Obj := .cells #[.slice none 0 0, .int .i64 0] 71 (0, 0)
def rdWorld (w : World) (a : Option Addr) (n c p : Nat) (kd : Nat) (N M : Int) (X : Nat) (sl : Value) : World := ((w.alloc (rrObj a n c p)).alloc (actObj kd N M X sl)).alloc nnObj
theorem act_cells {w : World} {b : Nat} {kd : Nat} {N M : Int} {X : Nat} {sl : Value} (h : w.heap[b]? = some (actObj kd N M X sl)) : w.cell? ⟨b, 0, none⟩ = some (.int .u8 kd) ∧ w.cell? ⟨b, 1, none⟩ = some (.int .i64 N) ∧ w.cell? ⟨b, 2, none⟩ = some (.int .i64 M) ∧ w.cell? ⟨b, 3, none⟩ = some (.int .u64 X) ∧ w.cell? ⟨b, 4, none⟩ = some sl := by
  unfold actObj at h
  refine ⟨?_, ?_, ?_, ?_, ?_⟩ <;> simp [World.cell?, h]
theorem rdWorld_all (w : World) (a : Option Addr) (n c p : Nat) (kd : Nat) (N M : Int) (X : Nat) (sl : Value) : (rdWorld w a n c p kd N M X sl).heap.size = w.heap.size + 3 ∧ Below w.heap.size w (rdWorld w a n c p kd N M X sl) ∧
    (rdWorld w a n c p kd N M X sl).heap[w.heap.size]? = some (rrObj a n c p) ∧ (rdWorld w a n c p kd N M X sl).heap[w.heap.size + 1]? = some (actObj kd N M X sl) ∧ (rdWorld w a n c p kd N M X sl).heap[w.heap.size + 2]? = some nnObj := by
  have h2 : ((w.alloc (rrObj a n c p)).alloc (actObj kd N M X sl)).heap.size = w.heap.size + 2 := by simp
  refine ⟨by simp [rdWorld], (((Below.refl _ w).alloc (Nat.le_refl _) _).alloc (by simp) _).alloc (by simp; omega) _, ?_, ?_, ?_⟩
  · exact (Below.heap_alloc _ _ _ (by simp; omega)).trans ((Below.heap_alloc _ _ _ (by simp)).trans (World.alloc_heap_new w _))
  · have := World.alloc_heap_new (w.alloc (rrObj a n c p)) (actObj kd N M X sl)
    rw [World.size_alloc] at this
    exact (Below.heap_alloc _ _ _ (by simp)).trans this
  · have := World.alloc_heap_new ((w.alloc (rrObj a n c p)).alloc (actObj kd N M X sl)) nnObj
    rw [h2] at this
    exact this
theorem rr_cells {w : World} {b : Nat} {a : Option Addr} {n c p : Nat} (h : w.heap[b]? = some (rrObj a n c p)) : w.cell? ⟨b, 0, none⟩ = some (.slice a n c) ∧ w.cell? ⟨b, 1, none⟩ = some (.int .i64 p) ∧ w.frozen? ⟨b, 0, none⟩ = false ∧ w.frozen? ⟨b, 1, none⟩ = false := two_cells h
/-- What read says. -/
def ReadOk (w : World) (B : Nat) (a : Option Addr) (n c : Nat) (xs : List Nat) (e : Ending) (w' : World) : Prop := ∃ p', e = .returned (.tuple #[rv a n c p', .bool true]) ∧ p' ≤ n ∧ Rdr w' B p' xs ∧ Chg (· = B) w w'
/-- What lies in the blocks of read after a call. -/
theorem read_keeps {w w1 : World} {B : Nat} {a : Option Addr} {n c p : Nat} {kd : Nat} {N M : Int} {X : Nat} {sl : Value} (hB : B < w.heap.size) (h : Chg (· = B) (rdWorld w a n c p kd N M X sl) w1) :
    w1.cell? ⟨w.heap.size, 0, none⟩ = some (.slice a n c) ∧ w1.cell? ⟨w.heap.size, 1, none⟩ = some (.int .i64 p) ∧
    w1.cell? ⟨w.heap.size + 1, 0, none⟩ = some (.int .u8 kd) ∧ w1.cell? ⟨w.heap.size + 1, 1, none⟩ = some (.int .i64 N) ∧ w1.cell? ⟨w.heap.size + 1, 2, none⟩ = some (.int .i64 M) ∧ w1.cell? ⟨w.heap.size + 1, 3, none⟩ = some (.int .u64 X) ∧
    w1.cell? ⟨w.heap.size + 2, 0, none⟩ = some (.slice none 0 0) ∧ w1.cell? ⟨w.heap.size + 2, 1, none⟩ = some (.int .i64 0) ∧ w1.frozen? ⟨w.heap.size + 2, 0, none⟩ = false ∧ w1.frozen? ⟨w.heap.size + 2, 1, none⟩ = false := by
  obtain ⟨_, _, h1, h2, h3⟩ := rdWorld_all w a n c p kd N M X sl
  obtain ⟨a0, a1, _, _⟩ := rr_cells (h.at_block h1 (by omega))
  obtain ⟨b0, b1, b2, b3, _⟩ := act_cells (h.at_block h2 (by omega))
  obtain ⟨c0, c1, d0, d1⟩ := two_cells (h.at_block h3 (by omega))
  exact ⟨a0, a1, b0, b1, b2, b3, c0, c1, d0, d1⟩
theorem Chg.setNew {S : Nat → Prop} {w w2 : World} (h : Chg S w w2) {q : Addr} (hq : w.heap.size ≤ q.block) (u : Value) : Chg S w (w2.setCell q u) :=
  ⟨h.os, h.tape, h.output, by have := h.size; simpa [World.setCell] using this, fun k hk hn => (Below.heap_setCell _ _ _ _ (by omega)).trans (h.block k hk hn)⟩
theorem Rdr.setNew {w : World} {B p : Nat} {xs : List Nat} (h : Rdr w B p xs) {q : Addr} (hq : B < q.block) (u : Value) : Rdr (w.setCell q u) B p xs :=
  h.keep ((Below.refl (B + 1) w).setCell hq u)
theorem Rdr.bounds {w : World} {B p : Nat} {xs : List Nat} (h : Rdr w B p xs) : p ≤ xs.length ∧ ∀ x ∈ xs, x < 256 := by
  obtain ⟨a, c, _, _, _, hx, hp, _⟩ := h
  exact ⟨hp, hx⟩

set_option maxRecDepth 100000 in
set_option maxHeartbeats 4000000 in
theorem read_2 (w : World) (B : Nat) (a : Option Addr) (n c p : Nat) (kd : Nat) (N M : Int) (X : Nat) (sl : Value) (hk : kd % 8 = 2) (hkd : kd < 256) (hN1 : -9223372036854775808 ≤ N) (hN2 : N ≤ 9223372036854775807) (hM1 : -9223372036854775808 ≤ M) (hM2 : M ≤ 9223372036854775807) (hX : X < 2 ^ 64)
    (xs : List Nat) (hn : xs.length = n) (hn5 : n ≤ 500) (hnc : n ≤ c) (hcm : c ≤ maxLen) (hsn : a = none → c = 0) (hR : Rdr w B p xs) (Q : Nat) (hS : Seen w Q .u8 a xs) (hQ : Q ≤ w.heap.size) :
    Calls Try.prog 38 #[.pointer (some ⟨B, 0, none⟩), rv a n c p, av kd N M X sl] w (ReadOk w B a n c xs) := by
  have hkI : (kd : Int) % 8 = 2 := by omega
  obtain ⟨hsz, hB0, hb1, hb2, hb3⟩ := rdWorld_all w a n c p kd N M X sl
  obtain ⟨hp, hx⟩ := hR.bounds
  have hBl := hR.lt
  have hR0 := hR.below hB0
  have hS0 := hS.below (hB0.mono hQ)
  have hQ0 : Q ≤ (rdWorld w a n c p kd N M X sl).heap.size := Nat.le_trans hQ hB0.size
  have HN := Lib.hid hn
  have HX := Lib.hid hx
  have HSN := Lib.hid hsn
  have HLM : Hid (xs.length ≤ 1000000000) := by rw [hn]; show _ ≤ _; omega
  rw [hn] at hp
  have HB0 := Lib.hid hB0
  have HSZ := Lib.hid hsz
  have HRW := Lib.hid hR
  clear hk hn hx hsn hsz hB0 hb1 hb2 hb3 hR hS
  unfold rdWorld rrObj actObj nnObj at hR0 hS0 hQ0
  unfold rv av
  obtain ⟨r, hr⟩ : ∃ r, Cu.rdFixed N p xs = r := ⟨_, rfl⟩
  obtain ⟨y, er, p1⟩ := r
  have HR := Lib.hid hr
  clear hr
  go_enter Try.func38, Try.ntmps38
  go_wp2_with (first
    | (go_at_call 32; ((with_reducible refine (fixed_at _ B p xs N y er p1 HR.out hR0).mono ?_); rintro e w1 ⟨rfl, hR1, hK1⟩; obtain ⟨a0, a1, b0, b1, b2, b3, c0, c1, f0, f1⟩ := read_keeps (p := p) (kd := kd) (N := N) (M := M) (X := X) (sl := sl) hBl hK1; have S1 := hR0.past hK1 hS0; have hQ1 := Nat.le_trans hQ0 hK1.size))
    | (go_at_call 59; ((with_reducible refine (refFixed_any _ a n c p N xs HN.out (by omega) hp HX.out Q S1 hQ1 y er p1 HR.out).mono ?_); rintro e w2 ⟨rfl, hB2⟩; have hK2 := hK1.trans (Chg.of_below (· = B) hB2); obtain ⟨a0', a1', b0', b1', b2', b3', c0', c1', f0', f1'⟩ := read_keeps (p := p) (kd := kd) (N := N) (M := M) (X := X) (sl := sl) hBl hK2; have hR2 := hR1.below hB2; have hz2 : w.heap.size + 3 ≤ w2.heap.size := (by rw [← HSZ.out]; exact hK2.size); have hz3 : w.heap.size + 2 < w2.heap.size := (by omega))))
  have hKf : Chg (· = B) w w2 := chg_alloc HB0.out hK2
  exact bodyPost_ret (v := .tuple #[.agg #[.slice a n c, .int .i64 p1], .bool true]) (by simp [results, Try.results38, go_sem, c0', c1', hz3]) rfl ⟨p1, rfl, by rw [← HN.out]; exact hR2.bounds.1, ((hR2.setNew (q := ⟨w.heap.size + 2, 0, none⟩) (Nat.lt_of_lt_of_le hBl (Nat.le_add_right _ 2)) _).setNew (q := ⟨w.heap.size + 2, 1, none⟩) (Nat.lt_of_lt_of_le hBl (Nat.le_add_right _ 2)) _).below ((Below.refl _ _).alloc (Nat.le_refl _) _), ((hKf.setNew (q := ⟨w.heap.size + 2, 0, none⟩) (by simp) _).setNew (q := ⟨w.heap.size + 2, 1, none⟩) (by simp) _).alloc _⟩

set_option maxRecDepth 100000 in
set_option maxHeartbeats 4000000 in
theorem read_3 (w : World) (B : Nat) (a : Option Addr) (n c p : Nat) (kd : Nat) (N M : Int) (X : Nat) (sl : Value) (hk : kd % 8 = 3) (hkd : kd < 256) (hN1 : -9223372036854775808 ≤ N) (hN2 : N ≤ 9223372036854775807) (hM1 : -9223372036854775808 ≤ M) (hM2 : M ≤ 9223372036854775807) (hX : X < 2 ^ 64)
    (xs : List Nat) (hn : xs.length = n) (hn5 : n ≤ 500) (hnc : n ≤ c) (hcm : c ≤ maxLen) (hsn : a = none → c = 0) (hR : Rdr w B p xs) (Q : Nat) (hS : Seen w Q .u8 a xs) (hQ : Q ≤ w.heap.size) :
    Calls Try.prog 38 #[.pointer (some ⟨B, 0, none⟩), rv a n c p, av kd N M X sl] w (ReadOk w B a n c xs) := by
  have hkI : (kd : Int) % 8 = 3 := by omega
  obtain ⟨hsz, hB0, hb1, hb2, hb3⟩ := rdWorld_all w a n c p kd N M X sl
  obtain ⟨hp, hx⟩ := hR.bounds
  have hBl := hR.lt
  have hR0 := hR.below hB0
  have hS0 := hS.below (hB0.mono hQ)
  have hQ0 : Q ≤ (rdWorld w a n c p kd N M X sl).heap.size := Nat.le_trans hQ hB0.size
  have HN := Lib.hid hn
  have HX := Lib.hid hx
  have HSN := Lib.hid hsn
  have HLM : Hid (xs.length ≤ 1000000000) := by rw [hn]; show _ ≤ _; omega
  rw [hn] at hp
  have HB0 := Lib.hid hB0
  have HSZ := Lib.hid hsz
  have HRW := Lib.hid hR
  clear hk hn hx hsn hsz hB0 hb1 hb2 hb3 hR hS
  unfold rdWorld rrObj actObj nnObj at hR0 hS0 hQ0
  unfold rv av
  obtain ⟨r, hr⟩ : ∃ r, Cu.rdNumber X p xs = r := ⟨_, rfl⟩
  obtain ⟨y, er, p1⟩ := r
  have HR := Lib.hid hr
  clear hr
  go_enter Try.func38, Try.ntmps38
  go_wp2_with (first
    | (go_at_call 27; ((with_reducible refine (number_at _ B p xs X y er p1 HR.out hR0).mono ?_); rintro e w1 ⟨rfl, hR1, hK1⟩; obtain ⟨a0, a1, b0, b1, b2, b3, c0, c1, f0, f1⟩ := read_keeps (p := p) (kd := kd) (N := N) (M := M) (X := X) (sl := sl) hBl hK1; have S1 := hR0.past hK1 hS0; have hQ1 := Nat.le_trans hQ0 hK1.size))
    | (go_at_call 60; ((with_reducible refine (refNumber_any _ a n c p X xs HN.out (by omega) hp hnc hcm HSN.out HX.out Q S1 hQ1 y er p1 HR.out).mono ?_); rintro e w2 ⟨rfl, hB2⟩; have hK2 := hK1.trans (Chg.of_below (· = B) hB2); obtain ⟨a0', a1', b0', b1', b2', b3', c0', c1', f0', f1'⟩ := read_keeps (p := p) (kd := kd) (N := N) (M := M) (X := X) (sl := sl) hBl hK2; have hR2 := hR1.below hB2; have hz2 : w.heap.size + 3 ≤ w2.heap.size := (by rw [← HSZ.out]; exact hK2.size); have hz3 : w.heap.size + 2 < w2.heap.size := (by omega))))
  have hKf : Chg (· = B) w w2 := chg_alloc HB0.out hK2
  exact bodyPost_ret (v := .tuple #[.agg #[.slice a n c, .int .i64 p1], .bool true]) (by simp [results, Try.results38, go_sem, c0', c1', hz3]) rfl ⟨p1, rfl, by rw [← HN.out]; exact hR2.bounds.1, ((hR2.setNew (q := ⟨w.heap.size + 2, 0, none⟩) (Nat.lt_of_lt_of_le hBl (Nat.le_add_right _ 2)) _).setNew (q := ⟨w.heap.size + 2, 1, none⟩) (Nat.lt_of_lt_of_le hBl (Nat.le_add_right _ 2)) _).below ((Below.refl _ _).alloc (Nat.le_refl _) _), ((hKf.setNew (q := ⟨w.heap.size + 2, 0, none⟩) (by simp) _).setNew (q := ⟨w.heap.size + 2, 1, none⟩) (by simp) _).alloc _⟩

set_option maxRecDepth 100000 in
set_option maxHeartbeats 4000000 in
theorem read_4 (w : World) (B : Nat) (a : Option Addr) (n c p : Nat) (kd : Nat) (N M : Int) (X : Nat) (sl : Value) (hk : kd % 8 = 4) (hkd : kd < 256) (hN1 : -9223372036854775808 ≤ N) (hN2 : N ≤ 9223372036854775807) (hM1 : -9223372036854775808 ≤ M) (hM2 : M ≤ 9223372036854775807) (hX : X < 2 ^ 64)
    (xs : List Nat) (hn : xs.length = n) (hn5 : n ≤ 500) (hnc : n ≤ c) (hcm : c ≤ maxLen) (hsn : a = none → c = 0) (hR : Rdr w B p xs) (Q : Nat) (hS : Seen w Q .u8 a xs) (hQ : Q ≤ w.heap.size) :
    Calls Try.prog 38 #[.pointer (some ⟨B, 0, none⟩), rv a n c p, av kd N M X sl] w (ReadOk w B a n c xs) := by
  have hkI : (kd : Int) % 8 = 4 := by omega
  obtain ⟨hsz, hB0, hb1, hb2, hb3⟩ := rdWorld_all w a n c p kd N M X sl
  obtain ⟨hp, hx⟩ := hR.bounds
  have hBl := hR.lt
  have hR0 := hR.below hB0
  have hS0 := hS.below (hB0.mono hQ)
  have hQ0 : Q ≤ (rdWorld w a n c p kd N M X sl).heap.size := Nat.le_trans hQ hB0.size
  have HN := Lib.hid hn
  have HX := Lib.hid hx
  have HSN := Lib.hid hsn
  have HLM : Hid (xs.length ≤ 1000000000) := by rw [hn]; show _ ≤ _; omega
  rw [hn] at hp
  have HB0 := Lib.hid hB0
  have HSZ := Lib.hid hsz
  have HRW := Lib.hid hR
  clear hk hn hx hsn hsz hB0 hb1 hb2 hb3 hR hS
  unfold rdWorld rrObj actObj nnObj at hR0 hS0 hQ0
  unfold rv av
  obtain ⟨r, hr⟩ : ∃ r, Cu.rdCount N M p xs = r := ⟨_, rfl⟩
  obtain ⟨y, er, p1⟩ := r
  have HR := Lib.hid hr
  clear hr
  go_enter Try.func38, Try.ntmps38
  go_wp2_with (first
    | (go_at_call 25; ((with_reducible refine (count_at _ B p xs N M y er p1 HR.out hN2 hM2 HLM.out hR0).mono ?_); rintro e w1 ⟨rfl, hR1, hK1⟩; obtain ⟨a0, a1, b0, b1, b2, b3, c0, c1, f0, f1⟩ := read_keeps (p := p) (kd := kd) (N := N) (M := M) (X := X) (sl := sl) hBl hK1; have S1 := hR0.past hK1 hS0; have hQ1 := Nat.le_trans hQ0 hK1.size))
    | (go_at_call 61; ((with_reducible refine (refCount_any _ a n c p N M hN2 hM2 xs HN.out (by omega) hp hnc hcm HSN.out HX.out Q S1 hQ1 y er p1 HR.out).mono ?_); rintro e w2 ⟨rfl, hB2⟩; have hK2 := hK1.trans (Chg.of_below (· = B) hB2); obtain ⟨a0', a1', b0', b1', b2', b3', c0', c1', f0', f1'⟩ := read_keeps (p := p) (kd := kd) (N := N) (M := M) (X := X) (sl := sl) hBl hK2; have hR2 := hR1.below hB2; have hz2 : w.heap.size + 3 ≤ w2.heap.size := (by rw [← HSZ.out]; exact hK2.size); have hz3 : w.heap.size + 2 < w2.heap.size := (by omega))))
  have hKf : Chg (· = B) w w2 := chg_alloc HB0.out hK2
  exact bodyPost_ret (v := .tuple #[.agg #[.slice a n c, .int .i64 p1], .bool true]) (by simp [results, Try.results38, go_sem, c0', c1', hz3]) rfl ⟨p1, rfl, by rw [← HN.out]; exact hR2.bounds.1, ((hR2.setNew (q := ⟨w.heap.size + 2, 0, none⟩) (Nat.lt_of_lt_of_le hBl (Nat.le_add_right _ 2)) _).setNew (q := ⟨w.heap.size + 2, 1, none⟩) (Nat.lt_of_lt_of_le hBl (Nat.le_add_right _ 2)) _).below ((Below.refl _ _).alloc (Nat.le_refl _) _), ((hKf.setNew (q := ⟨w.heap.size + 2, 0, none⟩) (by simp) _).setNew (q := ⟨w.heap.size + 2, 1, none⟩) (by simp) _).alloc _⟩

set_option maxRecDepth 100000 in
set_option maxHeartbeats 4000000 in
theorem read_5 (w : World) (B : Nat) (a : Option Addr) (n c p : Nat) (kd : Nat) (N M : Int) (X : Nat) (sl : Value) (hk : 5 ≤ kd % 8) (hkd : kd < 256) (hN1 : -9223372036854775808 ≤ N) (hN2 : N ≤ 9223372036854775807) (hM1 : -9223372036854775808 ≤ M) (hM2 : M ≤ 9223372036854775807) (hX : X < 2 ^ 64)
    (xs : List Nat) (hn : xs.length = n) (hn5 : n ≤ 500) (hnc : n ≤ c) (hcm : c ≤ maxLen) (hsn : a = none → c = 0) (hR : Rdr w B p xs) (Q : Nat) (hS : Seen w Q .u8 a xs) (hQ : Q ≤ w.heap.size) :
    Calls Try.prog 38 #[.pointer (some ⟨B, 0, none⟩), rv a n c p, av kd N M X sl] w (ReadOk w B a n c xs) := by
  have hkI : 5 ≤ (kd : Int) % 8 := by omega
  obtain ⟨hsz, hB0, hb1, hb2, hb3⟩ := rdWorld_all w a n c p kd N M X sl
  obtain ⟨hp, hx⟩ := hR.bounds
  have hBl := hR.lt
  have hR0 := hR.below hB0
  have hS0 := hS.below (hB0.mono hQ)
  have hQ0 : Q ≤ (rdWorld w a n c p kd N M X sl).heap.size := Nat.le_trans hQ hB0.size
  have HN := Lib.hid hn
  have HX := Lib.hid hx
  have HSN := Lib.hid hsn
  have HLM : Hid (xs.length ≤ 1000000000) := by rw [hn]; show _ ≤ _; omega
  rw [hn] at hp
  have HB0 := Lib.hid hB0
  have HSZ := Lib.hid hsz
  have HRW := Lib.hid hR
  clear hk hn hx hsn hsz hB0 hb1 hb2 hb3 hR hS
  unfold rdWorld rrObj actObj nnObj at hR0 hS0 hQ0
  unfold rv av
  have hk0 : ((kd : Int) % 8 == 0) = false := by simp; omega
  have hk1 : ((kd : Int) % 8 == 1) = false := by simp; omega
  have hk2 : ((kd : Int) % 8 == 2) = false := by simp; omega
  have hk3 : ((kd : Int) % 8 == 3) = false := by simp; omega
  have hk4 : ((kd : Int) % 8 == 4) = false := by simp; omega
  go_enter Try.func38, Try.ntmps38
  go_wp2
  have hBf : ∀ o1 o2 o3 : Obj, Below w.heap.size w (((w.alloc o1).alloc o2).alloc o3) := fun o1 o2 o3 => (((Below.refl _ w).alloc (Nat.le_refl _) _).alloc (by simp) _).alloc (by simp; omega) _
  exact bodyPost_ret (v := .tuple #[.agg #[.slice a n c, .int .i64 p], .bool true]) (by simp [results, Try.results38, go_sem]) rfl ⟨p, rfl, hp, HRW.out.below (hBf _ _ _), Chg.of_below _ (hBf _ _ _)⟩

end Go.Proofs.Ytdemlifjhlpclaa
