/-
  Plain mathematics: pieces that are written and read back.
-/
import Derived.Test.YtdemlifjhlpclaaWrites
import Derived.Test.YtdemlifjhlpclaaFix
import Derived.Laws.BitsAll
import Derived.Deep.QuietTactic
import Derived.Test.YtdemlifjhlpclaaActs
namespace Go.Proofs.Ytdemlifjhlpclaa
open Go.RowKit
set_option linter.unusedVariables false

/-- A piece: kind, numbers, a slice and its bytes. -/
structure Pc where
  kd : Nat
  pn : Nat
  X : Nat
  sa : Option Addr
  sn : Nat
  sc : Nat
  ys : List Nat
namespace Pc
def fx (t : Pc) : Nat := t.X % 256 ^ (1 + t.pn % 8)
def bytes (t : Pc) : List Nat := if t.kd % 4 = 0 then [t.pn] else if t.kd % 4 = 1 then t.ys.take 30 else if t.kd % 4 = 2 then leB (1 + t.pn % 8) t.fx else Vi.form t.X
def ok (w : World) (Q : Nat) (t : Pc) : Prop := t.kd < 256 ∧ t.pn < 256 ∧ t.X < 2 ^ 64 ∧ t.ys.length = t.sn ∧ t.sn ≤ t.sc ∧ t.sc ≤ maxLen ∧ (∀ y ∈ t.ys, y < 256) ∧ Seen w Q .u8 t.sa t.ys
theorem fx_lt (t : Pc) : t.fx < 256 ^ (1 + t.pn % 8) := Nat.mod_lt _ (Nat.pow_pos (by decide))
theorem bytes_len (t : Pc) (hX : t.X < 2 ^ 64) : t.bytes.length ≤ 30 := by
  unfold bytes
  split
  · simp
  · split
    · simp; omega
    · split
      · rw [leB_len]; omega
      · have := Vi.form_len10 t.X hX; omega
theorem bytes_byte (t : Pc) (hp : t.pn < 256) (hy : ∀ y ∈ t.ys, y < 256) : ∀ y ∈ t.bytes, y < 256 := by
  unfold bytes
  split
  · simpa using hp
  · split
    · exact fun y h => hy y (List.mem_of_mem_take h)
    · split
      · exact leB_byte _ _
      · exact Vi.form_byte _
/-- What reading a piece back reports, and the place after it. -/
def back (t : Pc) (p : Nat) (xs : List Nat) : Bool × Nat :=
  if t.kd % 4 = 0 then (decide ((Cu.rdByte p xs).1 = t.pn) && decide ((Cu.rdByte p xs).2.1 = 0), (Cu.rdByte p xs).2.2)
  else if t.kd % 4 = 1 then (decide ((Cu.rdBytes (t.ys.take 30).length p xs).2.1 = 0) && decide ((Cu.rdBytes (t.ys.take 30).length p xs).1 = t.ys.take 30), (Cu.rdBytes (t.ys.take 30).length p xs).2.2)
  else if t.kd % 4 = 2 then (decide (t.fx = (Cu.rdFixed ((1 + t.pn % 8 : Nat) : Int) p xs).1) && decide ((Cu.rdFixed ((1 + t.pn % 8 : Nat) : Int) p xs).2.1 = 0), (Cu.rdFixed ((1 + t.pn % 8 : Nat) : Int) p xs).2.2)
  else (decide ((Cu.rdNumber t.X p xs).1 = t.X) && decide ((Cu.rdNumber t.X p xs).2.1 = 0), (Cu.rdNumber t.X p xs).2.2)
theorem fx_le (t : Pc) : Cu.le (leB (1 + t.pn % 8) t.fx) = t.fx := by rw [le_leB, Nat.mod_eq_of_lt t.fx_lt]
/-- Read where it stands. -/
theorem back_in (t : Pc) (hX : t.X < 2 ^ 64) (p : Nat) (xs zs : List Nat) (hp : p ≤ xs.length) (h : xs.drop p = t.bytes ++ zs) : t.back p xs = (true, p + t.bytes.length) := by
  have hl : xs.length = p + t.bytes.length + zs.length := by
    have := congrArg List.length h
    rw [List.length_drop, List.length_append] at this
    omega
  unfold back
  unfold bytes at h hl ⊢
  by_cases k0 : t.kd % 4 = 0
  · simp only [if_pos k0] at h hl ⊢
    have e : xs[p]? = some t.pn := by
      have : (xs.drop p)[0]? = some t.pn := by rw [h]; rfl
      rwa [List.getElem?_drop, Nat.add_zero] at this
    have hlt : p < xs.length := by simp at hl; omega
    simp [Cu.rdByte, if_pos hlt, e]
  by_cases k1 : t.kd % 4 = 1
  · simp only [if_neg k0, if_pos k1] at h hl ⊢
    have e : Cu.rdBytes ((t.ys.take 30).length : Nat) p xs = (t.ys.take 30, 0, p + (t.ys.take 30).length) := by
      unfold Cu.rdBytes
      rw [if_neg (by omega), Int.toNat_natCast, if_neg (by omega), h, List.take_left]
    rw [e]; simp
  by_cases k2 : t.kd % 4 = 2
  · simp only [if_neg k0, if_neg k1, if_pos k2] at h hl ⊢
    rw [leB_len] at hl ⊢
    have e : Cu.rdFixed ((1 + t.pn % 8 : Nat) : Int) p xs = (t.fx, 0, p + (1 + t.pn % 8)) := by
      unfold Cu.rdFixed
      rw [if_neg (by omega), Int.toNat_natCast, if_neg (by omega), h, List.take_left' (leB_len _ _), fx_le]
    rw [e]; simp
  · simp only [if_neg k0, if_neg k1, if_neg k2] at h hl ⊢
    have e : Cu.rdNumber t.X p xs = (t.X, 0, p + (Vi.form t.X).length) := by
      unfold Cu.rdNumber
      rw [h, Vi.read_form t.X hX]
      simp
    rw [e]; simp
/-- Read where it is cut off. -/
theorem back_cut (t : Pc) (hX : t.X < 2 ^ 64) (p : Nat) (xs : List Nat) (hp : p ≤ xs.length) (hc : xs.length < p + t.bytes.length) (h : xs.drop p = t.bytes.take (xs.length - p)) : t.back p xs = (false, p) := by
  unfold back
  unfold bytes at h hc
  by_cases k0 : t.kd % 4 = 0
  · simp only [if_pos k0] at h hc ⊢
    have hlt : ¬ p < xs.length := by simp at hc; omega
    simp [Cu.rdByte, if_neg hlt]
  by_cases k1 : t.kd % 4 = 1
  · simp only [if_neg k0, if_pos k1] at h hc ⊢
    have e : Cu.rdBytes ((t.ys.take 30).length : Nat) p xs = ([], 20, p) := by
      unfold Cu.rdBytes
      rw [if_neg (by omega), Int.toNat_natCast, if_pos (by omega)]
    rw [e]; simp
  by_cases k2 : t.kd % 4 = 2
  · simp only [if_neg k0, if_neg k1, if_pos k2] at h hc ⊢
    rw [leB_len] at hc
    have e : Cu.rdFixed ((1 + t.pn % 8 : Nat) : Int) p xs = (0, 20, p) := by
      unfold Cu.rdFixed
      rw [if_neg (by omega), Int.toNat_natCast, if_pos (by omega)]
    rw [e]; simp
  · simp only [if_neg k0, if_neg k1, if_neg k2] at h hc ⊢
    have e : Cu.rdNumber t.X p xs = (0, 10, p) := by
      unfold Cu.rdNumber
      rw [h, Vi.read_cut t.X _ hX (by omega)]
      simp
    rw [e]; simp

/-- The bytes of pieces. -/
def flat (l : List Pc) : List Nat := l.flatMap bytes
theorem flat_snoc (l : List Pc) (t : Pc) : flat (l ++ [t]) = flat l ++ t.bytes := by simp [flat]
theorem flat_append (a b : List Pc) : flat (a ++ b) = flat a ++ flat b := List.flatMap_append
/-- The bytes before a piece, it, and those after it. -/
theorem flat_at {l : List Pc} {i : Nat} {t : Pc} (h : l[i]? = some t) : ∃ zs, flat l = flat (l.take i) ++ (t.bytes ++ zs) ∧ flat (l.take (i + 1)) = flat (l.take i) ++ t.bytes := by
  obtain ⟨hi, rfl⟩ := List.getElem?_eq_some_iff.1 h
  refine ⟨flat (l.drop (i + 1)), ?_, ?_⟩
  · calc flat l = flat (l.take i ++ l.drop i) := by rw [List.take_append_drop]
      _ = flat (l.take i) ++ flat (l.drop i) := flat_append _ _
      _ = _ := by rw [List.drop_eq_getElem_cons hi]; rfl
  · rw [List.take_add_one, h, flat_append]
    congr 1
    exact List.append_nil _
/-- The place of a piece. -/
def pos (l : List Pc) (i : Nat) : Nat := (flat (l.take i)).length
theorem pos_all (l : List Pc) : pos l l.length = (flat l).length := by simp [pos]
theorem pos_zero (l : List Pc) : pos l 0 = 0 := by simp [pos, flat]
theorem pos_le (l : List Pc) (i : Nat) : pos l i ≤ (flat l).length := by
  have e : flat l = flat (l.take i) ++ flat (l.drop i) := by unfold flat; rw [← List.flatMap_append, List.take_append_drop]
  rw [e]; simp [pos]
theorem pos_succ {l : List Pc} {i : Nat} {t : Pc} (h : l[i]? = some t) : pos l (i + 1) = pos l i + t.bytes.length := by
  obtain ⟨zs, _, e⟩ := flat_at h
  simp [pos, e]
/-- Read back from all bytes. -/
theorem back_at {l : List Pc} {i : Nat} {t : Pc} (hX : t.X < 2 ^ 64) (h : l[i]? = some t) : t.back (pos l i) (flat l) = (true, pos l (i + 1)) := by
  obtain ⟨zs, e, _⟩ := flat_at h
  rw [pos_succ h]
  exact t.back_in hX _ _ zs (pos_le l i) (by rw [e]; unfold pos; exact List.drop_left)
/-- Read back from the first bytes. -/
theorem back_short {l : List Pc} {i k : Nat} {t : Pc} (hX : t.X < 2 ^ 64) (h : l[i]? = some t) (hk : k ≤ (flat l).length) : (pos l (i + 1) ≤ k → t.back (pos l i) ((flat l).take k) = (true, pos l (i + 1))) ∧ (pos l i ≤ k → k < pos l (i + 1) → t.back (pos l i) ((flat l).take k) = (false, pos l i)) := by
  obtain ⟨zs, e, _⟩ := flat_at h
  have hs := pos_succ h
  have hl : ((flat l).take k).length = k := by rw [List.length_take]; omega
  have hd : ((flat l).take k).drop (pos l i) = (t.bytes ++ zs).take (k - pos l i) := by
    rw [List.drop_take, e]; unfold pos; rw [List.drop_left]
  refine ⟨fun hle => ?_, fun h1 h2 => ?_⟩
  · rw [hs]
    refine t.back_in hX _ _ (zs.take (k - pos l i - t.bytes.length)) (by omega) ?_
    rw [hd, List.take_append, List.take_of_length_le (by omega)]
  · refine t.back_cut hX _ _ (by omega) (by omega) ?_
    rw [hd, hl, List.take_append, show k - pos l i - t.bytes.length = 0 by omega]
    simp
end Pc

end Go.Proofs.Ytdemlifjhlpclaa

/-
  A piece: fixed, write, back.
-/
namespace Go.Proofs.Ytdemlifjhlpclaa
open Go.RowKit
set_option linter.unusedVariables false

@[reducible] def pv (t : Pc) : Value := .agg #[.int .u8 t.kd, .int .u8 t.pn, .int .u64 t.X, .slice t.sa t.sn t.sc]
def pcObj (t : Pc) : Obj := .cells #[.int .u8 t.kd, .int .u8 t.pn, .int .u64 t.X, .slice t.sa t.sn t.sc] 39 (0, 0)
theorem pc_cells {w : World} {b : Nat} {t : Pc} (h : w.heap[b]? = some (pcObj t)) : w.cell? ⟨b, 0, none⟩ = some (.int .u8 t.kd) ∧ w.cell? ⟨b, 1, none⟩ = some (.int .u8 t.pn) ∧ w.cell? ⟨b, 2, none⟩ = some (.int .u64 t.X) ∧ w.cell? ⟨b, 3, none⟩ = some (.slice t.sa t.sn t.sc) := by
  unfold pcObj at h
  refine ⟨?_, ?_, ?_, ?_⟩ <;> simp [World.cell?, h]

theorem u64_low (X k : Nat) (hX : X < 2 ^ 64) (hk : k ≤ 64) : bits .and .u64 (X : Int) (((2 ^ k - 1 : Nat)) : Int) = ((X % 2 ^ k : Nat) : Int) := by
  have h2 : (2 : Nat) ^ k ≤ 2 ^ 64 := Nat.pow_le_pow_right (by decide) hk
  rw [u64_and_nat X _ (by omega) (by omega), Nat.and_two_pow_sub_one_eq_mod]

theorem ret_two {a a' b b' : Int} (h1 : a = a') (h2 : b = b') : Ending.returned (.tuple #[.int .i64 a, .int .u64 b]) = .returned (.tuple #[.int .i64 a', .int .u64 b']) := by rw [h1, h2]
set_option maxRecDepth 100000 in
theorem fixed_of (t : Pc) (hp : t.pn < 256) (hX : t.X < 2 ^ 64) (w : World) :
    Calls Try.prog 44 #[pv t] w fun e w' => e = .returned (.tuple #[.int .i64 ((1 + t.pn % 8 : Nat) : Int), .int .u64 t.fx]) ∧ Below w.heap.size w w' := by
  obtain ⟨r, hr⟩ : ∃ r, t.pn % 8 = r := ⟨_, rfl⟩
  have hr8 : r < 8 := by omega
  have hrI : (t.pn : Int) % 8 = (r : Int) := by omega
  have HF : Hid (t.fx = t.X % 256 ^ (1 + r)) := by rw [← hr]; rfl
  have HX := Lib.hid hX
  have HR := Lib.hid hr
  have hB : Below w.heap.size w (w.alloc (pcObj t)) := (Below.refl _ w).alloc (Nat.le_refl _) _
  unfold pcObj at hB
  have HB := Lib.hid hB
  clear hr hX hB
  match r, hr8 with
  | 0, _ | 1, _ | 2, _ | 3, _ | 4, _ | 5, _ | 6, _ =>
    go_enter Try.func44, Try.ntmps44
    go_wp2
    go_quiet (fail)
    go_wp2
    go_ret2
    refine ⟨ret_two (by rw [HR.out]; rfl) ?_, below_drewN HB.out _⟩
    rw [HF.out]
    first
    | exact u64_low t.X 8 HX.out (by decide)
    | exact u64_low t.X 16 HX.out (by decide)
    | exact u64_low t.X 24 HX.out (by decide)
    | exact u64_low t.X 32 HX.out (by decide)
    | exact u64_low t.X 40 HX.out (by decide)
    | exact u64_low t.X 48 HX.out (by decide)
    | exact u64_low t.X 56 HX.out (by decide)
  | 7, _ =>
    go_enter Try.func44, Try.ntmps44
    go_wp2
    go_quiet (fail)
    go_wp2
    go_ret2
    refine ⟨ret_two (by rw [HR.out]; rfl) ?_, below_drewN HB.out _⟩
    rw [HF.out, Nat.mod_eq_of_lt (by have := HX.out; exact this)]

/-- The writer's call with a piece. -/
def PWrote (t : Pc) (w : World) (base B lim : Nat) (v : Value) (zs : List Nat) (er : Int) (e : Ending) (w' : World) : Prop := ∃ v', e = .returned (.tuple #[.int .i64 t.bytes.length, .int .i64 er]) ∧ Wtr w' base B lim v' zs ∧ Chg (WS B v) w w' ∧ Moved w v v'
theorem chg_first {S : Nat → Prop} {w w1 w' : World} (h : Below w.heap.size w w1) (k : Chg S w1 w') : Chg S w w' := (Chg.of_below S h).trans k
theorem moved_first {w w1 : World} {v v' : Value} (h : w.heap.size ≤ w1.heap.size) (k : Moved w1 v v') : Moved w v v' := k.imp id fun h2 g hg => Nat.le_trans h (h2 g hg)
theorem pWrote_mk {t : Pc} {w w1 w' : World} {base B lim n : Nat} {v v' : Value} {zs : List Nat} {er : Int} (hn : t.bytes.length = n) (hB : Below w.heap.size w w1) (hW : Wtr w' base B lim v' zs) (hk : Chg (WS B v) w1 w') (hM : Moved w1 v v') : PWrote t w base B lim v zs er (.returned (.tuple #[.int .i64 n, .int .i64 er])) w' :=
  ⟨v', by rw [hn], hW, chg_first hB hk, moved_first hB.size hM⟩

set_option maxRecDepth 100000 in
set_option maxHeartbeats 1000000 in
theorem pwrite_any (w : World) (base B lim : Nat) (v : Value) (xs : List Nat) (hW : Wtr w base B lim v xs) (hbase : base ≤ w.heap.size) (t : Pc) (Q : Nat) (ht : t.ok w Q) (hQ : Q ≤ w.heap.size) (zs : List Nat) (er : Int) (hr : wput lim xs t.bytes = (zs, er)) :
    Calls Try.prog 16 #[pv t, .pointer (some ⟨B, 0, none⟩)] w (PWrote t w base B lim v zs er) := by
  obtain ⟨tk, tp, tX, tl, tn, tc, tb, tS⟩ := ht
  have HTL := Lib.hid tl
  have HTX : Hid (t.X < 2 ^ 64) := tX
  have HR := Lib.hid hr
  have hB0 : Below w.heap.size w (w.alloc (pcObj t)) := (Below.refl _ w).alloc (Nat.le_refl _) _
  have hW0 := hW.below hB0
  have hS0 := tS.below (hB0.mono hQ)
  have hc0 := World.alloc_heap_new w (pcObj t)
  unfold pcObj at hB0 hW0 hS0
  have HB0 := Lib.hid hB0
  have HW0 := Lib.hid hW0
  have hne : w.heap.size ≠ B := by have := hW.lt; omega
  have hrow : ∀ g, v.ownBlock = some g → g ≠ w.heap.size := fun g hg => by have := (hW.row_lt hg).2; omega
  have HROW := Lib.hid hrow
  have HBS : Hid (base ≤ (w.alloc (.cells #[.int .u8 t.kd, .int .u8 t.pn, .int .u64 t.X, .slice t.sa t.sn t.sc] 39)).heap.size) := Nat.le_trans hbase hB0.size
  unfold maxLen at tc
  clear hr tl tX hB0 hW0 tS hrow hbase hW tb hc0
  have hk4 : t.kd % 4 = 0 ∨ t.kd % 4 = 1 ∨ t.kd % 4 = 2 ∨ t.kd % 4 = 3 := by omega
  rcases hk4 with k0 | k0 | k0 | k0
  · have hkI : (t.kd : Int) % 4 = 0 := by omega
    have HBY : Hid (t.bytes = [t.pn]) := if_pos k0
    have HR2 : Hid (wput lim xs [t.pn] = (zs, er)) := by rw [← HBY.out]; exact HR.out
    clear k0
    go_enter Try.func16, Try.ntmps16
    go_wp2_with (go_at_call 31; go_loud ((with_reducible refine (wrote_byte _ _ B lim v xs HW0.out HBS.out zs er t.pn HR2.out).mono ?_); rintro e w3 ⟨v', rfl, hW3, hK3, hM3⟩))
    go_ret2
    exact pWrote_mk (n := 1) (by rw [HBY.out]; rfl) HB0.out hW3 hK3 hM3
  · have hkI : (t.kd : Int) % 4 = 1 := by omega
    have HBY : Hid (t.bytes = t.ys.take 30) := by unfold Pc.bytes; rw [if_neg (by omega), if_pos k0]; exact rfl
    have HR2 : Hid (wput lim xs (t.ys.take 30) = (zs, er)) := by rw [← HBY.out]; exact HR.out
    by_cases h30 : t.sn ≤ 30
    · have h30I : (t.sn : Int) ≤ 30 := by omega
      have HML : Hid ((t.ys.take 30).length = t.sn) := by rw [List.length_take, HTL.out]; show _ = _; omega
      clear k0
      go_enter Try.func16, Try.ntmps16
      go_wp2_with (go_at_call 30; go_loud ((with_reducible refine (wrote_bytes _ _ B lim v xs HW0.out HBS.out zs er _ t.sn _ (t.ys.take 30) HML.out _ (seen_take hS0 30) HR2.out).mono ?_); rintro e w3 ⟨v', rfl, hW3, hK3, hM3⟩))
      go_ret2
      exact pWrote_mk (n := t.sn) (by rw [HBY.out, HML.out]) HB0.out hW3 hK3 hM3
    · have h30I : (30 : Int) < (t.sn : Int) := by omega
      have h30c : (30 : Int) ≤ (t.sc : Int) := by omega
      have HML : Hid ((t.ys.take 30).length = 30) := by rw [List.length_take, HTL.out]; show _ = _; omega
      clear k0
      go_enter Try.func16, Try.ntmps16
      go_wp2_with (go_at_call 30; go_loud ((with_reducible refine (wrote_bytes _ _ B lim v xs HW0.out HBS.out zs er _ 30 _ (t.ys.take 30) HML.out _ (seen_take hS0 30) HR2.out).mono ?_); rintro e w3 ⟨v', rfl, hW3, hK3, hM3⟩))
      go_ret2
      exact pWrote_mk (n := 30) (by rw [HBY.out, HML.out]) HB0.out hW3 hK3 hM3
  · have hkI : (t.kd : Int) % 4 = 2 := by omega
    have HBY : Hid (t.bytes = leB (1 + t.pn % 8) t.fx) := by unfold Pc.bytes; rw [if_neg (by omega), if_neg (by omega), if_pos k0]; exact rfl
    have HR2 : Hid (wfixed lim xs t.fx ((1 + t.pn % 8 : Nat) : Int) = (zs, er)) := by
      unfold wfixed
      rw [if_neg, Int.toNat_natCast, ← HBY.out]
      · exact HR.out
      · rw [Int.toNat_natCast, Nat.div_eq_of_lt t.fx_lt]; omega
    have HTP : Hid (t.pn < 256) := tp
    obtain ⟨n, hn⟩ : ∃ n, 1 + t.pn % 8 = n := ⟨_, rfl⟩
    obtain ⟨y, hy⟩ : ∃ y, t.fx = y := ⟨_, rfl⟩
    have HFX : Hid (∀ w, Calls Try.prog 44 #[pv t] w fun e w' => e = .returned (.tuple #[.int .i64 (n : Int), .int .u64 (y : Int)]) ∧ Below w.heap.size w w') := fun w => by
      have := fixed_of t tp HTX.out w
      rw [hn, hy] at this
      exact this
    rw [hn, hy] at HR2
    rw [hn, hy] at HBY
    clear k0 hn hy
    go_enter Try.func16, Try.ntmps16
    go_wp2_with (first
      | (go_at_call 44; go_loud ((with_reducible refine (HFX.out _).mono ?_); rintro e w2 ⟨rfl, hB2⟩; have HB2 := Lib.hid (HB0.out.trans (hB2.mono HB0.out.size)); have HW2 := Lib.hid (HW0.out.below hB2); have HBS2 := Lib.hid (Nat.le_trans HBS.out hB2.size)))
      | (go_at_call 29; go_loud ((with_reducible refine (wrote_fixed _ _ B lim v xs HW2.out HBS2.out zs er y n HR2.out).mono ?_); rintro e w3 ⟨v', rfl, hW3, hK3, hM3⟩)))
    go_ret2
    exact pWrote_mk (by rw [HBY.out, leB_len]) HB2.out hW3 hK3 hM3
  · have hkI : (t.kd : Int) % 4 = 3 := by omega
    have HBY : Hid (t.bytes = Vi.form t.X) := by unfold Pc.bytes; rw [if_neg (by omega), if_neg (by omega), if_neg (by omega)]; exact rfl
    have HR2 : Hid (wput lim xs (Vi.form t.X) = (zs, er)) := by rw [← HBY.out]; exact HR.out
    obtain ⟨n, hn⟩ : ∃ n, (Vi.grp t.X).length = n := ⟨_, rfl⟩
    have HN := Lib.hid hn
    have HSZ : Hid (∀ w, Calls Try.prog 45 #[.int .u64 t.X] w fun e w' => e = .returned (.int .i64 (n : Int)) ∧ Below w.heap.size w w') := fun w => by
      have := size_any t.X HTX.out w
      rw [hn] at this
      exact this
    clear k0 hn
    go_enter Try.func16, Try.ntmps16
    go_wp2
    have hc0 := World.alloc_heap_new w (pcObj t)
    unfold pcObj at hc0
    have hx0 := (pc_cells (by unfold pcObj; exact hc0)).2.2.1
    have hl0 : w.heap.size < (w.alloc (.cells #[.int .u8 t.kd, .int .u8 t.pn, .int .u64 t.X, .slice t.sa t.sn t.sc] 39)).heap.size := by simp
    have HC0 := Lib.hid hc0
    clear hc0
    go_region_held3 (fun W => W.cell? ⟨w.heap.size, 2, none⟩ = some (.int .u64 t.X)) (first | go_keep | exact hx0 | exact hx2 | exact hx3) (first
      | (go_at_call 45; refine (HSZ.out _).mono ?_; rintro e w2 ⟨rfl, hB2⟩; have hc2 := (hB2.block w.heap.size hl0).trans HC0.out; have hx2 := (pc_cells (by unfold pcObj; exact hc2)).2.2.1; have HB2 := Lib.hid (HB0.out.trans (Below.mono ⟨hB2.os, hB2.tape, hB2.output, hB2.size, hB2.block⟩ HB0.out.size)); have HW2 := Lib.hid (HW0.out.below ⟨hB2.os, hB2.tape, hB2.output, hB2.size, hB2.block⟩); have HBS2 := Lib.hid (Nat.le_trans HBS.out hB2.size))
      | (go_at_call 34; refine (wrote_number _ _ B lim v xs (by exact HW2.out) (by exact HBS2.out) zs er t.X HTX.out HR2.out).mono ?_; rintro e w3 ⟨v', rfl, hW3, hK3, hM3⟩; have hc3 := hK3.at_block hc2 (by intro h; rcases h with h | h; exact hne h; exact HROW.out _ h rfl); have hx3 := (pc_cells (by unfold pcObj; exact hc3)).2.2.1))
    all_goals
      rename_i hcont hheld
      clear hheld hx3 hc3 hc2 hx2 hx0
      refine hcont _ _ ?_
      clear hcont
      go_wp2
      go_ret2
      exact pWrote_mk (by rw [HBY.out, Vi.form_len, HN.out]) HB2.out hW3 ⟨hK3.os, hK3.tape, hK3.output, hK3.size, hK3.block⟩ hM3

end Go.Proofs.Ytdemlifjhlpclaa

/-
  A piece: back.
-/
namespace Go.Proofs.Ytdemlifjhlpclaa
open Go.RowKit
set_option linter.unusedVariables false

theorem ret_bool {a b : Bool} (h : a = b) : Ending.returned (.bool a) = .returned (.bool b) := by rw [h]
/-- What reading a piece back leaves. -/
def PBack (w : World) (B : Nat) (xs : List Nat) (b : Bool) (p' : Nat) (e : Ending) (w' : World) : Prop := e = .returned (.bool b) ∧ Rdr w' B p' xs ∧ Chg (· = B) w w'
theorem pBack_mk {w w1 w' : World} {B p' : Nat} {xs : List Nat} {a b : Bool} (h : a = b) (hB : Below w.heap.size w w1) (hR : Rdr w' B p' xs) (hk : Chg (· = B) w1 w') : PBack w B xs b p' (.returned (.bool a)) w' := ⟨by rw [h], hR, (Chg.of_below _ hB).trans hk⟩

set_option maxRecDepth 100000 in
set_option maxHeartbeats 1000000 in
theorem pback_any (w : World) (B p : Nat) (xs : List Nat) (hR : Rdr w B p xs) (hm : xs.length ≤ 1000000000) (t : Pc) (Q : Nat) (ht : t.ok w Q) (hQ : Q ≤ w.heap.size) (b : Bool) (p' : Nat) (hr : t.back p xs = (b, p')) :
    Calls Try.prog 20 #[pv t, .pointer (some ⟨B, 0, none⟩)] w (PBack w B xs b p') := by
  obtain ⟨tk, tp, tX, tl, tn, tc, tb, tS⟩ := ht
  have HTL := Lib.hid tl
  have HM := Lib.hid hm
  have HTX : Hid (t.X < 2 ^ 64) := tX
  have hB0 : Below w.heap.size w (w.alloc (pcObj t)) := (Below.refl _ w).alloc (Nat.le_refl _) _
  have hR0 := hR.below hB0
  have hS0 := tS.below (hB0.mono hQ)
  have hc0 := World.alloc_heap_new w (pcObj t)
  have hl0 : w.heap.size < (w.alloc (pcObj t)).heap.size := by simp
  unfold pcObj at hB0 hR0 hS0 hc0 hl0
  have HB0 := Lib.hid hB0
  have HR0 := Lib.hid hR0
  have HC0 := Lib.hid hc0
  have hne : w.heap.size ≠ B := by have := hR.lt; omega
  unfold maxLen at tc
  clear tl tX hB0 hR0 tS hR tb hc0 hm
  have hk4 : t.kd % 4 = 0 ∨ t.kd % 4 = 1 ∨ t.kd % 4 = 2 ∨ t.kd % 4 = 3 := by omega
  rcases hk4 with k0 | k0 | k0 | k0
  · have hkI : (t.kd : Int) % 4 = 0 := by omega
    obtain ⟨x, er, q, hrd⟩ : ∃ x er q, Cu.rdByte p xs = (x, er, q) := ⟨_, _, _, rfl⟩
    have hbk : (decide (x = t.pn) && decide (er = 0)) = b ∧ q = p' := by
      unfold Pc.back at hr
      rw [if_pos k0, hrd] at hr
      exact Prod.mk.inj hr
    obtain ⟨hb, rfl⟩ := hbk
    have HBV := Lib.hid hb
    have HRD := Lib.hid hrd
    clear k0 hr hb hrd
    go_enter Try.func20, Try.ntmps20
    go_wp2_with (go_at_call 28; go_loud ((with_reducible refine (byte_any _ B p xs _ HRD.out HR0.out).mono ?_); rintro e w3 ⟨rfl, hR3, hK3⟩; have hx3 := (pc_cells (by unfold pcObj; exact hK3.at_block HC0.out hne)).2.1))
    all_goals
      go_ret
      refine pBack_mk ?_ HB0.out hR3 hK3
      rw [← HBV.out]
      rw [Bool.eq_iff_iff]; simp; omega
  · have hkI : (t.kd : Int) % 4 = 1 := by omega
    by_cases h30 : t.sn ≤ 30
    · have h30I : (t.sn : Int) ≤ 30 := by omega
      have HML : Hid ((t.ys.take 30).length = t.sn) := by rw [List.length_take, HTL.out]; show _ = _; omega
      unfold Pc.back at hr
      rw [if_neg (by omega), if_pos k0, HML.out] at hr
      by_cases hfit : xs.length < p + t.sn
      · have hrd : Cu.rdBytes ((t.sn : Nat) : Int) p xs = ([], 20, p) := by unfold Cu.rdBytes; rw [if_neg (by omega), Int.toNat_natCast, if_pos hfit]
        rw [hrd] at hr
        obtain ⟨hb, rfl⟩ := Prod.mk.inj hr
        have HBV := Lib.hid hb
        have HRD := Lib.hid hrd
        clear k0 hr hb hrd hfit
        go_enter Try.func20, Try.ntmps20
        go_wp2_with (go_at_call 26; go_loud ((with_reducible refine (bytes_at _ B p xs ((t.sn : Nat) : Int) (by omega) HM.out _ _ _ HRD.out 0 rfl HR0.out).mono ?_); rintro e w3 ⟨a3, c3, rfl, hown3, hS3, hc3, hd3, hR3, hK3⟩))
        go_ret
        refine pBack_mk ?_ HB0.out hR3 hK3
        rw [← HBV.out]
        simp
      · have hrd : Cu.rdBytes ((t.sn : Nat) : Int) p xs = ((xs.drop p).take t.sn, 0, p + t.sn) := by unfold Cu.rdBytes; rw [if_neg (by omega), Int.toNat_natCast, if_neg hfit]
        rw [hrd] at hr
        obtain ⟨hb, rfl⟩ := Prod.mk.inj hr
        have hll : ((xs.drop p).take t.sn).length = t.sn := by rw [List.length_take, List.length_drop]; omega
        obtain ⟨bv, hbv⟩ : ∃ bv, decide ((xs.drop p).take t.sn = t.ys.take 30) = bv := ⟨_, rfl⟩
        have HBW := Lib.hid hbv
        rw [hbv] at hb
        have HBV := Lib.hid hb
        have HRD := Lib.hid hrd
        have HLL := Lib.hid hll
        clear k0 hr hb hrd hfit hbv hll
        go_enter Try.func20, Try.ntmps20
        go_wp2_with (first
          | (go_at_call 26; go_loud ((with_reducible refine (bytes_at _ B p xs ((t.sn : Nat) : Int) (by omega) HM.out _ _ _ HRD.out t.sn HLL.out HR0.out).mono ?_); rintro e w3 ⟨a3, c3, rfl, hown3, hS3, hc3, hd3, hR3, hK3⟩; have hx3 := (pc_cells (by unfold pcObj; exact hK3.at_block HC0.out hne)).2.2.2; have HSY := Lib.hid (HR0.out.past hK3 (seen_take hS0 30))))
          | (go_at_call 33; go_loud ((with_reducible refine (same_at _ _ _ _ _ _ t.sn t.sn bv HLL.out HML.out HBW.out _ _ _ hS3 HSY.out (by unfold maxLen; omega) (by unfold maxLen; omega)).mono ?_); rintro e w4 ⟨rfl, hB4⟩)))
        all_goals
          go_ret
          refine pBack_mk ?_ HB0.out (hR3.below hB4) (hK3.trans (Chg.of_below _ hB4))
          rw [← HBV.out]
          simp
    · have h30I : (30 : Int) < (t.sn : Int) := by omega
      have h30c : (30 : Int) ≤ (t.sc : Int) := by omega
      have HML : Hid ((t.ys.take 30).length = 30) := by rw [List.length_take, HTL.out]; show _ = _; omega
      unfold Pc.back at hr
      rw [if_neg (by omega), if_pos k0, HML.out] at hr
      by_cases hfit : xs.length < p + 30
      · have hrd : Cu.rdBytes (30 : Int) p xs = ([], 20, p) := by unfold Cu.rdBytes; rw [if_neg (by omega), show (30 : Int).toNat = 30 from rfl, if_pos hfit]
        rw [show ((30 : Nat) : Int) = 30 from rfl, hrd] at hr
        obtain ⟨hb, rfl⟩ := Prod.mk.inj hr
        have HBV := Lib.hid hb
        have HRD := Lib.hid hrd
        clear k0 hr hb hrd hfit
        go_enter Try.func20, Try.ntmps20
        go_wp2_with (go_at_call 26; go_loud ((with_reducible refine (bytes_at _ B p xs (30 : Int) (by omega) HM.out _ _ _ HRD.out 0 rfl HR0.out).mono ?_); rintro e w3 ⟨a3, c3, rfl, hown3, hS3, hc3, hd3, hR3, hK3⟩))
        go_ret
        refine pBack_mk ?_ HB0.out hR3 hK3
        rw [← HBV.out]
        simp
      · have hrd : Cu.rdBytes (30 : Int) p xs = ((xs.drop p).take 30, 0, p + 30) := by unfold Cu.rdBytes; rw [if_neg (by omega), show (30 : Int).toNat = 30 from rfl, if_neg hfit]
        rw [show ((30 : Nat) : Int) = 30 from rfl, hrd] at hr
        obtain ⟨hb, rfl⟩ := Prod.mk.inj hr
        have hll : ((xs.drop p).take 30).length = 30 := by rw [List.length_take, List.length_drop]; omega
        obtain ⟨bv, hbv⟩ : ∃ bv, decide ((xs.drop p).take 30 = t.ys.take 30) = bv := ⟨_, rfl⟩
        have HBW := Lib.hid hbv
        rw [hbv] at hb
        have HBV := Lib.hid hb
        have HRD := Lib.hid hrd
        have HLL := Lib.hid hll
        clear k0 hr hb hrd hfit hbv hll
        go_enter Try.func20, Try.ntmps20
        go_wp2_with (first
          | (go_at_call 26; go_loud ((with_reducible refine (bytes_at _ B p xs (30 : Int) (by omega) HM.out _ _ _ HRD.out 30 HLL.out HR0.out).mono ?_); rintro e w3 ⟨a3, c3, rfl, hown3, hS3, hc3, hd3, hR3, hK3⟩; have hx3 := (pc_cells (by unfold pcObj; exact hK3.at_block HC0.out hne)).2.2.2; have HSY := Lib.hid (HR0.out.past hK3 (seen_take hS0 30))))
          | (go_at_call 33; go_loud ((with_reducible refine (same_at _ _ _ _ _ _ 30 30 bv HLL.out HML.out HBW.out _ _ _ hS3 HSY.out (by unfold maxLen; omega) (by unfold maxLen; omega)).mono ?_); rintro e w4 ⟨rfl, hB4⟩)))
        all_goals
          go_ret
          refine pBack_mk ?_ HB0.out (hR3.below hB4) (hK3.trans (Chg.of_below _ hB4))
          rw [← HBV.out]
          simp
  · have hkI : (t.kd : Int) % 4 = 2 := by omega
    obtain ⟨n, hn⟩ : ∃ n, 1 + t.pn % 8 = n := ⟨_, rfl⟩
    obtain ⟨y, hy⟩ : ∃ y, t.fx = y := ⟨_, rfl⟩
    have HFX : Hid (∀ w, Calls Try.prog 44 #[pv t] w fun e w' => e = .returned (.tuple #[.int .i64 (n : Int), .int .u64 (y : Int)]) ∧ Below w.heap.size w w') := fun w => by
      have := fixed_of t tp HTX.out w
      rw [hn, hy] at this
      exact this
    obtain ⟨x, er, q, hrd⟩ : ∃ x er q, Cu.rdFixed (n : Int) p xs = (x, er, q) := ⟨_, _, _, rfl⟩
    have hbk : (decide (y = x) && decide (er = 0)) = b ∧ q = p' := by
      unfold Pc.back at hr
      rw [if_neg (by omega), if_neg (by omega), if_pos k0, hn, hrd, hy] at hr
      exact Prod.mk.inj hr
    obtain ⟨hb, rfl⟩ := hbk
    have HBV := Lib.hid hb
    have HRD := Lib.hid hrd
    clear k0 hr hb hrd hn hy
    go_enter Try.func20, Try.ntmps20
    go_wp2_with (first
      | (go_at_call 44; go_loud ((with_reducible refine (HFX.out _).mono ?_); rintro e w2 ⟨rfl, hB2⟩; have HB2 := Lib.hid (HB0.out.trans (hB2.mono HB0.out.size)); have HR2 := Lib.hid (HR0.out.below hB2)))
      | (go_at_call 32; go_loud ((with_reducible refine (fixed_any _ B p n xs _ HRD.out HR2.out).mono ?_); rintro e w3 ⟨rfl, hR3, hK3⟩)))
    all_goals
      go_ret
      refine pBack_mk ?_ HB2.out hR3 hK3
      rw [← HBV.out]
      rw [Bool.eq_iff_iff]; simp; omega
  · have hkI : (t.kd : Int) % 4 = 3 := by omega
    obtain ⟨x, er, q, hrd⟩ : ∃ x er q, Cu.rdNumber t.X p xs = (x, er, q) := ⟨_, _, _, rfl⟩
    have hbk : (decide (x = t.X) && decide (er = 0)) = b ∧ q = p' := by
      unfold Pc.back at hr
      rw [if_neg (by omega), if_neg (by omega), if_neg (by omega), hrd] at hr
      exact Prod.mk.inj hr
    obtain ⟨hb, rfl⟩ := hbk
    have HBV := Lib.hid hb
    have HRD := Lib.hid hrd
    clear k0 hr hb hrd
    go_enter Try.func20, Try.ntmps20
    go_wp2_with (go_at_call 27; go_loud ((with_reducible refine (rnumber_any _ B p t.X xs _ HRD.out HR0.out).mono ?_); rintro e w3 ⟨rfl, hR3, hK3⟩; have hx3 := (pc_cells (by unfold pcObj; exact hK3.at_block HC0.out hne)).2.2.1))
    all_goals
      go_ret
      refine pBack_mk ?_ HB0.out hR3 hK3
      rw [← HBV.out]
      rw [Bool.eq_iff_iff]; simp; omega

end Go.Proofs.Ytdemlifjhlpclaa

/-
  A slice of pieces that comes in.
-/
namespace Go.Proofs.Ytdemlifjhlpclaa
open Go.RowKit Go.ChangeShapes Go.WideShapes Go.Deep
set_option linter.unusedVariables false

/-- In the world w, below block Q, the slice that begins at a holds pieces. -/
def Pcs (w : World) (Q : Nat) (a : Option Addr) (l : List Pc) : Prop :=
  ∀ (i : Nat) (t : Pc), l[i]? = some t → ∃ b off, a = some ⟨b, off, none⟩ ∧ b < Q ∧ w.cell? ⟨b, off + i * 4, none⟩ = some (.int .u8 t.kd) ∧ w.cell? ⟨b, off + i * 4 + 1, none⟩ = some (.int .u8 t.pn) ∧ w.cell? ⟨b, off + i * 4 + 2, none⟩ = some (.int .u64 t.X) ∧ w.cell? ⟨b, off + i * 4 + 3, none⟩ = some (.slice t.sa t.sn t.sc)
theorem Pcs.below {w w' : World} {Q : Nat} {a : Option Addr} {l : List Pc} (h : Pcs w Q a l) (hb : Below Q w w') : Pcs w' Q a l := fun i t ht => by
  obtain ⟨b, off, e, hq, h0, h1, h2, h3⟩ := h i t ht
  refine ⟨b, off, e, hq, ?_, ?_, ?_, ?_⟩
  · exact (hb.cell (p := ⟨b, off + i * 4, none⟩) hq).trans h0
  · exact (hb.cell (p := ⟨b, off + i * 4 + 1, none⟩) hq).trans h1
  · exact (hb.cell (p := ⟨b, off + i * 4 + 2, none⟩) hq).trans h2
  · exact (hb.cell (p := ⟨b, off + i * 4 + 3, none⟩) hq).trans h3
theorem Pc.ok.below {w w' : World} {Q : Nat} {t : Pc} (h : t.ok w Q) (hb : Below Q w w') : t.ok w' Q := by
  obtain ⟨h1, h2, h3, h4, h5, h6, h7, h8⟩ := h
  exact ⟨h1, h2, h3, h4, h5, h6, h7, h8.below hb⟩
theorem Pc.ok.more {w : World} {Q Q' : Nat} {t : Pc} (h : t.ok w Q) (hb : Q ≤ Q') : t.ok w Q' := by
  obtain ⟨h1, h2, h3, h4, h5, h6, h7, h8⟩ := h
  exact ⟨h1, h2, h3, h4, h5, h6, h7, h8.more hb⟩

/-- What is known of a slice of pieces that came in. -/
def PcsIn (w : World) (a : Option Addr) (len cap : Nat) : Prop :=
  len ≤ cap ∧ cap ≤ maxLen ∧ ∃ l : List Pc, l.length = len ∧ Pcs w w.heap.size a l ∧ ∀ t ∈ l, t.ok w w.heap.size

set_option maxRecDepth 100000 in
set_option maxHeartbeats 1000000 in
theorem pcs_open {H : Type} {enc : TypeId × Value → H} {W : World} {fuel : Nat} {a : Option Addr} {len cap : Nat} {x : DataW H × List MemPlace}
    (h : DataW.trod enc Try.prog W 0 (fun _ => true) true fuel 32 [.slice a len cap] = some x) : PcsIn W a len cap := by
  rcases open_slice Try.underlying32 h with ⟨hcs, _⟩ | ⟨ad, l', c', m, n, D, Pl, hcs, _, hl, hm, hmm, _, hi⟩
  · simp at hcs
    obtain ⟨rfl, rfl, rfl⟩ := hcs
    exact ⟨Nat.le_refl _, by unfold maxLen; omega, [], rfl, fun i t ht => by simp at ht, by simp⟩
  · simp at hcs
    obtain ⟨rfl, rfl, rfl⟩ := hcs
    rw [if_pos rfl] at hmm
    subst hmm
    have hC : Try.prog.cellsOf 39 = 4 := by kernel_rfl
    refine ⟨hl, hm, ?_⟩
    have hex : ∀ i, i < len → ∃ t : Pc, (∃ b off, ad = ⟨b, off, none⟩ ∧ b < W.heap.size ∧ W.cell? ⟨b, off + i * 4, none⟩ = some (.int .u8 t.kd) ∧ W.cell? ⟨b, off + i * 4 + 1, none⟩ = some (.int .u8 t.pn) ∧ W.cell? ⟨b, off + i * 4 + 2, none⟩ = some (.int .u64 t.X) ∧ W.cell? ⟨b, off + i * 4 + 3, none⟩ = some (.slice t.sa t.sn t.sc)) ∧ t.ok W W.heap.size := by
      intro i hil
      obtain ⟨cs, hc, ht⟩ := hi i (by omega)
      rw [hC] at hc
      obtain ⟨_, hlen, hcell⟩ := World.cells?_some hc
      obtain ⟨xs, n', _, _, _, hxl, hg⟩ := DataW.trod_struct Try.underlying39 ht
      match cs, hlen with
      | [v0, v1, v2, v3], _ =>
        match xs, hxl with
        | [y0, y1, y2, y3], _ =>
          have g0 : DataW.trod enc Try.prog W 0 (fun _ => true) true n' 5 [v0] = some y0 := hg 0 _ rfl
          have g1 : DataW.trod enc Try.prog W 0 (fun _ => true) true n' 5 [v1] = some y1 := hg 1 _ rfl
          have g2 : DataW.trod enc Try.prog W 0 (fun _ => true) true n' 28 [v2] = some y2 := hg 2 _ rfl
          have g3 : DataW.trod enc Try.prog W 0 (fun _ => true) true n' 22 [v3] = some y3 := hg 3 _ rfl
          obtain ⟨k0, e0, _, wf0⟩ := DataW.trod_int Try.underlying5 g0
          obtain ⟨k1, e1, _, wf1⟩ := DataW.trod_int Try.underlying5 g1
          obtain ⟨k2, e2, _, wf2⟩ := DataW.trod_int Try.underlying28 g2
          simp at e0 e1 e2
          subst e0; subst e1; subst e2
          have hs3 : ∃ sa sn sc zs, v3 = .slice sa sn sc ∧ IsRow .u8 W sa sn sc zs := by
            rcases open_ints Try.underlying22 Try.underlying5 (by kernel_rfl) g3 with ⟨hcs, _⟩ | ⟨x, l, c, zs, hcs, _, hl, hm, hz, _, hcell, hwz⟩
            · simp at hcs
              exact ⟨none, 0, 0, [], hcs, .inl ⟨rfl, rfl, rfl, rfl⟩⟩
            · simp at hcs
              exact ⟨_, _, _, zs, hcs, .inr ⟨_, rfl, hl, hm, by simpa using hz, hcell, hwz⟩⟩
          obtain ⟨sa, sn, sc, zs, rfl, hrow⟩ := hs3
          obtain ⟨ys, hyl, hS, hy, hyc, hycm⟩ := row_u8 hrow
          have b0 := bounds_u8 wf0
          have b1 := bounds_u8 wf1
          have b2 := bounds_u64 wf2
          obtain ⟨kd, rfl⟩ := Int.eq_ofNat_of_zero_le b0.1
          obtain ⟨kp, rfl⟩ := Int.eq_ofNat_of_zero_le b1.1
          obtain ⟨kx, rfl⟩ := Int.eq_ofNat_of_zero_le b2.1
          have hc0 : W.cell? ((ad.add (i * 4)).add 0) = some (.int .u8 (kd : Int)) := hcell 0 (by omega)
          have hc1 : W.cell? ((ad.add (i * 4)).add 1) = some (.int .u8 (kp : Int)) := hcell 1 (by omega)
          have hc2 : W.cell? ((ad.add (i * 4)).add 2) = some (.int .u64 (kx : Int)) := hcell 2 (by omega)
          have hc3 : W.cell? ((ad.add (i * 4)).add 3) = some (.slice sa sn sc) := hcell 3 (by omega)
          obtain ⟨b, off, spot⟩ := ad
          have hs : spot = none := by
            obtain ⟨cz, hz, _⟩ := hi 0 (by omega)
            rw [hC] at hz
            obtain ⟨_, hzl, hzc⟩ := World.cells?_some hz
            have h1 := hzc 0 (by omega)
            rw [List.getElem?_eq_getElem (by omega)] at h1
            simpa [Addr.add] using World.cell?_spot h1
          subst hs
          simp only [Addr.add_lit] at hc0 hc1 hc2 hc3
          have hb : b < W.heap.size := World.block_lt_of_cell? W _ hc0
          exact ⟨⟨kd, kp, kx, sa, sn, sc, ys⟩, ⟨b, off, rfl, hb, hc0, hc1, hc2, hc3⟩, by show kd < 256; omega, by show kp < 256; omega, by show kx < 2 ^ 64; omega, hyl, hyc, hycm, hy, hS⟩
    have hch : ∃ f : Nat → Pc, ∀ i, i < len → (∃ b off, ad = ⟨b, off, none⟩ ∧ b < W.heap.size ∧ W.cell? ⟨b, off + i * 4, none⟩ = some (.int .u8 (f i).kd) ∧ W.cell? ⟨b, off + i * 4 + 1, none⟩ = some (.int .u8 (f i).pn) ∧ W.cell? ⟨b, off + i * 4 + 2, none⟩ = some (.int .u64 (f i).X) ∧ W.cell? ⟨b, off + i * 4 + 3, none⟩ = some (.slice (f i).sa (f i).sn (f i).sc)) ∧ (f i).ok W W.heap.size := by
      refine ⟨fun i => if h : i < len then Classical.choose (hex i h) else ⟨0, 0, 0, none, 0, 0, []⟩, fun i h => ?_⟩
      simp only [dif_pos h]
      exact Classical.choose_spec (hex i h)
    obtain ⟨f, hf⟩ := hch
    refine ⟨(List.range len).map f, by simp, fun i t ht => ?_, fun t ht => ?_⟩
    · have hil : i < len := by have := (List.getElem?_eq_some_iff.1 ht).1; simpa using this
      have e : t = f i := by simp [hil] at ht; exact ht.symm
      subst e
      obtain ⟨⟨b, off, rfl, hrest⟩, _⟩ := hf i hil
      exact ⟨b, off, rfl, hrest⟩
    · simp only [List.mem_map, List.mem_range] at ht
      obtain ⟨i, hil, rfl⟩ := ht
      exact (hf i hil).2

end Go.Proofs.Ytdemlifjhlpclaa
