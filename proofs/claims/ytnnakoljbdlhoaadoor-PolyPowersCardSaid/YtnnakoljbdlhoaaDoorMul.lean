/-
  terms and Mul.
-/
import Derived.BigRegionIn
import Derived.Test.YtnnakoljbdlhoaaDoorTerms
namespace Go.Proofs.YtnnakoljbdlhoaaDoor
open Go.RowKit Go.Shelf
attribute [local go_sem] Oper.semAt_some
set_option linter.unusedVariables false

set_option maxRecDepth 100000 in
theorem degree_in (F : Fence) (n : Nat) (hf : F.fn 23) (hl : F.fn 45) (hro : F.round = none) (hn : 1 ≤ n) (x : Nat) (hx : x < 2 ^ 64) (d : Int) (hd : d = (Gf.len x : Int) - 1) (w : World) : CallsIn F n Tryd.prog 23 #[.int .u64 x] w fun e w' => e = .returned (.int .i64 d) ∧ w = w' := by
  subst hd
  have hl64 := len_64 hx
  have HX : Hid ((x : Int) ≤ 18446744073709551615) := by show _ ≤ _; omega
  have HZ : Hid (0 ≤ (x : Int)) := by show _ ≤ _; omega
  clear hx
  refine callsIn_of_wp Tryd.func23 rfl hf ?_ hro
  simp only [Tryd.ntmps23, List.size_toArray, List.length_cons, List.length_nil, Nat.reduceAdd, Nat.reduceSub, Array.replicate_succ, Array.replicate_zero, List.push_toArray, List.append_toArray, List.nil_append, List.cons_append]
  gi_wp2_with (gi_at_call 45; refine (len64_in F (n - 1) hl hro x HZ.out HX.out _).mono ?_; rintro e w1 ⟨rfl, rfl⟩; rw [Int.toNat_natCast])
  go_ret
  exact ⟨rfl, rfl⟩

/-- Degrees below 64. -/
def toF (d : Nat) : Fin 64 := ⟨d % 64, Nat.mod_lt _ (by decide)⟩
theorem toF_val {d : Nat} (h : d < 64) : (toF d).val = d := Nat.mod_eq_of_lt h
def degsF (p : Nat) : List (Fin 64) := (degs p).map toF
theorem degsF_val {p : Nat} (h : p < 2 ^ 64) : (degsF p).map (fun d => d.val) = degs p := by
  unfold degsF
  rw [List.map_map]
  conv => rhs; rw [← List.map_id (degs p)]
  exact List.map_congr_left fun d hd => toF_val (degs_lt p 64 (len_64 h) d hd)
abbrev encf (d : Fin 64) : Array Value := #[.int .i64 d.val]

set_option maxRecDepth 100000 in
set_option maxHeartbeats 1000000 in
/-- The closure of terms: it yields the degrees of the captured polynomial. -/
theorem terms_stops (F : Fence) (n : Nat) (hf : F.fn 57) (hd : F.fn 23) (hl : F.fn 45) (hro : F.round = none) (hn : 3 ≤ n) (B x : Nat) (hx : x < 2 ^ 64) (w : World)
    (hB : w.cell? ⟨B, 0, none⟩ = some (.int .u64 x)) (hlt : B < w.heap.size) :
    SeqStopsA F n Tryd.prog 57 #[.pointer (some ⟨B, 0, none⟩)] encf (fun xs => xs = degsF x) (fun pre => pre <+: degsF x) (degsF x).length w := fun l J Jx W hW hJ hJx hY h0 => by
  have h1n : 1 ≤ n := by omega
  have hc : W.cell? ⟨B, 0, none⟩ = some (.int .u64 x) := (hW.cell (p := ⟨B, 0, none⟩) hlt).trans hB
  refine callsIn_of_wp Tryd.func57 rfl hf ?_ hro
  simp only [Tryd.ntmps57, List.size_toArray, List.length_cons, List.length_nil, Nat.reduceAdd, Nat.reduceSub, Array.replicate_succ, Array.replicate_zero, List.push_toArray, List.append_toArray, List.nil_append, List.cons_append]
  have HX64 := Lib.hid hx
  clear hx
  gi_wp2
  gi_loopw [3] (fun r wr => ∃ (pre : List (Fin 64)) (y : Nat), Hid (y < 2 ^ 64) ∧ r = .int .u64 y ∧ Hid (degsF x = pre ++ degsF y) ∧ J pre wr) (fun r _ => Gf.len (intOf r).toNat)
  case atStart => exact ⟨[], x, HX64, rfl, rfl, h0⟩
  case round =>
    obtain ⟨pre, y, HY64, rfl, HPRE, hJs⟩ := hrel
    by_cases hy : y = 0
    · have hyI : ((y : Int) != 0) = false := by simp [hy]
      have HE : Hid (degsF x = pre) := by have := HPRE.out; unfold degsF at this ⊢; rw [hy, degs_zero, List.map_nil, List.append_nil] at this; exact this
      clear hy
      gi_wp2
      go_end0
      exact ⟨⟨_, rfl⟩, .inl ⟨pre, HE.out.symm, hJs⟩⟩
    · have hyI : ((y : Int) != 0) = true := by simp [hy]
      have HY0 := Lib.hid hy
      obtain ⟨k, hk⟩ : ∃ k, Gf.len y - 1 = k := ⟨_, rfl⟩
      have hl1 := Gf.len_pos hy
      have hl2 := len_64 HY64.out
      have hkI : (k : Int) < 64 := by omega
      have hk0 : (0 : Int) ≤ (k : Int) := by omega
      have HD : Hid ((k : Int) = (Gf.len y : Int) - 1) := by show _ = _; omega
      have hg : degsF y = toF k :: degsF (y ^^^ 2 ^ k) := by unfold degsF; rw [degs_cons hy, hk]; rfl
      obtain ⟨fn, tmps, assign, body, hy1, hR⟩ := hY pre (toF k) wr hJs (by rw [HPRE.out, hg]; simp)
      dsimp only [encf] at hy1
      rw [toF_val (show k < 64 by omega)] at hy1
      have HG := Lib.hid hg
      have hk64 : k < 64 := by omega
      have HXR : Hid (bits .xor .u64 (y : Int) (IntKind.u64.wrap ((2 : Int) ^ k)) = ((y ^^^ 2 ^ k : Nat) : Int)) := by
        show _ = _
        rw [shl_one hk64, u64_xor_nat y _ HY64.out (pow_64 hk64)]
      have HN : Hid (y ^^^ 2 ^ k < 2 ^ 64) := Gf.xor_lt HY64.out (pow_64 hk64)
      have HL : Hid (Gf.len (y ^^^ 2 ^ k) < Gf.len y) := by have := top_len hy; rw [hk] at this; show _ < _; omega
      clear hy hk hl1 hl2 hg hk64
      gi_wp2_with (gi_at_call 23; refine (degree_in F (n - 1) hd hl hro (by omega) y HY64.out (k : Int) HD.out _).mono ?_; rintro e w1 ⟨rfl, rfl⟩)
      refine hR.mono ?_
      rintro e W3 (⟨rfl, hJ3, _⟩ | ⟨rfl, hJx3⟩)
      · gi_wp2
        exact ⟨⟨pre ++ [toF k], y ^^^ 2 ^ k, HN, congrArg (Value.int .u64) HXR.out, by show _ = _; rw [HPRE.out, HG.out]; simp, hJ3⟩, by simp [intOf, HXR.out]; exact HL.out⟩
      · gi_wp2
        refine bodyPost_ret (results_none rfl _ _ _) rfl ?_
        exact ⟨⟨_, rfl⟩, .inr ⟨pre ++ [toF k], ⟨degsF (y ^^^ 2 ^ k), by rw [HPRE.out, HG.out]; simp⟩, hJx3⟩⟩

theorem terms_in (F : Fence) (n : Nat) (hf : F.fn 39) (hro : F.round = none) (x : Nat) (w : World) :
    CallsIn F n Tryd.prog 39 #[.int .u64 x] w fun e w' => e = .returned (.func (.func 57) #[] #[.pointer (some ⟨w.heap.size, 0, none⟩)]) ∧ w' = w.alloc (.cells #[.int .u64 x] 22) := by
  refine callsIn_of_wp Tryd.func39 rfl hf ?_ hro
  simp only [Tryd.ntmps39, List.size_toArray, List.length_cons, List.length_nil, Nat.reduceAdd, Nat.reduceSub, Array.replicate_succ, Array.replicate_zero, List.push_toArray, List.append_toArray, List.nil_append, List.cons_append]
  gi_wp2
  go_ret
  exact ⟨rfl, rfl⟩

/-- The sum of multiples. -/
def psum (a : Nat) : List Nat → Nat
  | [] => 0
  | d :: l => a * 2 ^ d ^^^ psum a l
theorem psum_snoc (a d : Nat) (l : List Nat) : psum a (l ++ [d]) = psum a l ^^^ a * 2 ^ d := by
  induction l with
  | nil => simp [psum]
  | cons e l ih => simp only [List.cons_append, psum, ih, Nat.xor_assoc]
theorem psum_degs (a : Nat) : ∀ n y, Gf.len y ≤ n → psum a (degs y) = Gf.pmul a y := by
  intro n
  induction n with
  | zero =>
    intro y h
    have : y = 0 := by
      rcases Nat.eq_zero_or_pos y with e | e
      · exact e
      · have := Gf.len_pos (show y ≠ 0 by omega); omega
    subst this
    rw [degs_zero, Gf.pmul_zero]; rfl
  | succ n ih =>
    intro y h
    by_cases hy : y = 0
    · subst hy; rw [degs_zero, Gf.pmul_zero]; rfl
    · rw [degs_cons hy, psum, ih _ (by have := top_len hy; omega), ← Gf.pmul_shift a, ← Gf.pmul_xor, Gf.xor_left_comm, Nat.xor_self, Nat.xor_zero]
theorem psum_lt (a : Nat) (n : Nat) (l : List Nat) (h : ∀ d ∈ l, a * 2 ^ d < 2 ^ n) : psum a l < 2 ^ n := by
  induction l with
  | nil => exact Nat.pow_pos (by decide)
  | cons d l ih => exact Gf.xor_lt (h d (by simp)) (ih fun e he => h e (by simp [he]))

set_option maxRecDepth 100000 in
set_option maxHeartbeats 1000000 in
theorem mul_in (F : Fence) (n : Nat) (h1 : F.fn 20) (h2 : F.fn 39) (h3 : F.fn 57) (h4 : F.fn 23) (h5 : F.fn 45) (hro : F.round = none) (hn : 5 ≤ n) (a b : Nat) (ha : a < 2 ^ 64) (hb : b < 2 ^ 64) (hab : Gf.len a + Gf.len b ≤ 65) (w : World) :
    CallsIn F n Tryd.prog 20 #[.int .u64 a, .int .u64 b] w fun e w' => e = .returned (.tuple #[.int .u64 (Gf.pmul a b), .int .i64 0]) ∧ Below w.heap.size w w' := by
  refine callsIn_of_wp_marks Tryd.func20 rfl h1 ?_ hro
  simp only [Tryd.ntmps20, List.size_toArray, List.length_cons, List.length_nil, Nat.reduceAdd, Nat.reduceSub, Array.replicate_succ, Array.replicate_zero, List.push_toArray, List.append_toArray, List.nil_append, List.cons_append]
  have h1n : 1 ≤ n := by omega
  have HA := Lib.hid ha
  have HB := Lib.hid hb
  have hla := len_64 ha
  have hlb := len_64 hb
  obtain ⟨da, hda⟩ : ∃ da : Int, da = (Gf.len a : Int) - 1 := ⟨_, rfl⟩
  obtain ⟨db, hdb⟩ : ∃ db : Int, db = (Gf.len b : Int) - 1 := ⟨_, rfl⟩
  have HDA := Lib.hid hda
  have HDB := Lib.hid hdb
  have hs1 : da + db ≤ 63 := by omega
  have hs2 : -2 ≤ da + db := by omega
  have hda1 : -1 ≤ da := by omega
  have hdb1 : -1 ≤ db := by omega
  have hda2 : da ≤ 63 := by omega
  have hdb2 : db ≤ 63 := by omega
  clear ha hb hda hdb hla hlb
  gi_wp2_with (first
    | (gi_at_call 23; refine (degree_in F (n - 1) h4 h5 hro (by omega) a HA.out da HDA.out _).mono ?_; rintro e w1 ⟨rfl, rfl⟩)
    | (gi_at_call 23; refine (degree_in F (n - 1) h4 h5 hro (by omega) b HB.out db HDB.out _).mono ?_; rintro e w1 ⟨rfl, rfl⟩)
    | (gi_at_call 39; refine (terms_in F (n - 1) h2 hro _ _).mono ?_; rintro e w' ⟨rfl, rfl⟩))
  have hs := (Boxed.new (w.alloc (.cells #[.int .u64 a] 22)) 22 (.int .u64 0)).alloc (.cells #[.int .u64 b] 22)
  have hA := ((Boxed.new w 22 (.int .u64 a)).alloc (.cells #[.int .u64 0] 22)).alloc (.cells #[.int .u64 b] 22)
  have hb := Boxed.new ((w.alloc (.cells #[.int .u64 a] 22)).alloc (.cells #[.int .u64 0] 22)) 22 (.int .u64 b)
  rw [World.size_alloc] at hs
  rw [World.size_alloc, World.size_alloc] at hb
  have hlen : (degsF b).length ≤ 64 := by unfold degsF; rw [List.length_map]; exact degs_len b 64 (len_64 HB.out)
  refine wpIn_rangeFunc_ownF hro h1n (gf := 57) (lb := #[.pointer (some ⟨w.heap.size + 1 + 1, 0, none⟩)]) rfl h3 (enters_of Tryd.func57 (by kernel_rfl) rfl)
    (seqStopsA_iff.1 (terms_stops F (n - 1) h3 h4 h5 hro (by omega) (w.heap.size + 1 + 1) b HB.out _ hb.cell hb.lt)) walksK_t walksK_b (Below.refl _ _) (fun _ => rfl)
    (fun pre W => Boxed W (w.heap.size + 1) 22 (.int .u64 (psum a (pre.map fun d => d.val) % 2 ^ 64 : Nat)) ∧ Boxed W w.heap.size 22 (.int .u64 a) ∧ Below w.heap.size w W)
    (fun _ _ _ => False)
    (OwnFrom.and (Own.from (boxed_own _ _ _) _) (OwnFrom.and (Own.from (boxed_own _ _ _) _) (ownFrom_below (Nat.le_refl _) (by simp; omega))))
    (fun _ _ _ _ _ hs _ _ => hs)
    ⟨hs, hA, (((Below.refl _ w).alloc (Nat.le_refl _) _).alloc (by simp) _).alloc (by simp; omega) _⟩
    (fun p => { tmps := #[.int .u64 a, .int .u64 b, .pointer (some ⟨w.heap.size, 0, none⟩), undef, .int .u64 0, .int .i64 0, .pointer (some ⟨w.heap.size + 1, 0, none⟩), .int .i64 p.val, .int .u64 a, .int .i64 da, .int .u64 b, .int .i64 db, .int .i64 (da + db), .bool (decide (63 < da + db)), .int .u64 b, .func (.func 57) #[] #[.pointer (some ⟨w.heap.size + 1 + 1, 0, none⟩)], .int .i64 p.val, undef, undef, undef, undef, undef, undef], defers := [] }) ?assign ?body ?done ?stop
  case assign =>
    intro l p W K hK
    gi_wp2
    simpa [encf] using hK
  case body =>
    rintro l pre p W ⟨hb, hA, hB⟩ hlt
    have hc := hb.cell
    have hf := hb.frozen
    have hca := hA.cell
    have hpv : (p.val : Int) < 64 := by have := p.isLt; omega
    have hp0 : (0 : Int) ≤ (p.val : Int) := by omega
    obtain ⟨s, hsv⟩ : ∃ s, psum a (pre.map fun d => d.val) % 2 ^ 64 = s := ⟨_, rfl⟩
    rw [hsv] at hc hb
    have hs64 : s < 2 ^ 64 := by rw [← hsv]; exact Nat.mod_lt _ (by decide)
    have hxr : bits .xor .u64 (s : Int) (IntKind.u64.wrap ((a : Int) * (2 : Int) ^ p.val)) = ((psum a ((pre ++ [p]).map fun d => d.val) % 2 ^ 64 : Nat) : Int) := by
      have e : IntKind.u64.wrap ((a : Int) * (2 : Int) ^ p.val) = ((a * 2 ^ p.val % 2 ^ 64 : Nat) : Int) := by
        rw [← cast_pow, show ((a : Int) * ((2 ^ p.val : Nat) : Int)) = ((a * 2 ^ p.val : Nat) : Int) by push_cast; rfl, IntKind.wrap_u64]
        omega
      rw [e, u64_xor_nat s _ hs64 (Nat.mod_lt _ (by decide)), List.map_append, List.map_singleton, psum_snoc, Nat.xor_mod_two_pow, hsv]
    have HXR := Lib.hid hxr
    clear hs64 hxr hsv
    gi_wp2
    gi_region
    all_goals
      gi_wp2
      exact ⟨(KeepsOthers.setCell _ _ _).trans (KeepsOthers.drew _), ((KeepsOthers.setCell _ _ _).trans (KeepsOthers.drew _)).walks, by rw [← HXR.out]; exact hb.set _, hA.other (by omega) _, (hB.setCell (p := ⟨w.heap.size + 1, 0, none⟩) (by simp) _).drew⟩
  case done =>
    rintro D ys W hD rfl ⟨hb, hA, hB⟩ hK
    have hc := hb.cell
    have hres : psum a ((degsF b).map fun d => d.val) % 2 ^ 64 = Gf.pmul a b := by
      rw [degsF_val HB.out, psum_degs a 64 b (len_64 HB.out)]
      refine Nat.mod_eq_of_lt (Gf.len_le.1 ?_)
      by_cases h0 : a = 0
      · subst h0; rw [Gf.zero_pmul, Gf.len_zero]; omega
      · by_cases h0' : b = 0
        · subst h0'; rw [Gf.pmul_zero, Gf.len_zero]; omega
        · have := Gf.len_pmul h0 h0'
          have := HDA.out
          have := HDB.out
          omega
    rw [hres] at hc
    clear hres
    gi_wp2
    refine ⟨by simp, .inl ⟨_, _, rfl, run_takeDeferred hK, ?_⟩⟩
    exact ⟨_, results_tmp2 rfl _ _ _, rfl, hB.trans (belowK_b (w := w) (Nat.le_refl _) W D _ _ (by simp at hD; omega) hK rfl rfl)⟩
  case stop =>
    rintro D c pre W _ _ h _
    exact h.elim

theorem mul_any (a b : Nat) (ha : a < 2 ^ 64) (hb : b < 2 ^ 64) (hab : Gf.len a + Gf.len b ≤ 65) (r : Nat) (hr : Gf.pmul a b = r) (w : World) : Calls Tryd.prog 20 #[.int .u64 a, .int .u64 b] w fun e w' => e = .returned (.tuple #[.int .u64 r, .int .i64 0]) ∧ Below w.heap.size w w' := by
  subst hr
  exact (callsIn_wide (n := 9)).1 (mul_in Fence.wide 9 trivial trivial trivial trivial trivial rfl (by decide) a b ha hb hab w)
set_option maxRecDepth 100000 in
theorem mul_long (a b : Nat) (ha : a < 2 ^ 64) (hb : b < 2 ^ 64) (hab : 65 < Gf.len a + Gf.len b) (w : World) : Calls Tryd.prog 20 #[.int .u64 a, .int .u64 b] w fun e w' => e = .returned (.tuple #[.int .u64 0, .int .i64 3]) ∧ Below w.heap.size w w' := by
  have HA := Lib.hid ha
  have HB := Lib.hid hb
  have hla := len_64 ha
  have hlb := len_64 hb
  obtain ⟨da, hda⟩ : ∃ da : Int, da = (Gf.len a : Int) - 1 := ⟨_, rfl⟩
  obtain ⟨db, hdb⟩ : ∃ db : Int, db = (Gf.len b : Int) - 1 := ⟨_, rfl⟩
  have HDA := Lib.hid hda
  have HDB := Lib.hid hdb
  have hs1 : 63 < da + db := by omega
  have hda2 : da ≤ 63 := by omega
  have hdb2 : db ≤ 63 := by omega
  clear ha hb hda hdb hla hlb hab
  go_enter Tryd.func20, Tryd.ntmps20
  go_wp2_with (first
    | (go_at_call 23; ((with_reducible refine (degree_any a HA.out da HDA.out _).mono ?_); rintro e w1 ⟨rfl, rfl⟩))
    | (go_at_call 23; ((with_reducible refine (degree_any b HB.out db HDB.out _).mono ?_); rintro e w1 ⟨rfl, rfl⟩)))
  go_ret2
  exact ⟨rfl, (Below.refl _ w).alloc (Nat.le_refl _) _⟩

end Go.Proofs.YtnnakoljbdlhoaaDoor
