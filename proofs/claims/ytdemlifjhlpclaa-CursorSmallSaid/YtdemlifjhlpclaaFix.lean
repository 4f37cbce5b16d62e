/-
  The walk of CursorFixed.
-/
import Derived.Test.YtdemlifjhlpclaaMost
namespace Go.Proofs.Ytdemlifjhlpclaa
open Go.RowKit
set_option linter.unusedVariables false

theorem newWriter_at (w : World) (lI : Int) (lim base : Nat) (h : lI = lim) (hl : lim ≤ 16777216) :
    Calls Try.prog 15 #[.int .i64 lI] w fun e w' => ∃ B, e = .returned (.tuple #[.pointer (some ⟨B, 0, none⟩), .int .i64 0]) ∧ w.heap.size ≤ B ∧ Wtr w' base B lim (.slice none 0 0) [] ∧ Below w.heap.size w w' := newWriter_lit w lI lim base h hl
theorem wFixed_ok (w : World) (base B lim : Nat) (v : Value) (xs : List Nat) (hW : Wtr w base B lim v xs) (hbase : base ≤ w.heap.size) (x k : Nat) (hk1 : 1 ≤ k) (hk8 : k ≤ 8) (hx0 : x / 256 ^ k = 0) (h : xs.length + k ≤ lim) :
    Calls Try.prog 29 #[.pointer (some ⟨B, 0, none⟩), .int .u64 x, .int .i64 k] w fun e w' => ∃ v', e = .returned (.int .i64 0) ∧ Wtr w' base B lim v' (xs ++ leB k x) ∧ Chg (WS B v) w w' ∧ Moved w v v' :=
  (wFixed_any w base B lim v xs hW hbase x k hk1 hk8 hx0).mono fun e w' hh => hh.1 h
theorem wFixed_full (w : World) (base B lim : Nat) (v : Value) (xs : List Nat) (hW : Wtr w base B lim v xs) (hbase : base ≤ w.heap.size) (x k : Nat) (hk1 : 1 ≤ k) (hk8 : k ≤ 8) (hx0 : x / 256 ^ k = 0) (h : lim < xs.length + k) :
    Calls Try.prog 29 #[.pointer (some ⟨B, 0, none⟩), .int .u64 x, .int .i64 k] w fun e w' => e = .returned (.int .i64 4) ∧ Wtr w' base B lim v xs ∧ Below w.heap.size w w' :=
  (wFixed_any w base B lim v xs hW hbase x k hk1 hk8 hx0).mono fun e w' hh => hh.2 h
theorem Wtr.row_ne {w : World} {base B lim g n : Nat} {v v' : Value} {xs : List Nat} {vs : List Value} (h : Wtr w base B lim v xs) (ho : w.ownsRow base 5 1 v' n vs) (hg : v'.ownBlock = some g) : g ≠ B := ob_ne_row h.1 ho hg
/-- A slice that lies apart from a writer is as it was. -/
theorem Seen.apart {w w' : World} {N : Nat} {k : IntKind} {a : Option Addr} {xs : List Nat} {S : Nat → Prop} (h : Seen w N k a xs) (hk : Chg S w w') (ha : ∀ g off, a = some ⟨g, off, none⟩ → xs ≠ [] → ¬ S g) : Seen w' N k a xs := fun i x hx => by
  obtain ⟨b, off, e, hb, hc⟩ := h i x hx
  refine ⟨b, off, e, hb, (World.cell?_of_block (w := w) (hk.block b (World.block_lt_of_cell? w _ hc) (ha b off e ?_))).trans hc⟩
  intro e; subst e; simp at hx
theorem le_leB (k x : Nat) : Cu.le (leB k x) = x % 256 ^ k := by
  induction k with
  | zero => simp [leB, Cu.le, Nat.mod_one]
  | succ k ih =>
    have e : leB (k + 1) x = leB k x ++ [x / 256 ^ k % 256] := by simp [leB, List.range_succ]
    rw [e, Cu.le_snoc, ih, leB_len, Nat.pow_succ, Nat.mod_mul]
theorem fits_lt {x k : Nat} (h : x / 256 ^ k = 0) : x < 256 ^ k := by
  rcases Nat.lt_or_ge x (256 ^ k) with h1 | h1
  · exact h1
  · have := Nat.div_pos h1 (Nat.pow_pos (by decide)); omega
theorem rdFixed_leB (k x : Nat) (ys : List Nat) (hk1 : 1 ≤ k) (hk8 : k ≤ 8) (h : x / 256 ^ k = 0) : Cu.rdFixed k 0 (leB k x ++ ys) = (x, 0, k) := by
  unfold Cu.rdFixed
  rw [if_neg (by omega), Int.toNat_natCast, if_neg (by rw [List.length_append, leB_len]; omega), List.drop_zero, Nat.zero_add, List.take_left' (leB_len k x), le_leB, Nat.mod_eq_of_lt (fits_lt h)]
theorem rdBytes_rest (k m : Nat) (xs ys : List Nat) (hk : xs.length = k) (hm : ys.length = m) : Cu.rdBytes m k (xs ++ ys) = (ys, 0, k + m) := by
  unfold Cu.rdBytes
  rw [if_neg (by omega), Int.toNat_natCast, if_neg (by rw [List.length_append]; omega), List.drop_left' hk, List.take_of_length_le (by omega)]

theorem pow_cast (k : Nat) : (2 : Int) ^ (8 * k) = ((256 ^ k : Nat) : Int) := by rw [show (256 : Nat) ^ k = 2 ^ (8 * k) from by rw [Nat.pow_mul]]; push_cast; rfl
theorem wrap_pow {k : Nat} (hk : k < 8) : IntKind.u64.wrap (2 ^ (8 * k)) = ((256 ^ k : Nat) : Int) := by
  have h7 : (256 : Nat) ^ k ≤ 256 ^ 7 := Nat.pow_le_pow_right (by decide) (by omega)
  have e7 : (256 : Nat) ^ 7 = 72057594037927936 := by decide
  rw [pow_cast, IntKind.wrap_u64]
  obtain ⟨p, hp⟩ : ∃ p, 256 ^ k = p := ⟨_, rfl⟩
  rw [hp] at h7 ⊢
  exact Int.emod_eq_of_lt (by omega) (by omega)
theorem bytes_at (w : World) (B p : Nat) (xs : List Nat) (nI : Int) (hn1 : nI ≤ 9223372036854775807) (hm : xs.length ≤ 1000000000) (l : List Nat) (e : Int) (p' : Nat) (hr : Cu.rdBytes nI p xs = (l, e, p')) (m : Nat) (hl : l.length = m) (hR : Rdr w B p xs) :
    Calls Try.prog 26 #[.pointer (some ⟨B, 0, none⟩), .int .i64 nI] w fun r w' => ∃ a c, r = .returned (.tuple #[.slice a m c, .int .i64 e]) ∧ w'.ownsRow w.heap.size 5 1 (.slice a m c) m (l.map fun x : Nat => Value.int .u8 x) ∧ Seen w' w'.heap.size .u8 a l ∧ m ≤ c ∧ c ≤ maxLen ∧ Rdr w' B p' xs ∧ Chg (· = B) w w' := by
  subst hl
  refine (bytes_any w B p xs nI hn1 hm _ hr hR).mono ?_
  rintro r w' ⟨v, rfl, hown, hR', hK⟩
  obtain ⟨a, c, rfl, S, _, hc, hcm⟩ := own_slice hown
  exact ⟨a, c, rfl, hown, S, hc, hcm, hR', hK⟩

set_option maxRecDepth 100000 in
set_option maxHeartbeats 4000000 in
theorem fix_small (x s : Nat) (hx : x < 2 ^ 64) (hs : s < 256) (a : Option Addr) (n c : Nat) (ys : List Nat) (hyl : ys.length = n) (hbs : ∀ y ∈ ys, y < 256) (hnc : n ≤ c) (hcm : c ≤ maxLen) (hn20 : n ≤ 20) (w : World) (hS : Seen w w.heap.size .u8 a ys) :
    Calls Try.prog 9 #[.int .u64 x, .int .u8 s, .slice a n c] w fun e w' => e = .returned (.bool true) ∧ Below w.heap.size w w' := by
  unfold maxLen at hcm
  have hM0 : (0 : Int) ≤ (n : Int) := by omega
  obtain ⟨k, hk⟩ : ∃ k, 1 + s % 8 = k := ⟨_, rfl⟩
  have hkI : 1 + (s : Int) % 8 = (k : Int) := by omega
  have k1 : 1 ≤ k := by omega
  have k8 : k ≤ 8 := by omega
  have HY := Lib.hid hyl
  have HLK := Lib.hid (leB_len k x)
  have HL0 : Hid ((leB k x ++ ys).length = k + n) := by rw [List.length_append, HLK.out, HY.out]; rfl
  have HLM : Hid ((leB k x ++ ys).length ≤ 1000000000) := by rw [HL0.out]; show _ ≤ _; omega
  have HX : Hid (∀ y ∈ leB k x ++ ys, y < 256) := fun y h => by
    rcases List.mem_append.1 h with h | h
    · exact leB_byte k x y h
    · exact hbs y h
  clear hk hyl hbs
  have m20 : n ≤ 20 := by omega
  by_cases hf : x / 256 ^ k = 0
  · have HF := Lib.hid hf
    have HRF := Lib.hid (rdFixed_leB k x ys k1 k8 hf)
    have HRB : Hid (Cu.rdBytes (n : Int) k (leB k x ++ ys) = (ys, 0, k + n)) := rdBytes_rest k n (leB k x) ys HLK.out HY.out
    by_cases hk8 : k < 8
    focus
      have hge : (x : Int) < IntKind.u64.wrap (2 ^ (8 * k)) := by rw [wrap_pow hk8]; have := fits_lt hf; omega
      have hk8' : (k : Int) < 8 := by omega
    rotate_left
    focus
      have hge : (8 : Int) ≤ (k : Int) := by omega
      have hk8' : (8 : Int) ≤ (k : Int) := by omega
    all_goals
      clear hf hk8
      go_enter Try.func9, Try.ntmps9
      go_wp2_with (first
        | (go_at_call 12; ((with_reducible refine (awake_any _).mono ?_); rintro e w1 ⟨rfl, hB1⟩))
        | (go_at_call 15; ((with_reducible refine (newWriter_at _ _ (k + n) w.heap.size (by omega) (by omega)).mono ?_); rintro e w2 ⟨A, rfl, hA, hW2, hB2⟩; have h2 := Nat.le_trans hB1.size hB2.size; have hAw : w.heap.size ≤ A := Nat.le_trans hB1.size hA; have hb2 := hB1.trans (hB2.mono hB1.size)))
        | (go_at_call 29; ((with_reducible refine (wFixed_ok _ w.heap.size A _ _ _ hW2 h2 x k k1 k8 HF.out (by simp)).mono ?_); rintro e w3 ⟨v3, rfl, hW3', hK3, hM3⟩; have hW3 : Wtr w3 w.heap.size A (k + n) v3 (leB k x) := hW3'; have h3 := Nat.le_trans h2 hK3.size; have hb3 := hb2.trans (hW2.low hAw h2 hK3); have S3 := hS.below hb3; clear hW3'))
        | (go_at_call 30; ((with_reducible refine (wBytes_ok _ w.heap.size A _ _ _ hW3 h3 a n c ys HY.out _ S3 (by rw [HLK.out]; exact Nat.le_refl _)).mono ?_); rintro e w4 ⟨v4, rfl, hW4, hK4, hM4⟩; have h4 := Nat.le_trans h3 hK4.size; have hb4 := hb3.trans (hW3.low hAw h3 hK4)))
        | (go_at_call 31; ((with_reducible refine (wByte_full _ w.heap.size A _ _ _ hW4 h4 0 0 rfl (by rw [HL0.out]; omega)).mono ?_); rintro e w5 ⟨rfl, hW5, hB5⟩; have h5 := Nat.le_trans h4 hB5.size; have hb5 := hb4.trans (hB5.mono h4)))
        | (go_at_call 18; ((with_reducible refine (out_any _ w.heap.size A _ _ _ (k + n) HL0.out hW5).mono ?_); rintro e w6 ⟨v6, rfl, hown6, hB6⟩; obtain ⟨g6, c6, rfl⟩ := own_form hown6 (by omega); have h6 := Nat.le_trans h5 hB6.size; have hb6 := hb5.trans (hB6.mono h5); have S6 := Seen.of_own (k := .u8) hown6; have hc6 := own_cap hown6; obtain ⟨hc6a, hc6b⟩ := hc6; unfold maxLen at hc6b)))
      go_loop [11, 82] (fun y i => ∃ j : Nat, j ≤ k ∧ i = .int .i64 j ∧ y = .int .u64 (x / 256 ^ j : Nat)) (fun _ i => k - (intOf i).toNat)
      case atStart => exact ⟨0, Nat.zero_le _, rfl, by simp⟩
      case round =>
        obtain ⟨j, hj, rfl, rfl⟩ := hrel
        by_cases hlt : j < k
        · obtain ⟨b, off, he, _, hc⟩ := S6 j (x / 256 ^ j % 256) (by rw [List.getElem?_append_left (by rw [HLK.out]; exact hlt)]; simp [leB, hlt])
          cases he
          rw [Nat.zero_add] at hc
          have HV : Hid (x / 256 ^ (j + 1) = x / 256 ^ j / 256) := by rw [Nat.pow_succ, Nat.div_div_eq_div_mul]; rfl
          obtain ⟨v, hv⟩ : ∃ v, x / 256 ^ j = v := ⟨_, rfl⟩
          have hv64 : v < 2 ^ 64 := by rw [← hv]; exact Nat.lt_of_le_of_lt (Nat.div_le_self _ _) hx
          rw [hv] at hc HV ⊢
          have e1 : (((v % 256 : Nat) : Int) != (v : Int) % 256) = false := by simp
          have i1 : (j : Int) < (k : Int) + (n : Int) := by omega
          have i2 : (j : Int) < (k : Int) := by omega
          clear hv
          go_wp2
          exact ⟨⟨j + 1, by omega, by go_num, by rw [HV.out, Int.natCast_ediv]; rfl⟩, by simp [intOf]; omega⟩
        · obtain rfl : j = k := by omega
          go_wp2_with (first
            | (go_at_call 19; ((with_reducible refine (newReader_any _ _ (j + n) c6 _ HL0.out HX.out hc6a (by unfold maxLen; omega) (by simp) (by omega) _ S6 (Nat.le_refl _)).mono ?_); rintro e w7 ⟨R, rfl, hRR, hR7, hB7⟩))
            | (go_at_call 32; ((with_reducible refine (fixed_at _ R 0 _ _ x 0 j HRF.out hR7).mono ?_); rintro e w8 ⟨rfl, hR8, hK8⟩))
            | (go_at_call 26; ((with_reducible refine (bytes_at _ R j _ _ (by omega) HLM.out ys 0 (j + n) HRB.out n HY.out hR8).mono ?_); rintro e w9 ⟨a9, c9, rfl, _, S9, hc9, hd9, hR9, hK9⟩; have hbR := hb6.trans ((hB7.mono h6).trans ((hK8.trans hK9).below (B := w.heap.size) (by intro q e; omega) (Nat.le_trans h6 hB7.size)))))
            | (go_at_call 33; ((with_reducible refine (same_at _ _ _ _ ys ys n n true HY.out HY.out (by simp) _ _ _ S9 (hS.below hbR) (by unfold maxLen; omega) (by unfold maxLen; omega)).mono ?_); rintro e w10 ⟨rfl, hB10⟩)))
          go_ret
          exact ⟨rfl, hbR.trans (hB10.mono hbR.size)⟩
  · have hk8 : k < 8 := by
      rcases Nat.lt_or_ge k 8 with h | h
      · exact h
      · exfalso
        obtain rfl : k = 8 := by omega
        exact hf (Nat.div_eq_of_lt (by rw [show (256 : Nat) ^ 8 = 2 ^ 64 from by decide]; exact hx))
    have hge : IntKind.u64.wrap (2 ^ (8 * k)) ≤ (x : Int) := by
      rw [wrap_pow hk8]
      have : 256 ^ k ≤ x := by
        rcases Nat.lt_or_ge x (256 ^ k) with h | h
        · exact absurd (Nat.div_eq_of_lt h) hf
        · exact h
      omega
    have hk8' : (k : Int) < 8 := by omega
    have HF := Lib.hid hf
    clear hf hk8
    go_enter Try.func9, Try.ntmps9
    go_wp2_with (first
      | (go_at_call 12; ((with_reducible refine (awake_any _).mono ?_); rintro e w1 ⟨rfl, hB1⟩))
      | (go_at_call 15; ((with_reducible refine (newWriter_at _ _ (k + n) w.heap.size (by omega) (by omega)).mono ?_); rintro e w2 ⟨A, rfl, hA, hW2, hB2⟩; have h2 := Nat.le_trans hB1.size hB2.size; have hAw : w.heap.size ≤ A := Nat.le_trans hB1.size hA; have hb2 := hB1.trans (hB2.mono hB1.size)))
      | (go_at_call 29; ((with_reducible refine (wFixed_no _ w.heap.size A _ _ _ hW2 _ x rfl k (.inr (.inr (by rw [Int.toNat_natCast]; exact HF.out)))).mono ?_); rintro e w3 ⟨rfl, rfl⟩))
      | (go_at_call 17; ((with_reducible refine (len_any _ w.heap.size A _ _ _ 0 rfl hW2).mono ?_); rintro e w3 ⟨rfl, rfl⟩)))
    go_ret
    exact ⟨rfl, hb2⟩

set_option maxRecDepth 100000 in
set_option maxHeartbeats 4000000 in
theorem fix_large (x s : Nat) (hx : x < 2 ^ 64) (hs : s < 256) (a : Option Addr) (n c : Nat) (ys : List Nat) (hyl : ys.length = 20) (hbs : ∀ y ∈ ys, y < 256) (hnc : n ≤ c) (hcm : c ≤ maxLen) (hn20 : 20 < n) (w : World) (hS : Seen w w.heap.size .u8 a ys) :
    Calls Try.prog 9 #[.int .u64 x, .int .u8 s, .slice a n c] w fun e w' => e = .returned (.bool true) ∧ Below w.heap.size w w' := by
  unfold maxLen at hcm
  have hmx : max (20 : Int) 0 = 20 := by decide
  obtain ⟨k, hk⟩ : ∃ k, 1 + s % 8 = k := ⟨_, rfl⟩
  have hkI : 1 + (s : Int) % 8 = (k : Int) := by omega
  have k1 : 1 ≤ k := by omega
  have k8 : k ≤ 8 := by omega
  have HY := Lib.hid hyl
  have HLK := Lib.hid (leB_len k x)
  have HL0 : Hid ((leB k x ++ ys).length = k + 20) := by rw [List.length_append, HLK.out, HY.out]; rfl
  have HLM : Hid ((leB k x ++ ys).length ≤ 1000000000) := by rw [HL0.out]; show _ ≤ _; omega
  have HX : Hid (∀ y ∈ leB k x ++ ys, y < 256) := fun y h => by
    rcases List.mem_append.1 h with h | h
    · exact leB_byte k x y h
    · exact hbs y h
  clear hk hyl hbs
  have m20 : 20 ≤ 20 := by omega
  by_cases hf : x / 256 ^ k = 0
  · have HF := Lib.hid hf
    have HRF := Lib.hid (rdFixed_leB k x ys k1 k8 hf)
    have HRB : Hid (Cu.rdBytes 20 k (leB k x ++ ys) = (ys, 0, k + 20)) := rdBytes_rest k 20 (leB k x) ys HLK.out HY.out
    by_cases hk8 : k < 8
    focus
      have hge : (x : Int) < IntKind.u64.wrap (2 ^ (8 * k)) := by rw [wrap_pow hk8]; have := fits_lt hf; omega
      have hk8' : (k : Int) < 8 := by omega
    rotate_left
    focus
      have hge : (8 : Int) ≤ (k : Int) := by omega
      have hk8' : (8 : Int) ≤ (k : Int) := by omega
    all_goals
      clear hf hk8
      go_enter Try.func9, Try.ntmps9
      go_wp2_with (first
        | (go_at_call 12; ((with_reducible refine (awake_any _).mono ?_); rintro e w1 ⟨rfl, hB1⟩))
        | (go_at_call 15; ((with_reducible refine (newWriter_at _ _ (k + 20) w.heap.size (by omega) (by omega)).mono ?_); rintro e w2 ⟨A, rfl, hA, hW2, hB2⟩; have h2 := Nat.le_trans hB1.size hB2.size; have hAw : w.heap.size ≤ A := Nat.le_trans hB1.size hA; have hb2 := hB1.trans (hB2.mono hB1.size)))
        | (go_at_call 29; ((with_reducible refine (wFixed_ok _ w.heap.size A _ _ _ hW2 h2 x k k1 k8 HF.out (by simp)).mono ?_); rintro e w3 ⟨v3, rfl, hW3', hK3, hM3⟩; have hW3 : Wtr w3 w.heap.size A (k + 20) v3 (leB k x) := hW3'; have h3 := Nat.le_trans h2 hK3.size; have hb3 := hb2.trans (hW2.low hAw h2 hK3); have S3 := hS.below hb3; clear hW3'))
        | (go_at_call 30; ((with_reducible refine (wBytes_ok _ w.heap.size A _ _ _ hW3 h3 a 20 c ys HY.out _ S3 (by rw [HLK.out]; exact Nat.le_refl _)).mono ?_); rintro e w4 ⟨v4, rfl, hW4, hK4, hM4⟩; have h4 := Nat.le_trans h3 hK4.size; have hb4 := hb3.trans (hW3.low hAw h3 hK4)))
        | (go_at_call 31; ((with_reducible refine (wByte_full _ w.heap.size A _ _ _ hW4 h4 0 0 rfl (by rw [HL0.out]; omega)).mono ?_); rintro e w5 ⟨rfl, hW5, hB5⟩; have h5 := Nat.le_trans h4 hB5.size; have hb5 := hb4.trans (hB5.mono h4)))
        | (go_at_call 18; ((with_reducible refine (out_any _ w.heap.size A _ _ _ (k + 20) HL0.out hW5).mono ?_); rintro e w6 ⟨v6, rfl, hown6, hB6⟩; obtain ⟨g6, c6, rfl⟩ := own_form hown6 (by omega); have h6 := Nat.le_trans h5 hB6.size; have hb6 := hb5.trans (hB6.mono h5); have S6 := Seen.of_own (k := .u8) hown6; have hc6 := own_cap hown6; obtain ⟨hc6a, hc6b⟩ := hc6; unfold maxLen at hc6b)))
      go_loop [11, 82] (fun y i => ∃ j : Nat, j ≤ k ∧ i = .int .i64 j ∧ y = .int .u64 (x / 256 ^ j : Nat)) (fun _ i => k - (intOf i).toNat)
      case atStart => exact ⟨0, Nat.zero_le _, rfl, by simp⟩
      case round =>
        obtain ⟨j, hj, rfl, rfl⟩ := hrel
        by_cases hlt : j < k
        · obtain ⟨b, off, he, _, hc⟩ := S6 j (x / 256 ^ j % 256) (by rw [List.getElem?_append_left (by rw [HLK.out]; exact hlt)]; simp [leB, hlt])
          cases he
          rw [Nat.zero_add] at hc
          have HV : Hid (x / 256 ^ (j + 1) = x / 256 ^ j / 256) := by rw [Nat.pow_succ, Nat.div_div_eq_div_mul]; rfl
          obtain ⟨v, hv⟩ : ∃ v, x / 256 ^ j = v := ⟨_, rfl⟩
          have hv64 : v < 2 ^ 64 := by rw [← hv]; exact Nat.lt_of_le_of_lt (Nat.div_le_self _ _) hx
          rw [hv] at hc HV ⊢
          have e1 : (((v % 256 : Nat) : Int) != (v : Int) % 256) = false := by simp
          have i1 : (j : Int) < (k : Int) + 20 := by omega
          have i2 : (j : Int) < (k : Int) := by omega
          clear hv
          go_wp2
          exact ⟨⟨j + 1, by omega, by go_num, by rw [HV.out, Int.natCast_ediv]; rfl⟩, by simp [intOf]; omega⟩
        · obtain rfl : j = k := by omega
          go_wp2_with (first
            | (go_at_call 19; ((with_reducible refine (newReader_any _ _ (j + 20) c6 _ HL0.out HX.out hc6a (by unfold maxLen; omega) (by simp) (by omega) _ S6 (Nat.le_refl _)).mono ?_); rintro e w7 ⟨R, rfl, hRR, hR7, hB7⟩))
            | (go_at_call 32; ((with_reducible refine (fixed_at _ R 0 _ _ x 0 j HRF.out hR7).mono ?_); rintro e w8 ⟨rfl, hR8, hK8⟩))
            | (go_at_call 26; ((with_reducible refine (bytes_at _ R j _ _ (by omega) HLM.out ys 0 (j + 20) HRB.out 20 HY.out hR8).mono ?_); rintro e w9 ⟨a9, c9, rfl, _, S9, hc9, hd9, hR9, hK9⟩; have hbR := hb6.trans ((hB7.mono h6).trans ((hK8.trans hK9).below (B := w.heap.size) (by intro q e; omega) (Nat.le_trans h6 hB7.size)))))
            | (go_at_call 33; ((with_reducible refine (same_at _ _ _ _ ys ys 20 20 true HY.out HY.out (by simp) _ _ _ S9 (hS.below hbR) (by unfold maxLen; omega) (by unfold maxLen; omega)).mono ?_); rintro e w10 ⟨rfl, hB10⟩)))
          go_ret
          exact ⟨rfl, hbR.trans (hB10.mono hbR.size)⟩
  · have hk8 : k < 8 := by
      rcases Nat.lt_or_ge k 8 with h | h
      · exact h
      · exfalso
        obtain rfl : k = 8 := by omega
        exact hf (Nat.div_eq_of_lt (by rw [show (256 : Nat) ^ 8 = 2 ^ 64 from by decide]; exact hx))
    have hge : IntKind.u64.wrap (2 ^ (8 * k)) ≤ (x : Int) := by
      rw [wrap_pow hk8]
      have : 256 ^ k ≤ x := by
        rcases Nat.lt_or_ge x (256 ^ k) with h | h
        · exact absurd (Nat.div_eq_of_lt h) hf
        · exact h
      omega
    have hk8' : (k : Int) < 8 := by omega
    have HF := Lib.hid hf
    clear hf hk8
    go_enter Try.func9, Try.ntmps9
    go_wp2_with (first
      | (go_at_call 12; ((with_reducible refine (awake_any _).mono ?_); rintro e w1 ⟨rfl, hB1⟩))
      | (go_at_call 15; ((with_reducible refine (newWriter_at _ _ (k + 20) w.heap.size (by omega) (by omega)).mono ?_); rintro e w2 ⟨A, rfl, hA, hW2, hB2⟩; have h2 := Nat.le_trans hB1.size hB2.size; have hAw : w.heap.size ≤ A := Nat.le_trans hB1.size hA; have hb2 := hB1.trans (hB2.mono hB1.size)))
      | (go_at_call 29; ((with_reducible refine (wFixed_no _ w.heap.size A _ _ _ hW2 _ x rfl k (.inr (.inr (by rw [Int.toNat_natCast]; exact HF.out)))).mono ?_); rintro e w3 ⟨rfl, rfl⟩))
      | (go_at_call 17; ((with_reducible refine (len_any _ w.heap.size A _ _ _ 0 rfl hW2).mono ?_); rintro e w3 ⟨rfl, rfl⟩)))
    go_ret
    exact ⟨rfl, hb2⟩


theorem fix_walk (a0 : Int) (a1 : Int) (a : Option Addr) (len cap : Nat) (zs : List Int) (w : World) (w0 : (Lit.int .u64 a0).wf = true) (w1 : (Lit.int .u8 a1).wf = true) (h : IsRow .u8 w a len cap zs) :
    Calls Try.prog 9 #[.int .u64 a0, .int .u8 a1, .slice a len cap] w fun e w' => e = .returned (.bool true) ∧ Below w.heap.size w w' := by
  have b0 := bounds_u64 w0
  have b1 := bounds_u8 w1
  obtain ⟨x, rfl⟩ := Int.eq_ofNat_of_zero_le b0.1
  obtain ⟨s, rfl⟩ := Int.eq_ofNat_of_zero_le b1.1
  obtain ⟨xs, hxl, hS, hx, hlc, hcm⟩ := row_u8 h
  by_cases h20 : len ≤ 20
  · exact fix_small x s (by omega) (by omega) a len cap xs hxl hx hlc hcm h20 w hS
  · exact fix_large x s (by omega) (by omega) a len cap (xs.take 20) (by rw [List.length_take, hxl]; omega) (fun y hy => hx y (List.mem_of_mem_take hy)) hlc hcm (by omega) w (seen_take hS 20)

end Go.Proofs.Ytdemlifjhlpclaa
