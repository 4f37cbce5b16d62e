/-
  The reference's lists of coefficients: Sum, Divide.
-/
import Derived.Test.YtoecddkglenigaaDoorTrim
namespace Go.Proofs.YtoecddkglenigaaDoor
open Go.RowKit
set_option linter.unusedVariables false

/-- A list of coefficients: a row of the call's own, or nil. -/
def Pol (w : World) (B : Nat) (v : Value) (p : Nat) : Prop := ∃ a c, v = .slice a (Gf.len p) c ∧ Seen w B .i64 a (bq p (Gf.len p))
theorem Pol.below {w w' : World} {B : Nat} {v : Value} {p : Nat} (h : Pol w B v p) (hb : Below B w w') : Pol w' B v p := by
  obtain ⟨a, c, hv, hS⟩ := h
  exact ⟨a, c, hv, hS.below hb⟩

/-- The coefficient i of a sum. -/
theorem sum_bit (a b by_ i : Nat) : (a ^^^ b * 2 ^ by_) / 2 ^ i % 2 = (a / 2 ^ i % 2 + (if by_ ≤ i then b / 2 ^ (i - by_) % 2 else 0)) % 2 := by
  have h : ∀ x j : Nat, x / 2 ^ j % 2 = (x.testBit j).toNat := fun x j => by
    rw [Nat.testBit_eq_decide_div_mod_eq]
    have : x / 2 ^ j % 2 = 0 ∨ x / 2 ^ j % 2 = 1 := by omega
    rcases this with e | e <;> simp [e]
  rw [h, h, Nat.testBit_xor, Nat.mul_comm b, Nat.testBit_two_pow_mul]
  by_cases hb : by_ ≤ i
  · rw [if_pos hb, h]
    cases a.testBit i <;> cases b.testBit (i - by_) <;> simp [hb]
  · rw [if_neg hb]
    cases a.testBit i <;> simp [hb]
theorem high_zero {a i : Nat} (h : Gf.len a ≤ i) : a / 2 ^ i % 2 = 0 := by
  have h1 : a < 2 ^ i := Gf.len_le.1 h
  rw [Nat.div_eq_of_lt h1]

set_option maxRecDepth 100000 in
set_option maxHeartbeats 2000000 in
theorem rsum_any (a b by_ : Nat) (hla : Gf.len a ≤ 4000) (hlb : Gf.len b + by_ ≤ 4000) (A Bq : Option Addr) (ca cb : Nat) (B1 B2 : Nat) (w : World) (hSa : Seen w B1 .i64 A (bq a (Gf.len a))) (hSb : Seen w B2 .i64 Bq (bq b (Gf.len b))) (hB1 : B1 ≤ w.heap.size) (hB2 : B2 ≤ w.heap.size) (s : Nat) (hs : a ^^^ b * 2 ^ by_ = s) :
    Calls Tryd.prog 78 #[.slice A (Gf.len a) ca, .slice Bq (Gf.len b) cb, .int .i64 by_] w fun e w' => ∃ v, e = .returned v ∧ w'.ownsRow w.heap.size 3 1 v (Gf.len s) ((bq s (Gf.len s)).map fun x : Nat => Value.int .i64 x) ∧ Below w.heap.size w w' := by
  obtain ⟨iI, hiI, zI0, zI1, zI2⟩ := info_parts infoI
  obtain ⟨la, hLa⟩ : ∃ la, Gf.len a = la := ⟨_, rfl⟩
  obtain ⟨lb, hLb⟩ : ∃ lb, Gf.len b = lb := ⟨_, rfl⟩
  rw [hLa] at hla hSa ⊢
  rw [hLb] at hlb hSb ⊢
  obtain ⟨M, hM⟩ : ∃ M, max la (lb + by_) = M := ⟨_, rfl⟩
  have HLa := Lib.hid hLa
  have HLb := Lib.hid hLb
  have HSa : Hid (Seen w B1 .i64 A (bq a la)) := hSa
  have HSb : Hid (Seen w B2 .i64 Bq (bq b lb)) := hSb
  have HB1 := Lib.hid hB1
  have HB2 := Lib.hid hB2
  have HSS := Lib.hid hs
  have hla' : (la : Int) ≤ 4000 := by omega
  have hlb' : (lb : Int) + (by_ : Int) ≤ 4000 := by omega
  have hby0 : (0 : Int) ≤ (by_ : Int) := by omega
  have hlb0 : (0 : Int) ≤ (lb : Int) := by omega
  have HM := Lib.hid hM
  clear hLa hLb hSa hSb hB1 hB2 hs hM
  go_enter Tryd.func78, Tryd.ntmps78
  go_wp2
  go_loopw [7, 8] (fun pv iv wr => ∃ i : Nat, i ≤ M ∧ iv = .int .i64 i ∧ wr.ownsRow w.heap.size 3 1 pv i ((bq s i).map fun x : Nat => Value.int .i64 x) ∧ Below w.heap.size w wr) (fun _ i _ => M - (intOf i).toNat)
  case atStart => exact ⟨0, Nat.zero_le _, rfl, ⟨rfl, .inl ⟨rfl, rfl⟩⟩, Below.refl _ _⟩
  case round =>
    obtain ⟨i, hiM, rfl, hrow, hbel⟩ := hrel
    have HROW := Lib.hid hrow
    have HBE := Lib.hid hbel
    clear hrow hbel
    have hM4 : M ≤ 4000 := by have := HM.out; omega
    by_cases hi3 : i < M
    · have hsb := sum_bit a b by_ i
      rw [HSS.out] at hsb
      obtain ⟨u, hu⟩ : ∃ u, s / 2 ^ i % 2 = u := ⟨_, rfl⟩
      have HBQ : Hid (bq s (i + 1) = bq s i ++ [u]) := by show _ = _; rw [bq_succ, hu]
      rw [hu] at hsb
      clear hu
      by_cases h1' : i < la
      · by_cases h2' : by_ ≤ i ∧ i - by_ < lb
        · have h1 : (i : Int) < (la : Int) := by omega
          have hA : A = A := rfl
          obtain ⟨bA, oA, rfl, _, hcA⟩ := (HSa.out.below (HBE.out.mono HB1.out)).at (i := i) (by rw [bq_len]; omega)
          have hcA2 : wr.cell? ⟨bA, oA + i, none⟩ = some (.int .i64 ((a / 2 ^ i % 2 : Nat) : Int)) := by rw [hcA]; simp [bq]
          obtain ⟨x, hx⟩ : ∃ x, a / 2 ^ i % 2 = x := ⟨_, rfl⟩
          rw [hx] at hcA2 hsb
          have hx2 : x < 2 := by omega
          clear hcA hA
          obtain ⟨t, ht⟩ : ∃ t, i - by_ = t := ⟨_, rfl⟩
          have hti : (i : Int) - (by_ : Int) = (t : Int) := by omega
          have h2 : (by_ : Int) ≤ (i : Int) := by omega
          have h3 : (t : Int) < (lb : Int) := by omega
          have htl : t < lb := by omega
          obtain ⟨bB, oB, rfl, _, hcB⟩ := (HSb.out.below (HBE.out.mono HB2.out)).at (i := t) (by rw [bq_len]; omega)
          have hcB2 : wr.cell? ⟨bB, oB + t, none⟩ = some (.int .i64 ((b / 2 ^ t % 2 : Nat) : Int)) := by rw [hcB]; simp [bq]
          rw [if_pos (by omega), ht] at hsb
          obtain ⟨y, hy⟩ : ∃ y, b / 2 ^ t % 2 = y := ⟨_, rfl⟩
          rw [hy] at hcB2 hsb
          have hy2 : y < 2 := by omega
          clear hcB
          obtain ⟨z, hz⟩ : ∃ z, x + y = z := ⟨_, rfl⟩
          have hz1 : (x : Int) + (y : Int) = (z : Int) := by omega
          have hz2 : (z : Int) % 2 = (u : Int) := by omega
          have hz3 : (z : Int).tmod 2 = (u : Int) := by rw [Int.tmod_eq_emod_of_nonneg (by omega)]; exact hz2
          have hz4 : (z : Int) ≤ 2 := by omega
          clear hz
          clear hsb hx hx2 hy hy2 ht
          go_wp2_with (at_builtin; refine wpList_append_own _ rfl _ _ 86 rfl w.heap.size 3 iI (.int .i64 0) 1 8 Tryd.underlying86 hiI zI0 zI1 zI2 rfl (by decide) _ _ _ rfl (HROW.out.alloc _) ⟨wr.heap.size, 0, none⟩ 1 1 [.int .i64 u] rfl rfl (cell_one_new _ _ _) (by simp [Value.oneCell']) (by unfold maxLen; omega) (by omega) (by have := HBE.out.size; simp; omega) ?_; intro v6 w6 hown6 hgrow6 _)
          exact ⟨⟨i + 1, hi3, rfl, by rw [HBQ.out, List.map_append]; exact hown6, (HBE.out.alloc HBE.out.size _).grown hgrow6 (by have := HBE.out.size; simp; omega) (fun j ej => (HROW.out.lt j ej).1)⟩, by simp [intOf]; omega⟩
        · have h1 : (i : Int) < (la : Int) := by omega
          have hA : A = A := rfl
          obtain ⟨bA, oA, rfl, _, hcA⟩ := (HSa.out.below (HBE.out.mono HB1.out)).at (i := i) (by rw [bq_len]; omega)
          have hcA2 : wr.cell? ⟨bA, oA + i, none⟩ = some (.int .i64 ((a / 2 ^ i % 2 : Nat) : Int)) := by rw [hcA]; simp [bq]
          obtain ⟨x, hx⟩ : ∃ x, a / 2 ^ i % 2 = x := ⟨_, rfl⟩
          rw [hx] at hcA2 hsb
          have hx2 : x < 2 := by omega
          clear hcA hA
          have hbz : (if by_ ≤ i then b / 2 ^ (i - by_) % 2 else 0) = 0 := by
            by_cases hby : by_ ≤ i
            · rw [if_pos hby]; exact high_zero (by rw [HLb.out]; omega)
            · rw [if_neg hby]
          rw [hbz] at hsb
          obtain rfl : u = x := by omega
          clear hsb hbz
          by_cases h2 : (by_ : Int) ≤ (i : Int)
          · have h3 : ¬ (i : Int) - (by_ : Int) < (lb : Int) := by omega
            have h3b : decide ((i : Int) - (by_ : Int) < (lb : Int)) = false := by simp; omega
            go_wp2_with (at_builtin; refine wpList_append_own _ rfl _ _ 86 rfl w.heap.size 3 iI (.int .i64 0) 1 8 Tryd.underlying86 hiI zI0 zI1 zI2 rfl (by decide) _ _ _ rfl (HROW.out.alloc _) ⟨wr.heap.size, 0, none⟩ 1 1 [.int .i64 u] rfl rfl (cell_one_new _ _ _) (by simp [Value.oneCell']) (by unfold maxLen; omega) (by omega) (by have := HBE.out.size; simp; omega) ?_; intro v6 w6 hown6 hgrow6 _)
            exact ⟨⟨i + 1, hi3, rfl, by rw [HBQ.out, List.map_append]; exact hown6, (HBE.out.alloc HBE.out.size _).grown hgrow6 (by have := HBE.out.size; simp; omega) (fun j ej => (HROW.out.lt j ej).1)⟩, by simp [intOf]; omega⟩
          · have h2b : decide ((by_ : Int) ≤ (i : Int)) = false := by simp; omega
            go_wp2_with (at_builtin; refine wpList_append_own _ rfl _ _ 86 rfl w.heap.size 3 iI (.int .i64 0) 1 8 Tryd.underlying86 hiI zI0 zI1 zI2 rfl (by decide) _ _ _ rfl (HROW.out.alloc _) ⟨wr.heap.size, 0, none⟩ 1 1 [.int .i64 u] rfl rfl (cell_one_new _ _ _) (by simp [Value.oneCell']) (by unfold maxLen; omega) (by omega) (by have := HBE.out.size; simp; omega) ?_; intro v6 w6 hown6 hgrow6 _)
            exact ⟨⟨i + 1, hi3, rfl, by rw [HBQ.out, List.map_append]; exact hown6, (HBE.out.alloc HBE.out.size _).grown hgrow6 (by have := HBE.out.size; simp; omega) (fun j ej => (HROW.out.lt j ej).1)⟩, by simp [intOf]; omega⟩
      · by_cases h2' : by_ ≤ i ∧ i - by_ < lb
        · have h1 : ¬ (i : Int) < (la : Int) := by omega
          have h1b : decide ((i : Int) < (la : Int)) = false := by simp; omega
          have h1c : (i : Int) < (lb : Int) + (by_ : Int) := by have := HM.out; omega
          have hx : a / 2 ^ i % 2 = 0 := high_zero (by rw [HLa.out]; omega)
          rw [hx] at hsb
          obtain ⟨t, ht⟩ : ∃ t, i - by_ = t := ⟨_, rfl⟩
          have hti : (i : Int) - (by_ : Int) = (t : Int) := by omega
          have h2 : (by_ : Int) ≤ (i : Int) := by omega
          have h3 : (t : Int) < (lb : Int) := by omega
          have htl : t < lb := by omega
          obtain ⟨bB, oB, rfl, _, hcB⟩ := (HSb.out.below (HBE.out.mono HB2.out)).at (i := t) (by rw [bq_len]; omega)
          have hcB2 : wr.cell? ⟨bB, oB + t, none⟩ = some (.int .i64 ((b / 2 ^ t % 2 : Nat) : Int)) := by rw [hcB]; simp [bq]
          rw [if_pos (by omega), ht] at hsb
          obtain ⟨y, hy⟩ : ∃ y, b / 2 ^ t % 2 = y := ⟨_, rfl⟩
          rw [hy] at hcB2 hsb
          have hy2 : y < 2 := by omega
          clear hcB
          have hyi : (y : Int) ≤ 1 := by omega
          have hsum : (y : Int) % 2 = (u : Int) := by omega
          have hsum2 : (0 + (y : Int)) % 2 = (u : Int) := by omega
          have hsum3 : (y : Int).tmod 2 = (u : Int) := by rw [Int.tmod_eq_emod_of_nonneg (by omega)]; exact hsum
          have hsum4 : (0 + (y : Int)).tmod 2 = (u : Int) := by rw [Int.zero_add]; exact hsum3
          clear hsb hy hy2 ht
          go_wp2_with (at_builtin; refine wpList_append_own _ rfl _ _ 86 rfl w.heap.size 3 iI (.int .i64 0) 1 8 Tryd.underlying86 hiI zI0 zI1 zI2 rfl (by decide) _ _ _ rfl (HROW.out.alloc _) ⟨wr.heap.size, 0, none⟩ 1 1 [.int .i64 u] rfl rfl (cell_one_new _ _ _) (by simp [Value.oneCell']) (by unfold maxLen; omega) (by omega) (by have := HBE.out.size; simp; omega) ?_; intro v6 w6 hown6 hgrow6 _)
          exact ⟨⟨i + 1, hi3, rfl, by rw [HBQ.out, List.map_append]; exact hown6, (HBE.out.alloc HBE.out.size _).grown hgrow6 (by have := HBE.out.size; simp; omega) (fun j ej => (HROW.out.lt j ej).1)⟩, by simp [intOf]; omega⟩
        · have h1 : ¬ (i : Int) < (la : Int) := by omega
          have h1b : decide ((i : Int) < (la : Int)) = false := by simp; omega
          have h1c : (i : Int) < (lb : Int) + (by_ : Int) := by have := HM.out; omega
          have hx : a / 2 ^ i % 2 = 0 := high_zero (by rw [HLa.out]; omega)
          rw [hx] at hsb
          have hbz : (if by_ ≤ i then b / 2 ^ (i - by_) % 2 else 0) = 0 := by
            by_cases hby : by_ ≤ i
            · rw [if_pos hby]; exact high_zero (by rw [HLb.out]; omega)
            · rw [if_neg hby]
          rw [hbz] at hsb
          obtain rfl : u = 0 := by omega
          clear hsb hbz
          by_cases h2 : (by_ : Int) ≤ (i : Int)
          · exfalso; have := HM.out; omega
          · have h2b : decide ((by_ : Int) ≤ (i : Int)) = false := by simp; omega
            go_wp2_with (at_builtin; refine wpList_append_own _ rfl _ _ 86 rfl w.heap.size 3 iI (.int .i64 0) 1 8 Tryd.underlying86 hiI zI0 zI1 zI2 rfl (by decide) _ _ _ rfl (HROW.out.alloc _) ⟨wr.heap.size, 0, none⟩ 1 1 [.int .i64 0] rfl rfl (cell_one_new _ _ _) (by simp [Value.oneCell']) (by unfold maxLen; omega) (by omega) (by have := HBE.out.size; simp; omega) ?_; intro v6 w6 hown6 hgrow6 _)
            exact ⟨⟨i + 1, hi3, rfl, by rw [HBQ.out, List.map_append]; exact hown6, (HBE.out.alloc HBE.out.size _).grown hgrow6 (by have := HBE.out.size; simp; omega) (fun j ej => (HROW.out.lt j ej).1)⟩, by simp [intOf]; omega⟩
    · have hi4 : M ≤ i := by omega
      have h1 : ¬ (i : Int) < (la : Int) := by have := HM.out; omega
      have h1b : decide ((i : Int) < (la : Int)) = false := by simp; omega
      have h2 : ¬ (i : Int) < (lb : Int) + (by_ : Int) := by have := HM.out; omega
      have h2b : decide ((i : Int) < (lb : Int) + (by_ : Int)) = false := decide_eq_false h2
      have hiE : i = M := by omega
      have HS2 : Hid (s < 2 ^ i) := by
        show _ < _
        rw [← HSS.out, hiE]
        have hm := HM.out
        refine Gf.xor_lt ?_ ?_
        · exact Nat.lt_of_lt_of_le (Gf.len_le.1 (Nat.le_of_eq HLa.out)) (Nat.pow_le_pow_right (by decide) (by omega))
        · have hb : b < 2 ^ lb := Gf.len_le.1 (Nat.le_of_eq HLb.out)
          have : b * 2 ^ by_ < 2 ^ (lb + by_) := by rw [Nat.pow_add]; exact Nat.mul_lt_mul_of_pos_right hb (Nat.pow_pos (by decide))
          exact Nat.lt_of_lt_of_le this (Nat.pow_le_pow_right (by decide) (by omega))
      have HI5 : Hid (i ≤ 100000) := by show _ ≤ _; omega
      have hrow := HROW.out
      clear hi3 hiE
      rcases hrow.2 with ⟨rfl, h0⟩ | ⟨g, cap, cur, rfl, _⟩
      · have HE : Hid (s = 0) := by show s = 0; have h := HS2.out; rw [h0] at h; simpa using h
        clear h0 hrow
        go_wp2_with (go_at_call 79; ((with_reducible refine (trim_nil _).mono ?_); rintro e w1 ⟨rfl, rfl⟩))
        go_ret
        refine ⟨_, rfl, ?_, HBE.out⟩
        rw [HE.out]
        exact ⟨rfl, .inl ⟨rfl, rfl⟩⟩
      · clear hrow
        go_wp2_with (go_at_call 79; ((with_reducible refine (trim_any _ g i cap s HS2.out HI5.out _ HROW.out).mono ?_); rintro e w1 ⟨rfl, rfl⟩))
        go_ret
        refine ⟨_, rfl, ?_, HBE.out⟩
        have hl : Gf.len s ≤ i := Gf.len_le.2 HS2.out
        have h := own_take HROW.out hl
        rw [← List.map_take, bq_take s i _ hl] at h
        exact h

theorem rsum_at (a b by_ la lb : Nat) (hLa : Gf.len a = la) (hLb : Gf.len b = lb) (hla : la ≤ 4000) (hlb : lb + by_ ≤ 4000) (A Bq : Option Addr) (ca cb : Nat) (B1 B2 : Nat) (w : World) (hSa : Seen w B1 .i64 A (bq a la)) (hSb : Seen w B2 .i64 Bq (bq b lb)) (hB1 : B1 ≤ w.heap.size) (hB2 : B2 ≤ w.heap.size) (s : Nat) (hs : a ^^^ b * 2 ^ by_ = s) :
    Calls Tryd.prog 78 #[.slice A la ca, .slice Bq lb cb, .int .i64 by_] w fun e w' => ∃ v n, e = .returned v ∧ Gf.len s = n ∧ w'.ownsRow w.heap.size 3 1 v n ((bq s n).map fun x : Nat => Value.int .i64 x) ∧ Below w.heap.size w w' := by
  subst hLa hLb
  exact (rsum_any a b by_ hla hlb A Bq ca cb B1 B2 w hSa hSb hB1 hB2 s hs).mono fun e w' h => by
    obtain ⟨v, h1, h2, h3⟩ := h
    exact ⟨v, _, h1, rfl, h2, h3⟩
theorem pdiv_step (a b q r : Nat) (h : Gf.pmul q b ^^^ r = a) : Gf.pmul (q ^^^ 1 * 2 ^ (Gf.len r - Gf.len b)) b ^^^ (r ^^^ b * 2 ^ (Gf.len r - Gf.len b)) = a := by
  rw [Nat.one_mul, Gf.xor_pmul, Gf.pmul_comm (2 ^ _), Gf.pmul_shift, ← h]
  generalize Gf.pmul q b = u
  generalize b * 2 ^ _ = v
  rw [Nat.xor_comm r v, Nat.xor_assoc, ← Nat.xor_assoc v v, Nat.xor_self, Nat.zero_xor]

set_option maxRecDepth 100000 in
set_option maxHeartbeats 2000000 in
theorem divide_any (a b la lb : Nat) (hLa : Gf.len a = la) (hLb : Gf.len b = lb) (hb0 : b ≠ 0) (hla : la ≤ 3000) (hlb : lb ≤ 100) (A Bq : Option Addr) (ca cb : Nat) (w : World) (hSa : Seen w w.heap.size .i64 A (bq a la)) (hSb : Seen w w.heap.size .i64 Bq (bq b lb)) :
    Calls Tryd.prog 59 #[.slice A la ca, .slice Bq lb cb] w fun e w' => ∃ Q cq R cr q r lq lr, e = .returned (.tuple #[.slice Q lq cq, .slice R lr cr]) ∧ Gf.pdiv a b = q ∧ Gf.pmod a b = r ∧ Gf.len q = lq ∧ Gf.len r = lr ∧ Seen w' w'.heap.size .i64 Q (bq q lq) ∧ Seen w' w'.heap.size .i64 R (bq r lr) ∧ Below w.heap.size w w' := by
  have HLb := Lib.hid hLb
  have HLa := Lib.hid hLa
  have HB0 := Lib.hid hb0
  have HSa : Hid (Seen w w.heap.size .i64 A (bq a la)) := hSa
  have HSb : Hid (Seen w w.heap.size .i64 Bq (bq b lb)) := hSb
  have hlbi : (lb : Int) ≤ 100 := by omega
  have hlb0 : (0 : Int) ≤ (lb : Int) := by omega
  have hlbp : 0 < lb := by rw [← hLb]; exact Gf.len_pos hb0
  clear hLa hLb hb0 hSa hSb
  go_enter Tryd.func59, Tryd.ntmps59
  go_wp2
  go_loopw [0, 6] (fun av qv wr => ∃ (r q : Nat) (R : Option Addr) (cr : Nat) (Q : Option Addr) (cq lr lq : Nat), av = .slice R lr cr ∧ qv = .slice Q lq cq ∧ lr ≤ 3000 ∧ lq ≤ 3000 ∧ Hid (Gf.len r = lr ∧ Gf.len q = lq ∧ Gf.pmul q b ^^^ r = a) ∧ Hid (Seen wr wr.heap.size .i64 R (bq r lr)) ∧ Hid (Seen wr wr.heap.size .i64 Q (bq q lq)) ∧ Below w.heap.size w wr) (fun av _ _ => lenV av)
  case atStart => exact ⟨a, 0, A, ca, none, 0, la, 0, rfl, rfl, by omega, by omega, ⟨HLa.out, rfl, by rw [Gf.zero_pmul, Nat.zero_xor]⟩, HSa, Seen.nil _ _ _ _, Below.refl _ _⟩
  case round =>
    obtain ⟨r, q, R, cr, Q, cq, lr, lq, rfl, rfl, hlr, hlq, HI, HSR, HSQ, hbel⟩ := hrel
    have HBE := Lib.hid hbel
    clear hbel
    by_cases hge : lb ≤ lr
    · obtain ⟨by_, hby⟩ : ∃ y, lr - lb = y := ⟨_, rfl⟩
      have hbyi : (lr : Int) - (lb : Int) = (by_ : Int) := by omega
      obtain ⟨q', hq'⟩ : ∃ q', q ^^^ 1 * 2 ^ by_ = q' := ⟨_, rfl⟩
      obtain ⟨r', hr'⟩ : ∃ r', r ^^^ b * 2 ^ by_ = r' := ⟨_, rfl⟩
      have HI2 : Hid (Gf.pmul q' b ^^^ r' = a) := by
        have h := pdiv_step a b q r HI.out.2.2
        rw [HI.out.1, HLb.out, hby, hq', hr'] at h
        exact h
      have HRL : Hid (Gf.len r' < lr) := by
        have h := Gf.step_len (a := r) HB0.out (by rw [HLb.out, HI.out.1]; exact hge)
        rw [HI.out.1, HLb.out, hby, hr'] at h
        exact h
      have HQL : Hid (Gf.len q' ≤ 3000) := by
        show _ ≤ _
        rw [← hq', Nat.one_mul]
        have h1 := Gf.len_xor (a := q) (b := 2 ^ by_)
        have h2 : Gf.len (2 ^ by_) = by_ + 1 := Gf.len_eq (Nat.le_refl _) (Nat.pow_lt_pow_right (by decide) (by omega))
        have h3 := HI.out.2.1
        omega
      have HQ' := Lib.hid hq'
      have HR' := Lib.hid hr'
      have HL1 : Hid (Gf.len 1 = 1) := Gf.len_one
      have HQ40 : Hid (lq ≤ 4000) := by show _ ≤ _; omega
      have HR40 : Hid (lr ≤ 4000) := by show _ ≤ _; omega
      have HB40 : Hid (lb + by_ ≤ 4000) := by show _ ≤ _; omega
      have H140 : Hid (1 + by_ ≤ 4000) := by show _ ≤ _; omega
      have hby5 : (by_ : Int) ≤ 4000 := by omega
      have HA1 : Hid (Below wr.heap.size wr (wr.alloc (.cells #[.int .i64 1] 3))) := (Below.refl _ wr).alloc (Nat.le_refl _) _
      have HS1 : Hid (Seen (wr.alloc (.cells #[.int .i64 1] 3)) (wr.heap.size + 1) .i64 (some ⟨wr.heap.size, 0, none⟩) (bq 1 1)) := by
        intro i x hx
        have hi : i < 1 := by have := (List.getElem?_eq_some_iff.1 hx).1; rw [bq_len] at this; exact this
        obtain rfl : i = 0 := by omega
        have hx1 : x = 1 := by simpa [bq] using hx.symm
        subst hx1
        exact ⟨_, _, rfl, by omega, cell_of_one (heap_alloc_new wr _)⟩
      have HSZ : Hid (wr.heap.size + 1 ≤ (wr.alloc (.cells #[.int .i64 1] 3)).heap.size) := by show _ ≤ _; simp
      clear hby hq' hr'
      go_wp2_with (first
        | (go_at_call 78; ((with_reducible refine (rsum_at q 1 by_ lq 1 HI.out.2.1 HL1.out HQ40.out H140.out Q _ cq 1 wr.heap.size (wr.heap.size + 1) _ (HSQ.out.below HA1.out) HS1.out HA1.out.size HSZ.out q' HQ'.out).mono ?_); rintro e w2 ⟨v2, n2, rfl, hn2, hown2, hb2⟩; have HN2 := Lib.hid hn2; have HB2 := Lib.hid (HA1.out.trans (hb2.mono HA1.out.size)); obtain ⟨Q2, cq2, rfl, hSQ2, _, _, _⟩ := own_slice hown2; have HSQ2 : Hid (Seen w2 w2.heap.size .i64 Q2 (bq q' n2)) := hSQ2; clear hn2 hown2 hb2 hSQ2))
        | (go_at_call 78; ((with_reducible refine (rsum_at r b by_ lr lb HI.out.1 HLb.out HR40.out HB40.out R Bq cr cb wr.heap.size w.heap.size w2 (HSR.out.below HB2.out) (HSb.out.below (HBE.out.trans (HB2.out.mono HBE.out.size))) HB2.out.size (Nat.le_trans HBE.out.size HB2.out.size) r' HR'.out).mono ?_); rintro e w3 ⟨v3, n3, rfl, hn3, hown3, hb3⟩; have HN3 := Lib.hid hn3; have HB3 := Lib.hid hb3; obtain ⟨R3, cr3, rfl, hSR3, _, _, _⟩ := own_slice hown3; have HSR3 : Hid (Seen w3 w3.heap.size .i64 R3 (bq r' n3)) := hSR3; clear hn3 hown3 hb3 hSR3)))
      have hrl := HRL.out
      have hql := HQL.out
      rw [HN3.out] at hrl
      rw [HN2.out] at hql
      exact ⟨⟨r', q', R3, cr3, Q2, cq2, n3, n2, rfl, rfl, by omega, hql, ⟨HN3.out, HN2.out, HI2.out⟩, HSR3, (HSQ2.out.below HB3.out).more HB3.out.size, (HBE.out.trans (HB2.out.mono HBE.out.size)).trans (HB3.out.mono (Nat.le_trans HBE.out.size HB2.out.size))⟩, by simp [lenV]; exact hrl⟩
    · have h1 : ¬ (lb : Int) ≤ (lr : Int) := by omega
      have h1b : decide ((lb : Int) ≤ (lr : Int)) = false := by simp; omega
      have HM := Lib.hid (Gf.mod_of HB0.out HI.out.2.2 (by rw [HI.out.1, HLb.out]; omega))
      clear hge
      go_wp2
      go_ret2
      exact ⟨Q, cq, R, cr, q, r, lq, lr, rfl, HM.out.1, HM.out.2, HI.out.2.1, HI.out.1, HSQ.out, HSR.out, HBE.out⟩

end Go.Proofs.YtoecddkglenigaaDoor
