/-
  The reference's polynomial of bytes.
-/
import Derived.Test.YtoecddkglenigaaDoorROf
import Derived.Test.YtoecddkglenigaaDoorLong
namespace Go.Proofs.YtoecddkglenigaaDoor
open Go.RowKit
set_option linter.unusedVariables false

namespace Crc
/-- The bit k of bytes; the polynomial of the first k bits. -/
def bt (xs : List Nat) (k : Nat) : Nat := xs.getD (k / 8) 0 / 2 ^ (k % 8) % 2
def hb (xs : List Nat) : Nat → Nat
  | 0 => 0
  | k + 1 => 2 * hb xs k + bt xs k
theorem bt_two (xs : List Nat) (k : Nat) : bt xs k < 2 := Nat.mod_lt _ (by decide)
theorem hb_lt (xs : List Nat) : ∀ k, hb xs k < 2 ^ k
  | 0 => by show 0 < 2 ^ 0; decide
  | k + 1 => by
    have h1 := hb_lt xs k
    have h2 := bt_two xs k
    show 2 * hb xs k + bt xs k < _
    rw [Nat.pow_succ]; omega
/-- What the remainder's reverse is after k bits. -/
def cc (xs : List Nat) (k : Nat) : Nat := rvN (Gf.pmod (4294967296 * hb xs k) G) 32
theorem cc_succ (xs : List Nat) (k : Nat) : cc xs (k + 1) = st (cc xs k ^^^ bt xs k) := by
  have e : 4294967296 * hb xs (k + 1) = (2 * (4294967296 * hb xs k)) ^^^ (4294967296 * bt xs k) := by
    have h1 := add_xor (hb xs k) 1 (bt xs k) (by have := bt_two xs k; omega)
    show 4294967296 * (2 * hb xs k + bt xs k) = _
    rw [Nat.pow_one] at h1
    rw [show 2 * (4294967296 * hb xs k) = 2 ^ 33 * hb xs k by omega]
    rw [← add_xor (hb xs k) 33 _ (by have := bt_two xs k; omega)]
    omega
  unfold cc
  rw [e, Gf.mod_xor _ _ G_ne, rvN_xor, st_xor]
  have h1 : Gf.pmod (2 * (4294967296 * hb xs k)) G = Gf.pmod (2 * Gf.pmod (4294967296 * hb xs k) G) G := by
    have h := Gf.mul_mod 2 (4294967296 * hb xs k) G_ne
    have t (c : Nat) : Gf.pmul 2 c = 2 * c := by rw [Gf.pmul_comm, ← two_pmul1]
    rw [t, t] at h
    exact h.symm
  rw [h1, rv_two _ (pmod_G _)]
  congr 1
  have h2 : ∀ b : Fin 2, rvN (Gf.pmod (4294967296 * b.val) G) 32 = st b.val := by decide +kernel
  exact h2 ⟨bt xs k, bt_two xs k⟩
theorem cc_byte (xs : List Nat) (i x : Nat) (hx : xs[i]? = some x) : ∀ j, j ≤ 8 → cc xs (8 * i + j) = sts j (cc xs (8 * i) ^^^ x % 2 ^ j)
  | 0, _ => by simp [sts, Nat.mod_one]
  | j + 1, hj => by
    rw [← Nat.add_assoc, cc_succ, cc_byte xs i x hx j (by omega)]
    have e : bt xs (8 * i + j) = x / 2 ^ j % 2 := by
      unfold bt
      rw [show (8 * i + j) / 8 = i by omega, show (8 * i + j) % 8 = j by omega, List.getD_eq_getElem?_getD, hx]; rfl
    have e2 : x % 2 ^ (j + 1) = x % 2 ^ j ^^^ 2 ^ j * (x / 2 ^ j % 2) := by
      rw [Nat.xor_comm, ← add_xor _ _ _ (Nat.mod_lt _ (Nat.pow_pos (by decide))), Nat.pow_succ, Nat.mod_mul]; omega
    rw [e, e2, ← Nat.xor_assoc, sts_xor (j + 1), Nat.add_comm j 1, sts_add, sts_add 1 j (2 ^ j * _), sts_pow, st_xor]; rfl
theorem cc_reg (xs : List Nat) (hx : ∀ x ∈ xs, x < 256) : ∀ i, i ≤ xs.length → cc xs (8 * i) = reg 0 (xs.take i)
  | 0, _ => by
    rw [List.take_zero, reg_nil]
    show rvN (Gf.pmod (4294967296 * 0) G) 32 = 0
    decide +kernel
  | i + 1, hi => by
    have hl : xs[i]? = some xs[i] := List.getElem?_eq_getElem (by omega)
    have h := cc_byte xs i _ hl 8 (by omega)
    rw [show 8 * (i + 1) = 8 * i + 8 by omega, h, cc_reg xs hx i (by omega), List.take_add_one, hl]
    show _ = reg 0 (_ ++ [xs[i]])
    rw [reg_snoc, show xs[i] % 2 ^ 8 = xs[i] from Nat.mod_eq_of_lt (hx _ (List.getElem_mem _))]
/-- The linear part by its definition. -/
theorem linear_def (xs : List Nat) (hx : ∀ x ∈ xs, x < 256) (m : Nat) (hm : xs.length = m) : rvN (Gf.pmod (4294967296 * hb xs (8 * m)) G) 32 = reg 0 xs := by
  have h := cc_reg xs hx m (by omega)
  rw [← hm, List.take_length] at h
  rw [← hm]; exact h
end Crc

/-- A bit of a list of coefficients is set. -/
theorem bq_bit (h b j N : Nat) (hb : b < 2) (hj : j < N) : (bq (2 ^ (j + 1) * h) N).set j b = bq (2 ^ j * (2 * h + b)) N := by
  apply List.ext_getElem?
  intro i
  by_cases hi : i < N
  · rw [bq_at _ _ _ hi]
    have e1 := sum_bit 0 (2 * h + b) j i
    have e2 := sum_bit 0 h (j + 1) i
    rw [Nat.zero_xor, Nat.zero_div, Nat.zero_mod, Nat.zero_add, Nat.mul_comm] at e1 e2
    rw [List.getElem?_set]
    by_cases hij : j = i
    · subst hij
      rw [if_pos rfl, if_pos (by rw [bq_len]; exact hi), e1, if_pos (Nat.le_refl _), Nat.sub_self, Nat.pow_zero, Nat.div_one]
      congr 1
      omega
    · rw [if_neg hij, bq_at _ _ _ hi, e1, e2]
      by_cases hl : j + 1 ≤ i
      · rw [if_pos hl, if_pos (by omega), show i - j = (i - (j + 1)) + 1 by omega, Nat.pow_succ, Nat.mul_comm (2 ^ _) 2, ← Nat.div_div_eq_div_mul, show (2 * h + b) / 2 = h by omega]
      · rw [if_neg hl, if_neg (by omega)]
  · rw [List.getElem?_eq_none (by rw [List.length_set, bq_len]; omega), List.getElem?_eq_none (by rw [bq_len]; omega)]
theorem bq_zero (N : Nat) : bq 0 N = List.replicate N 0 := by
  unfold bq
  rw [List.eq_replicate_iff]
  refine ⟨by simp, fun x hx => ?_⟩
  obtain ⟨i, _, rfl⟩ := List.mem_map.1 hx
  rw [Nat.zero_div]

set_option maxRecDepth 100000 in
set_option maxHeartbeats 2000000 in
theorem bits_any (a : Option Addr) (c m : Nat) (xs : List Nat) (hm : xs.length = m) (hm5 : m ≤ 300) (hbs : ∀ y ∈ xs, y < 256) (B : Nat) (w : World) (hS : Seen w B .u8 a xs) (hB : B ≤ w.heap.size) (S : Nat) (hSv : 4294967296 * Crc.hb xs (8 * m) = S) :
    Calls Tryd.prog 60 #[.slice a m c] w fun e w' => ∃ g cap n, e = .returned (.slice (some ⟨g, 0, none⟩) n cap) ∧ Gf.len S = n ∧ n ≤ 3000 ∧ Seen w' w'.heap.size .i64 (some ⟨g, 0, none⟩) (bq S n) ∧ Below w.heap.size w w' := by
  obtain ⟨iI, hiI, zI0, zI1, zI2⟩ := info_parts infoI
  obtain ⟨n, hn⟩ : ∃ n, 8 * m = n := ⟨_, rfl⟩
  obtain ⟨N, hN⟩ : ∃ N, n + 32 = N := ⟨_, rfl⟩
  rw [hn] at hSv
  have HM := Lib.hid hm
  have HS : Hid (Seen w B .u8 a xs) := hS
  have HB := Lib.hid hB
  have HSV := Lib.hid hSv
  have HBS : Hid (∀ y ∈ xs, y < 256) := hbs
  have hni : 8 * (m : Int) = (n : Int) := by omega
  have hNi : (n : Int) + 32 = (N : Int) := by omega
  have hNi2 : 32 + (n : Int) = (N : Int) := by omega
  have hn5 : (n : Int) ≤ 2400 := by omega
  have hN5 : (N : Int) ≤ 2432 := by omega
  have hN0 : (32 : Int) ≤ (N : Int) := by omega
  clear hm hS hB hbs hSv
  go_enter Tryd.func60, Tryd.ntmps60
  go_wp2_with (at_make; refine wpList_make_full _ rfl _ _ 86 rfl w.heap.size 3 iI (.int .i64 0) 1 Tryd.underlying86 hiI zI0 zI1 .i64 .i64 _ _ N rfl rfl rfl rfl (by rw [zI2]; omega) (by unfold maxLen; omega) (Nat.le_refl _) ?_; intro w1 hown1 hgrow1)
  have hB1 : Below w.heap.size w w1 := (Below.refl _ _).grown hgrow1 (Nat.le_refl _) (fun k e => by cases e)
  have HB1 := Lib.hid hB1
  have hO : w1.ownsRow w.heap.size 3 1 (.slice (some ⟨w.heap.size, 0, none⟩) N N) N ((bq (2 ^ N * Crc.hb xs 0) N).map fun x : Nat => Value.int .i64 x) := by
    have e : (madeCells (Value.int .i64 0).cells (N * 1)).toList = (List.replicate N 0).map fun x : Nat => Value.int .i64 x := by
      rw [show (Value.int .i64 0).cells = #[.int .i64 0] from rfl, toList_madeCells_one, Nat.mul_one, List.map_replicate]; rfl
    rw [e] at hown1
    rw [show 2 ^ N * Crc.hb xs 0 = 0 from Nat.mul_zero _, bq_zero]
    exact hown1
  obtain ⟨g, hg⟩ : ∃ g, w.heap.size = g := ⟨_, rfl⟩
  rw [hg]
  have HO : Hid (w1.ownsRow w.heap.size 3 1 (.slice (some ⟨g, 0, none⟩) N N) N ((bq (2 ^ N * Crc.hb xs 0) N).map fun x : Nat => Value.int .i64 x)) := by rw [← hg]; exact hO
  clear hown1 hgrow1 hB1 hO
  go_loopw [5] (fun iv wr => ∃ k : Nat, k ≤ n ∧ iv = .int .i64 k ∧ wr.ownsRow w.heap.size 3 1 (.slice (some ⟨g, 0, none⟩) N N) N ((bq (2 ^ (N - k) * Crc.hb xs k) N).map fun x : Nat => Value.int .i64 x) ∧ Below w.heap.size w wr) (fun i _ => n - (intOf i).toNat)
  case atStart => exact ⟨0, Nat.zero_le _, rfl, HO.out, HB1.out⟩
  case round =>
    obtain ⟨k, hk, rfl, hrow, hBe⟩ := hrel
    have HROW := Lib.hid hrow
    have HBE := Lib.hid hBe
    clear hBe
    by_cases hkn : k < n
    · obtain ⟨j, hj⟩ : ∃ j, N - 1 - k = j := ⟨_, rfl⟩
      have hjN : j < N := by omega
      have hji : (N : Int) - 1 - (k : Int) = (j : Int) := by omega
      have hfr := hrow.frozenAt j
      obtain ⟨y, hy⟩ : ∃ y, 2 ^ (N - k) * Crc.hb xs k / 2 ^ j % 2 = y := ⟨_, rfl⟩
      have hcl : wr.cell? ⟨g, j, none⟩ = some (.int .i64 ((y : Nat) : Int)) := by
        rw [hrow.cellAt j (by omega), List.getElem?_map, bq_at _ N j hjN, hy]; rfl
      obtain ⟨q, hq⟩ : ∃ q, k / 8 = q := ⟨_, rfl⟩
      obtain ⟨e, he⟩ : ∃ e, k % 8 = e := ⟨_, rfl⟩
      have hqm : q < m := by omega
      obtain ⟨bA, off, hab, _, hcell⟩ := (HS.out.below (HBE.out.mono HB.out)).at (i := q) (by rw [HM.out]; exact hqm)
      subst hab
      have hxq : xs[q]? = some (xs[q]'(by rw [HM.out]; exact hqm)) := List.getElem?_eq_getElem _
      obtain ⟨x, hx⟩ : ∃ x, xs[q]'(by rw [HM.out]; exact hqm) = x := ⟨_, rfl⟩
      rw [hx] at hcell hxq
      have hx2 : x < 256 := by rw [← hx]; exact HBS.out _ (List.getElem_mem _)
      have hq1 : (k : Int) / 8 = (q : Int) := by omega
      have hq2 : (k : Int).tdiv 8 = (q : Int) := by rw [Int.tdiv_eq_ediv_of_nonneg (by omega)]; exact hq1
      have he1 : (k : Int) % 8 = (e : Int) := by omega
      have he2 : (k : Int).tmod 8 = (e : Int) := by rw [Int.tmod_eq_emod_of_nonneg (by omega)]; exact he1
      have he8 : (e : Int) < 8 := by omega
      obtain ⟨b, hb⟩ : ∃ b, x / 2 ^ e % 2 = b := ⟨_, rfl⟩
      have hb2 : (b : Int) ≤ 1 := by omega
      have hsb := shr_bit x e
      rw [hb] at hsb
      have HBT : Hid (Crc.bt xs k = b) := by
        show _ / _ % 2 = _
        rw [hq, he, List.getD_eq_getElem?_getD, hxq]; exact hb
      have HST : Hid ((bq (2 ^ (N - k) * Crc.hb xs k) N).set j b = bq (2 ^ (N - (k + 1)) * Crc.hb xs (k + 1)) N) := by
        show _ = _
        have h := bq_bit (Crc.hb xs k) b j N (by omega) hjN
        rw [show N - k = j + 1 by omega, show N - (k + 1) = j by omega]
        show _ = bq (2 ^ j * (2 * Crc.hb xs k + Crc.bt xs k)) N
        rw [HBT.out]; exact h
      have hkni : (k : Int) < (n : Int) := by omega
      clear hrow hx hxq hq he hb hj hy
      go_wp2
      refine ⟨⟨k + 1, hkn, rfl, ?_, HBE.out.setCell (by have := HROW.out.lt g rfl; exact this.1) _⟩, by simp [intOf]; omega⟩
      rw [← HST.out, List.map_set]
      exact (HROW.out.stored j _).1
    · obtain rfl : k = n := by omega
      have HRS : Hid (wr.ownsRow w.heap.size 3 1 (.slice (some ⟨g, 0, none⟩) N N) N ((bq S N).map fun x : Nat => Value.int .i64 x)) := by
        have h := hrow
        rw [show N - k = 32 by omega, show 2 ^ 32 * Crc.hb xs k = S from HSV.out] at h
        exact h
      have HSN : Hid (S < 2 ^ N) := by
        show _ < _
        rw [← HSV.out, ← hN, Nat.pow_add, Nat.mul_comm]
        exact Nat.mul_lt_mul_of_pos_right (Crc.hb_lt _ _) (by decide)
      clear hrow HROW
      go_wp2
      go_loopw [4] (fun pv w2 => ∃ t : Nat, t ≤ N ∧ pv = .slice (some ⟨g, 0, none⟩) t N ∧ Hid (S < 2 ^ t) ∧ wr = w2) (fun pv _ => lenV pv)
      case atStart => exact ⟨N, Nat.le_refl _, rfl, HSN, rfl⟩
      case round =>
        obtain ⟨t, ht, rfl, HK, rfl⟩ := hrel
        by_cases hk0 : t = 0
        · have h1 : ¬ (0 : Int) < (t : Int) := by omega
          have h1b : decide ((0 : Int) < (t : Int)) = false := by simp; omega
          have HE : Hid (Gf.len S = t) := by
            have h := HK.out
            rw [hk0] at h
            have : S = 0 := by simpa using h
            show _ = _
            rw [this, hk0]; rfl
          clear hk0
          go_wp2
          go_ret
          refine ⟨g, N, t, rfl, HE.out, by omega, ?_, by first | exact HBE.out | (rw [← hg]; exact HBE.out)⟩
          have hro := own_take HRS.out (k := t) (by omega)
          rw [← List.map_take, bq_take S N _ (by omega)] at hro
          obtain ⟨A, cp, hv, hSS, _, _, _⟩ := own_slice hro
          injection hv with h5 _ _
          rw [h5]; exact hSS
        · obtain ⟨u, rfl⟩ : ∃ u, t = u + 1 := ⟨t - 1, by omega⟩
          have hji : ((u + 1 : Nat) : Int) - 1 = (u : Int) := by omega
          have h1 : (0 : Int) < ((u + 1 : Nat) : Int) := by omega
          have hjc : u ≤ N := by omega
          have hjci : (u : Int) ≤ (N : Int) := by omega
          have hcell : wr.cell? ⟨g, u, none⟩ = some (.int .i64 ((S / 2 ^ u % 2 : Nat) : Int)) := by
            rw [HRS.out.cellAt u (by omega), List.getElem?_map, bq_at S N u (by omega)]; rfl
          by_cases hb : S / 2 ^ u % 2 = 0
          · rw [hb] at hcell
            have HJ : Hid (S < 2 ^ u) := top_zero HK.out hb
            clear hb hk0
            go_wp2
            exact ⟨⟨u, by omega, rfl, HJ, trivial⟩, by simp [lenV]⟩
          · have hb1 : S / 2 ^ u % 2 = 1 := by omega
            rw [hb1] at hcell
            have HE : Hid (Gf.len S = u + 1) := top_one HK.out hb1
            clear hb hb1 hk0
            go_wp2
            go_ret
            refine ⟨g, N, u + 1, rfl, HE.out, by omega, ?_, by first | exact HBE.out | (rw [← hg]; exact HBE.out)⟩
            have hro := own_take HRS.out (k := u + 1) (by omega)
            rw [← List.map_take, bq_take S N _ (by omega)] at hro
            obtain ⟨A, cp, hv, hSS, _, _, _⟩ := own_slice hro
            injection hv with h5 _ _
            rw [h5]; exact hSS

end Go.Proofs.YtoecddkglenigaaDoor
