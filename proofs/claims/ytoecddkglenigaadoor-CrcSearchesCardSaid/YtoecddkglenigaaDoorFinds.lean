/-
  The walk of CrcFinds.
-/
import Derived.Test.YtoecddkglenigaaDoorFind
import Derived.Test.YtoecddkglenigaaDoorCLinear
import Derived.Deep.QuietTactic
import Derived.BigQuiet
import Derived.Test.YtoecddkglenigaaDoorDist
import Derived.Test.YtoecddkglenigaaDoorTab
namespace Go.Proofs.YtoecddkglenigaaDoor
open Go.RowKit
set_option linter.unusedVariables false

section
variable (a : Option Addr) (n cap : Nat) (xs : List Nat) (hxs : ∀ y ∈ xs, y < 256) (hn : xs.length = n) (h4 : 4 ≤ n) (h6 : n ≤ 4096) (w : World) (B : Nat) (hS : Seen w B .u8 a xs) (hBw : B ≤ w.heap.size) (hT : HT w)
include hxs hn h4 h6 hS hBw hT
theorem find_none (h : Crc.upd 0 xs = 558161692) :
    Calls Tryd.prog 20 #[.slice a n cap] w fun e w' => e = .returned (.tuple #[.int .i64 0, .int .i64 6]) ∧ Below w.heap.size w w' :=
  (find_any a n cap xs hxs hn h4 (by omega) w B hS hBw hT 0 (by rw [h, Nat.xor_self])).mono fun e w' hh => by
    obtain ⟨⟨k, f, rfl, hc⟩, hb⟩ := hh
    rcases hc with ⟨_, _, h0, _⟩ | ⟨rfl, rfl, _⟩
    · exact absurd h0 (Crc.part_ne _ _)
    · exact ⟨rfl, hb⟩
theorem find_one (k : Nat) (hk : k < 8 * n) (h : Crc.upd 0 xs = 558161692 ^^^ Crc.part n k) :
    Calls Tryd.prog 20 #[.slice a n cap] w fun e w' => e = .returned (.tuple #[.int .i64 k, .int .i64 0]) ∧ Below w.heap.size w w' :=
  (find_any a n cap xs hxs hn h4 (by omega) w B hS hBw hT (Crc.part n k) (by rw [h, Nat.xor_comm, Gf.xor_cancel])).mono fun e w' hh => by
    obtain ⟨⟨k', f, rfl, hc⟩, hb⟩ := hh
    rcases hc with ⟨rfl, h1, h0, _⟩ | ⟨_, _, h2⟩
    · obtain rfl : k' = k := Crc.part_inj h6 h1 hk h0
      exact ⟨rfl, hb⟩
    · exact absurd rfl (h2 k hk)
theorem find_no (ch : Nat) (h : Crc.upd 0 xs = 558161692 ^^^ ch) (hno : ∀ j, j < 8 * n → Crc.part n j ≠ ch) :
    Calls Tryd.prog 20 #[.slice a n cap] w fun e w' => e = .returned (.tuple #[.int .i64 0, .int .i64 6]) ∧ Below w.heap.size w w' :=
  (find_any a n cap xs hxs hn h4 (by omega) w B hS hBw hT ch (by rw [h, Nat.xor_comm, Gf.xor_cancel])).mono fun e w' hh => by
    obtain ⟨⟨k, f, rfl, hc⟩, hb⟩ := hh
    rcases hc with ⟨_, h1, h0, _⟩ | ⟨rfl, rfl, _⟩
    · exact absurd h0 (hno k h1)
    · exact ⟨rfl, hb⟩
end
/-- A bit is changed. -/
theorem flip {T k x y c : Nat} {S : List Nat} (h1 : S.length = T) (h2 : ∀ y ∈ S, y < 256) (h3 : Crc.upd 0 S = c) (hk : k < 8 * T) (hx : S[k / 8]? = some x) (hy : x ^^^ 2 ^ (k % 8) = y) :
    (S.set (k / 8) y).length = T ∧ (∀ z ∈ S.set (k / 8) y, z < 256) ∧ Crc.upd 0 (S.set (k / 8) y) = c ^^^ Crc.part T k ∧ y < 256 := by
  have hx256 : x < 256 := h2 x (List.mem_of_getElem? hx)
  have hy256 : y < 256 := by
    rw [← hy]
    exact Gf.xor_lt (n := 8) hx256 (Nat.pow_lt_pow_right (by decide) (by omega))
  refine ⟨by rw [List.length_set]; exact h1, fun z hz => ?_, ?_, hy256⟩
  · rcases List.mem_or_eq_of_mem_set hz with h | h
    · exact h2 z h
    · rw [h]; exact hy256
  · rw [← hy, Crc.upd_bit S k 0 x (by rw [h1]; exact hk) hx, h3, h1]
/-- What the walk asks where a bit of a row of bytes is changed. -/
theorem flip_facts {w : World} {base T c g k : Nat} {S : List Nat} {s : Nat} (hrow : w.ownsRow base 5 1 (.slice (some ⟨g, 0, none⟩) T c) T (S.map fun x : Nat => Value.int .u8 x)) (h1 : S.length = T) (h2 : ∀ y ∈ S, y < 256) (h3 : Crc.upd 0 S = s) (hk : k < 8 * T) :
    ∃ x y kd ke : Nat, kd < T ∧ ke < 8 ∧ (k : Int) / 8 = (kd : Int) ∧ (k : Int).tdiv 8 = (kd : Int) ∧ (k : Int) % 8 = (ke : Int) ∧ (k : Int).tmod 8 = (ke : Int) ∧ w.frozen? ⟨g, kd, none⟩ = false ∧ w.cell? ⟨g, kd, none⟩ = some (.int .u8 x) ∧
      bits .xor .u8 (x : Int) ((2 : Int) ^ ke % 256) = (y : Int) ∧ (∃ S' : List Nat, S.set kd y = S' ∧ S'.length = T ∧ (∀ z ∈ S', z < 256) ∧ Crc.upd 0 S' = s ^^^ Crc.part T k ∧
        ∀ u : World, u = (w.setCell ⟨g, kd, none⟩ (.int .u8 y)).drew → u.ownsRow base 5 1 (.slice (some ⟨g, 0, none⟩) T c) T (S'.map fun x : Nat => Value.int .u8 x)) := by
  have hkT : k / 8 < T := by omega
  obtain ⟨x, hx⟩ : ∃ x, S[k / 8]? = some x := ⟨_, List.getElem?_eq_getElem (by rw [h1]; exact hkT)⟩
  obtain ⟨y, hy⟩ : ∃ y, x ^^^ 2 ^ (k % 8) = y := ⟨_, rfl⟩
  obtain ⟨f1, f2, f3, f4⟩ := flip h1 h2 h3 hk hx hy
  refine ⟨x, y, k / 8, k % 8, hkT, Nat.mod_lt _ (by decide), (Int.natCast_ediv k 8).symm, ?_, (Int.natCast_emod k 8).symm, ?_, hrow.frozenAt _, ?_, ?_, _, rfl, f1, f2, f3, ?_⟩
  · rw [Int.tdiv_eq_ediv_of_nonneg (by omega)]; exact (Int.natCast_ediv k 8).symm
  · rw [Int.tmod_eq_emod_of_nonneg (by omega)]; exact (Int.natCast_emod k 8).symm
  · rw [hrow.cellAt _ (by omega), List.getElem?_map, hx]; rfl
  · have q1 : 2 ^ (k % 8) < 256 := (Nat.pow_lt_pow_right (by decide : 1 < 2) (Nat.mod_lt k (by decide : 0 < 8)) : 2 ^ (k % 8) < 2 ^ 8)
    have q2 : (2 : Int) ^ (k % 8) % 256 = ((2 ^ (k % 8) : Nat) : Int) := by rw [← cast_pow]; generalize 2 ^ (k % 8) = P at q1 ⊢; omega
    rw [q2, u8_xor_nat x _ (h2 x (List.mem_of_getElem? hx)) q1, hy]
  · rintro u rfl
    rw [List.map_set]
    exact ((hrow.stored (k / 8) _).1).drew

set_option maxRecDepth 100000 in
set_option maxHeartbeats 4000000 in
theorem finds_law (a : Option Addr) (m cap : Nat) (bs : List Nat) (hbs : ∀ y ∈ bs, y < 256) (hm : bs.length = m) (hmc : m ≤ cap) (hcm : cap ≤ maxLen) (n xx yy : Nat) (hn : n < 65536) (hxx : xx < 65536) (hyy : yy < 65536) (w : World) (hS : Seen w w.heap.size .u8 a bs) (hT : HT w) :
    Calls Tryd.prog 13 #[.slice a m cap, .int .u16 n, .int .u16 xx, .int .u16 yy] w fun e w' => e = .returned (.bool true) ∧ Below w.heap.size w w' := by
  obtain ⟨i0, hi, hz0, hz1, hz2⟩ := info_parts infoB
  obtain ⟨N, hN⟩ : ∃ N, n % 997 = N := ⟨_, rfl⟩
  have hNi : (n : Int) % 997 = (N : Int) := by omega
  have hN4 : N < 997 := by omega
  obtain ⟨T, hTN⟩ : ∃ T, N + 4 = T := ⟨_, rfl⟩
  have HTN := Lib.hid hTN
  have hT4 : ¬ (T : Int) < 4 := by omega
  have hT4b : decide ((T : Int) < 4) = false := by simp; omega
  have hT41 : (T : Int) ≤ 1000 := by omega
  have hT0 : (0 : Int) ≤ (T : Int) := by omega
  obtain ⟨Z, hZ⟩ : ∃ Z, 8 * T = Z := ⟨_, rfl⟩
  have hZi : 8 * (T : Int) = (Z : Int) := by omega
  have hZ0 : ¬ (Z : Int) = 0 := by omega
  obtain ⟨k, hk⟩ : ∃ k, xx % Z = k := ⟨_, rfl⟩
  obtain ⟨l, hl⟩ : ∃ l, yy % Z = l := ⟨_, rfl⟩
  have hk1 : (xx : Int) % (Z : Int) = (k : Int) := by rw [← hk]; exact (Int.natCast_emod _ _).symm
  have hk2 : (xx : Int).tmod (Z : Int) = (k : Int) := by rw [Int.tmod_eq_emod_of_nonneg (by omega)]; exact hk1
  have hl1 : (yy : Int) % (Z : Int) = (l : Int) := by rw [← hl]; exact (Int.natCast_emod _ _).symm
  have hl2 : (yy : Int).tmod (Z : Int) = (l : Int) := by rw [Int.tmod_eq_emod_of_nonneg (by omega)]; exact hl1
  have HKZ : Hid (k < Z) := by show _ < _; rw [← hk]; exact Nat.mod_lt _ (by omega)
  have HLZ : Hid (l < Z) := by show _ < _; rw [← hl]; exact Nat.mod_lt _ (by omega)
  have HZ := Lib.hid hZ
  have hkb : (k : Int) < 8000 := by have := HKZ.out; omega
  have hlb : (l : Int) < 8000 := by have := HLZ.out; omega
  have hTmax : Hid (T ≤ maxLen) := by show T ≤ maxLen; unfold maxLen; omega
  have HT4 : Hid (4 ≤ T) := by show _ ≤ _; omega
  have HT40 : Hid (T ≤ 4096) := by show _ ≤ _; omega
  have HBS : Hid (∀ y ∈ bs, y < 256) := hbs
  have HM := Lib.hid hm
  have HMC := Lib.hid hmc
  have HCM : Hid (cap ≤ maxLen) := hcm
  have HS : Hid (Seen w w.heap.size .u8 a bs) := hS
  have HTT : Hid (HT w) := hT
  have HN5 : Hid (N ≤ 5000) := by show _ ≤ _; omega
  have hwn : IntKind.i64.wrap (n : Int) = (n : Int) := by rw [IntKind.wrap_i64]; omega
  have hwx : IntKind.i64.wrap (xx : Int) = (xx : Int) := by rw [IntKind.wrap_i64]; omega
  have hwy : IntKind.i64.wrap (yy : Int) = (yy : Int) := by rw [IntKind.wrap_i64]; omega
  clear hbs hm hmc hcm hS hT hN hTN hZ hk hl
  go_enter Tryd.func13, Tryd.ntmps13
  go_wp2_with (first
    | (go_at_call 26; ((with_reducible refine (long_any a m cap bs HM.out HMC.out HCM.out HBS.out N HN5.out _ HS.out).mono ?_); rintro e w1 ⟨g1, L, rfl, hL, hLb, hown1, hb1⟩; have HB1 := Lib.hid hb1; have HL := Lib.hid hL; have HLB : Hid (∀ y ∈ L, y < 256) := hLb; have HS1 : Hid (Seen w1 w1.heap.size .u8 (some ⟨g1, 0, none⟩) L) := Seen.of_own hown1; have HT1 : Hid (HT w1) := HTT.out.below hb1; have HN16 : Hid (N ≤ 16777216) := (Nat.le_trans HN5.out (by decide : 5000 ≤ 16777216)); clear hL hLb hown1 hb1))
    | (go_at_call 24; ((with_reducible refine (seal_any _ N N L HLB.out HL.out HN16.out w1.heap.size _ HS1.out (Nat.le_refl _) HT1.out).mono ?_); rintro e w2 ⟨v2, rfl, hown2, hb2⟩; obtain ⟨S, hSe⟩ : ∃ S, L ++ Crc.le4 (Crc.upd 0 L) = S := ⟨_, rfl⟩; have HSF := Lib.hid (seal_facts L HLB.out N T HL.out HTN.out); rw [HTN.out] at hown2; rw [hSe] at hown2 HSF; obtain ⟨g2, c2, rfl⟩ := own_form hown2 (by have := HTN.out; omega); have HO2 := Lib.hid (rebase hown2 HB1.out.size); have HB2 := Lib.hid (HB1.out.trans (hb2.mono HB1.out.size)); have HT2 : Hid (HT w2) := HT1.out.below hb2; clear hown2 hb2 hSe))
    | (go_at_call 20; ((with_reducible refine (find_none _ T c2 S HSF.out.2.1 HSF.out.1 HT4.out HT40.out w2 _ (Seen.of_own HO2.out) (Nat.le_refl _) HT2.out HSF.out.2.2).mono ?_); rintro e w3 ⟨rfl, hb3⟩; have HO3 := Lib.hid (HO2.out.kept (grown_of_below hb3) (.inr (by simp [Value.ownBlock]))); have HB3 := Lib.hid (HB2.out.trans (hb3.mono HB2.out.size)); have HT3 : Hid (HT w3) := HT2.out.below hb3; clear hb3)))
  go_quiet (fail)
  have HO4 : Hid ((w3.drewN nq).ownsRow w.heap.size 5 1 (.slice (some ⟨g2, 0, none⟩) T c2) T (S.map fun x : Nat => Value.int .u8 x)) := HO3.out
  have HB4 : Hid (Below w.heap.size w (w3.drewN nq)) := below_drewN HB3.out _
  have HT4w : Hid (HT (w3.drewN nq)) := HT3.out.drewN _
  obtain ⟨W4, hW4⟩ : ∃ W4, w3.drewN nq = W4 := ⟨_, rfl⟩
  rw [hW4] at HO4 HB4 HT4w ⊢
  clear hW4
  have HL8 : Hid (l < 8 * T) := by show _ < _; rw [HZ.out]; exact HLZ.out
  have HK8 : Hid (k < 8 * T) := by show _ < _; rw [HZ.out]; exact HKZ.out
  obtain ⟨x, y, kd, ke, q1, q2, q3, q4, q5, q6, q7, q8, q9, S1, q10, q11, q12, q13, q14⟩ := flip_facts HO4.out HSF.out.1 HSF.out.2.1 HSF.out.2.2 HK8.out
  have HQ11 := Lib.hid q11
  have HQ12 : Hid (∀ z ∈ S1, z < 256) := q12
  have HQ13 := Lib.hid q13
  have HQ14 := Lib.hid q14
  clear q10 q11 q12 q13 q14 hk1 hk2 hl1 hl2
  go_wp2
  go_region
  have HO5 := Lib.hid (HQ14.out _ rfl)
  have HB5 : Hid (Below w.heap.size w ((W4.setCell ⟨g2, kd, none⟩ (.int .u8 y)).drew)) := (HB4.out.setCell ((HO4.out.lt g2 rfl).1) _).drew
  obtain ⟨W5, hW5⟩ : ∃ W5, (W4.setCell ⟨g2, kd, none⟩ (.int .u8 y)).drew = W5 := ⟨_, rfl⟩
  rw [hW5] at HO5 HB5 ⊢
  have HT5 : Hid (HT W5) := HTT.out.below HB5.out
  clear hW5 q1 q2 q3 q4 q5 q6 q7 q8 q9
  go_wp2_with (go_at_call 20; ((with_reducible refine (find_one _ T c2 S1 HQ12.out HQ11.out HT4.out HT40.out W5 _ (Seen.of_own HO5.out) (Nat.le_refl _) HT5.out k HK8.out HQ13.out).mono ?_); rintro e w6 ⟨rfl, hb6⟩; have HO6 := Lib.hid (HO5.out.kept (grown_of_below hb6) (.inr (by simp [Value.ownBlock]))); have HB6 := Lib.hid (HB5.out.trans (hb6.mono HB5.out.size)); clear hb6))
  obtain ⟨x', y', kd', ke', q1, q2, q3, q4, q5, q6, q7, q8, q9, S2, q10, q11, q12, q13, q14⟩ := flip_facts HO6.out HQ11.out HQ12.out HQ13.out HL8.out
  have HR11 := Lib.hid q11
  have HR12 : Hid (∀ z ∈ S2, z < 256) := q12
  have HR13 := Lib.hid q13
  have HR14 := Lib.hid q14
  clear q10 q11 q12 q13 q14
  go_wp2
  go_region
  have HO7 := Lib.hid (HR14.out _ rfl)
  have HB7 : Hid (Below w.heap.size w ((w6.setCell ⟨g2, kd', none⟩ (.int .u8 y')).drew)) := (HB6.out.setCell ((HO6.out.lt g2 rfl).1) _).drew
  obtain ⟨W7, hW7⟩ : ∃ W7, (w6.setCell ⟨g2, kd', none⟩ (.int .u8 y')).drew = W7 := ⟨_, rfl⟩
  rw [hW7] at HO7 HB7 ⊢
  have HT7 : Hid (HT W7) := HTT.out.below HB7.out
  clear hW7 q1 q2 q3 q4 q5 q6 q7 q8 q9
  obtain ⟨ch, hch⟩ : ∃ ch, Crc.part T k ^^^ Crc.part T l = ch := ⟨_, rfl⟩
  have HU2 : Hid (Crc.upd 0 S2 = 558161692 ^^^ ch) := by show _ = _; rw [HR13.out, ← hch, Nat.xor_assoc]
  clear hch
  by_cases hex : ∃ j, j < 8 * T ∧ Crc.part T j = ch
  · obtain ⟨j, hj, hjc⟩ := hex
    have HJ := Lib.hid hj
    have hjb : (j : Int) < 8000 := by omega
    have HU3 : Hid (Crc.upd 0 S2 = 558161692 ^^^ Crc.part T j) := by show _ = _; rw [hjc]; exact HU2.out
    have hjZ1 : ¬ (j : Int) < 0 := by omega
    have hjZ1b : decide ((j : Int) < 0) = false := by simp
    have hjZ2 : ¬ 8 * (T : Int) ≤ (j : Int) := by omega
    have hjZ2b : decide (8 * (T : Int) ≤ (j : Int)) = false := by simp; omega
    have hjZ3 : ¬ (Z : Int) ≤ (j : Int) := by have := HZ.out; omega
    have hjZ3b : decide ((Z : Int) ≤ (j : Int)) = false := by have := HZ.out; simp; omega
    clear hj hjc
    go_wp2_with (go_at_call 20; ((with_reducible refine (find_one _ T c2 S2 HR12.out HR11.out HT4.out HT40.out W7 _ (Seen.of_own HO7.out) (Nat.le_refl _) HT7.out j HJ.out HU3.out).mono ?_); rintro e w8 ⟨rfl, hb8⟩; have HO8 := Lib.hid (HO7.out.kept (grown_of_below hb8) (.inr (by simp [Value.ownBlock]))); have HB8 := Lib.hid (HB7.out.trans (hb8.mono HB7.out.size)); clear hb8))
    obtain ⟨x3, y3, kd3, ke3, q1, q2, q3, q4, q5, q6, q7, q8, q9, S3, q10, q11, q12, q13, q14⟩ := flip_facts HO8.out HR11.out HR12.out HU3.out HJ.out
    have HV11 := Lib.hid q11
    have HV12 : Hid (∀ z ∈ S3, z < 256) := q12
    have HV13 : Hid (decide (4 ≤ T ∧ Crc.upd 0 S3 = 558161692) = true) := by
      show _ = _
      rw [Nat.xor_assoc, Nat.xor_self, Nat.xor_zero] at q13
      exact decide_eq_true ⟨HT4.out, q13⟩
    have HV14 := Lib.hid q14
    clear q10 q11 q12 q13 q14
    go_wp2
    go_region
    have HO9 := Lib.hid (HV14.out _ rfl)
    have HB9 : Hid (Below w.heap.size w ((w8.setCell ⟨g2, kd3, none⟩ (.int .u8 y3)).drew)) := (HB8.out.setCell ((HO8.out.lt g2 rfl).1) _).drew
    obtain ⟨W9, hW9⟩ : ∃ W9, (w8.setCell ⟨g2, kd3, none⟩ (.int .u8 y3)).drew = W9 := ⟨_, rfl⟩
    rw [hW9] at HO9 HB9 ⊢
    have HT9 : Hid (HT W9) := HTT.out.below HB9.out
    clear hW9 q1 q2 q3 q4 q5 q6 q7 q8 q9
    go_wp2_with (first
      | (go_at_call 27; ((with_reducible refine (sealed_any _ T c2 S3 HV12.out HV11.out hTmax.out W9 _ (Seen.of_own HO9.out) HT9.out true HV13.out).mono ?_); rintro e w10 ⟨rfl, rfl⟩))
      | (go_at_call 15; ((with_reducible refine (awake_any _ HT9.out).mono ?_); rintro e w11 ⟨rfl, hb11⟩)))
    go_ret
    exact ⟨rfl, HB9.out.trans (hb11.mono HB9.out.size)⟩
  · have HNO : Hid (∀ j, j < 8 * T → Crc.part T j ≠ ch) := fun j hj e => hex ⟨j, hj, e⟩
    clear hex
    go_wp2_with (first
      | (go_at_call 20; ((with_reducible refine (find_no _ T c2 S2 HR12.out HR11.out HT4.out HT40.out W7 _ (Seen.of_own HO7.out) (Nat.le_refl _) HT7.out ch HU2.out HNO.out).mono ?_); rintro e w8 ⟨rfl, hb8⟩; have HB8 := Lib.hid (HB7.out.trans (hb8.mono HB7.out.size)); clear hb8))
      | (go_at_call 15; ((with_reducible refine (awake_any _ (HTT.out.below HB8.out)).mono ?_); rintro e w11 ⟨rfl, hb11⟩)))
    go_ret
    exact ⟨rfl, HB8.out.trans (hb11.mono HB8.out.size)⟩

theorem finds_walk (a0 : Option Addr) (len0 cap0 : Nat) (z0 : List Int) (a1 a2 a3 : Int) (w : World) (w0 : IsRow .u8 w a0 len0 cap0 z0) (w1 : (Lit.int .u16 a1).wf = true) (w2 : (Lit.int .u16 a2).wf = true) (w3 : (Lit.int .u16 a3).wf = true) (wx : HT w) :
    Calls Tryd.prog 13 #[.slice a0 len0 cap0, .int .u16 a1, .int .u16 a2, .int .u16 a3] w fun e w' => e = .returned (.bool true) ∧ Below w.heap.size w w' := by
  obtain ⟨xs, hn, hS, hx, h1, h2⟩ := row_u8 w0
  have b1 := bounds_u16 w1
  have b2 := bounds_u16 w2
  have b3 := bounds_u16 w3
  obtain ⟨x1, rfl⟩ : ∃ x : Nat, a1 = (x : Int) := ⟨a1.toNat, by omega⟩
  obtain ⟨x2, rfl⟩ : ∃ x : Nat, a2 = (x : Int) := ⟨a2.toNat, by omega⟩
  obtain ⟨x3, rfl⟩ : ∃ x : Nat, a3 = (x : Int) := ⟨a3.toNat, by omega⟩
  exact finds_law a0 len0 cap0 xs hx hn h1 h2 x1 x2 x3 (by omega) (by omega) (by omega) w hS wx

end Go.Proofs.YtoecddkglenigaaDoor
