/-
  The walk of CrcThree.
-/
import Derived.Test.YtoecddkglenigaaDoorBursts
import Derived.Test.YtoecddkglenigaaDoorContains
import Derived.Test.YtoecddkglenigaaDoorTri2
import Derived.Test.YtoecddkglenigaaDoorFinds
namespace Go.Proofs.YtoecddkglenigaaDoor
open Go.RowKit
set_option linter.unusedVariables false
set_option linter.unusedSimpArgs false

theorem xor_fix {a b : Nat} (h : a ^^^ b = a) : b = 0 := by
  have := Gf.xor_cancel a b
  rw [h, Nat.xor_self] at this
  exact this.symm
/-- How often a bit stands alone, of the first i. -/
def lone (K : List Nat) : Nat → Int
  | 0 => 0
  | i + 1 => match K[i]? with
    | none => lone K i
    | some k => if k ∈ K.take i then lone K i - 1 else lone K i + 1
theorem lone_succ {K : List Nat} {i k : Nat} (h : K[i]? = some k) : lone K (i + 1) = if k ∈ K.take i then lone K i - 1 else lone K i + 1 := by
  rw [lone, h]
theorem lone_bound (K : List Nat) (i : Nat) : -(i : Int) ≤ lone K i ∧ lone K i ≤ i := by
  induction i with
  | zero => exact ⟨Int.le_refl _, Int.le_refl _⟩
  | succ i ih =>
    rw [lone]
    split
    · omega
    · split <;> omega
/-- What the bits that are changed come to. -/
theorem three_math {T k0 k1 k2 m : Nat} (hT : T ≤ 4096) (h0 : k0 < 8 * T) (h1 : k1 < 8 * T) (h2 : k2 < 8 * T) (hm : m ≤ 3) :
    (parts T ([k0, k1, k2].take m) ≠ 0) ↔ 0 < (if m = 3 ∧ k0 = k1 ∧ k1 = k2 then 1 else lone [k0, k1, k2] m) := by
  have hmm : m = 0 ∨ m = 1 ∨ m = 2 ∨ m = 3 := by omega
  rcases hmm with rfl | rfl | rfl | rfl
  · simp [parts, lone]
  · simp [parts, lone]
    exact Crc.part_ne _ _
  · by_cases e : k1 = k0
    · subst e; simp [parts, lone]
    · have hne : Crc.part T k0 ^^^ Crc.part T k1 ≠ 0 := fun h => e (Crc.part_inj hT h1 h0 (Gf.xor_eq_zero h).symm)
      simp [parts, lone, e]
      exact hne
  · by_cases e1 : k1 = k0
    · subst e1
      by_cases e2 : k2 = k1
      · subst e2; simp [parts, lone]; exact Crc.part_ne _ _
      · have : ¬ k1 = k2 := fun h => e2 h.symm
        simp [parts, lone, e2, this]
        exact Crc.part_ne _ _
    · have e1' : ¬ k0 = k1 := fun h => e1 h.symm
      by_cases e2 : k2 = k0
      · subst e2
        simp [parts, lone, e1, e1']
        rw [Nat.xor_comm, ← Nat.xor_assoc, Nat.xor_self, Nat.zero_xor]
        exact Crc.part_ne _ _
      · by_cases e3 : k2 = k1
        · subst e3
          simp [parts, lone, e1, e1', e2]
          rw [Nat.xor_assoc, Nat.xor_self, Nat.xor_zero]
          exact Crc.part_ne _ _
        · have hne := Crc.parts3_ne hT h0 h1 h2 e1' (fun h => e2 h.symm) (fun h => e3 h.symm)
          simp [parts, lone, e1, e1', e2, e3]
          exact hne

set_option maxRecDepth 100000 in
set_option maxHeartbeats 4000000 in
theorem three_law (a : Option Addr) (m cap : Nat) (bs : List Nat) (hbs : ∀ y ∈ bs, y < 256) (hm : bs.length = m) (hmc : m ≤ cap) (hcm : cap ≤ maxLen) (n xa xb xc : Nat) (hn : n < 65536) (hxa : xa < 65536) (hxb : xb < 65536) (hxc : xc < 65536) (w : World) (hS : Seen w w.heap.size .u8 a bs) (hT : HT w) :
    Calls Tryd.prog 9 #[.slice a m cap, .int .u16 n, .int .u16 xa, .int .u16 xb, .int .u16 xc] w fun e w' => e = .returned (.bool true) ∧ Below w.heap.size w w' := by
  obtain ⟨i0, hi, hz0, hz1, hz2⟩ := info_parts infoB
  obtain ⟨iI, hiI, zI0, zI1, zI2⟩ := info_parts infoI
  obtain ⟨N, hN⟩ : ∃ N, n % 4093 = N := ⟨_, rfl⟩
  have hNi : (n : Int) % 4093 = (N : Int) := by omega
  have hN4 : N < 4093 := by omega
  obtain ⟨T, hTN⟩ : ∃ T, N + 4 = T := ⟨_, rfl⟩
  have HTN := Lib.hid hTN
  have hT4 : ¬ (T : Int) < 4 := by omega
  have hT4b : decide ((T : Int) < 4) = false := by simp; omega
  have hT41 : (T : Int) ≤ 4096 := by omega
  have hT0 : (0 : Int) ≤ (T : Int) := by omega
  obtain ⟨Z, hZ⟩ : ∃ Z, 8 * T = Z := ⟨_, rfl⟩
  have hZi : 8 * (T : Int) = (Z : Int) := by omega
  obtain ⟨k0, hk0⟩ : ∃ k, xa % Z = k := ⟨_, rfl⟩
  have hk0i : (xa : Int) % (Z : Int) = (k0 : Int) := by rw [← hk0]; exact (Int.natCast_emod _ _).symm
  have hk0t : (xa : Int).tmod (Z : Int) = (k0 : Int) := by rw [Int.tmod_eq_emod_of_nonneg (by omega)]; exact hk0i
  have hk0Z : k0 < Z := by rw [← hk0]; exact Nat.mod_lt _ (by omega)
  have hwx0 : IntKind.i64.wrap (xa : Int) = (xa : Int) := by rw [IntKind.wrap_i64]; omega
  obtain ⟨k1, hk1⟩ : ∃ k, xb % Z = k := ⟨_, rfl⟩
  have hk1i : (xb : Int) % (Z : Int) = (k1 : Int) := by rw [← hk1]; exact (Int.natCast_emod _ _).symm
  have hk1t : (xb : Int).tmod (Z : Int) = (k1 : Int) := by rw [Int.tmod_eq_emod_of_nonneg (by omega)]; exact hk1i
  have hk1Z : k1 < Z := by rw [← hk1]; exact Nat.mod_lt _ (by omega)
  have hwx1 : IntKind.i64.wrap (xb : Int) = (xb : Int) := by rw [IntKind.wrap_i64]; omega
  obtain ⟨k2, hk2⟩ : ∃ k, xc % Z = k := ⟨_, rfl⟩
  have hk2i : (xc : Int) % (Z : Int) = (k2 : Int) := by rw [← hk2]; exact (Int.natCast_emod _ _).symm
  have hk2t : (xc : Int).tmod (Z : Int) = (k2 : Int) := by rw [Int.tmod_eq_emod_of_nonneg (by omega)]; exact hk2i
  have hk2Z : k2 < Z := by rw [← hk2]; exact Nat.mod_lt _ (by omega)
  have hwx2 : IntKind.i64.wrap (xc : Int) = (xc : Int) := by rw [IntKind.wrap_i64]; omega
  have HZ := Lib.hid hZ
  have hZ0 : ¬ (Z : Int) = 0 := by omega
  have hTmax : Hid (T ≤ maxLen) := by show T ≤ maxLen; unfold maxLen; omega
  have HBS : Hid (∀ y ∈ bs, y < 256) := hbs
  have HM := Lib.hid hm
  have HMC := Lib.hid hmc
  have HCM : Hid (cap ≤ maxLen) := hcm
  have HS : Hid (Seen w w.heap.size .u8 a bs) := hS
  have HTT : Hid (HT w) := hT
  have HN5 : Hid (N ≤ 5000) := by show _ ≤ _; omega
  have hwn : IntKind.i64.wrap (n : Int) = (n : Int) := by rw [IntKind.wrap_i64]; omega
  clear hbs hm hmc hcm hS hT hN hTN hZ hk0 hk1 hk2
  go_enter Tryd.func9, Tryd.ntmps9
  go_wp2_with (first
    | (go_at_call 26; ((with_reducible refine (long_any a m cap bs HM.out HMC.out HCM.out HBS.out N HN5.out _ HS.out).mono ?_); rintro e w1 ⟨g1, L, rfl, hL, hLb, hown1, hb1⟩; have HB1 := Lib.hid hb1; have HL := Lib.hid hL; have HLB : Hid (∀ y ∈ L, y < 256) := hLb; have HS1 : Hid (Seen w1 w1.heap.size .u8 (some ⟨g1, 0, none⟩) L) := Seen.of_own hown1; have HT1 : Hid (HT w1) := HTT.out.below hb1; have HN16 : Hid (N ≤ 16777216) := (Nat.le_trans HN5.out (by decide : 5000 ≤ 16777216)); clear hL hLb hown1 hb1))
    | (go_at_call 24; ((with_reducible refine (seal_any _ N N L HLB.out HL.out HN16.out w1.heap.size _ HS1.out (Nat.le_refl _) HT1.out).mono ?_); rintro e w2 ⟨v2, rfl, hown2, hb2⟩; obtain ⟨S, hSe⟩ : ∃ S, L ++ Crc.le4 (Crc.upd 0 L) = S := ⟨_, rfl⟩; have HSF := Lib.hid (seal_facts L HLB.out N T HL.out HTN.out); rw [HTN.out] at hown2; rw [hSe] at hown2 HSF; obtain ⟨g2, c2, rfl⟩ := own_form hown2 (by have := HTN.out; omega); have HS2 : Hid (Seen w2 w2.heap.size .u8 (some ⟨g2, 0, none⟩) S) := Seen.of_own hown2; have HB2 := Lib.hid (HB1.out.trans (hb2.mono HB1.out.size)); have HT2 : Hid (HT w2) := HT1.out.below hb2; have HO2 := Lib.hid (own_empty w2); have HA2 : Hid (Below w2.heap.size w2 (w2.alloc (.cells #[] 5))) := (Below.refl _ w2).alloc (Nat.le_refl _) _; have HR2 : Hid (decide (4 ≤ T ∧ Crc.upd 0 S = 558161692) = true) := (by show _ = _; have h1 := HTN.out; have h2 := HSF.out.2.2; simp [h2]; omega); clear hown2 hb2 hSe)))
  obtain ⟨iI, hiI, zI0, zI1, zI2⟩ := info_parts infoI
  have HC3 : Hid ((w2.alloc (.cells #[.int .u16 xa, .int .u16 xb, .int .u16 xc] 31)).heap[w2.heap.size]? = some (.cells #[.int .u16 xa, .int .u16 xb, .int .u16 xc] 31)) := heap_alloc_new w2 _
  have HB3 : Hid (Below w2.heap.size w2 (w2.alloc (.cells #[.int .u16 xa, .int .u16 xb, .int .u16 xc] 31))) := (Below.refl _ w2).alloc (Nat.le_refl _) _
  have HSZ3 : Hid ((w2.alloc (.cells #[.int .u16 xa, .int .u16 xb, .int .u16 xc] 31)).heap.size = w2.heap.size + 1) := World.size_alloc _ _
  obtain ⟨W3, hW3⟩ : ∃ W3, w2.alloc (.cells #[.int .u16 xa, .int .u16 xb, .int .u16 xc] 31) = W3 := ⟨_, rfl⟩
  rw [hW3] at HC3 HB3 HSZ3 ⊢
  clear hW3
  have HE0 : Hid (∀ i, i < 3 → ∃ x k : Nat, W3.cell? ⟨w2.heap.size, i, none⟩ = some (.int .u16 x) ∧ x < 65536 ∧ x % Z = k ∧ [k0, k1, k2][i]? = some k) := by
    intro i hi
    have : i = 0 ∨ i = 1 ∨ i = 2 := by omega
    rcases this with rfl | rfl | rfl
    · exact ⟨xa, k0, by unfold World.cell?; rw [HC3.out]; rfl, hxa, by omega, rfl⟩
    · exact ⟨xb, k1, by unfold World.cell?; rw [HC3.out]; rfl, hxb, by omega, rfl⟩
    · exact ⟨xc, k2, by unfold World.cell?; rw [HC3.out]; rfl, hxc, by omega, rfl⟩
  clear hk0i hk0t hk1i hk1t hk2i hk2t hwx0 hwx1 hwx2 hNi hN4 hwn hT4 hT4b
  go_loopw [13, 44] (fun bv iv wr => ∃ i : Nat, i ≤ 3 ∧ iv = .int .i64 i ∧ wr.ownsRow W3.heap.size 3 1 bv i (([k0, k1, k2].take i).map fun x : Nat => Value.int .i64 x) ∧ Below W3.heap.size W3 wr) (fun _ i _ => 3 - (intOf i).toNat)
  case atStart => exact ⟨0, by omega, rfl, ⟨rfl, .inl ⟨rfl, rfl⟩⟩, Below.refl _ _⟩
  case round =>
    obtain ⟨i, hi3, rfl, hrow, hbel⟩ := hrel
    have HROW := Lib.hid hrow
    have HBE := Lib.hid hbel
    clear hrow hbel
    by_cases hlt : i < 3
    · obtain ⟨x, k, hcell, hx, hxk, hki⟩ := HE0.out i hlt
      have hcell2 : wr.cell? ⟨w2.heap.size, i, none⟩ = some (.int .u16 x) := (HBE.out.cell (p := ⟨w2.heap.size, i, none⟩) (by have := HSZ3.out; show w2.heap.size < _; omega)).trans hcell
      have hxi : (x : Int) % (Z : Int) = (k : Int) := by rw [← hxk]; exact (Int.natCast_emod _ _).symm
      have hxt : (x : Int).tmod (Z : Int) = (k : Int) := by rw [Int.tmod_eq_emod_of_nonneg (by omega)]; exact hxi
      have hwx : IntKind.i64.wrap (x : Int) = (x : Int) := by rw [IntKind.wrap_i64]; omega
      have HKI : Hid ([k0, k1, k2].take (i + 1) = [k0, k1, k2].take i ++ [k]) := by
        show _ = _
        rw [List.take_add_one, hki]; rfl
      clear hcell hxk hki
      go_wp2_with (at_builtin; refine wpList_append_own _ rfl _ _ 27 rfl W3.heap.size 3 iI (.int .i64 0) 1 8 Tryd.underlying27 hiI zI0 zI1 zI2 rfl (by decide) _ _ _ rfl (HROW.out.alloc _) ⟨wr.heap.size, 0, none⟩ 1 1 [.int .i64 k] rfl rfl (cell_one_new _ _ _) (by simp [Value.oneCell']) (by unfold maxLen; omega) (by omega) (by have := HBE.out.size; simp; omega) ?_; intro v6 w6 hown6 hgrow6 _)
      exact ⟨⟨i + 1, hlt, rfl, by rw [HKI.out, List.map_append]; exact hown6, (HBE.out.alloc HBE.out.size _).grown hgrow6 (by have := HBE.out.size; simp; omega) (fun j ej => (HROW.out.lt j ej).1)⟩, by simp [intOf]; omega⟩
    · have he : i = 3 := by omega
      obtain ⟨W5, hW5⟩ : ∃ W5, W5 = wr := ⟨_, rfl⟩
      subst hW5
      have hrow := HROW.out
      rw [he] at hrow
      obtain ⟨gb, cb, rfl⟩ := own_form hrow (by omega)
      have HBR : Hid (W5.ownsRow W3.heap.size 3 1 (.slice (some ⟨gb, 0, none⟩) 3 cb) 3 ([k0, k1, k2].map fun x : Nat => Value.int .i64 x)) := hrow
      have hcb := own_cap hrow
      have HBS2 : Hid (Seen W5 W5.heap.size .i64 (some ⟨gb, 0, none⟩) [k0, k1, k2]) := Seen.of_own hrow
      have hi4 : 3 ≤ i := by omega
      have HB4 : Hid (Below w.heap.size w W5) := HB2.out.trans ((HB3.out.trans (HBE.out.mono (by have := HSZ3.out; omega))).mono HB2.out.size)
      have HS4 : Hid (Seen W5 w2.heap.size .u8 (some ⟨g2, 0, none⟩) S) := HS2.out.below (HB3.out.trans (HBE.out.mono (by have := HSZ3.out; omega)))
      have HT4w : Hid (HT W5) := HTT.out.below HB4.out
      have HLE4 : Hid (w2.heap.size ≤ W5.heap.size) := by show _ ≤ _; have := HSZ3.out; have := HBE.out.size; omega
      clear hrow he hlt
      obtain ⟨K, hK⟩ : ∃ K, [k0, k1, k2] = K := ⟨_, rfl⟩
      have HK := Lib.hid hK
      have HKL : Hid (K.length = 3) := by show _ = _; rw [← hK]; rfl
      have HKZ : Hid (∀ k ∈ K, k < 8 * T) := by
        intro k hk
        rw [← hK] at hk
        have := HZ.out
        simp at hk
        omega
      rw [hK] at HBR HBS2
      have HCB : Hid (3 ≤ cb) := hcb.1
      have hcb3 : (3 : Int) ≤ (cb : Int) := by have := hcb.1; omega
      have hcbm : (cb : Int) ≤ 9223372036854775807 := by have := hcb.2; unfold maxLen at this; omega
      clear hK hcb
      go_wp2
      go_loopw [58] (fun iv WQ => ∃ q : Nat, q ≤ 4 ∧ iv = .int .i64 q ∧ Below W5.heap.size W5 WQ) (fun i _ => 4 - (intOf i).toNat)
      case atStart => exact ⟨0, by omega, rfl, Below.refl _ _⟩
      case round =>
        obtain ⟨q, hq, rfl, hbq⟩ := hrel
        obtain ⟨WQ, hWQ⟩ : ∃ WQ, WQ = wr := ⟨_, rfl⟩
        subst hWQ
        have HBQ := Lib.hid hbq
        clear hbq
        by_cases hq4 : q < 4
        · have HS6 : Hid (Seen WQ w2.heap.size .u8 (some ⟨g2, 0, none⟩) S) := HS4.out.below (HBQ.out.mono HLE4.out)
          have HB6 : Hid (Below w.heap.size w WQ) := HB4.out.trans (HBQ.out.mono HB4.out.size)
          have HLE6 : Hid (w2.heap.size ≤ WQ.heap.size) := Nat.le_trans HLE4.out HBQ.out.size
          have HO6 := Lib.hid (own_empty WQ)
          have HA6 : Hid (Below WQ.heap.size WQ (WQ.alloc (.cells #[] 5))) := (Below.refl _ WQ).alloc (Nat.le_refl _) _
          have HB6' : Hid (Seen WQ W5.heap.size .i64 (some ⟨gb, 0, none⟩) K) := HBS2.out.below HBQ.out
          have HLR6 : Hid (W5.heap.size ≤ WQ.heap.size) := HBQ.out.size
          have hqc : (q : Int) ≤ (cb : Int) := by omega
          have hqc2 : q ≤ cb := by omega
          have hq0 : (0 : Int) ≤ (q : Int) := by omega
          have HQ3 : Hid (q ≤ 3) := by show _ ≤ _; omega
          go_wp2_with (at_builtin; refine wpList_append_own _ rfl _ _ 22 rfl WQ.heap.size 5 i0 (.int .u8 0) 1 1 Tryd.underlying22 hi hz0 hz1 hz2 rfl (by decide) _ _ _ rfl HO6.out _ _ _ (S.map fun x : Nat => Value.int .u8 x) rfl (by rw [List.length_map, HSF.out.1, Nat.mul_one]) (seen_cells (HS6.out.below (HA6.out.mono HLE6.out))) (by intro u hu; obtain ⟨z, _, rfl⟩ := List.mem_map.1 hu; rfl) (by unfold maxLen; omega) (by omega) HA6.out.size ?_; intro v7 w7 hown7 hgrow7 _; rw [Nat.zero_add] at hown7; obtain ⟨g7, c7, rfl⟩ := own_form hown7 (by have := HTN.out; omega); have HB7 : Hid (Below WQ.heap.size WQ w7) := HA6.out.grown hgrow7 HA6.out.size (fun k e => (HO6.out.lt k e).1); have HO7 := Lib.hid hown7; clear hown7 hgrow7)
          have hlo := lone_bound K
          go_loopw [18, 68] (fun lv jv wz => ∃ (j : Nat) (C : List Nat), j ≤ q ∧ jv = .int .i64 j ∧ lv = .int .i64 (lone K j) ∧ C.length = T ∧ Hid (∀ y ∈ C, y < 256) ∧ Hid (Crc.upd 0 C = 558161692 ^^^ parts T (K.take j)) ∧ wz.ownsRow WQ.heap.size 5 1 (.slice (some ⟨g7, 0, none⟩) T c7) T (C.map fun x : Nat => Value.int .u8 x) ∧ Below WQ.heap.size WQ wz) (fun _ j _ => q - (intOf j).toNat)
          case atStart => exact ⟨0, S, Nat.zero_le _, rfl, rfl, HSF.out.1, HSF.out.2.1, (by show _ = _; rw [HSF.out.2.2]; show _ = _ ^^^ 0; rw [Nat.xor_zero]), HO7.out, HB7.out⟩
          case round =>
            obtain ⟨j, C, hj, rfl, rfl, hCl, HCB8, HCU, hrow, hbz⟩ := hrel
            have HCL := Lib.hid hCl
            have HROW := Lib.hid hrow
            have HBZ := Lib.hid hbz
            have hlj := hlo j
            have hlj1 : -4 ≤ lone K j := by omega
            have hlj2 : lone K j ≤ 4 := by omega
            clear hCl hbz hlj
            by_cases hjq : j < q
            · have hj3 : j < K.length := by rw [HKL.out]; have := HQ3.out; omega
              obtain ⟨k, hk⟩ : ∃ k, K[j]? = some k := ⟨_, List.getElem?_eq_getElem hj3⟩
              have HK8 : Hid (k < 8 * T) := HKZ.out k (List.mem_of_getElem? hk)
              have hkb : (k : Int) < 40000 := by have := HK8.out; omega
              have hkc : wr.cell? ⟨gb, j, none⟩ = some (.int .i64 k) := by
                obtain ⟨b1, o1, e1, _, hc⟩ := (HB6'.out.below (HBZ.out.mono HLR6.out)) j k hk
                cases e1
                rw [Nat.zero_add] at hc
                exact hc
              have HTK : Hid (K.take (j + 1) = K.take j ++ [k]) := by show _ = _; rw [List.take_add_one, hk]; rfl
              have HLN := Lib.hid (lone_succ hk)
              obtain ⟨x, y, kd, ke, q1, q2, q3, q4, q5, q6, q7, q8, q9, S1, q10, q11, q12, q13, q14⟩ := flip_facts HROW.out HCL.out HCB8.out HCU.out HK8.out
              have HQ11 := Lib.hid q11
              have HQ12 : Hid (∀ z ∈ S1, z < 256) := q12
              have HQ13 : Hid (Crc.upd 0 S1 = 558161692 ^^^ parts T (K.take (j + 1))) := by show _ = _; rw [q13, HTK.out, parts_snoc, Nat.xor_assoc]
              have HQ14 := Lib.hid q14
              have hjc : (j : Int) ≤ (cb : Int) := by omega
              have hjc2 : j ≤ cb := by omega
              have HJL : Hid ((K.take j).length = j) := by show _ = _; rw [List.length_take]; omega
              have HJ6 : Hid (j ≤ 1000000) := by show _ ≤ _; omega
              clear hk q10 q11 q12 q13 q14 hrow hj3
              go_wp2
              go_region
              have HR5 := Lib.hid (HQ14.out _ rfl)
              have HBZ5 : Hid (Below WQ.heap.size WQ ((wr.setCell ⟨g7, kd, none⟩ (.int .u8 y)).drew)) := (HBZ.out.setCell ((HROW.out.lt g7 rfl).1) _).drew
              obtain ⟨WZ, hWZ⟩ : ∃ WZ, (wr.setCell ⟨g7, kd, none⟩ (.int .u8 y)).drew = WZ := ⟨_, rfl⟩
              rw [hWZ] at HR5 HBZ5 ⊢
              have HSJ : Hid (Seen WZ W5.heap.size .i64 (some ⟨gb, 0, none⟩) (K.take j)) := seen_take (HB6'.out.below (HBZ5.out.mono HLR6.out)) j
              clear hWZ q1 q2 q3 q4 q5 q6 q7 q8 q9 hkc
              by_cases hin : k ∈ K.take j
              · have HIN : Hid (decide (k ∈ K.take j) = true) := decide_eq_true hin
                have HL2 : Hid (lone K (j + 1) = lone K j - 1) := by show _ = _; rw [HLN.out, if_pos hin]
                clear hin
                go_wp2_with (go_at_call 28; ((with_reducible refine (contains_any _ j _ (K.take j) HJL.out HJ6.out k true HIN.out _ _ HSJ.out).mono ?_); rintro e w9 ⟨rfl, rfl⟩))
                exact ⟨⟨j + 1, S1, hjq, rfl, by rw [HL2.out], HQ11.out, HQ12, HQ13, HR5.out, HBZ5.out⟩, by simp [intOf]; omega⟩
              · have HIN : Hid (decide (k ∈ K.take j) = false) := decide_eq_false hin
                have HL2 : Hid (lone K (j + 1) = lone K j + 1) := by show _ = _; rw [HLN.out, if_neg hin]
                clear hin
                go_wp2_with (go_at_call 28; ((with_reducible refine (contains_any _ j _ (K.take j) HJL.out HJ6.out k false HIN.out _ _ HSJ.out).mono ?_); rintro e w9 ⟨rfl, rfl⟩))
                exact ⟨⟨j + 1, S1, hjq, rfl, by rw [HL2.out], HQ11.out, HQ12, HQ13, HR5.out, HBZ5.out⟩, by simp [intOf]; omega⟩
            · have hjq2 : ¬ (j : Int) < (q : Int) := by omega
              have hjq2b : decide ((j : Int) < (q : Int)) = false := by simp; omega
              have hje : j = q := by omega
              have HJE := Lib.hid hje
              have HCUq : Hid (Crc.upd 0 C = 558161692 ^^^ parts T (K.take q)) := by show _ = _; rw [← hje]; exact HCU.out
              have HSC : Hid (Seen wr wr.heap.size .u8 (some ⟨g7, 0, none⟩) C) := Seen.of_own hrow
              have HTZ : Hid (HT wr) := HTT.out.below (HB6.out.trans (HBZ.out.mono HB6.out.size))
              have HBW : Hid (Below W5.heap.size W5 wr) := HBQ.out.trans (HBZ.out.mono HLR6.out)
              have HSKQ : Hid (Seen wr W5.heap.size .i64 (some ⟨gb, 0, none⟩) (K.take q)) := seen_take (HB6'.out.below (HBZ.out.mono HLR6.out)) q
              have HLW : Hid (W5.heap.size ≤ wr.heap.size) := HBW.out.size
              have HKQL : Hid ((K.take q).length = q) := by show _ = _; rw [List.length_take, HKL.out]; have := HQ3.out; omega
              have HKQ : Hid (∀ k ∈ K.take q, k < 8 * T) := fun k hk => HKZ.out k (List.mem_of_mem_take hk)
              have HQ4 : Hid (q ≤ 4096) := by show _ ≤ _; omega
              have HTT4 : Hid (4 ≤ T) := by show _ ≤ _; have := HTN.out; omega
              have HTT16 : Hid (T ≤ 16777216) := by show _ ≤ _; omega
              have HMA := Lib.hid (three_math (T := T) (m := q) (k0 := k0) (k1 := k1) (k2 := k2) (by omega) (by have := HZ.out; omega) (by have := HZ.out; omega) (by have := HZ.out; omega) HQ3.out)
              rw [HK.out] at HMA
              have hsk := HB6'.out.below (HBZ.out.mono HLR6.out)
              have hg0 : wr.cell? ⟨gb, 0, none⟩ = some (.int .i64 k0) := by
                obtain ⟨b1, o1, e1, _, hc⟩ := hsk 0 k0 (by rw [← HK.out]; rfl)
                cases e1; exact hc
              have hg1 : wr.cell? ⟨gb, 1, none⟩ = some (.int .i64 k1) := by
                obtain ⟨b1, o1, e1, _, hc⟩ := hsk 1 k1 (by rw [← HK.out]; rfl)
                cases e1; exact hc
              have hg2 : wr.cell? ⟨gb, 2, none⟩ = some (.int .i64 k2) := by
                obtain ⟨b1, o1, e1, _, hc⟩ := hsk 2 k2 (by rw [← HK.out]; rfl)
                cases e1; exact hc
              rw [hje] at hlj1 hlj2 ⊢
              clear hsk hrow hje hjq HCU
              by_cases hq3 : q = 3
              · have hq3b : ((q : Int) == 3) = true := by simp; omega
                by_cases h01 : k0 = k1
                · have h01b : ((k0 : Int) == (k1 : Int)) = true := by simp; omega
                  by_cases h12 : k1 = k2
                  · have h12b : ((k1 : Int) == (k2 : Int)) = true := by simp; omega
                    have HPR : Hid (parts T (K.take q) ≠ 0) := HMA.out.2 (by rw [if_pos ⟨hq3, h01, h12⟩]; decide)
                    clear hq3 h01 h12
                    have HSEA : Hid (decide (4 ≤ T ∧ Crc.upd 0 C = 558161692) = false) := by
                      show _ = _
                      have h := HPR.out
                      have h4 := HTT4.out
                      rw [HCUq.out]
                      exact decide_eq_false fun e => h (xor_fix e.2)
                    have HPAR : Hid (decide (parts T (K.take q) ≠ 0) = true) := decide_eq_true HPR.out
                    go_wp2
                    go_quiet (fail)
                    have HSC8 : Hid (Seen (wr.drewN nq) wr.heap.size .u8 (some ⟨g7, 0, none⟩) C) := HSC.out.drewN _
                    have HTZ8 : Hid (HT (wr.drewN nq)) := HTZ.out.drewN _
                    have HBW8 : Hid (Below W5.heap.size W5 (wr.drewN nq)) := below_drewN HBW.out _
                    have HSKQ8 : Hid (Seen (wr.drewN nq) W5.heap.size .i64 (some ⟨gb, 0, none⟩) (K.take q)) := HSKQ.out.drewN _
                    obtain ⟨W8, hW8⟩ : ∃ W8, wr.drewN nq = W8 := ⟨_, rfl⟩
                    have hsz8 : wr.heap.size = W8.heap.size := by rw [← hW8]; rfl
                    rw [hW8] at HSC8 HTZ8 HBW8 HSKQ8 ⊢
                    rw [hsz8] at HSC8
                    clear hW8 hsz8 hg0 hg1 hg2
                    go_wp2_with (first
                      | (go_at_call 25; ((with_reducible refine (damages_any T HTT4.out HTT16.out _ q _ (K.take q) HKQ.out HKQL.out HQ4.out true HPAR.out W5.heap.size W8 HSKQ8.out HBW8.out.size).mono ?_); rintro e w9 ⟨rfl, hb9⟩; have HB9 := Lib.hid hb9; clear hb9))
                      | (go_at_call 27; ((with_reducible refine (sealed_any _ T c7 C HCB8.out HCL.out hTmax.out w9 _ (HSC8.out.below HB9.out) (HTZ8.out.below HB9.out) false HSEA.out).mono ?_); rintro e w10 ⟨rfl, rfl⟩)))
                    exact ⟨⟨q + 1, hq4, rfl, HBW8.out.trans (HB9.out.mono HBW8.out.size)⟩, by simp [intOf]; omega⟩
                  · have h12b : ((k1 : Int) == (k2 : Int)) = false := by simp; omega
                    have HMB : Hid (parts T (K.take q) ≠ 0 ↔ 0 < lone K q) := by have h := HMA.out; rw [if_neg (fun e => h12 e.2.2)] at h; exact h
                    clear hq3 h01 h12
                    by_cases hp0 : 0 < lone K q
                    · have hp0b : decide (0 < lone K q) = true := decide_eq_true hp0
                      have HPR : Hid (parts T (K.take q) ≠ 0) := HMB.out.2 hp0
                      have HSEA : Hid (decide (4 ≤ T ∧ Crc.upd 0 C = 558161692) = false) := by
                        show _ = _
                        have h := HPR.out
                        have h4 := HTT4.out
                        rw [HCUq.out]
                        exact decide_eq_false fun e => h (xor_fix e.2)
                      have HPAR : Hid (decide (parts T (K.take q) ≠ 0) = true) := decide_eq_true HPR.out
                      go_wp2
                      go_quiet (fail)
                      have HSC8 : Hid (Seen (wr.drewN nq) wr.heap.size .u8 (some ⟨g7, 0, none⟩) C) := HSC.out.drewN _
                      have HTZ8 : Hid (HT (wr.drewN nq)) := HTZ.out.drewN _
                      have HBW8 : Hid (Below W5.heap.size W5 (wr.drewN nq)) := below_drewN HBW.out _
                      have HSKQ8 : Hid (Seen (wr.drewN nq) W5.heap.size .i64 (some ⟨gb, 0, none⟩) (K.take q)) := HSKQ.out.drewN _
                      obtain ⟨W8, hW8⟩ : ∃ W8, wr.drewN nq = W8 := ⟨_, rfl⟩
                      have hsz8 : wr.heap.size = W8.heap.size := by rw [← hW8]; rfl
                      rw [hW8] at HSC8 HTZ8 HBW8 HSKQ8 ⊢
                      rw [hsz8] at HSC8
                      clear hW8 hsz8 hg0 hg1 hg2
                      go_wp2_with (first
                        | (go_at_call 25; ((with_reducible refine (damages_any T HTT4.out HTT16.out _ q _ (K.take q) HKQ.out HKQL.out HQ4.out true HPAR.out W5.heap.size W8 HSKQ8.out HBW8.out.size).mono ?_); rintro e w9 ⟨rfl, hb9⟩; have HB9 := Lib.hid hb9; clear hb9))
                        | (go_at_call 27; ((with_reducible refine (sealed_any _ T c7 C HCB8.out HCL.out hTmax.out w9 _ (HSC8.out.below HB9.out) (HTZ8.out.below HB9.out) false HSEA.out).mono ?_); rintro e w10 ⟨rfl, rfl⟩)))
                      exact ⟨⟨q + 1, hq4, rfl, HBW8.out.trans (HB9.out.mono HBW8.out.size)⟩, by simp [intOf]; omega⟩
                    · have hp0b : decide (0 < lone K q) = false := decide_eq_false hp0
                      have HPR : Hid (parts T (K.take q) = 0) := by
                        show _ = _
                        by_cases e : parts T (K.take q) = 0
                        · exact e
                        · exact absurd (HMB.out.1 e) hp0
                      have HSEA : Hid (decide (4 ≤ T ∧ Crc.upd 0 C = 558161692) = true) := by
                        show _ = _
                        have h := HPR.out
                        have h4 := HTT4.out
                        rw [HCUq.out]
                        rw [h, Nat.xor_zero]; exact decide_eq_true ⟨h4, rfl⟩
                      have HPAR : Hid (decide (parts T (K.take q) ≠ 0) = false) := decide_eq_false fun e => e HPR.out
                      go_wp2
                      go_quiet (fail)
                      have HSC8 : Hid (Seen (wr.drewN nq) wr.heap.size .u8 (some ⟨g7, 0, none⟩) C) := HSC.out.drewN _
                      have HTZ8 : Hid (HT (wr.drewN nq)) := HTZ.out.drewN _
                      have HBW8 : Hid (Below W5.heap.size W5 (wr.drewN nq)) := below_drewN HBW.out _
                      have HSKQ8 : Hid (Seen (wr.drewN nq) W5.heap.size .i64 (some ⟨gb, 0, none⟩) (K.take q)) := HSKQ.out.drewN _
                      obtain ⟨W8, hW8⟩ : ∃ W8, wr.drewN nq = W8 := ⟨_, rfl⟩
                      have hsz8 : wr.heap.size = W8.heap.size := by rw [← hW8]; rfl
                      rw [hW8] at HSC8 HTZ8 HBW8 HSKQ8 ⊢
                      rw [hsz8] at HSC8
                      clear hW8 hsz8 hg0 hg1 hg2
                      go_wp2_with (first
                        | (go_at_call 25; ((with_reducible refine (damages_any T HTT4.out HTT16.out _ q _ (K.take q) HKQ.out HKQL.out HQ4.out false HPAR.out W5.heap.size W8 HSKQ8.out HBW8.out.size).mono ?_); rintro e w9 ⟨rfl, hb9⟩; have HB9 := Lib.hid hb9; clear hb9))
                        | (go_at_call 27; ((with_reducible refine (sealed_any _ T c7 C HCB8.out HCL.out hTmax.out w9 _ (HSC8.out.below HB9.out) (HTZ8.out.below HB9.out) true HSEA.out).mono ?_); rintro e w10 ⟨rfl, rfl⟩)))
                      exact ⟨⟨q + 1, hq4, rfl, HBW8.out.trans (HB9.out.mono HBW8.out.size)⟩, by simp [intOf]; omega⟩
                · have h01b : ((k0 : Int) == (k1 : Int)) = false := by simp; omega
                  have HMB : Hid (parts T (K.take q) ≠ 0 ↔ 0 < lone K q) := by have h := HMA.out; rw [if_neg (fun e => h01 e.2.1)] at h; exact h
                  clear hq3 h01
                  by_cases hp0 : 0 < lone K q
                  · have hp0b : decide (0 < lone K q) = true := decide_eq_true hp0
                    have HPR : Hid (parts T (K.take q) ≠ 0) := HMB.out.2 hp0
                    have HSEA : Hid (decide (4 ≤ T ∧ Crc.upd 0 C = 558161692) = false) := by
                      show _ = _
                      have h := HPR.out
                      have h4 := HTT4.out
                      rw [HCUq.out]
                      exact decide_eq_false fun e => h (xor_fix e.2)
                    have HPAR : Hid (decide (parts T (K.take q) ≠ 0) = true) := decide_eq_true HPR.out
                    go_wp2
                    go_quiet (fail)
                    have HSC8 : Hid (Seen (wr.drewN nq) wr.heap.size .u8 (some ⟨g7, 0, none⟩) C) := HSC.out.drewN _
                    have HTZ8 : Hid (HT (wr.drewN nq)) := HTZ.out.drewN _
                    have HBW8 : Hid (Below W5.heap.size W5 (wr.drewN nq)) := below_drewN HBW.out _
                    have HSKQ8 : Hid (Seen (wr.drewN nq) W5.heap.size .i64 (some ⟨gb, 0, none⟩) (K.take q)) := HSKQ.out.drewN _
                    obtain ⟨W8, hW8⟩ : ∃ W8, wr.drewN nq = W8 := ⟨_, rfl⟩
                    have hsz8 : wr.heap.size = W8.heap.size := by rw [← hW8]; rfl
                    rw [hW8] at HSC8 HTZ8 HBW8 HSKQ8 ⊢
                    rw [hsz8] at HSC8
                    clear hW8 hsz8 hg0 hg1 hg2
                    go_wp2_with (first
                      | (go_at_call 25; ((with_reducible refine (damages_any T HTT4.out HTT16.out _ q _ (K.take q) HKQ.out HKQL.out HQ4.out true HPAR.out W5.heap.size W8 HSKQ8.out HBW8.out.size).mono ?_); rintro e w9 ⟨rfl, hb9⟩; have HB9 := Lib.hid hb9; clear hb9))
                      | (go_at_call 27; ((with_reducible refine (sealed_any _ T c7 C HCB8.out HCL.out hTmax.out w9 _ (HSC8.out.below HB9.out) (HTZ8.out.below HB9.out) false HSEA.out).mono ?_); rintro e w10 ⟨rfl, rfl⟩)))
                    exact ⟨⟨q + 1, hq4, rfl, HBW8.out.trans (HB9.out.mono HBW8.out.size)⟩, by simp [intOf]; omega⟩
                  · have hp0b : decide (0 < lone K q) = false := decide_eq_false hp0
                    have HPR : Hid (parts T (K.take q) = 0) := by
                      show _ = _
                      by_cases e : parts T (K.take q) = 0
                      · exact e
                      · exact absurd (HMB.out.1 e) hp0
                    have HSEA : Hid (decide (4 ≤ T ∧ Crc.upd 0 C = 558161692) = true) := by
                      show _ = _
                      have h := HPR.out
                      have h4 := HTT4.out
                      rw [HCUq.out]
                      rw [h, Nat.xor_zero]; exact decide_eq_true ⟨h4, rfl⟩
                    have HPAR : Hid (decide (parts T (K.take q) ≠ 0) = false) := decide_eq_false fun e => e HPR.out
                    go_wp2
                    go_quiet (fail)
                    have HSC8 : Hid (Seen (wr.drewN nq) wr.heap.size .u8 (some ⟨g7, 0, none⟩) C) := HSC.out.drewN _
                    have HTZ8 : Hid (HT (wr.drewN nq)) := HTZ.out.drewN _
                    have HBW8 : Hid (Below W5.heap.size W5 (wr.drewN nq)) := below_drewN HBW.out _
                    have HSKQ8 : Hid (Seen (wr.drewN nq) W5.heap.size .i64 (some ⟨gb, 0, none⟩) (K.take q)) := HSKQ.out.drewN _
                    obtain ⟨W8, hW8⟩ : ∃ W8, wr.drewN nq = W8 := ⟨_, rfl⟩
                    have hsz8 : wr.heap.size = W8.heap.size := by rw [← hW8]; rfl
                    rw [hW8] at HSC8 HTZ8 HBW8 HSKQ8 ⊢
                    rw [hsz8] at HSC8
                    clear hW8 hsz8 hg0 hg1 hg2
                    go_wp2_with (first
                      | (go_at_call 25; ((with_reducible refine (damages_any T HTT4.out HTT16.out _ q _ (K.take q) HKQ.out HKQL.out HQ4.out false HPAR.out W5.heap.size W8 HSKQ8.out HBW8.out.size).mono ?_); rintro e w9 ⟨rfl, hb9⟩; have HB9 := Lib.hid hb9; clear hb9))
                      | (go_at_call 27; ((with_reducible refine (sealed_any _ T c7 C HCB8.out HCL.out hTmax.out w9 _ (HSC8.out.below HB9.out) (HTZ8.out.below HB9.out) true HSEA.out).mono ?_); rintro e w10 ⟨rfl, rfl⟩)))
                    exact ⟨⟨q + 1, hq4, rfl, HBW8.out.trans (HB9.out.mono HBW8.out.size)⟩, by simp [intOf]; omega⟩
              · have hq3b : ((q : Int) == 3) = false := by simp; omega
                have HMB : Hid (parts T (K.take q) ≠ 0 ↔ 0 < lone K q) := by have h := HMA.out; rw [if_neg (fun e => hq3 e.1)] at h; exact h
                by_cases hp0 : 0 < lone K q
                · have hp0b : decide (0 < lone K q) = true := decide_eq_true hp0
                  have HPR : Hid (parts T (K.take q) ≠ 0) := HMB.out.2 hp0
                  have HSEA : Hid (decide (4 ≤ T ∧ Crc.upd 0 C = 558161692) = false) := by
                    show _ = _
                    have h := HPR.out
                    have h4 := HTT4.out
                    rw [HCUq.out]
                    exact decide_eq_false fun e => h (xor_fix e.2)
                  have HPAR : Hid (decide (parts T (K.take q) ≠ 0) = true) := decide_eq_true HPR.out
                  go_wp2
                  go_quiet (fail)
                  have HSC8 : Hid (Seen (wr.drewN nq) wr.heap.size .u8 (some ⟨g7, 0, none⟩) C) := HSC.out.drewN _
                  have HTZ8 : Hid (HT (wr.drewN nq)) := HTZ.out.drewN _
                  have HBW8 : Hid (Below W5.heap.size W5 (wr.drewN nq)) := below_drewN HBW.out _
                  have HSKQ8 : Hid (Seen (wr.drewN nq) W5.heap.size .i64 (some ⟨gb, 0, none⟩) (K.take q)) := HSKQ.out.drewN _
                  obtain ⟨W8, hW8⟩ : ∃ W8, wr.drewN nq = W8 := ⟨_, rfl⟩
                  have hsz8 : wr.heap.size = W8.heap.size := by rw [← hW8]; rfl
                  rw [hW8] at HSC8 HTZ8 HBW8 HSKQ8 ⊢
                  rw [hsz8] at HSC8
                  clear hW8 hsz8 hg0 hg1 hg2
                  go_wp2_with (first
                    | (go_at_call 25; ((with_reducible refine (damages_any T HTT4.out HTT16.out _ q _ (K.take q) HKQ.out HKQL.out HQ4.out true HPAR.out W5.heap.size W8 HSKQ8.out HBW8.out.size).mono ?_); rintro e w9 ⟨rfl, hb9⟩; have HB9 := Lib.hid hb9; clear hb9))
                    | (go_at_call 27; ((with_reducible refine (sealed_any _ T c7 C HCB8.out HCL.out hTmax.out w9 _ (HSC8.out.below HB9.out) (HTZ8.out.below HB9.out) false HSEA.out).mono ?_); rintro e w10 ⟨rfl, rfl⟩)))
                  exact ⟨⟨q + 1, hq4, rfl, HBW8.out.trans (HB9.out.mono HBW8.out.size)⟩, by simp [intOf]; omega⟩
                · have hp0b : decide (0 < lone K q) = false := decide_eq_false hp0
                  have HPR : Hid (parts T (K.take q) = 0) := by
                    show _ = _
                    by_cases e : parts T (K.take q) = 0
                    · exact e
                    · exact absurd (HMB.out.1 e) hp0
                  have HSEA : Hid (decide (4 ≤ T ∧ Crc.upd 0 C = 558161692) = true) := by
                    show _ = _
                    have h := HPR.out
                    have h4 := HTT4.out
                    rw [HCUq.out]
                    rw [h, Nat.xor_zero]; exact decide_eq_true ⟨h4, rfl⟩
                  have HPAR : Hid (decide (parts T (K.take q) ≠ 0) = false) := decide_eq_false fun e => e HPR.out
                  go_wp2
                  go_quiet (fail)
                  have HSC8 : Hid (Seen (wr.drewN nq) wr.heap.size .u8 (some ⟨g7, 0, none⟩) C) := HSC.out.drewN _
                  have HTZ8 : Hid (HT (wr.drewN nq)) := HTZ.out.drewN _
                  have HBW8 : Hid (Below W5.heap.size W5 (wr.drewN nq)) := below_drewN HBW.out _
                  have HSKQ8 : Hid (Seen (wr.drewN nq) W5.heap.size .i64 (some ⟨gb, 0, none⟩) (K.take q)) := HSKQ.out.drewN _
                  obtain ⟨W8, hW8⟩ : ∃ W8, wr.drewN nq = W8 := ⟨_, rfl⟩
                  have hsz8 : wr.heap.size = W8.heap.size := by rw [← hW8]; rfl
                  rw [hW8] at HSC8 HTZ8 HBW8 HSKQ8 ⊢
                  rw [hsz8] at HSC8
                  clear hW8 hsz8 hg0 hg1 hg2
                  go_wp2_with (first
                    | (go_at_call 25; ((with_reducible refine (damages_any T HTT4.out HTT16.out _ q _ (K.take q) HKQ.out HKQL.out HQ4.out false HPAR.out W5.heap.size W8 HSKQ8.out HBW8.out.size).mono ?_); rintro e w9 ⟨rfl, hb9⟩; have HB9 := Lib.hid hb9; clear hb9))
                    | (go_at_call 27; ((with_reducible refine (sealed_any _ T c7 C HCB8.out HCL.out hTmax.out w9 _ (HSC8.out.below HB9.out) (HTZ8.out.below HB9.out) true HSEA.out).mono ?_); rintro e w10 ⟨rfl, rfl⟩)))
                  exact ⟨⟨q + 1, hq4, rfl, HBW8.out.trans (HB9.out.mono HBW8.out.size)⟩, by simp [intOf]; omega⟩
        · have hq5 : ¬ (q : Int) < 4 := by omega
          clear hq4
          have HTE : Hid (HT WQ) := HTT.out.below (HB4.out.trans (HBQ.out.mono HB4.out.size))
          go_wp2_with (go_at_call 15; ((with_reducible refine (awake_any _ HTE.out).mono ?_); rintro e w11 ⟨rfl, hb11⟩))
          go_ret
          exact ⟨rfl, (HB4.out.trans (HBQ.out.mono HB4.out.size)).trans (hb11.mono (Nat.le_trans HB4.out.size HBQ.out.size))⟩

theorem three_walk (a0 : Option Addr) (len0 cap0 : Nat) (z0 : List Int) (a1 a2 a3 a4 : Int) (w : World) (w0 : IsRow .u8 w a0 len0 cap0 z0) (w1 : (Lit.int .u16 a1).wf = true) (w2 : (Lit.int .u16 a2).wf = true) (w3 : (Lit.int .u16 a3).wf = true) (w4 : (Lit.int .u16 a4).wf = true) (wx : HT w) :
    Calls Tryd.prog 9 #[.slice a0 len0 cap0, .int .u16 a1, .int .u16 a2, .int .u16 a3, .int .u16 a4] w fun e w' => e = .returned (.bool true) ∧ Below w.heap.size w w' := by
  obtain ⟨xs, hn, hS, hx, h1, h2⟩ := row_u8 w0
  have b1 := bounds_u16 w1
  have b2 := bounds_u16 w2
  have b3 := bounds_u16 w3
  have b4 := bounds_u16 w4
  obtain ⟨x1, rfl⟩ : ∃ x : Nat, a1 = (x : Int) := ⟨a1.toNat, by omega⟩
  obtain ⟨x2, rfl⟩ : ∃ x : Nat, a2 = (x : Int) := ⟨a2.toNat, by omega⟩
  obtain ⟨x3, rfl⟩ : ∃ x : Nat, a3 = (x : Int) := ⟨a3.toNat, by omega⟩
  obtain ⟨x4, rfl⟩ : ∃ x : Nat, a4 = (x : Int) := ⟨a4.toNat, by omega⟩
  exact three_law a0 len0 cap0 xs hx hn h1 h2 x1 x2 x3 x4 (by omega) (by omega) (by omega) (by omega) w hS wx

end Go.Proofs.YtoecddkglenigaaDoor
