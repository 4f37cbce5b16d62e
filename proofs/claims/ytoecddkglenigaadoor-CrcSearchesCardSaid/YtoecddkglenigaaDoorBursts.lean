/-
  The walk of CrcBursts.
-/
import Derived.Test.YtoecddkglenigaaDoorLong
import Derived.Test.YtoecddkglenigaaDoorDam
import Derived.Test.YtoecddkglenigaaDoorTab
namespace Go.Proofs.YtoecddkglenigaaDoor
open Go.RowKit
set_option linter.unusedVariables false

/-- An owned row of numbers, nil or not. -/
theorem own_slice {w : World} {base n : Nat} {k : IntKind} {e : TypeId} {v : Value} {xs : List Nat} (h : w.ownsRow base e 1 v n (xs.map fun x : Nat => Value.int k x)) :
    ∃ a c, v = .slice a n c ∧ Seen w w.heap.size k a xs ∧ xs.length = n ∧ n ≤ c ∧ c ≤ maxLen := by
  have hl : xs.length = n := by simpa using h.1
  rcases h.2 with ⟨rfl, rfl⟩ | ⟨g, cap, cur, rfl, hg, hh, h1, h2, _⟩
  · exact ⟨none, 0, rfl, by rw [List.eq_nil_of_length_eq_zero hl]; exact Seen.nil _ _ _ _, hl, Nat.le_refl _, by unfold maxLen; omega⟩
  · exact ⟨_, cap, rfl, Seen.of_own h, hl, h1, h2⟩
theorem row_types {w : World} {b1 b2 s1 s2 n1 n2 g : Nat} {e1 e2 : TypeId} {v1 v2 : Value} {xs1 xs2 : List Value} (h1 : w.ownsRow b1 e1 s1 v1 n1 xs1) (h2 : w.ownsRow b2 e2 s2 v2 n2 xs2) (he : e1 ≠ e2) (hg : v1.ownBlock = some g) : v2.ownBlock ≠ some g := by
  intro hg2
  rcases h1.2 with ⟨rfl, _⟩ | ⟨g1, c1, cur1, rfl, _, hh1, _⟩
  · cases hg
  · rcases h2.2 with ⟨rfl, _⟩ | ⟨g2, c2, cur2, rfl, _, hh2, _⟩
    · cases hg2
    · have e1' : g1 = g := by simpa [Value.ownBlock] using hg
      have e2' : g2 = g := by simpa [Value.ownBlock] using hg2
      subst e1'; subst e2'
      rw [hh1] at hh2
      injection hh2 with hh2
      injection hh2 with _ hh2
      exact he hh2
theorem le4_lt {d : Nat} (h : d < 2 ^ 32) : ∀ y ∈ Crc.le4 d, y < 256 := by
  intro y hy
  simp [Crc.le4] at hy
  omega
theorem seal_facts (L : List Nat) (hL : ∀ y ∈ L, y < 256) (N T : Nat) (hN : L.length = N) (hT : N + 4 = T) :
    (L ++ Crc.le4 (Crc.upd 0 L)).length = T ∧ (∀ y ∈ L ++ Crc.le4 (Crc.upd 0 L), y < 256) ∧ Crc.upd 0 (L ++ Crc.le4 (Crc.upd 0 L)) = 558161692 := by
  refine ⟨by rw [List.length_append, hN]; exact hT, fun y hy => ?_, Crc.sealed_sum L hL⟩
  rcases List.mem_append.1 hy with h | h
  · exact hL y h
  · exact le4_lt (Crc.upd_lt hL (by decide)) y h

/-- What holds after i bits of a burst: the bytes, and the bits that were changed. -/
def Bst (T B i : Nat) (C ks : List Nat) : Prop :=
  C.length = T ∧ (∀ y ∈ C, y < 256) ∧ (∀ k ∈ ks, k < 8 * T) ∧ ks.length ≤ i ∧ Crc.upd 0 C = 558161692 ^^^ parts T ks ∧ ∃ q, q < 2 ^ i ∧ parts T ks = Crc.sts (8 * T - B) q ∧ (q = 0 ↔ ks = [])
theorem Bst.start {T B : Nat} {S : List Nat} (h1 : S.length = T) (h2 : ∀ y ∈ S, y < 256) (h3 : Crc.upd 0 S = 558161692) : Bst T B 0 S [] := by
  refine ⟨h1, h2, (fun k h => by cases h), Nat.le_refl _, ?_, 0, (by decide), ?_, (by simp)⟩
  · rw [h3]; show _ = _ ^^^ 0; rw [Nat.xor_zero]
  · rw [Crc.sts_zero]; rfl
theorem Bst.skip {T B i : Nat} {C ks : List Nat} (h : Bst T B i C ks) : Bst T B (i + 1) C ks := by
  obtain ⟨h1, h2, h3, h4, h5, q, h6, h7, h8⟩ := h
  exact ⟨h1, h2, h3, by omega, h5, q, by rw [Nat.pow_succ]; omega, h7, h8⟩
theorem Bst.step {T B i : Nat} {C ks : List Nat} (h : Bst T B i C ks) {k x y : Nat} (hk : B + i = k) (hk8 : k < 8 * T) (hx : C[k / 8]? = some x) (hy : x ^^^ 2 ^ (k % 8) = y) : Bst T B (i + 1) (C.set (k / 8) y) (ks ++ [k]) ∧ y < 256 := by
  obtain ⟨h1, h2, h3, h4, h5, q, h6, h7, h8⟩ := h
  have hx256 : x < 256 := h2 x (List.mem_of_getElem? hx)
  have hy256 : y < 256 := by
    rw [← hy]
    exact Gf.xor_lt (n := 8) hx256 (Nat.pow_lt_pow_right (by decide) (by omega))
  refine ⟨⟨by rw [List.length_set]; exact h1, fun z hz => ?_, fun z hz => ?_, by simp; omega, ?_, q ^^^ 2 ^ i, ?_, ?_, ?_⟩, hy256⟩
  · rcases List.mem_or_eq_of_mem_set hz with h | h
    · exact h2 z h
    · rw [h]; exact hy256
  · rcases List.mem_append.1 hz with h | h
    · exact h3 z h
    · rw [List.mem_singleton.1 h]; exact hk8
  · rw [← hy, Crc.upd_bit C k 0 x (by rw [h1]; exact hk8) hx, h5, parts_snoc, h1, Nat.xor_assoc]
  · exact Gf.xor_lt (by rw [Nat.pow_succ]; omega) (Nat.pow_lt_pow_right (by decide) (by omega))
  · rw [parts_snoc, h7, ← hk, Crc.part_burst T B i (by omega), ← Crc.sts_xor]
  · have e := Crc.add_xor 1 i q h6
    rw [Nat.mul_one, Nat.xor_comm] at e
    have hp : 0 < 2 ^ i := Nat.pow_pos (by decide)
    constructor
    · intro h; omega
    · intro h; simp at h
theorem Bst.ends {T B i : Nat} {C ks : List Nat} (h : Bst T B i C ks) (hi : i ≤ 32) : (parts T ks ≠ 0 ↔ ks ≠ []) ∧ (Crc.upd 0 C = 558161692 ↔ ks = []) := by
  obtain ⟨h1, h2, h3, h4, h5, q, h6, h7, h8⟩ := h
  have hq : q < 2 ^ 32 := Nat.lt_of_lt_of_le h6 (Nat.pow_le_pow_right (by decide) hi)
  have key : parts T ks = 0 ↔ ks = [] := by
    rw [← h8, h7]
    constructor
    · intro h
      by_cases h0 : q = 0
      · exact h0
      · exact absurd h (Crc.sts_ne _ hq h0)
    · intro h; rw [h, Crc.sts_zero]
  refine ⟨not_congr key, ?_⟩
  rw [h5, ← key]
  constructor
  · intro h
    have := Gf.xor_cancel 558161692 (parts T ks)
    rw [h, Nat.xor_self] at this
    exact this.symm
  · intro h; rw [h, Nat.xor_zero]
theorem u32_and1 (p i : Nat) (hp : p < 2 ^ 32) : bits .and .u32 ((p : Int) / (2 : Int) ^ i) 1 = ((p / 2 ^ i % 2 : Nat) : Int) := by
  have h : p / 2 ^ i < 2 ^ 32 := Nat.lt_of_le_of_lt (Nat.div_le_self _ _) hp
  have := u32_and_nat (p / 2 ^ i) 1 h (by decide)
  rw [div_pow_cast, ← Nat.and_one_is_mod]
  exact this
theorem infoI : (Tryd.prog.info? 3).map (fun i => (i.zero, i.size, i.bytes)) = some (some (.int .i64 0), 1, 8) := by kernel_rfl

set_option maxRecDepth 100000 in
set_option maxHeartbeats 4000000 in
theorem bursts_law (a : Option Addr) (m cap : Nat) (bs : List Nat) (hbs : ∀ y ∈ bs, y < 256) (hm : bs.length = m) (hmc : m ≤ cap) (hcm : cap ≤ maxLen) (n at_ pat : Nat) (hn : n < 65536) (hat : at_ < 65536) (hpat : pat < 2 ^ 32) (w : World) (hS : Seen w w.heap.size .u8 a bs) (hT : HT w) :
    Calls Tryd.prog 8 #[.slice a m cap, .int .u16 n, .int .u16 at_, .int .u32 pat] w fun e w' => e = .returned (.bool true) ∧ Below w.heap.size w w' := by
  obtain ⟨i0, hi, hz0, hz1, hz2⟩ := info_parts infoB
  obtain ⟨iI, hiI, zI0, zI1, zI2⟩ := info_parts infoI
  obtain ⟨p, hp⟩ : ∃ p : Nat, max pat 1 = p := ⟨_, rfl⟩
  have hpi : max (pat : Int) 1 = (p : Int) := by omega
  have hp32 : p < 2 ^ 32 := by omega
  obtain ⟨N, hN⟩ : ∃ N, n % 4093 = N := ⟨_, rfl⟩
  have hNi : (n : Int) % 4093 = (N : Int) := by omega
  have hN4 : N < 4093 := by omega
  obtain ⟨T, hTN⟩ : ∃ T, N + 4 = T := ⟨_, rfl⟩
  have HTN := Lib.hid hTN
  have hT4 : ¬ (T : Int) < 4 := by omega
  have hT4b : decide ((T : Int) < 4) = false := by simp; omega
  have hT41 : (T : Int) ≤ 4096 := by omega
  have hT0 : (0 : Int) ≤ (T : Int) := by omega
  obtain ⟨Z, hZ⟩ : ∃ Z, 8 * T = Z := ⟨_, rfl⟩
  have hZi : 8 * (T : Int) = (Z : Int) := by omega
  obtain ⟨B, hB⟩ : ∃ B, at_ % Z = B := ⟨_, rfl⟩
  have hBi : (at_ : Int) % (Z : Int) = (B : Int) := by rw [← hB]; exact (Int.natCast_emod _ _).symm
  have hBi2 : (at_ : Int).tmod (Z : Int) = (B : Int) := by rw [Int.tmod_eq_emod_of_nonneg (by omega)]; exact hBi
  have hB8 : B < Z := by rw [← hB]; exact Nat.mod_lt _ (by omega)
  have HZ := Lib.hid hZ
  have hZ0 : ¬ (Z : Int) = 0 := by omega
  have hTmax : Hid (T ≤ maxLen) := by show T ≤ maxLen; unfold maxLen; omega
  have HBS : Hid (∀ y ∈ bs, y < 256) := hbs
  have HM := Lib.hid hm
  have HMC := Lib.hid hmc
  have HCM : Hid (cap ≤ maxLen) := hcm
  have HS : Hid (Seen w w.heap.size .u8 a bs) := hS
  have HTT : Hid (HT w) := hT
  have HN5 : Hid (N ≤ 5000) := by show _ ≤ _; omega
  have hwn : IntKind.i64.wrap (n : Int) = (n : Int) := by rw [IntKind.wrap_i64]; omega
  have hwa : IntKind.i64.wrap (at_ : Int) = (at_ : Int) := by rw [IntKind.wrap_i64]; omega
  clear hbs hm hmc hcm hS hT hp hN hB hTN hZ
  go_enter Tryd.func8, Tryd.ntmps8
  go_wp2_with (first
    | (go_at_call 26; ((with_reducible refine (long_any a m cap bs HM.out HMC.out HCM.out HBS.out N HN5.out _ HS.out).mono ?_); rintro e w1 ⟨g1, L, rfl, hL, hLb, hown1, hb1⟩; have HB1 := Lib.hid hb1; have HL := Lib.hid hL; have HLB : Hid (∀ y ∈ L, y < 256) := hLb; have HS1 : Hid (Seen w1 w1.heap.size .u8 (some ⟨g1, 0, none⟩) L) := Seen.of_own hown1; have HT1 : Hid (HT w1) := HTT.out.below hb1; have HN16 : Hid (N ≤ 16777216) := (Nat.le_trans HN5.out (by decide : 5000 ≤ 16777216)); clear hL hLb hown1 hb1))
    | (go_at_call 24; ((with_reducible refine (seal_any _ N N L HLB.out HL.out HN16.out w1.heap.size _ HS1.out (Nat.le_refl _) HT1.out).mono ?_); rintro e w2 ⟨v2, rfl, hown2, hb2⟩; obtain ⟨S, hSe⟩ : ∃ S, L ++ Crc.le4 (Crc.upd 0 L) = S := ⟨_, rfl⟩; have HSF := Lib.hid (seal_facts L HLB.out N T HL.out HTN.out); rw [HTN.out] at hown2; rw [hSe] at hown2 HSF; obtain ⟨g2, c2, rfl⟩ := own_form hown2 (by have := HTN.out; omega); have HS2 : Hid (Seen w2 w2.heap.size .u8 (some ⟨g2, 0, none⟩) S) := Seen.of_own hown2; have HB2 := Lib.hid (HB1.out.trans (hb2.mono HB1.out.size)); have HT2 : Hid (HT w2) := HT1.out.below hb2; have HO2 := Lib.hid (own_empty w2); have HA2 : Hid (Below w2.heap.size w2 (w2.alloc (.cells #[] 5))) := (Below.refl _ w2).alloc (Nat.le_refl _) _; have HR2 : Hid (decide (4 ≤ T ∧ Crc.upd 0 S = 558161692) = true) := (by show _ = _; have h1 := HTN.out; have h2 := HSF.out.2.2; simp [h2]; omega); clear hown2 hb2 hSe))
    | (go_at_call 27; ((with_reducible refine (sealed_any _ T c2 S HSF.out.2.1 HSF.out.1 hTmax.out _ _ HS2.out HT2.out true HR2.out).mono ?_); rintro e w3 ⟨rfl, rfl⟩))
    | (at_builtin; refine wpList_append_own _ rfl _ _ 22 rfl w2.heap.size 5 i0 (.int .u8 0) 1 1 Tryd.underlying22 hi hz0 hz1 hz2 rfl (by decide) _ _ _ rfl HO2.out _ _ _ (S.map fun x : Nat => Value.int .u8 x) rfl (by rw [List.length_map, HSF.out.1, Nat.mul_one]) (seen_cells (HS2.out.below HA2.out)) (by intro u hu; obtain ⟨z, _, rfl⟩ := List.mem_map.1 hu; rfl) (by unfold maxLen; omega) (by omega) HA2.out.size ?_; intro v4 w4 hown4 hgrow4 _; rw [Nat.zero_add] at hown4; obtain ⟨g4, c4, rfl⟩ := own_form hown4 (by have := HTN.out; omega); have HB4 : Hid (Below w2.heap.size w2 w4) := HA2.out.grown hgrow4 HA2.out.size (fun k e => (HO2.out.lt k e).1); have HO4 := Lib.hid hown4; clear hown4 hgrow4))
  have hBB : (0 : Int) ≤ (B : Int) := by omega
  have HBZ : Hid (B < Z) := hB8
  clear hB8 hpi hNi hN4 hwn hwa hBi hBi2 hT4 hT4b hZi
  go_loopw [13, 50] (fun bv iv wr => ∃ (i : Nat) (C ks : List Nat), i ≤ 32 ∧ iv = .int .i64 i ∧ wr.ownsRow w2.heap.size 5 1 (.slice (some ⟨g4, 0, none⟩) T c4) T (C.map fun x : Nat => Value.int .u8 x) ∧ wr.ownsRow w2.heap.size 3 1 bv ks.length (ks.map fun x : Nat => Value.int .i64 x) ∧ Hid (Bst T B i C ks) ∧ Below w2.heap.size w2 wr) (fun _ i _ => 32 - (intOf i).toNat)
  case atStart => exact ⟨0, S, [], by omega, rfl, HO4.out, ⟨rfl, .inl ⟨rfl, rfl⟩⟩, Bst.start HSF.out.1 HSF.out.2.1 HSF.out.2.2, HB4.out⟩
  case round =>
    obtain ⟨i, C, ks, hi32, rfl, hrow, hints, HBS2, hbel⟩ := hrel
    have HROW := Lib.hid hrow
    have HINT := Lib.hid hints
    have HBE := Lib.hid hbel
    clear hbel hints
    by_cases hi3 : i < 32
    · obtain ⟨k, hk⟩ : ∃ k, B + i = k := ⟨_, rfl⟩
      have hki : (B : Int) + (i : Int) = (k : Int) := by omega
      have hkb : (k : Int) ≤ 100000 := by have := HBZ.out; have := HZ.out; omega
      have hand := u32_and1 p i hp32
      by_cases hgo : p / 2 ^ i % 2 = 1 ∧ k < Z
      · rw [hgo.1] at hand
        have hk8 : k < 8 * T := by rw [HZ.out]; exact hgo.2
        have hkZ : (k : Int) < (Z : Int) := by have := hgo.2; omega
        obtain ⟨kd, hkd⟩ : ∃ kd, k / 8 = kd := ⟨_, rfl⟩
        obtain ⟨ke, hke⟩ : ∃ ke, k % 8 = ke := ⟨_, rfl⟩
        have hkdi : (k : Int) / 8 = (kd : Int) := by omega
        have hkdi2 : (k : Int).tdiv 8 = (kd : Int) := by rw [Int.tdiv_eq_ediv_of_nonneg (by omega)]; exact hkdi
        have hkei : (k : Int) % 8 = (ke : Int) := by omega
        have hkei2 : (k : Int).tmod 8 = (ke : Int) := by rw [Int.tmod_eq_emod_of_nonneg (by omega)]; exact hkei
        have hkdT : kd < T := by omega
        have hke8 : ke < 8 := by omega
        obtain ⟨x, hx⟩ : ∃ x, C[kd]? = some x := ⟨_, List.getElem?_eq_getElem (by rw [HBS2.out.1]; exact hkdT)⟩
        have hfr := hrow.frozenAt kd
        have hcl : wr.cell? ⟨g4, kd, none⟩ = some (.int .u8 x) := by
          rw [hrow.cellAt kd (by omega), List.getElem?_map, hx]
          rfl
        obtain ⟨y, hy⟩ : ∃ y, x ^^^ 2 ^ ke = y := ⟨_, rfl⟩
        have HST := Lib.hid (HBS2.out.step (x := x) (y := y) hk hk8 (by rw [hkd]; exact hx) (by rw [hke]; exact hy))
        rw [hkd] at HST
        have hxx : bits .xor .u8 (x : Int) ((2 : Int) ^ ke % 256) = (y : Int) := by
          have h1 : 2 ^ ke < 256 := (Nat.pow_lt_pow_right (by decide : 1 < 2) hke8 : 2 ^ ke < 2 ^ 8)
          have h2 : (2 : Int) ^ ke % 256 = ((2 ^ ke : Nat) : Int) := by rw [← cast_pow]; generalize 2 ^ ke = P at h1 ⊢; omega
          rw [h2, u8_xor_nat x _ (HBS2.out.2.1 x (List.mem_of_getElem? hx)) h1, hy]
        clear hrow hx hy hkd hke hk hgo
        go_wp2
        go_region
        have HR5 : Hid (((wr.setCell ⟨g4, kd, none⟩ (.int .u8 y)).drew).ownsRow w2.heap.size 5 1 (.slice (some ⟨g4, 0, none⟩) T c4) T ((C.set kd y).map fun x : Nat => Value.int .u8 x)) := by
          show World.ownsRow _ _ _ _ _ _ _
          rw [List.map_set]
          exact ((HROW.out.stored kd _).1).drew
        have HI5 : Hid (((wr.setCell ⟨g4, kd, none⟩ (.int .u8 y)).drew).ownsRow w2.heap.size 3 1 u13 ks.length (ks.map fun x : Nat => Value.int .i64 x)) :=
          (HINT.out.kept (HROW.out.stored kd _).2 (by
            cases hg : u13.ownBlock with
            | none => exact .inl rfl
            | some g => right; intro e; exact row_types HROW.out HINT.out (by decide) (g := g4) rfl (by rw [hg, ← e]))).drew
        have HB5 : Hid (Below w2.heap.size w2 ((wr.setCell ⟨g4, kd, none⟩ (.int .u8 y)).drew)) := (HBE.out.setCell ((HROW.out.lt g4 rfl).1) _).drew
        obtain ⟨W5, hW5⟩ : ∃ W5, (wr.setCell ⟨g4, kd, none⟩ (.int .u8 y)).drew = W5 := ⟨_, rfl⟩
        rw [hW5] at HR5 HI5 HB5 ⊢
        clear hW5 hcl hfr
        go_wp2_with (at_builtin; refine wpList_append_own _ rfl _ _ 27 rfl w2.heap.size 3 iI (.int .i64 0) 1 8 Tryd.underlying27 hiI zI0 zI1 zI2 rfl (by decide) _ _ _ rfl (HI5.out.alloc _) ⟨W5.heap.size, 0, none⟩ 1 1 [.int .i64 k] rfl rfl (cell_one_new _ _ _) (by simp [Value.oneCell']) (by have := HBS2.out.2.2.2.1; unfold maxLen; omega) (by have := HBS2.out.2.2.2.1; omega) (by have := HB5.out.size; simp; omega) ?_; intro v6 w6 hown6 hgrow6 _)
        refine ⟨⟨i + 1, C.set kd y, ks ++ [k], hi3, rfl, ?_, ?_, HST.out.1, ?_⟩, by simp [intOf]; omega⟩
        · exact (HR5.out.alloc _).kept hgrow6 (.inr fun e => row_types HROW.out HINT.out (by decide) (g := g4) rfl e.symm)
        · simpa using hown6
        · exact (HB5.out.alloc HB5.out.size _).grown hgrow6 (by have := HB5.out.size; simp; omega) (fun j ej => (HI5.out.lt j ej).1)
      · have hbit : p / 2 ^ i % 2 = 0 ∨ p / 2 ^ i % 2 = 1 := by omega
        rcases hbit with h0 | h1
        · rw [h0] at hand
          clear hgo hrow
          go_wp2
          exact ⟨⟨i + 1, C, ks, hi3, rfl, HROW.out, HINT.out, HBS2.out.skip, HBE.out⟩, by simp [intOf]; omega⟩
        · rw [h1] at hand
          have hkZ : ¬ (k : Int) < (Z : Int) := by intro h; exact hgo ⟨h1, by omega⟩
          have hkZ2 : ¬ (k : Int) < 8 * (T : Int) := by have := HZ.out; omega
          have hkZb : decide ((k : Int) < 8 * (T : Int)) = false := decide_eq_false hkZ2
          clear hgo hrow
          go_wp2
          all_goals first
            | (exfalso; omega)
            | exact ⟨⟨i + 1, C, ks, hi3, rfl, HROW.out, HINT.out, HBS2.out.skip, HBE.out⟩, by simp [intOf]; omega⟩
    · have hi4 : 32 ≤ i := by omega
      have hint2 := HINT.out
      obtain ⟨kn, hkn⟩ : ∃ kn, ks.length = kn := ⟨_, rfl⟩
      rw [hkn] at hint2
      have HKN := Lib.hid hkn
      have HK4 : Hid (kn ≤ 4096) := by show _ ≤ _; have := HBS2.out.2.2.2.1; omega
      have HKS : Hid (∀ k ∈ ks, k < 8 * T) := HBS2.out.2.2.1
      have HT4 : Hid (4 ≤ T) := by show _ ≤ _; have := HTN.out; omega
      have HT16 : Hid (T ≤ 16777216) := by show _ ≤ _; omega
      have HSC : Hid (Seen wr wr.heap.size .u8 (some ⟨g4, 0, none⟩) C) := Seen.of_own hrow
      have HTR : Hid (HT wr) := HT2.out.below HBE.out
      have HEND := Lib.hid (HBS2.out.ends hi32)
      have hand0 := HEND.out
      have HCB : Hid (∀ y ∈ C, y < 256) := HBS2.out.2.1
      have HCL : Hid (C.length = T) := HBS2.out.1
      obtain ⟨ba, bc, rfl, hSk, hkl, hkc1, hkc2⟩ := own_slice hint2
      clear hrow hkn
      by_cases hk0 : kn = 0
      · have HK0 : Hid (ks = []) := List.eq_nil_of_length_eq_zero (HKN.out.trans hk0)
        have hk1 : ¬ (0 : Int) < (kn : Int) := by omega
        have hk1b : decide ((0 : Int) < (kn : Int)) = false := by simp; omega
        have HSk : Hid (Seen wr wr.heap.size .i64 ba ks) := hSk
        have HPAR : Hid (decide (parts T ks ≠ 0) = false) := by show _ = _; have := HEND.out.1; rw [HK0.out] at this ⊢; simpa using this
        have HSEA : Hid (decide (4 ≤ T ∧ Crc.upd 0 C = 558161692) = true) := by show _ = _; have h := HEND.out.2.2 HK0.out; have := HT4.out; simp [h]; exact this
        clear hSk hkl hkc1 hkc2 hint2 hi3 hand0 hk0
        go_wp2_with (first
          | (go_at_call 25; ((with_reducible refine (damages_any T HT4.out HT16.out ba kn bc ks HKS.out HKN.out HK4.out false HPAR.out _ _ HSk.out (Nat.le_refl _)).mono ?_); rintro e w7 ⟨rfl, hb7⟩; have HB7 := Lib.hid hb7; clear hb7))
          | (go_at_call 27; ((with_reducible refine (sealed_any _ T c4 C HCB.out HCL.out hTmax.out _ _ (HSC.out.below HB7.out) (HTR.out.below HB7.out) true HSEA.out).mono ?_); rintro e w8 ⟨rfl, rfl⟩))
          | (go_at_call 15; ((with_reducible refine (awake_any _ (HTR.out.below HB7.out)).mono ?_); rintro e w9 ⟨rfl, hb9⟩)))
        go_ret
        exact ⟨rfl, (HB2.out.trans (HBE.out.mono HB2.out.size)).trans ((HB7.out.trans (hb9.mono HB7.out.size)).mono (Nat.le_trans HB2.out.size HBE.out.size))⟩
      · have HK0 : Hid (ks ≠ []) := fun e => hk0 (by rw [← HKN.out, e]; rfl)
        have hk1 : (0 : Int) < (kn : Int) := by omega
        have hk1b : decide ((0 : Int) < (kn : Int)) = true := by simp; omega
        have HSk : Hid (Seen wr wr.heap.size .i64 ba ks) := hSk
        have HPAR : Hid (decide (parts T ks ≠ 0) = true) := by show _ = _; exact decide_eq_true (HEND.out.1.2 HK0.out)
        have HSEA : Hid (decide (4 ≤ T ∧ Crc.upd 0 C = 558161692) = false) := by show _ = _; exact decide_eq_false fun h => HK0.out (HEND.out.2.1 h.2)
        clear hSk hkl hkc1 hkc2 hint2 hi3 hand0 hk0
        go_wp2_with (first
          | (go_at_call 25; ((with_reducible refine (damages_any T HT4.out HT16.out ba kn bc ks HKS.out HKN.out HK4.out true HPAR.out _ _ HSk.out (Nat.le_refl _)).mono ?_); rintro e w7 ⟨rfl, hb7⟩; have HB7 := Lib.hid hb7; clear hb7))
          | (go_at_call 27; ((with_reducible refine (sealed_any _ T c4 C HCB.out HCL.out hTmax.out _ _ (HSC.out.below HB7.out) (HTR.out.below HB7.out) false HSEA.out).mono ?_); rintro e w8 ⟨rfl, rfl⟩))
          | (go_at_call 15; ((with_reducible refine (awake_any _ (HTR.out.below HB7.out)).mono ?_); rintro e w9 ⟨rfl, hb9⟩)))
        go_ret
        exact ⟨rfl, (HB2.out.trans (HBE.out.mono HB2.out.size)).trans ((HB7.out.trans (hb9.mono HB7.out.size)).mono (Nat.le_trans HB2.out.size HBE.out.size))⟩

theorem bursts_walk (a0 : Option Addr) (len0 cap0 : Nat) (z0 : List Int) (a1 a2 a3 : Int) (w : World) (w0 : IsRow .u8 w a0 len0 cap0 z0) (w1 : (Lit.int .u16 a1).wf = true) (w2 : (Lit.int .u16 a2).wf = true) (w3 : (Lit.int .u32 a3).wf = true) (wx : HT w) :
    Calls Tryd.prog 8 #[.slice a0 len0 cap0, .int .u16 a1, .int .u16 a2, .int .u32 a3] w fun e w' => e = .returned (.bool true) ∧ Below w.heap.size w w' := by
  obtain ⟨xs, hn, hS, hx, h1, h2⟩ := row_u8 w0
  have b1 := bounds_u16 w1
  have b2 := bounds_u16 w2
  have b3 := bounds_u32 w3
  obtain ⟨x1, rfl⟩ : ∃ x : Nat, a1 = (x : Int) := ⟨a1.toNat, by omega⟩
  obtain ⟨x2, rfl⟩ : ∃ x : Nat, a2 = (x : Int) := ⟨a2.toNat, by omega⟩
  obtain ⟨x3, rfl⟩ : ∃ x : Nat, a3 = (x : Int) := ⟨a3.toNat, by omega⟩
  exact bursts_law a0 len0 cap0 xs hx hn h1 h2 x1 x2 x3 (by omega) (by omega) (by omega) w hS wx

end Go.Proofs.YtoecddkglenigaaDoor
