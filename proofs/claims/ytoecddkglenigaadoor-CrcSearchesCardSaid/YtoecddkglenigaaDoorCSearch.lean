/-
  The walk of CrcSearches.
-/
import Derived.Test.YtoecddkglenigaaDoorRFind
import Derived.Deep.QuietTactic
import Derived.BigQuiet
namespace Go.Proofs.YtoecddkglenigaaDoor
open Go.RowKit
set_option linter.unusedVariables false

theorem outF_ex (n c : Nat) (hn : 4 ≤ n) : ∃ k f, OutF n c k f ∧ f ≤ 6 := by
  by_cases h : c = 558161692
  · exact ⟨0, 6, .inl ⟨h, rfl, rfl⟩, by decide⟩
  · by_cases h2 : ∃ k, k < 8 * n ∧ c = 558161692 ^^^ Crc.part n k
    · obtain ⟨k, hk⟩ := h2
      have hmin : ∀ b, (∃ k, k < b ∧ k < 8 * n ∧ c = 558161692 ^^^ Crc.part n k) → ∃ k, k < 8 * n ∧ c = 558161692 ^^^ Crc.part n k ∧ ∀ j, j < k → c ≠ 558161692 ^^^ Crc.part n j := by
        intro b
        induction b with
        | zero => rintro ⟨k, h0, _⟩; omega
        | succ b ih =>
          rintro ⟨k, h0, h1, h2⟩
          by_cases hlow : ∃ j, j < k ∧ c = 558161692 ^^^ Crc.part n j
          · obtain ⟨j, hj, hj2⟩ := hlow
            exact ih ⟨j, by omega, by omega, hj2⟩
          · exact ⟨k, h1, h2, fun j hj e => hlow ⟨j, hj, e⟩⟩
      obtain ⟨k, h1, h2, h3⟩ := hmin _ ⟨k, Nat.lt_succ_self k, hk⟩
      exact ⟨k, 0, .inr (.inl ⟨h, h1, h2, h3, rfl⟩), by decide⟩
    · exact ⟨0, 6, .inr (.inr ⟨h, fun j hj e => h2 ⟨j, hj, e⟩, rfl, rfl⟩), by decide⟩
/-- What Find returns of any bytes. -/
def OutG (n c k f : Nat) : Prop := (n < 4 ∧ k = 0 ∧ f = 2) ∨ (4 ≤ n ∧ OutF n c k f)
theorem outG_ex (n c : Nat) : ∃ k f, OutG n c k f ∧ f ≤ 6 := by
  by_cases h : n < 4
  · exact ⟨0, 2, .inl ⟨h, rfl, rfl⟩, by decide⟩
  · obtain ⟨k, f, h1, h2⟩ := outF_ex n c (by omega)
    exact ⟨k, f, .inr ⟨by omega, h1⟩, h2⟩
set_option maxRecDepth 100000 in
set_option maxHeartbeats 1000000 in
theorem find_argc (a : Option Addr) (n cap : Nat) (hn : n < 4) (w : World) :
    Calls Tryd.prog 20 #[.slice a n cap] w fun e w' => e = .returned (.tuple #[.int .i64 0, .int .i64 2]) ∧ w = w' := by
  have h : (n : Int) < 4 := by omega
  go_enter Tryd.func20, Tryd.ntmps20
  go_wp2
  apply wp_scope_straight
  go_wp2
  simp only [Exit.noGoto]
  go_ret2
  exact ⟨rfl, rfl⟩
section
variable (a : Option Addr) (n cap : Nat) (xs : List Nat) (hxs : ∀ y ∈ xs, y < 256) (hn : xs.length = n) (h6 : n ≤ 100) (w : World) (B : Nat) (hS : Seen w B .u8 a xs) (hBw : B ≤ w.heap.size) (c k f : Nat) (hc : Crc.upd 0 xs = c) (hO : OutG n c k f)
include hxs hn h6 hS hBw hc hO
theorem find_out (hT : HT w) : Calls Tryd.prog 20 #[.slice a n cap] w fun e w' => e = .returned (.tuple #[.int .i64 k, .int .i64 f]) ∧ Below w.heap.size w w' := by
  rcases hO with ⟨h, rfl, rfl⟩ | ⟨h4, h | h | h⟩
  · exact (find_argc a n cap h w).mono fun e w' hh => by obtain ⟨h1, rfl⟩ := hh; exact ⟨h1, Below.refl _ _⟩
  · obtain ⟨h, rfl, rfl⟩ := h
    exact find_none a n cap xs hxs hn h4 (by omega) w B hS hBw hT (hc.trans h)
  · obtain ⟨_, h1, h2, _, rfl⟩ := h
    exact find_one a n cap xs hxs hn h4 (by omega) w B hS hBw hT k h1 (hc.trans h2)
  · obtain ⟨_, h1, rfl, rfl⟩ := h
    refine find_no a n cap xs hxs hn h4 (by omega) w B hS hBw hT (558161692 ^^^ c) (by rw [hc, ← Nat.xor_assoc, Nat.xor_self, Nat.zero_xor]) (fun j hj e => h1 j hj ?_)
    rw [e, ← Nat.xor_assoc, Nat.xor_self, Nat.zero_xor]
theorem rfind_out : Calls Tryd.prog 21 #[.slice a n cap] w fun e w' => e = .returned (.tuple #[.int .i64 k, .int .i64 f]) ∧ Below w.heap.size w w' := by
  rcases hO with ⟨h, rfl, rfl⟩ | ⟨h4, h⟩
  · exact (rfind_arg a n cap h w).mono fun e w' hh => by obtain ⟨h1, rfl⟩ := hh; exact ⟨h1, Below.refl _ _⟩
  · exact rfind_any a n cap xs hxs hn h4 h6 w B hS hBw c k f hc h
end

set_option maxRecDepth 100000 in
set_option maxHeartbeats 4000000 in
theorem searches_law (a : Option Addr) (la ca : Nat) (xs : List Nat) (hxs : ∀ y ∈ xs, y < 256) (hla : xs.length = la) (h1 : la ≤ ca) (m1 : ca ≤ maxLen) (b : Option Addr) (lb cb : Nat) (ks : List Nat) (hks : ∀ y ∈ ks, y < 65536) (hlb : ks.length = lb) (h2 : lb ≤ cb) (m2 : cb ≤ maxLen) (w : World) (hSa : Seen w w.heap.size .u8 a xs) (hSb : Seen w w.heap.size .u16 b ks) (hT : HT w) :
    Calls Tryd.prog 6 #[.slice a la ca, .slice b lb cb] w fun e w' => e = .returned (.bool true) ∧ Below w.heap.size w w' := by
  unfold maxLen at m1 m2
  obtain ⟨na, hna⟩ : ∃ k : Nat, min la 40 = k := ⟨_, rfl⟩
  obtain ⟨nb, hnb⟩ : ∃ k : Nat, min lb 4 = k := ⟨_, rfl⟩
  have ia : min (la : Int) 40 = (na : Int) := by omega
  have ib : min (lb : Int) 4 = (nb : Int) := by omega
  have a1 : (na : Int) ≤ 40 := by omega
  have b1 : (nb : Int) ≤ 4 := by omega
  have a2 : (na : Int) ≤ (ca : Int) := by omega
  have b2 : (nb : Int) ≤ (cb : Int) := by omega
  have a3 : na ≤ ca := by omega
  have b3 : nb ≤ cb := by omega
  have HAL : Hid ((xs.take na).length = na) := by show _ = _; rw [List.length_take, hla]; omega
  have HBL : Hid ((ks.take nb).length = nb) := by show _ = _; rw [List.length_take, hlb]; omega
  have HAB : Hid (∀ y ∈ xs.take na, y < 256) := fun y hy => hxs y (List.mem_of_mem_take hy)
  have HBB : Hid (∀ y ∈ ks.take nb, y < 65536) := fun y hy => hks y (List.mem_of_mem_take hy)
  have HSA : Hid (Seen w w.heap.size .u8 a (xs.take na)) := seen_take hSa na
  have HSB : Hid (Seen w w.heap.size .u16 b (ks.take nb)) := seen_take hSb nb
  obtain ⟨A, hA⟩ : ∃ A, xs.take na = A := ⟨_, rfl⟩
  obtain ⟨K, hK⟩ : ∃ K, ks.take nb = K := ⟨_, rfl⟩
  rw [hA] at HAL HAB HSA
  rw [hK] at HBL HBB HSB
  obtain ⟨T, hTN⟩ : ∃ T, na + 4 = T := ⟨_, rfl⟩
  have HTN := Lib.hid hTN
  have hTi : (T : Int) ≤ 44 := by omega
  have hT0 : (4 : Int) ≤ (T : Int) := by omega
  obtain ⟨Z, hZ⟩ : ∃ Z, 8 * T = Z := ⟨_, rfl⟩
  have hZi : 8 * (T : Int) = (Z : Int) := by omega
  have hZ0 : ¬ (Z : Int) = 0 := by omega
  have HZ := Lib.hid hZ
  have HZP : Hid (0 < Z) := by show _ < _; omega
  have hZ352 : (Z : Int) ≤ 352 := by omega
  have HTT : Hid (HT w) := hT
  have HN3 : Hid (na ≤ 300) := by show _ ≤ _; omega
  have HNA40 : Hid (na ≤ 40) := by show _ ≤ _; omega
  clear hna hnb hA hK hTN hZ hxs hks hla hlb hSa hSb hT
  go_enter Tryd.func6, Tryd.ntmps6
  go_wp2_with (go_at_call 19; ((with_reducible refine (rseal_any a na _ A HAB.out HAL.out HN3.out w.heap.size w HSA.out (Nat.le_refl _)).mono ?_); rintro e w1 ⟨v1, rfl, hown1, hb1⟩; rw [HTN.out] at hown1; obtain ⟨g1, c1, rfl⟩ := own_form hown1 (by have := HTN.out; omega); have HO1 := Lib.hid hown1; have HB1 := Lib.hid hb1; have HSF := Lib.hid (seal_facts A HAB.out na T HAL.out HTN.out); clear hown1 hb1))
  go_loopw [28] (fun iv wr => ∃ j : Nat, ∃ S : List Nat, j ≤ nb ∧ iv = .int .i64 j ∧ S.length = T ∧ (∀ y ∈ S, y < 256) ∧ wr.ownsRow w.heap.size 5 1 (.slice (some ⟨g1, 0, none⟩) T c1) T (S.map fun x : Nat => Value.int .u8 x) ∧ Below w.heap.size w wr) (fun i _ => nb - (intOf i).toNat)
  case atStart => exact ⟨0, _, Nat.zero_le _, rfl, HSF.out.1, HSF.out.2.1, HO1.out, HB1.out⟩
  case round =>
    obtain ⟨j, S, hj, rfl, hSl, hSb, hrow, hbel⟩ := hrel
    have HSL := Lib.hid hSl
    have HSBY : Hid (∀ y ∈ S, y < 256) := hSb
    have HROW := Lib.hid hrow
    have HBE := Lib.hid hbel
    clear hSl hSb hrow hbel
    by_cases hjn : j < nb
    · have hjl : j < K.length := by rw [HBL.out]; exact hjn
      have hjni : (j : Int) < (nb : Int) := by omega
      obtain ⟨bA, off, rfl, _, hcell⟩ := (HSB.out.below HBE.out).at hjl
      obtain ⟨k, hk⟩ : ∃ k, K[j] = k := ⟨_, rfl⟩
      rw [hk] at hcell
      have hk65 : k < 65536 := by rw [← hk]; exact HBB.out _ (List.getElem_mem _)
      have hwk : IntKind.i64.wrap (k : Int) = (k : Int) := by rw [IntKind.wrap_i64]; omega
      obtain ⟨P, hP⟩ : ∃ P, k % Z = P := ⟨_, rfl⟩
      have HPZ : Hid (P < 8 * T) := by show _ < _; rw [HZ.out, ← hP]; exact Nat.mod_lt _ HZP.out
      have hP1 : (k : Int) % (Z : Int) = (P : Int) := by rw [← hP]; exact (Int.natCast_emod _ _).symm
      have hP2 : (k : Int).tmod (Z : Int) = (P : Int) := by rw [Int.tmod_eq_emod_of_nonneg (by omega)]; exact hP1
      have hPi : (P : Int) < 352 := by have := HPZ.out; omega
      obtain ⟨y, z, kd, ke, q1, q2, q3, q4, q5, q6, q7, q8, q9, S1, q10, q11, q12, q13, q14⟩ := flip_facts HROW.out HSL.out HSBY.out rfl HPZ.out
      have hk8 : (k : Int) % 8 = (ke : Int) := by
        have e : P % 8 = k % 8 := by rw [← hP, ← HZ.out, Nat.mod_mul_right_mod]
        omega
      have hk9 : (k : Int).tmod 8 = (ke : Int) := by rw [Int.tmod_eq_emod_of_nonneg (by omega)]; exact hk8
      have HQ11 := Lib.hid q11
      have HQ12 : Hid (∀ z ∈ S1, z < 256) := q12
      have HQ10 := Lib.hid q10
      clear q10 q11 q12 q13 q14 hk hP hjl
      go_wp2
      exact ⟨⟨j + 1, S1, hjn, rfl, HQ11.out, HQ12.out, by rw [← HQ10.out, List.map_set]; exact (HROW.out.stored kd _).1, HBE.out.setCell ((HROW.out.lt g1 rfl).1) _⟩, by simp [intOf]; omega⟩
    · obtain rfl : j = nb := by omega
      clear hj hjn
      go_wp2
      have HG : Hid ((wr.alloc (.cells #[.slice a na ca, .slice (some ⟨g1, 0, none⟩) T c1] 22)).heap[wr.heap.size]? = some (.cells #[.slice a na ca, .slice (some ⟨g1, 0, none⟩) T c1] 22)) := heap_alloc_new wr _
      have HWA : Hid (Below wr.heap.size wr (wr.alloc (.cells #[.slice a na ca, .slice (some ⟨g1, 0, none⟩) T c1] 22))) := (Below.refl _ wr).alloc (Nat.le_refl _) _
      have hgl : wr.heap.size < (wr.alloc (.cells #[.slice a na ca, .slice (some ⟨g1, 0, none⟩) T c1] 22)).heap.size := by simp
      obtain ⟨W2, hW2⟩ : ∃ W2, wr.alloc (.cells #[.slice a na ca, .slice (some ⟨g1, 0, none⟩) T c1] 22) = W2 := ⟨_, rfl⟩
      rw [hW2] at HG HWA hgl ⊢
      clear hW2
      have HGL := Lib.hid hgl
      have HBW2 : Hid (Below w.heap.size w W2) := HBE.out.trans (HWA.out.mono HBE.out.size)
      have HA2 : Hid (Seen W2 W2.heap.size .u8 a A) := (HSA.out.below HBW2.out).more HBW2.out.size
      have HS2 : Hid (Seen W2 W2.heap.size .u8 (some ⟨g1, 0, none⟩) S) := ((Seen.of_own HROW.out).below HWA.out).more HWA.out.size
      obtain ⟨gC, hgC⟩ : ∃ gC, wr.heap.size = gC := ⟨_, rfl⟩
      rw [hgC] at HG HGL ⊢
      have HT44 : Hid (na ≤ 44 ∧ T ≤ 44) := by constructor <;> omega
      clear hgC hgl
      go_loopw [52] (fun iv wq => ∃ q : Nat, q ≤ 2 ∧ iv = .int .i64 q ∧ Below W2.heap.size W2 wq) (fun i _ => 2 - (intOf i).toNat)
      case atStart => exact ⟨0, by omega, rfl, Below.refl _ _⟩
      case round =>
        obtain ⟨q, hq, rfl, hbq⟩ := hrel
        have HBQ := Lib.hid hbq
        clear hbq
        have HBR : Hid (Below w.heap.size w wr) := HBW2.out.trans (HBQ.out.mono HBW2.out.size)
        by_cases hq2 : q < 2
        · have hq2i : (q : Int) < 2 := by omega
          obtain ⟨A', l, cq, zs, hcell, hzl, hzb, hSz, hl44⟩ : ∃ (A' : Option Addr) (l cq : Nat) (zs : List Nat), wr.cell? ⟨gC, q, none⟩ = some (.slice A' l cq) ∧ zs.length = l ∧ (∀ y ∈ zs, y < 256) ∧ Seen W2 W2.heap.size .u8 A' zs ∧ l ≤ 44 := by
            have hc : wr.heap[gC]? = some (Obj.cells #[Value.slice a na ca, Value.slice (some { block := g1, off := 0 }) T c1] 22) := (HBQ.out.block _ HGL.out).trans HG.out
            have : q = 0 ∨ q = 1 := by omega
            rcases this with rfl | rfl
            · exact ⟨a, na, ca, A, by unfold World.cell?; rw [hc]; rfl, HAL.out, HAB.out, HA2.out, HT44.out.1⟩
            · exact ⟨_, T, c1, S, by unfold World.cell?; rw [hc]; rfl, HSL.out, HSBY.out, HS2.out, HT44.out.2⟩
          obtain ⟨k, f, hG, hf6⟩ := outG_ex l (Crc.upd 0 zs)
          have hwf : IntKind.i64.wrap (f : Int) = (f : Int) := by rw [IntKind.wrap_i64]; omega
          obtain ⟨t, ht⟩ : ∃ t, Str zs = t := ⟨_, rfl⟩
          have HTS := Lib.hid ht
          have HOG : Hid (OutG l (Crc.upd 0 zs) k f) := hG
          have HZL := Lib.hid hzl
          have HZB : Hid (∀ y ∈ zs, y < 256) := hzb
          have HSZ : Hid (Seen W2 W2.heap.size .u8 A' zs) := hSz
          have HL100 : Hid (l ≤ 100) := by show _ ≤ _; omega
          have h0l : Hid (0 + l ≤ 1000000) := by show _ ≤ _; omega
          have hli : (l : Int) ≤ 44 := by omega
          have HE := Lib.hid (own_empty wr)
          have HA : Hid (Below wr.heap.size wr (wr.alloc (.cells #[] 5))) := (Below.refl _ wr).alloc (Nat.le_refl _) _
          clear hzl hzb hSz hG ht hl44
          go_wp2_with (first
            | (at_builtin; refine app_bytes _ rfl _ _ rfl wr.heap.size _ _ [] rfl HE.out _ _ _ zs HZL.out rfl W2.heap.size (HSZ.out.below (HBQ.out.trans (HA.out.mono HBQ.out.size))) h0l.out HA.out.size ?_; intro v2 w2 hown2 hb2; rw [Nat.zero_add, List.nil_append] at hown2; have HB2 := Lib.hid (HA.out.trans hb2); obtain ⟨A3, c3, rfl, hS3, _, _, _⟩ := own_slice hown2; have HS3 : Hid (Seen w2 w2.heap.size .u8 A3 zs) := hS3; have HQ2 : Hid (Below W2.heap.size W2 w2) := HBQ.out.trans (HB2.out.mono HBQ.out.size); have HW2 : Hid (Below w.heap.size w w2) := HBR.out.trans (HB2.out.mono HBR.out.size); clear hown2 hb2 hS3)
            | (go_at_call 20; ((with_reducible refine (find_out A3 l _ zs HZB.out HZL.out HL100.out w2 w2.heap.size HS3.out (Nat.le_refl _) _ k f rfl HOG.out (HTT.out.below HW2.out)).mono ?_); rintro e w3 ⟨rfl, hb3⟩; have HB23 := Lib.hid hb3; have HQ3 : Hid (Below W2.heap.size W2 w3) := HQ2.out.trans (hb3.mono HQ2.out.size); have HW3 : Hid (Below w.heap.size w w3) := HW2.out.trans (hb3.mono HW2.out.size); clear hb3))
            | (go_at_call 21; ((with_reducible refine (rfind_out A' l cq zs HZB.out HZL.out HL100.out w3 W2.heap.size (HSZ.out.below HQ3.out) HQ3.out.size _ k f rfl HOG.out).mono ?_); rintro e w4 ⟨rfl, hb4⟩; have HB24 := Lib.hid (HB23.out.trans (hb4.mono HB23.out.size)); have HQ4 : Hid (Below W2.heap.size W2 w4) := HQ3.out.trans (hb4.mono HQ3.out.size); have hv1 := conv_any (c := c3) (HS3.out.below HB24.out) HZL.out t HTS.out; have hv2 := conv_any (c := cq) (HSZ.out.below HQ4.out) HZL.out t HTS.out; clear hb4)))
          exact ⟨⟨q + 1, hq2, rfl, HQ4.out⟩, by simp [intOf]; omega⟩
        · obtain rfl : q = 2 := by omega
          go_wp2_with (go_at_call 15; ((with_reducible refine (awake_any _ (HTT.out.below HBR.out)).mono ?_); rintro e w9 ⟨rfl, hb9⟩))
          go_ret
          exact ⟨rfl, HBR.out.trans (hb9.mono HBR.out.size)⟩

theorem row_u16 {w : World} {a : Option Addr} {len cap : Nat} {zs : List Int} (h : IsRow .u16 w a len cap zs) :
    ∃ xs : List Nat, xs.length = len ∧ Seen w w.heap.size .u16 a xs ∧ (∀ x ∈ xs, x < 65536) ∧ len ≤ cap ∧ cap ≤ maxLen :=
  row_seen 65536 (fun n hn => by have := bounds_u16 hn; omega) h
theorem searches_walk (a0 : Option Addr) (len0 cap0 : Nat) (z0 : List Int) (a1 : Option Addr) (len1 cap1 : Nat) (z1 : List Int) (w : World) (w0 : IsRow .u8 w a0 len0 cap0 z0) (w1 : IsRow .u16 w a1 len1 cap1 z1) (wx : HT w) :
    Calls Tryd.prog 6 #[.slice a0 len0 cap0, .slice a1 len1 cap1] w fun e w' => e = .returned (.bool true) ∧ Below w.heap.size w w' := by
  obtain ⟨xs, hn, hS, hx, h1, h2⟩ := row_u8 w0
  obtain ⟨ks, hn', hS', hx', h1', h2'⟩ := row_u16 w1
  exact searches_law a0 len0 cap0 xs hx hn h1 h2 a1 len1 cap1 ks hx' hn' h1' h2' w hS hS' wx

end Go.Proofs.YtoecddkglenigaaDoor
