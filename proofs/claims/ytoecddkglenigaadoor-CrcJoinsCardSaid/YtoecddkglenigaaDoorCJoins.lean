/-
  The walk of CrcJoins.
-/
import Derived.Test.YtoecddkglenigaaDoorConcat
import Derived.Test.YtoecddkglenigaaDoorCLinear
import Derived.Deep.QuietTactic
import Derived.BigQuiet
namespace Go.Proofs.YtoecddkglenigaaDoor
open Go.RowKit
set_option linter.unusedVariables false

set_option maxRecDepth 100000 in
set_option maxHeartbeats 4000000 in
theorem joins_law (a b c : Option Addr) (la ca lb cb lc cc : Nat) (xs ys zs : List Nat) (hxs : ∀ y ∈ xs, y < 256) (hys : ∀ y ∈ ys, y < 256) (hzs : ∀ y ∈ zs, y < 256) (hla : xs.length = la) (hlb : ys.length = lb) (hlc : zs.length = lc)
    (h1 : la ≤ ca) (h2 : lb ≤ cb) (h3 : lc ≤ cc) (m1 : ca ≤ maxLen) (m2 : cb ≤ maxLen) (m3 : cc ≤ maxLen) (m n : Nat) (hm : m < 2 ^ 32) (hn : n < 2 ^ 32) (w : World) (hSa : Seen w w.heap.size .u8 a xs) (hSb : Seen w w.heap.size .u8 b ys) (hSc : Seen w w.heap.size .u8 c zs) (hT : HT w) :
    Calls Tryd.prog 12 #[.slice a la ca, .slice b lb cb, .slice c lc cc, .int .u32 m, .int .u32 n] w fun e w' => e = .returned (.bool true) ∧ Below w.heap.size w w' := by
  unfold maxLen at m1 m2 m3
  obtain ⟨na, hna⟩ : ∃ k : Nat, min la 300 = k := ⟨_, rfl⟩
  obtain ⟨nb, hnb⟩ : ∃ k : Nat, min lb 300 = k := ⟨_, rfl⟩
  obtain ⟨nc, hnc⟩ : ∃ k : Nat, min lc 300 = k := ⟨_, rfl⟩
  have ia : min (la : Int) 300 = (na : Int) := by omega
  have ib : min (lb : Int) 300 = (nb : Int) := by omega
  have ic : min (lc : Int) 300 = (nc : Int) := by omega
  have a1 : (na : Int) ≤ 300 := by omega
  have b1 : (nb : Int) ≤ 300 := by omega
  have c1 : (nc : Int) ≤ 300 := by omega
  have a2 : (na : Int) ≤ (ca : Int) := by omega
  have b2 : (nb : Int) ≤ (cb : Int) := by omega
  have c2 : (nc : Int) ≤ (cc : Int) := by omega
  have a3 : na ≤ ca := by omega
  have b3 : nb ≤ cb := by omega
  have c3 : nc ≤ cc := by omega
  have HAL : Hid ((xs.take na).length = na) := by show _ = _; rw [List.length_take, hla]; omega
  have HBL : Hid ((ys.take nb).length = nb) := by show _ = _; rw [List.length_take, hlb]; omega
  have HCL : Hid ((zs.take nc).length = nc) := by show _ = _; rw [List.length_take, hlc]; omega
  have HAB : Hid (∀ y ∈ xs.take na, y < 256) := fun y hy => hxs y (List.mem_of_mem_take hy)
  have HBB : Hid (∀ y ∈ ys.take nb, y < 256) := fun y hy => hys y (List.mem_of_mem_take hy)
  have HCB : Hid (∀ y ∈ zs.take nc, y < 256) := fun y hy => hzs y (List.mem_of_mem_take hy)
  have HSA : Hid (Seen w w.heap.size .u8 a (xs.take na)) := seen_take hSa na
  have HSB : Hid (Seen w w.heap.size .u8 b (ys.take nb)) := seen_take hSb nb
  have HSC : Hid (Seen w w.heap.size .u8 c (zs.take nc)) := seen_take hSc nc
  obtain ⟨A, hA⟩ : ∃ A, xs.take na = A := ⟨_, rfl⟩
  obtain ⟨B, hB⟩ : ∃ B, ys.take nb = B := ⟨_, rfl⟩
  obtain ⟨C, hC⟩ : ∃ C, zs.take nc = C := ⟨_, rfl⟩
  rw [hA] at HAL HAB HSA
  rw [hB] at HBL HBB HSB
  rw [hC] at HCL HCB HSC
  have HTT : Hid (HT w) := hT
  obtain ⟨sa, hsa⟩ : ∃ s, Crc.upd 0 A = s := ⟨_, rfl⟩
  obtain ⟨sb, hsb⟩ : ∃ s, Crc.upd 0 B = s := ⟨_, rfl⟩
  obtain ⟨sc, hsc⟩ : ∃ s, Crc.upd 0 C = s := ⟨_, rfl⟩
  obtain ⟨x, hx⟩ : ∃ s, Crc.upd 0 (A ++ B) = s := ⟨_, rfl⟩
  obtain ⟨y, hy⟩ : ∃ s, Crc.upd 0 (A ++ B ++ C) = s := ⟨_, rfl⟩
  obtain ⟨bc, hbc⟩ : ∃ s, Crc.upd 0 (B ++ C) = s := ⟨_, rfl⟩
  have hABb : ∀ y ∈ A ++ B, y < 256 := fun y hy => by rcases List.mem_append.1 hy with h | h; exact HAB.out y h; exact HBB.out y h
  have hABCb : ∀ y ∈ A ++ B ++ C, y < 256 := fun y hy => by rcases List.mem_append.1 hy with h | h; exact hABb y h; exact HCB.out y h
  have hBCb : ∀ y ∈ B ++ C, y < 256 := fun y hy => by rcases List.mem_append.1 hy with h | h; exact HBB.out y h; exact HCB.out y h
  have LSA : Hid (sa < 2 ^ 32) := by show _ < _; rw [← hsa]; exact Crc.upd_lt HAB.out (by decide)
  have LSB : Hid (sb < 2 ^ 32) := by show _ < _; rw [← hsb]; exact Crc.upd_lt HBB.out (by decide)
  have LSC : Hid (sc < 2 ^ 32) := by show _ < _; rw [← hsc]; exact Crc.upd_lt HCB.out (by decide)
  have LX : Hid (x < 2 ^ 32) := by show _ < _; rw [← hx]; exact Crc.upd_lt hABb (by decide)
  have LBC : Hid (bc < 2 ^ 32) := by show _ < _; rw [← hbc]; exact Crc.upd_lt hBCb (by decide)
  have HABB : Hid (∀ y ∈ A ++ B, y < 256) := hABb
  have HABCB : Hid (∀ y ∈ A ++ B ++ C, y < 256) := hABCb
  have J1 : Hid (Crc.sts (8 * nb) sa ^^^ sb = x) := by show _ = _; have := Crc.upd_join A B 0; rw [HBL.out, hsa, hsb, hx] at this; exact this.symm
  have J2 : Hid (Crc.sts (8 * nc) x ^^^ sc = y) := by show _ = _; have := Crc.upd_join (A ++ B) C 0; rw [HCL.out, hx, hsc, hy] at this; exact this.symm
  have J3 : Hid (Crc.sts (8 * nc) sb ^^^ sc = bc) := by show _ = _; have := Crc.upd_join B C 0; rw [HCL.out, hsb, hsc, hbc] at this; exact this.symm
  obtain ⟨nbc, hnbc⟩ : ∃ k, nb + nc = k := ⟨_, rfl⟩
  have ibc : (nb : Int) + (nc : Int) = (nbc : Int) := by omega
  have J4 : Hid (Crc.sts (8 * nbc) sa ^^^ bc = y) := by
    show _ = _
    have := Crc.upd_join A (B ++ C) 0
    rw [List.length_append, HBL.out, HCL.out, hnbc, hsa, hbc, ← List.append_assoc, hy] at this
    exact this.symm
  have J5 : Hid (Crc.upd sa B = x) := by show _ = _; rw [← hsa, ← Crc.upd_append]; exact hx
  have nb16 : Hid (nb ≤ 16777216) := by show _ ≤ _; omega
  have nc16 : Hid (nc ≤ 16777216) := by show _ ≤ _; omega
  have nbc16 : Hid (nbc ≤ 16777216) := by show _ ≤ _; omega
  have hnbc3 : (nbc : Int) ≤ 600 := by omega
  obtain ⟨nab, hnab⟩ : ∃ k, na + nb = k := ⟨_, rfl⟩
  have hnab6 : (nab : Int) ≤ 600 := by omega
  have HNABE := Lib.hid hnab
  have HABL : Hid ((A ++ B).length = nab) := by show _ = _; rw [List.length_append, HAL.out, HBL.out, hnab]
  have HABCL : Hid ((A ++ B ++ C).length = nab + nc) := by show _ = _; rw [List.length_append, HABL.out, HCL.out]
  have HNAB : Hid (nab ≤ maxLen) := by show nab ≤ maxLen; unfold maxLen; omega
  have HNABC : Hid (nab + nc ≤ maxLen) := by show nab + nc ≤ maxLen; unfold maxLen; omega
  have HNAB5 : Hid (nab ≤ 100000) := by show nab ≤ _; omega
  have HSAM := Lib.hid hsa
  have HSBM := Lib.hid hsb
  have HSCM := Lib.hid hsc
  have HXM := Lib.hid hx
  have HYM := Lib.hid hy
  have HNA : Hid (na ≤ maxLen) := by show na ≤ maxLen; unfold maxLen; omega
  have HNB : Hid (nb ≤ maxLen) := by show nb ≤ maxLen; unfold maxLen; omega
  have HNC : Hid (nc ≤ maxLen) := by show nc ≤ maxLen; unfold maxLen; omega
  have HNA5 : Hid (na ≤ 100000) := by show na ≤ _; omega
  have HNB5 : Hid (nb ≤ 100000) := by show nb ≤ _; omega
  have HNC5 : Hid (nc ≤ 100000) := by show nc ≤ _; omega
  obtain ⟨k, hk⟩ : ∃ k, m % 8388609 = k := ⟨_, rfl⟩
  obtain ⟨l, hl⟩ : ∃ l, n % 8388609 = l := ⟨_, rfl⟩
  have hki : (m : Int) % 8388609 = (k : Int) := by omega
  have hli : (n : Int) % 8388609 = (l : Int) := by omega
  have hwm : IntKind.i64.wrap (m : Int) = (m : Int) := by rw [IntKind.wrap_i64]; omega
  have hwn : IntKind.i64.wrap (n : Int) = (n : Int) := by rw [IntKind.wrap_i64]; omega
  obtain ⟨kl, hkl⟩ : ∃ kl, k + l = kl := ⟨_, rfl⟩
  have hkli : (k : Int) + (l : Int) = (kl : Int) := by omega
  have hk8 : (k : Int) ≤ 8388608 := by omega
  have hl8 : (l : Int) ≤ 8388608 := by omega
  have hkl8 : (kl : Int) ≤ 16777216 := by omega
  have K16 : Hid (k ≤ 16777216) := by show _ ≤ _; omega
  have L16 : Hid (l ≤ 16777216) := by show _ ≤ _; omega
  have KL16 : Hid (kl ≤ 16777216) := by show _ ≤ _; omega
  obtain ⟨p, hp⟩ : ∃ p, Crc.sts (8 * k) sa = p := ⟨_, rfl⟩
  obtain ⟨q, hq⟩ : ∃ q, Crc.sts (8 * l) p = q := ⟨_, rfl⟩
  have LP : Hid (p < 2 ^ 32) := by show _ < _; rw [← hp]; exact Crc.sts_lt _ LSA.out
  have HP := Lib.hid hp
  have HQ := Lib.hid hq
  have HR : Hid (Crc.sts (8 * kl) sa = q) := by show _ = _; rw [← hq, ← hp, ← Crc.sts_add, show 8 * l + 8 * k = 8 * kl by omega]
  clear hnab hna hnb hnc hA hB hC hsa hsb hsc hx hy hbc hABb hABCb hBCb hnbc hk hl hkl hp hq hxs hys hzs hla hlb hlc hSa hSb hSc hT
  go_enter Tryd.func12, Tryd.ntmps12
  go_wp2
  go_quiet (fail)
  obtain ⟨W1, hW1⟩ : ∃ W1, w.drewN nq = W1 := ⟨_, rfl⟩
  have HB1 : Hid (Below w.heap.size w W1) := by show Below _ _ _; rw [← hW1]; exact below_drewN (Below.refl _ w) _
  rw [hW1]
  clear hW1
  have HTW1 : Hid (HT W1) := HTT.out.below HB1.out
  go_wp2_with (first
    | (go_at_call 33; ((with_reducible refine (concat_any a na _ A HAL.out b nb _ B HBL.out HNA5.out HNB5.out w.heap.size _ _ (heap_alloc_new _ _) (HSA.out.below (HB1.out.alloc HB1.out.size _)) (HSB.out.below (HB1.out.alloc HB1.out.size _)) (HB1.out.alloc HB1.out.size _).size).mono ?_); rintro e w2 ⟨v2, rfl, hown2, hb2⟩; have HB2 := Lib.hid ((HB1.out.alloc HB1.out.size _).trans (hb2.mono (HB1.out.alloc HB1.out.size _).size)); have HTW2 : Hid (HT w2) := HTT.out.below HB2.out; rw [HNABE.out] at hown2; obtain ⟨ab, abc, rfl, hSab, _, _, _⟩ := own_slice hown2; have HSAB : Hid (Seen w2 w2.heap.size .u8 ab (A ++ B)) := hSab; clear hown2 hb2 hSab))
    | (go_at_call 32; ((with_reducible refine (sum_any a na _ A HAB.out HAL.out HNA.out w2 _ (HSA.out.below HB2.out) (HTT.out.below HB2.out) sa HSAM.out).mono ?_); rintro e w0 ⟨rfl, rfl⟩))
    | (go_at_call 32; ((with_reducible refine (sum_any b nb _ B HBB.out HBL.out HNB.out w2 _ (HSB.out.below HB2.out) (HTT.out.below HB2.out) sb HSBM.out).mono ?_); rintro e w0 ⟨rfl, rfl⟩))
    | (go_at_call 32; ((with_reducible refine (sum_any c nc _ C HCB.out HCL.out HNC.out w2 _ (HSC.out.below HB2.out) (HTT.out.below HB2.out) sc HSCM.out).mono ?_); rintro e w0 ⟨rfl, rfl⟩))
    | (go_at_call 32; ((with_reducible refine (sum_any a na _ A HAB.out HAL.out HNA.out w3 _ (HSA.out.below HB3.out) (HTT.out.below HB3.out) sa HSAM.out).mono ?_); rintro e w0 ⟨rfl, rfl⟩))
    | (go_at_call 32; ((with_reducible refine (sum_any b nb _ B HBB.out HBL.out HNB.out w3 _ (HSB.out.below HB3.out) (HTT.out.below HB3.out) sb HSBM.out).mono ?_); rintro e w0 ⟨rfl, rfl⟩))
    | (go_at_call 32; ((with_reducible refine (sum_any c nc _ C HCB.out HCL.out HNC.out w3 _ (HSC.out.below HB3.out) (HTT.out.below HB3.out) sc HSCM.out).mono ?_); rintro e w0 ⟨rfl, rfl⟩))
    | (go_at_call 32; ((with_reducible refine (sum_any a na _ A HAB.out HAL.out HNA.out w4 _ (HSA.out.below HB4.out) (HTT.out.below HB4.out) sa HSAM.out).mono ?_); rintro e w0 ⟨rfl, rfl⟩))
    | (go_at_call 32; ((with_reducible refine (sum_any b nb _ B HBB.out HBL.out HNB.out w4 _ (HSB.out.below HB4.out) (HTT.out.below HB4.out) sb HSBM.out).mono ?_); rintro e w0 ⟨rfl, rfl⟩))
    | (go_at_call 32; ((with_reducible refine (sum_any c nc _ C HCB.out HCL.out HNC.out w4 _ (HSC.out.below HB4.out) (HTT.out.below HB4.out) sc HSCM.out).mono ?_); rintro e w0 ⟨rfl, rfl⟩))
    | (go_at_call 32; ((with_reducible refine (sum_any a na _ A HAB.out HAL.out HNA.out w5 _ (HSA.out.below HB5.out) (HTT.out.below HB5.out) sa HSAM.out).mono ?_); rintro e w0 ⟨rfl, rfl⟩))
    | (go_at_call 32; ((with_reducible refine (sum_any b nb _ B HBB.out HBL.out HNB.out w5 _ (HSB.out.below HB5.out) (HTT.out.below HB5.out) sb HSBM.out).mono ?_); rintro e w0 ⟨rfl, rfl⟩))
    | (go_at_call 32; ((with_reducible refine (sum_any c nc _ C HCB.out HCL.out HNC.out w5 _ (HSC.out.below HB5.out) (HTT.out.below HB5.out) sc HSCM.out).mono ?_); rintro e w0 ⟨rfl, rfl⟩))
    | (go_at_call 32; ((with_reducible refine (sum_any a na _ A HAB.out HAL.out HNA.out w6 _ (HSA.out.below HB6.out) (HTT.out.below HB6.out) sa HSAM.out).mono ?_); rintro e w0 ⟨rfl, rfl⟩))
    | (go_at_call 32; ((with_reducible refine (sum_any b nb _ B HBB.out HBL.out HNB.out w6 _ (HSB.out.below HB6.out) (HTT.out.below HB6.out) sb HSBM.out).mono ?_); rintro e w0 ⟨rfl, rfl⟩))
    | (go_at_call 32; ((with_reducible refine (sum_any c nc _ C HCB.out HCL.out HNC.out w6 _ (HSC.out.below HB6.out) (HTT.out.below HB6.out) sc HSCM.out).mono ?_); rintro e w0 ⟨rfl, rfl⟩))
    | (go_at_call 32; ((with_reducible refine (sum_any a na _ A HAB.out HAL.out HNA.out w7 _ (HSA.out.below HB7.out) (HTT.out.below HB7.out) sa HSAM.out).mono ?_); rintro e w0 ⟨rfl, rfl⟩))
    | (go_at_call 32; ((with_reducible refine (sum_any b nb _ B HBB.out HBL.out HNB.out w7 _ (HSB.out.below HB7.out) (HTT.out.below HB7.out) sb HSBM.out).mono ?_); rintro e w0 ⟨rfl, rfl⟩))
    | (go_at_call 32; ((with_reducible refine (sum_any c nc _ C HCB.out HCL.out HNC.out w7 _ (HSC.out.below HB7.out) (HTT.out.below HB7.out) sc HSCM.out).mono ?_); rintro e w0 ⟨rfl, rfl⟩))
    | (go_at_call 32; ((with_reducible refine (sum_any a na _ A HAB.out HAL.out HNA.out w8 _ (HSA.out.below HB8.out) (HTT.out.below HB8.out) sa HSAM.out).mono ?_); rintro e w0 ⟨rfl, rfl⟩))
    | (go_at_call 32; ((with_reducible refine (sum_any a na _ A HAB.out HAL.out HNA.out w9 _ (HSA.out.below HB9.out) (HTT.out.below HB9.out) sa HSAM.out).mono ?_); rintro e w0 ⟨rfl, rfl⟩))
    | (go_at_call 32; ((with_reducible refine (sum_any a na _ A HAB.out HAL.out HNA.out w10 _ (HSA.out.below HB10.out) (HTT.out.below HB10.out) sa HSAM.out).mono ?_); rintro e w0 ⟨rfl, rfl⟩))
    | (go_at_call 34; ((with_reducible refine (join_any sa sb nb LSA.out LSB.out nb16.out x J1.out w2).mono ?_); rintro e w3 ⟨rfl, hb3⟩; have HB23 := Lib.hid hb3; have HB3 := Lib.hid (HB2.out.trans (hb3.mono HB2.out.size)); clear hb3))
    | (go_at_call 34; ((with_reducible refine (join_any x sc nc LX.out LSC.out nc16.out y J2.out w3).mono ?_); rintro e w4 ⟨rfl, hb4⟩; have HB24 := Lib.hid (HB23.out.trans (hb4.mono HB23.out.size)); have HB4 := Lib.hid (HB3.out.trans (hb4.mono HB3.out.size)); clear hb4))
    | (go_at_call 34; ((with_reducible refine (join_any sb sc nc LSB.out LSC.out nc16.out bc J3.out w4).mono ?_); rintro e w5 ⟨rfl, hb5⟩; have HB25 := Lib.hid (HB24.out.trans (hb5.mono HB24.out.size)); have HB5 := Lib.hid (HB4.out.trans (hb5.mono HB4.out.size)); clear hb5))
    | (go_at_call 34; ((with_reducible refine (join_any sa bc nbc LSA.out LBC.out nbc16.out y J4.out w5).mono ?_); rintro e w6 ⟨rfl, hb6⟩; have HB26 := Lib.hid (HB25.out.trans (hb6.mono HB25.out.size)); have HB6 := Lib.hid (HB5.out.trans (hb6.mono HB5.out.size)); clear hb6))
    | (go_at_call 32; ((with_reducible refine (sum_any ab _ _ (A ++ B) HABB.out HABL.out HNAB.out w6 _ (HSAB.out.below HB26.out) (HTT.out.below HB6.out) x HXM.out).mono ?_); rintro e w0 ⟨rfl, rfl⟩))
    | (go_at_call 35; ((with_reducible refine (update_any b nb _ B HBB.out HBL.out HNB.out w6 _ (HSB.out.below HB6.out) (HTT.out.below HB6.out) sa LSA.out x J5.out).mono ?_); rintro e w0 ⟨rfl, rfl⟩))
    | (go_at_call 33; ((with_reducible refine (concat_any ab _ _ (A ++ B) HABL.out c nc _ C HCL.out HNAB5.out HNC5.out w2.heap.size _ _ (heap_alloc_new w6 _) (HSAB.out.below (HB26.out.alloc HB26.out.size _)) (((HSC.out.below HB2.out).more HB2.out.size).below (HB26.out.alloc HB26.out.size _)) (HB26.out.alloc HB26.out.size _).size).mono ?_); rintro e w7 ⟨v7, rfl, hown7, hb7⟩; have HB7 := Lib.hid ((HB6.out.alloc HB6.out.size _).trans (hb7.mono (HB6.out.alloc HB6.out.size _).size)); obtain ⟨abd, abdc, rfl, hSabd, _, _, _⟩ := own_slice hown7; have HSABC : Hid (Seen w7 w7.heap.size .u8 abd (A ++ B ++ C)) := hSabd; clear hown7 hb7 hSabd))
    | (go_at_call 32; ((with_reducible refine (sum_any abd _ _ (A ++ B ++ C) HABCB.out HABCL.out HNABC.out w7 _ HSABC.out (HTT.out.below HB7.out) y HYM.out).mono ?_); rintro e w0 ⟨rfl, rfl⟩))
    | (go_at_call 22; ((with_reducible refine (shift_any sa k LSA.out K16.out p HP.out w7).mono ?_); rintro e w8 ⟨rfl, hb8⟩; have HB8 := Lib.hid (HB7.out.trans (hb8.mono HB7.out.size)); clear hb8))
    | (go_at_call 22; ((with_reducible refine (shift_any p l LP.out L16.out q HQ.out w8).mono ?_); rintro e w9 ⟨rfl, hb9⟩; have HB9 := Lib.hid (HB8.out.trans (hb9.mono HB8.out.size)); clear hb9))
    | (go_at_call 22; ((with_reducible refine (shift_any sa kl LSA.out KL16.out q HR.out w9).mono ?_); rintro e w10 ⟨rfl, hb10⟩; have HB10 := Lib.hid (HB9.out.trans (hb10.mono HB9.out.size)); clear hb10))
    | (go_at_call 15; ((with_reducible refine (awake_any _ (HTT.out.below HB10.out)).mono ?_); rintro e w11 ⟨rfl, hb11⟩)))
  go_ret
  exact ⟨rfl, HB10.out.trans (hb11.mono HB10.out.size)⟩

theorem joins_walk (a0 : Option Addr) (len0 cap0 : Nat) (z0 : List Int) (a1 : Option Addr) (len1 cap1 : Nat) (z1 : List Int) (a2 : Option Addr) (len2 cap2 : Nat) (z2 : List Int) (a3 a4 : Int) (w : World) (w0 : IsRow .u8 w a0 len0 cap0 z0) (w1 : IsRow .u8 w a1 len1 cap1 z1) (w2 : IsRow .u8 w a2 len2 cap2 z2) (w3 : (Lit.int .u32 a3).wf = true) (w4 : (Lit.int .u32 a4).wf = true) (wx : HT w) :
    Calls Tryd.prog 12 #[.slice a0 len0 cap0, .slice a1 len1 cap1, .slice a2 len2 cap2, .int .u32 a3, .int .u32 a4] w fun e w' => e = .returned (.bool true) ∧ Below w.heap.size w w' := by
  obtain ⟨xs, hn, hS, hx, h1, h2⟩ := row_u8 w0
  obtain ⟨ys, hn', hS', hx', h1', h2'⟩ := row_u8 w1
  obtain ⟨zs, hn2, hS2, hx2, h12, h22⟩ := row_u8 w2
  have b3 := bounds_u32 w3
  have b4 := bounds_u32 w4
  obtain ⟨x3, rfl⟩ : ∃ x : Nat, a3 = (x : Int) := ⟨a3.toNat, by omega⟩
  obtain ⟨x4, rfl⟩ : ∃ x : Nat, a4 = (x : Int) := ⟨a4.toNat, by omega⟩
  exact joins_law a0 a1 a2 len0 cap0 len1 cap1 len2 cap2 xs ys zs hx hx' hx2 hn hn' hn2 h1 h1' h12 h2 h2' h22 x3 x4 (by omega) (by omega) w hS hS' hS2 wx

end Go.Proofs.YtoecddkglenigaaDoor
