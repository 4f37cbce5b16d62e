/-
  The walk of BitsRuns.
-/
import Derived.Test.YtkochcolmkgkgaaDoorSetAt
import Derived.Test.YtkochcolmkgkgaaDoorRunsP
import Derived.Deep.RegionHeld3
namespace Go.Proofs.YtkochcolmkgkgaaDoor
open Go.RowKit
set_option linter.unusedVariables false

theorem runs_at {W : World} {b N q c : Nat} {a : Option Addr} {zs : List Nat} (h : SetAt W b N q a c zs) (hT : HT W) (l : List (Nat × Nat)) (hl : Bm.runsL (Bm.ml (Bm.val zs) N) = l) (n : Nat) (hn : l.length = n) :
    Calls Tryd.prog 22 #[.agg #[.int .i64 N, .slice a q c]] W fun e w' => ∃ av ca, e = .returned (.slice av n ca) ∧ SeenP w' w'.heap.size av l ∧ n ≤ ca ∧ ca ≤ maxLen ∧ Below W.heap.size W w' := by
  subst hl; subst hn
  refine (runs_any N a q c zs h.2.2.1 h.2.2.2.2.2 W W.heap.size h.2.1 hT hT.pos (Nat.le_refl _)).mono ?_
  rintro e w' ⟨⟨v, rfl, hr⟩, hb⟩
  obtain ⟨av, ca, rfl, h1, _, h3, h4⟩ := own_slice2 hr
  exact ⟨av, ca, rfl, h1, h3, h4, hb⟩

theorem headP {w : World} {B : Nat} {a : Option Addr} {t e : Nat} {l : List (Nat × Nat)} (h : SeenP w B a ((t, e) :: l)) : ∃ g o, a = some ⟨g, o, none⟩ ∧ g < B ∧ w.cell? ⟨g, o, none⟩ = some (.int .i64 t) ∧ w.cell? ⟨g, o + 1, none⟩ = some (.int .i64 e) ∧ SeenP w B (some ⟨g, o + 2, none⟩) l := by
  obtain ⟨g, o, rfl, hg, h1, h2⟩ := h 0 (t, e) rfl
  simp only [Nat.zero_mul, Nat.add_zero] at h1 h2
  refine ⟨g, o, rfl, hg, h1, h2, fun i p hp => ?_⟩
  obtain ⟨g', o', he, _, h3, h4⟩ := h (i + 1) p (by simpa using hp)
  injection he with he
  injection he with he1 he2
  subst he1; subst he2
  exact ⟨g, o + 2, rfl, hg, by rw [show o + 2 + i * 2 = o + (i + 1) * 2 by omega]; exact h3, by rw [show o + 2 + i * 2 + 1 = o + (i + 1) * 2 + 1 by omega]; exact h4⟩
theorem ext_len (l : List (Nat × Nat)) (n : Nat) : (Bm.ext l n).length ≤ l.length + 1 := by
  unfold Bm.ext; (repeat' split) <;> simp
theorem runs_len (V : Nat) : ∀ n, (Bm.runsL (Bm.ml V n)).length ≤ n
  | 0 => Nat.le_refl _
  | n + 1 => by
    rw [Bm.ml_succ]
    have h := runs_len V n
    by_cases hb : V.testBit n = true
    · rw [if_pos hb, Bm.runsL_snoc]; have := ext_len (Bm.runsL (Bm.ml V n)) n; omega
    · rw [if_neg hb, List.append_nil]; omega
/-- Block b is a box with a run. -/
def RunBox (w : World) (b : Nat) (u v : Value) : Prop := w.heap[b]? = some (.cells #[u, v] 50)
theorem RunBox.lt {w : World} {b : Nat} {u v : Value} (h : RunBox w b u v) : b < w.heap.size := (Array.getElem?_eq_some_iff.1 h).1
theorem RunBox.new (w : World) (u v : Value) : RunBox (w.alloc (.cells #[u, v] 50)) w.heap.size u v := heap_alloc_new w _
theorem RunBox.keep {w w' : World} {b : Nat} {u v : Value} (h : RunBox w b u v) (hb : Below w.heap.size w w') : RunBox w' b u v := (hb.block b h.lt).trans h
theorem RunBox.cells {w : World} {b : Nat} {u v : Value} (h : RunBox w b u v) : w.cell? ⟨b, 0, none⟩ = some u ∧ w.cell? ⟨b, 1, none⟩ = some v ∧ w.frozen? ⟨b, 0, none⟩ = false ∧ w.frozen? ⟨b, 1, none⟩ = false := by
  unfold RunBox at h
  refine ⟨?_, ?_, ?_, ?_⟩
  · unfold World.cell?; rw [h]; rfl
  · unfold World.cell?; rw [h]; rfl
  · unfold World.frozen?; rw [h]; rfl
  · unfold World.frozen?; rw [h]; rfl
theorem RunBox.set {w : World} {b : Nat} {u v : Value} (h : RunBox w b u v) (u' v' : Value) : RunBox ((w.setCell ⟨b, 0, none⟩ u').setCell ⟨b, 1, none⟩ v').drew b u' v' := by
  have h0 : (w.setCell ⟨b, 0, none⟩ u').heap[b]? = some (.cells #[u', v] 50) := by
    unfold RunBox at h
    unfold World.setCell
    show (Array.modify _ _ _)[b]? = _
    rw [Array.getElem?_modify, if_pos rfl, h]
    rfl
  show ((w.setCell ⟨b, 0, none⟩ u').setCell ⟨b, 1, none⟩ v').heap[b]? = _
  generalize w.setCell ⟨b, 0, none⟩ u' = W at h0 ⊢
  unfold World.setCell
  show (Array.modify _ _ _)[b]? = _
  rw [Array.getElem?_modify, if_pos rfl, h0]
  rfl
/-- A list of runs in a slice. -/
def Rest (W : World) (a : Option Addr) (n c : Nat) (l : List (Nat × Nat)) : Prop := SeenP W W.heap.size a l ∧ l.length = n ∧ n ≤ c ∧ c ≤ maxLen

set_option maxRecDepth 100000 in
set_option maxHeartbeats 8000000 in
theorem runs_law (n : Nat) (hn : n < 65536) (a : Option Addr) (m c : Nat) (xs : List Nat) (hm : xs.length = m) (hmc : m ≤ c) (hcm : c ≤ maxLen) (hx : ∀ x ∈ xs, x < 2 ^ 64) (w : World) (hS : Seen w w.heap.size .u64 a xs) (hT : HT w) :
    Calls Tryd.prog 8 #[.int .u16 n, .slice a m c] w fun e w' => e = .returned (.bool true) ∧ Below w.heap.size w w' := by
  have HTT : Hid (HT w) := hT
  have HPW : Hid (0 < w.heap.size) := hT.pos
  have HS : Hid (Seen w w.heap.size .u64 a xs) := hS
  have HNN := Lib.hid hn
  have HM := Lib.hid hm
  have HMC := Lib.hid hmc
  have HCM : Hid (c ≤ maxLen) := hcm
  have HX : Hid (∀ x ∈ xs, x < 2 ^ 64) := hx
  obtain ⟨N, hN⟩ : ∃ N, n % (64 * min m 16 + 1) = N := ⟨_, rfl⟩
  have HNE := Lib.hid hN
  clear hT hS hm hmc hcm hx hn hN
  go_enter Tryd.func8, Tryd.ntmps8
  go_wp2_with (first
    | (go_at_call 13; ((with_reducible refine (awake_any w HTT.out).mono ?_); rintro e w1 ⟨rfl, hb1⟩; have HB1 := Lib.hid hb1; clear hb1))
    | (go_at_call 23; ((with_reducible refine (made_any n HNN.out a m c xs HM.out HMC.out HCM.out HX.out w1 w.heap.size (HS.out.below HB1.out) HB1.out.size N HNE.out).mono ?_); rintro e w2 ⟨sa, cs, q, ys, rfl, hR, hown, hb2⟩; have HB2 := Lib.hid (HB1.out.trans (hb2.mono HB1.out.size)); have HR : Hid (Bm.Rt N ys) := hR; have HOW := Lib.hid hown; clear hb2 hown hR)))
  obtain ⟨sa', cs', hv, hseen, hlen, hle1, hle2⟩ := own_slice HOW.out
  injection hv with hv1 _ hv2
  subst hv1
  subst hv2
  have HL := Lib.hid hlen
  have HLC := Lib.hid hle1
  have HCX : Hid (cs ≤ maxLen) := hle2
  have hN6 : (N : Int) ≤ 1024 := by have h1 := HNE.out; have h2 := Nat.mod_lt n (show 0 < 64 * min m 16 + 1 by omega); omega
  have HBX : Hid (Box (w2.alloc (.cells #[.int .i64 N, .slice sa q cs] 24)) w2.heap.size (.int .i64 N) (.slice sa q cs)) := Box.new _ _ _
  have HSA : Hid (Seen (w2.alloc (.cells #[.int .i64 N, .slice sa q cs] 24)) (w2.alloc (.cells #[.int .i64 N, .slice sa q cs] 24)).heap.size .u64 sa ys) := (hseen.alloc (Nat.le_refl _) _).more (by simp)
  have HBA : Hid (Below w.heap.size w (w2.alloc (.cells #[.int .i64 N, .slice sa q cs] 24))) := HB2.out.alloc HB2.out.size _
  clear hseen hlen hle1 hle2
  obtain ⟨A, hA⟩ : ∃ A, w2.alloc (.cells #[.int .i64 N, .slice sa q cs] 24) = A := ⟨_, rfl⟩
  rw [hA] at HBX HSA HBA ⊢
  have HTA : Hid (HT A) := HTT.out.below HBA.out HPW.out
  have HPA : Hid (0 < A.heap.size) := HTA.out.pos
  clear hA
  obtain ⟨b, hb⟩ : ∃ b, w2.heap.size = b := ⟨_, rfl⟩
  rw [hb] at HBX ⊢
  clear hb HOW HB1 HB2
  obtain ⟨a0, a1, a2, a3⟩ := HBX.out.cells
  have HSS : Hid (SetAt A b N q sa cs ys) := ⟨HBX.out, HSA.out, HL.out, HLC.out, HCX.out, HR.out⟩
  clear a0 a1 a2 a3
  refine (not_at HSS.out _ rfl).mono ?_
  rintro e w3 ⟨g3, rfl, hown3, hb3⟩
  have HT3 := Lib.hid (SetAt.new hown3 (Bm.not_right HR.out))
  have HS3 := Lib.hid ((HSS.out.keep hb3).alloc (.cells #[.int .i64 N, .slice (some ⟨g3, 0, none⟩) q q] 24))
  have HB3 := Lib.hid (HBA.out.trans ((hb3.alloc hb3.size (.cells #[.int .i64 N, .slice (some ⟨g3, 0, none⟩) q q] 24)).mono HBA.out.size))
  clear hown3 hb3
  obtain ⟨D, hD⟩ : ∃ D, w3.alloc (.cells #[.int .i64 N, .slice (some ⟨g3, 0, none⟩) q q] 24) = D := ⟨_, rfl⟩
  rw [hD] at HT3 HS3 HB3
  obtain ⟨b2, hb2⟩ : ∃ b2, w3.heap.size = b2 := ⟨_, rfl⟩
  rw [hb2] at HT3
  obtain ⟨c0, c1, c2, c3⟩ := HS3.out.1.cells
  obtain ⟨d0, d1, d2, d3⟩ := HT3.out.1.cells
  obtain ⟨nr, hnr⟩ : ∃ nr, Bm.cnt (Bm.val ys) N = nr := ⟨_, rfl⟩
  obtain ⟨nz, hnz⟩ : ∃ nz, Bm.cnt (Bm.val (Bm.notL N ys)) N = nz := ⟨_, rfl⟩
  have hsum : (nr : Int) + (nz : Int) = (N : Int) := by have := Bm.cnt_not HR.out; omega
  have hwN : IntKind.i64.wrap (N : Int) = (N : Int) := by rw [IntKind.wrap_i64]; omega
  have HNR := Lib.hid hnr
  have HNZ := Lib.hid hnz
  clear hnr hnz
  go_wp2_with fail
  clear hD hb2
  go_region_held3 (fun W => (W.cell? ⟨b, 0, none⟩ = some (.int .i64 N) ∧ W.cell? ⟨b, 1, none⟩ = some (.slice sa q cs)) ∧ (W.cell? ⟨b2, 0, none⟩ = some (.int .i64 N) ∧ W.cell? ⟨b2, 1, none⟩ = some (.slice (some ⟨g3, 0, none⟩) q q))) (first | go_keep | exact ⟨⟨c0, c1⟩, d0, d1⟩ | exact ⟨⟨(HS3.out.keep hb4).1.cells.1, (HS3.out.keep hb4).1.cells.2.1⟩, (HT3.out.keep hb4).1.cells.1, (HT3.out.keep hb4).1.cells.2.1⟩ | exact ⟨⟨(HS3.out.keep hb5).1.cells.1, (HS3.out.keep hb5).1.cells.2.1⟩, (HT3.out.keep hb5).1.cells.1, (HT3.out.keep hb5).1.cells.2.1⟩) (first
    | (go_at_call 21; (with_reducible show Calls _ _ #[.agg #[.int .i64 N, .slice sa q cs]] _ _); refine (count_at (by exact HS3.out) nr HNR.out).mono ?_; rintro e w4 ⟨rfl, hb4'⟩; have hb4 : Below D.heap.size D w4 := (Below.refl _ D).drew.trans hb4')
    | (go_at_call 21; (with_reducible show Calls _ _ #[.agg #[.int .i64 N, .slice (some ⟨g3, 0, none⟩) q q]] _ _); refine (count_at (by exact HT3.out.keep hb4) nz HNZ.out).mono ?_; rintro e w5 ⟨rfl, hb5'⟩; have hb5 : Below D.heap.size D w5 := hb4.trans (hb5'.mono hb4.size)))
  rename_i hcont hheld
  refine hcont _ _ ?_
  have HS5 := Lib.hid (HS3.out.keep hb5)
  have HT5 := Lib.hid (HT3.out.keep hb5)
  have HB5 := Lib.hid (HB3.out.trans (hb5.mono HB3.out.size))
  have HTW5 : Hid (HT w5) := HTT.out.below HB5.out HPW.out
  obtain ⟨V, hV⟩ : ∃ V, Bm.val ys = V := ⟨_, rfl⟩
  obtain ⟨V2, hV2⟩ : ∃ V2, Bm.val (Bm.notL N ys) = V2 := ⟨_, rfl⟩
  have HVV : Hid (∀ t, t < N → V2.testBit t = !V.testBit t) := by
    intro t ht
    rw [← hV, ← hV2, Bm.notB HR.out t]
    simp [ht]
  obtain ⟨ra, hra⟩ : ∃ ra, Bm.runsL (Bm.ml V N) = ra := ⟨_, rfl⟩
  obtain ⟨rb, hrb⟩ : ∃ rb, Bm.runsL (Bm.ml V2 N) = rb := ⟨_, rfl⟩
  have HRA : Hid (Bm.RP V N ra) := by show Bm.RP _ _ _; rw [← hra]; exact Bm.rp_runs V N
  have HRB : Hid (Bm.RP V2 N rb) := by show Bm.RP _ _ _; rw [← hrb]; exact Bm.rp_runs V2 N
  have hra4 : ra.length ≤ N := by rw [← hra]; exact runs_len V N
  have hrb4 : rb.length ≤ N := by rw [← hrb]; exact runs_len V2 N
  have HLA : Hid (Bm.runsL (Bm.ml (Bm.val ys) N) = ra) := by show _ = _; rw [hV]; exact hra
  have HLB : Hid (Bm.runsL (Bm.ml (Bm.val (Bm.notL N ys)) N) = rb) := by show _ = _; rw [hV2]; exact hrb
  have HVV1 := Lib.hid hV
  have HVV2 := Lib.hid hV2
  obtain ⟨la, hla⟩ : ∃ la, ra.length = la := ⟨_, rfl⟩
  obtain ⟨lb, hlb⟩ : ∃ lb, rb.length = lb := ⟨_, rfl⟩
  have HNA : Hid (ra.length ≤ 1024) := by show _ ≤ _; omega
  have HNB : Hid (rb.length ≤ 1024) := by show _ ≤ _; omega
  have HLLA := Lib.hid hla
  have HLLB := Lib.hid hlb
  clear hV hV2 hra hrb hheld c0 c1 c2 c3 d0 d1 d2 d3 hla hlb hra4 hrb4
  obtain ⟨c0, c1, c2, c3⟩ := HS5.out.1.cells
  obtain ⟨d0, d1, d2, d3⟩ := HT5.out.1.cells
  have HHb5 := Lib.hid hb5
  clear hb5 hb4 hb4' hb5'
  go_wp2_with fail
  go_region_held3 (fun W => (W.cell? ⟨b, 0, none⟩ = some (.int .i64 N) ∧ W.cell? ⟨b, 1, none⟩ = some (.slice sa q cs)) ∧ (W.cell? ⟨b2, 0, none⟩ = some (.int .i64 N) ∧ W.cell? ⟨b2, 1, none⟩ = some (.slice (some ⟨g3, 0, none⟩) q q))) (first | go_keep | exact ⟨⟨c0, c1⟩, d0, d1⟩ | exact ⟨⟨(HS5.out.keep hb6).1.cells.1, (HS5.out.keep hb6).1.cells.2.1⟩, (HT5.out.keep hb6).1.cells.1, (HT5.out.keep hb6).1.cells.2.1⟩ | exact ⟨⟨(HS5.out.keep hb7).1.cells.1, (HS5.out.keep hb7).1.cells.2.1⟩, (HT5.out.keep hb7).1.cells.1, (HT5.out.keep hb7).1.cells.2.1⟩) (first
    | (go_at_call 22; (with_reducible show Calls _ _ #[.agg #[.int .i64 N, .slice sa q cs]] _ _); refine (runs_at (by exact HS5.out) (by exact HTW5.out) ra HLA.out la HLLA.out).mono ?_; rintro e w6 ⟨av, ca, rfl, hsa6, hca, hca2, hb6'⟩; have hb6 : Below w5.heap.size w5 w6 := (Below.refl _ w5).drew.trans hb6')
    | (go_at_call 22; (with_reducible show Calls _ _ #[.agg #[.int .i64 N, .slice (some ⟨g3, 0, none⟩) q q]] _ _); refine (runs_at (by exact HT5.out.keep hb6) (by exact HTW5.out.below hb6 HTW5.out.pos) rb HLB.out lb HLLB.out).mono ?_; rintro e w7 ⟨bv, cb, rfl, hsb7, hcb, hcb2, hb7'⟩; have hb7 : Below w5.heap.size w5 w7 := hb6.trans (hb7'.mono hb6.size)))
  rename_i hcont7 hheld7
  refine hcont7 _ _ ?_
  have HQA : Hid (Rest w7 av la ca ra) := ⟨(hsa6.below hb7').more hb7'.size, HLLA.out, hca, hca2⟩
  have HQB : Hid (Rest w7 bv lb cb rb) := ⟨hsb7, HLLB.out, hcb, hcb2⟩
  have HS7 := Lib.hid (HS5.out.keep hb7)
  have HT7 := Lib.hid (HT5.out.keep hb7)
  have HB7 := Lib.hid (HB5.out.trans (hb7.mono HB5.out.size))
  have HLP1 : Hid (Bm.Lp V N ra 0 0) := Bm.lp_start HRA.out
  have HLP2 : Hid (Bm.Lp V2 N rb 0 0) := Bm.lp_start HRB.out
  have HBZ : Hid (Below w7.heap.size w7 w7) := Below.refl _ _
  clear hsa6 hsb7 hca hca2 hcb hcb2 hb6 hb6' hb7 hb7' hheld7 c0 c1 c2 c3 d0 d1 d2 d3 hsum HHb5
  go_wp2
  go_loopw [8, 9, 10] (fun s8 s9 s10 wr => ∃ (t i j l1 l2 k1 k2 : Nat) (aa bb : Option Addr), t ≤ N ∧ s8 = .slice aa l1 k1 ∧ s9 = .slice bb l2 k2 ∧ s10 = .int .i64 t ∧ Hid (Rest w7 aa l1 k1 (ra.drop i)) ∧ Hid (Rest w7 bb l2 k2 (rb.drop j)) ∧ Hid (Bm.Lp V N ra t i) ∧ Hid (Bm.Lp V2 N rb t j) ∧ Hid (Below w7.heap.size w7 wr)) (fun _ _ s _ => N - (intOf s).toNat)
  case atStart => exact ⟨0, 0, 0, la, lb, ca, cb, av, bv, Nat.zero_le _, rfl, rfl, rfl, HQA, HQB, HLP1, HLP2, HBZ⟩
  case round =>
    rename World => wo
    obtain ⟨t, i, j, l1, l2, k1, k2, aa, bb, htN, rfl, rfl, rfl, HQ1, HQ2, HL1, HL2, HBR⟩ := hrel
    have HSR := Lib.hid (HS7.out.keep HBR.out)
    have HTR := Lib.hid (HT7.out.keep HBR.out)
    have HBRW := Lib.hid (HB7.out.trans (HBR.out.mono HB7.out.size))
    obtain ⟨c0, c1, c2, c3⟩ := HSR.out.1.cells
    obtain ⟨d0, d1, d2, d3⟩ := HTR.out.1.cells
    have hl11 : l1 ≤ 1024 := by have h1 := HQ1.out.2.1; rw [List.length_drop] at h1; have := HNA.out; omega
    have hl21 : l2 ≤ 1024 := by have h1 := HQ2.out.2.1; rw [List.length_drop] at h1; have := HNB.out; omega
    by_cases hlt : t < N
    · cases hbit : V.testBit t with
      | true =>
        obtain ⟨e, hre, hte, heN, hbits, hstop, hlp, hnext⟩ := Bm.lp_step HL1.out hlt hbit
        have hbit2 : V2.testBit t = false := by rw [HVV.out t hlt, hbit]; rfl
        have hother := Bm.lp_other HL2.out (Nat.le_of_lt hte) (fun k h1 h2 => by rw [HVV.out k (by omega), hbits k h1 h2]; rfl)
        obtain ⟨rest, hrest⟩ : ∃ l, ra.drop (i + 1) = l := ⟨_, rfl⟩
        have hdr : ra.drop i = (t, e) :: rest := by rw [← hrest]; obtain ⟨hi1, hi2⟩ := List.getElem?_eq_some_iff.1 hre; rw [← hi2]; exact List.drop_eq_getElem_cons hi1
        have hQ1 := HQ1.out
        rw [hdr] at hQ1
        obtain ⟨hq1, hq2, hq3, hq4⟩ := hQ1
        obtain ⟨l1', rfl⟩ : ∃ n, l1 = n + 1 := ⟨rest.length, by rw [← hq2]; rfl⟩
        obtain ⟨g, o, rfl, hg, f1, f2, hq5⟩ := headP hq1
        obtain ⟨z, hz, hz0⟩ : ∃ z : Int, wrap64 ((l1' : Int) + 1 + (l2 : Int)) = z ∧ 0 < z := ⟨_, rfl, by unfold wrap64; omega⟩
        have hl1 : decide ((0 : Int) < (l1' : Int) + 1) = true := by rw [decide_eq_true_eq]; omega
        have hl2 : (0 : Int) < (l1' : Int) + 1 := by omega
        clear hl11 hl21
        have F1 : wo.cell? ⟨g, o, none⟩ = some (.int .i64 t) := (HBR.out.cell (p := ⟨g, o, none⟩) hg).trans f1
        have F2 : wo.cell? ⟨g, o + 1, none⟩ = some (.int .i64 e) := (HBR.out.cell (p := ⟨g, o + 1, none⟩) hg).trans f2
        have hdiff : g < w7.heap.size := hg
        obtain ⟨W1, hW1⟩ : ∃ W1, wo.alloc (.cells #[.int .i64 0, .int .i64 0] 50) = W1 := ⟨_, rfl⟩
        have HBOX : Hid (RunBox W1 wo.heap.size (.int .i64 0) (.int .i64 0)) := by rw [← hW1]; exact RunBox.new _ _ _
        have HB1 : Hid (Below wo.heap.size wo W1) := by rw [← hW1]; exact (Below.refl _ wo).alloc (Nat.le_refl _) _
        go_wp2_with fail
        try rw [hW1]
        clear hW1
        have hgr : g < wo.heap.size := Nat.lt_of_lt_of_le hg HBR.out.size
        have G1 : W1.cell? ⟨g, o, none⟩ = some (.int .i64 t) := (HB1.out.cell (p := ⟨g, o, none⟩) hgr).trans F1
        have G2 : W1.cell? ⟨g, o + 1, none⟩ = some (.int .i64 e) := (HB1.out.cell (p := ⟨g, o + 1, none⟩) hgr).trans F2
        clear F1 F2 c0 c1 c2 c3 d0 d1 d2 d3
        obtain ⟨B, hB⟩ : ∃ B, wo.heap.size = B := ⟨_, rfl⟩
        have HBRZ := Lib.hid hB
        rw [hB] at HBOX hgr ⊢
        clear hB hl1 hl2 hz hz0 hdiff hg
        obtain ⟨x0, x1, x2, x3⟩ := HBOX.out.cells
        have hgB : g ≠ B := Nat.ne_of_lt hgr
        obtain ⟨a2, ha2⟩ : ∃ a2 : Option Addr, (if k1 = 1 then some (⟨g, o, none⟩ : Addr) else some ⟨g, o + 2, none⟩) = a2 := ⟨_, rfl⟩
        have HQ6 : Hid (Rest w7 a2 l1' (k1 - 1) rest) := by
          simp only [List.length_cons] at hq2
          refine ⟨?_, by omega, by omega, by omega⟩
          rw [← ha2]
          by_cases hk : k1 = 1
          · have h0 : rest = [] := List.eq_nil_of_length_eq_zero (by omega)
            rw [h0]
            exact fun i p hp => by simp at hp
          · rw [if_neg hk]; exact hq5
        have HDR : Hid (ra.drop (i + 1) = rest) := hrest
        have HNX : Hid (∀ p : Nat × Nat, rest[0]? = some p → p.1 ≠ e) := by
          intro p hp
          apply hnext p
          rw [← hrest, List.getElem?_drop] at hp
          simpa using hp
        have HLP3 := Lib.hid hlp
        have HLO3 := Lib.hid hother
        have HBT : Hid (∀ k, t ≤ k → k < e → V.testBit k = true ∧ V2.testBit k = false) := fun k h1 h2 => ⟨hbits k h1 h2, by rw [HVV.out k (by omega), hbits k h1 h2]; rfl⟩
        clear hq1 hq2 hq3 hq4 hq5 hbits hlp hother hnext hre hdr hrest hstop hbit hbit2
        go_region
        have HRB2 : Hid (RunBox ((W1.setCell ⟨B, 0, none⟩ (.int .i64 t)).setCell ⟨B, 1, none⟩ (.int .i64 e)).drew B (.int .i64 t) (.int .i64 e)) := HBOX.out.set _ _
        have HB2 : Hid (Below wo.heap.size wo ((W1.setCell ⟨B, 0, none⟩ (.int .i64 t)).setCell ⟨B, 1, none⟩ (.int .i64 e)).drew) := ((HB1.out.setCell (p := ⟨B, 0, none⟩) (Nat.le_of_eq HBRZ.out) _).setCell (p := ⟨B, 1, none⟩) (Nat.le_of_eq HBRZ.out) _).drew
        generalize ((W1.setCell ⟨B, 0, none⟩ (.int .i64 t)).setCell ⟨B, 1, none⟩ (.int .i64 e)).drew = W2 at HRB2 HB2 ⊢
        clear x0 x1 x2 x3 G1 G2 hgB hgr ha2 HBOX HB1
        have HBR2 := Lib.hid (HBR.out.trans (HB2.out.mono HBR.out.size))
        have HS2 := Lib.hid (HS7.out.keep HBR2.out)
        have HT2 := Lib.hid (HT7.out.keep HBR2.out)
        obtain ⟨c0, c1, c2, c3⟩ := HS2.out.1.cells
        obtain ⟨d0, d1, d2, d3⟩ := HT2.out.1.cells
        obtain ⟨x0, x1, x2, x3⟩ := HRB2.out.cells
        have hle1 : decide ((e : Int) ≤ (t : Int)) = false := by rw [decide_eq_false_iff_not]; omega
        have hle2 : ¬ (e : Int) ≤ (t : Int) := by omega
        have hle3 : decide ((N : Int) < (e : Int)) = false := by rw [decide_eq_false_iff_not]; omega
        have hle4 : ¬ (N : Int) < (e : Int) := by omega
        go_wp2_with fail
        have HBI : Hid (Below W2.heap.size W2 W2) := Below.refl _ _
        clear c0 c1 c2 c3 d0 d1 d2 d3 x0 x1 x2 x3 hle1 hle2 hle3 hle4
        have hte' : t ≤ e := Nat.le_of_lt hte
        go_loopw [13] (fun s wq => ∃ k : Nat, t ≤ k ∧ k ≤ e ∧ s = .int .i64 k ∧ Hid (Below W2.heap.size W2 wq)) (fun s _ => e - (intOf s).toNat)
        case atStart => exact ⟨t, Nat.le_refl _, hte', rfl, HBI⟩
        case round =>
          obtain ⟨k, hk1, hk2, rfl, HBq⟩ := hrel
          have HBV := Lib.hid (HBR2.out.trans (HBq.out.mono HBR2.out.size))
          have HSV := Lib.hid (HS7.out.keep HBV.out)
          have HTV := Lib.hid (HT7.out.keep HBV.out)
          have HXV := Lib.hid (HRB2.out.keep HBq.out)
          obtain ⟨c0, c1, c2, c3⟩ := HSV.out.1.cells
          obtain ⟨d0, d1, d2, d3⟩ := HTV.out.1.cells
          obtain ⟨x0, x1, x2, x3⟩ := HXV.out.cells
          by_cases hke : k < e
          · have HH1 : Hid ((decide (0 ≤ (k : Int)) && (Bm.val ys).testBit (k : Int).toNat) = true) := by show _ = _; rw [HVV1.out, Int.toNat_natCast, (HBT.out k hk1 hke).1]; simp
            have HH2 : Hid ((decide (0 ≤ (k : Int)) && (Bm.val (Bm.notL N ys)).testBit (k : Int).toNat) = false) := by show _ = _; rw [HVV2.out, Int.toNat_natCast, (HBT.out k hk1 hke).2]; simp
            go_wp2_with (first
              | (go_at_call 28; ((with_reducible refine (has_at HSV.out (k : Int) true HH1.out).mono ?_); rintro e1 w8 ⟨rfl, hb8⟩; have HB8 := Lib.hid hb8; have HT8 := Lib.hid (HTV.out.keep hb8); obtain ⟨d80, d81, d82, d83⟩ := (HTV.out.keep hb8).1.cells; obtain ⟨x80, x81, x82, x83⟩ := (HXV.out.keep hb8).cells; clear hb8))
              | (go_at_call 28; ((with_reducible refine (has_at HT8.out (k : Int) false HH2.out).mono ?_); rintro e1 w9 ⟨rfl, hb9⟩; have HB9 := Lib.hid (HB8.out.trans (hb9.mono HB8.out.size)); obtain ⟨x90, x91, x92, x93⟩ := (HXV.out.keep HB9.out).cells; clear hb9)))
            exact ⟨⟨k + 1, by omega, hke, rfl, Lib.hid (HBq.out.trans (HB9.out.mono HBq.out.size))⟩, by simp [intOf]; omega⟩
          · obtain rfl : e = k := by omega
            clear hk1 hk2
            cases rest with
            | nil =>
              have hn0 := HQ6.out.2.1
              simp only [List.length_nil] at hn0
              subst hn0
              go_wp2_with fail
              exact ⟨⟨e, i + 1, j, 0, l2, k1 - 1, k2, a2, bb, heN, rfl, rfl, rfl, Lib.hid (by rw [HDR.out]; exact HQ6.out), HQ2, HLP3, HLO3, HBV⟩, by simp [intOf]; omega⟩
            | cons p rest =>
              obtain ⟨p1, p2⟩ := p
              have hn0 := HQ6.out.2.1
              simp only [List.length_cons] at hn0
              obtain ⟨l1, rfl⟩ : ∃ n, l1' = n + 1 := ⟨_, hn0.symm⟩
              obtain ⟨g4, o4, rfl, hg4, f1, f2, _⟩ := headP HQ6.out.1
              have F1 : wr.cell? ⟨g4, o4, none⟩ = some (.int .i64 p1) := (HBV.out.cell (p := ⟨g4, o4, none⟩) hg4).trans f1
              have hne : p1 ≠ e := HNX.out (p1, p2) rfl
              have hne1 : ((p1 : Int) == (e : Int)) = false := by simp; omega
              have hne2 : (p1 == e) = false := by simp; omega
              have hl1 : decide ((0 : Int) < (l1 : Int) + 1) = true := by rw [decide_eq_true_eq]; omega
              have hl2 : (0 : Int) < (l1 : Int) + 1 := by omega
              clear f1 f2 hn0
              go_wp2_with fail
              exact ⟨⟨e, i + 1, j, l1 + 1, l2, k1 - 1, k2, some ⟨g4, o4, none⟩, bb, heN, rfl, rfl, rfl, Lib.hid (by rw [HDR.out]; exact HQ6.out), HQ2, HLP3, HLO3, HBV⟩, by simp [intOf]; omega⟩
      | false =>
        have hbit2 : V2.testBit t = true := by rw [HVV.out t hlt, hbit]; rfl
        obtain ⟨e, hre, hte, heN, hbits, hstop, hlp, hnext⟩ := Bm.lp_step HL2.out hlt hbit2
        have hbv : ∀ k, t ≤ k → k < e → V.testBit k = false := fun k h1 h2 => by
          have h3 := hbits k h1 h2
          rw [HVV.out k (by omega)] at h3
          simpa using h3
        have hother := Bm.lp_other HL1.out (Nat.le_of_lt hte) hbv
        have hno := Bm.lp_no HL1.out hbit
        obtain ⟨rest, hrest⟩ : ∃ l, rb.drop (j + 1) = l := ⟨_, rfl⟩
        have hdr : rb.drop j = (t, e) :: rest := by rw [← hrest]; obtain ⟨hi1, hi2⟩ := List.getElem?_eq_some_iff.1 hre; rw [← hi2]; exact List.drop_eq_getElem_cons hi1
        have hQ2 := HQ2.out
        rw [hdr] at hQ2
        obtain ⟨hq1, hq2, hq3, hq4⟩ := hQ2
        obtain ⟨l2', rfl⟩ : ∃ n, l2 = n + 1 := ⟨rest.length, by rw [← hq2]; rfl⟩
        obtain ⟨g, o, rfl, hg, f1, f2, hq5⟩ := headP hq1
        have F1 : wo.cell? ⟨g, o, none⟩ = some (.int .i64 t) := (HBR.out.cell (p := ⟨g, o, none⟩) hg).trans f1
        have F2 : wo.cell? ⟨g, o + 1, none⟩ = some (.int .i64 e) := (HBR.out.cell (p := ⟨g, o + 1, none⟩) hg).trans f2
        have hl1 : decide ((0 : Int) < (l2' : Int) + 1) = true := by rw [decide_eq_true_eq]; omega
        have hl2 : (0 : Int) < (l2' : Int) + 1 := by omega
        have hdiff : g < w7.heap.size := hg
        cases hda : ra.drop i with
        | nil =>
          obtain rfl : 0 = l1 := by have h1 := HQ1.out.2.1; rw [hda] at h1; simpa using h1
          obtain ⟨z, hz, hz0⟩ : ∃ z : Int, wrap64 ((l2' : Int) + 1) = z ∧ 0 < z := ⟨_, rfl, by unfold wrap64; omega⟩
          clear hl11 hl21 hda
          obtain ⟨W1, hW1⟩ : ∃ W1, wo.alloc (.cells #[.int .i64 0, .int .i64 0] 50) = W1 := ⟨_, rfl⟩
          have HBOX : Hid (RunBox W1 wo.heap.size (.int .i64 0) (.int .i64 0)) := by rw [← hW1]; exact RunBox.new _ _ _
          have HB1 : Hid (Below wo.heap.size wo W1) := by rw [← hW1]; exact (Below.refl _ wo).alloc (Nat.le_refl _) _
          have hgr : g < wo.heap.size := Nat.lt_of_lt_of_le hg HBR.out.size
          have G1 : W1.cell? ⟨g, o, none⟩ = some (.int .i64 t) := (HB1.out.cell (p := ⟨g, o, none⟩) hgr).trans F1
          have G2 : W1.cell? ⟨g, o + 1, none⟩ = some (.int .i64 e) := (HB1.out.cell (p := ⟨g, o + 1, none⟩) hgr).trans F2
          go_wp2_with fail
          try rw [hW1]
          clear hW1
          clear F1 F2 c0 c1 c2 c3 d0 d1 d2 d3
          obtain ⟨B, hB⟩ : ∃ B, wo.heap.size = B := ⟨_, rfl⟩
          have HBRZ := Lib.hid hB
          rw [hB] at HBOX hgr ⊢
          clear hB hl1 hl2 hz hz0 hdiff hg
          obtain ⟨x0, x1, x2, x3⟩ := HBOX.out.cells
          have hgB : g ≠ B := Nat.ne_of_lt hgr
          obtain ⟨a2, ha2⟩ : ∃ a2 : Option Addr, (if k2 = 1 then some (⟨g, o, none⟩ : Addr) else some ⟨g, o + 2, none⟩) = a2 := ⟨_, rfl⟩
          have HQ6 : Hid (Rest w7 a2 l2' (k2 - 1) rest) := by
            simp only [List.length_cons] at hq2
            refine ⟨?_, by omega, by omega, by omega⟩
            rw [← ha2]
            by_cases hk : k2 = 1
            · have h0 : rest = [] := List.eq_nil_of_length_eq_zero (by omega)
              rw [h0]
              exact fun i p hp => by simp at hp
            · rw [if_neg hk]; exact hq5
          have HDR : Hid (rb.drop (j + 1) = rest) := hrest
          have HNX : Hid (∀ p : Nat × Nat, rest[0]? = some p → p.1 ≠ e) := by
            intro p hp
            apply hnext p
            rw [← hrest, List.getElem?_drop] at hp
            simpa using hp
          have HLP3 := Lib.hid hlp
          have HLO3 := Lib.hid hother
          have HBT : Hid (∀ k, t ≤ k → k < e → V.testBit k = false ∧ V2.testBit k = true) := fun k h1 h2 => ⟨hbv k h1 h2, hbits k h1 h2⟩
          clear hq1 hq2 hq3 hq4 hq5 hbits hlp hother hnext hre hdr hrest hstop hbit hbit2
          go_region
          have HRB2 : Hid (RunBox ((W1.setCell ⟨B, 0, none⟩ (.int .i64 t)).setCell ⟨B, 1, none⟩ (.int .i64 e)).drew B (.int .i64 t) (.int .i64 e)) := HBOX.out.set _ _
          have HB2 : Hid (Below wo.heap.size wo ((W1.setCell ⟨B, 0, none⟩ (.int .i64 t)).setCell ⟨B, 1, none⟩ (.int .i64 e)).drew) := ((HB1.out.setCell (p := ⟨B, 0, none⟩) (Nat.le_of_eq HBRZ.out) _).setCell (p := ⟨B, 1, none⟩) (Nat.le_of_eq HBRZ.out) _).drew
          generalize ((W1.setCell ⟨B, 0, none⟩ (.int .i64 t)).setCell ⟨B, 1, none⟩ (.int .i64 e)).drew = W2 at HRB2 HB2 ⊢
          clear x0 x1 x2 x3 G1 G2 hgB hgr ha2 HBOX HB1
          have HBR2 := Lib.hid (HBR.out.trans (HB2.out.mono HBR.out.size))
          have HS2 := Lib.hid (HS7.out.keep HBR2.out)
          have HT2 := Lib.hid (HT7.out.keep HBR2.out)
          obtain ⟨c0, c1, c2, c3⟩ := HS2.out.1.cells
          obtain ⟨d0, d1, d2, d3⟩ := HT2.out.1.cells
          obtain ⟨x0, x1, x2, x3⟩ := HRB2.out.cells
          have hle1 : decide ((e : Int) ≤ (t : Int)) = false := by rw [decide_eq_false_iff_not]; omega
          have hle2 : ¬ (e : Int) ≤ (t : Int) := by omega
          have hle3 : decide ((N : Int) < (e : Int)) = false := by rw [decide_eq_false_iff_not]; omega
          have hle4 : ¬ (N : Int) < (e : Int) := by omega
          go_wp2_with fail
          have HBI : Hid (Below W2.heap.size W2 W2) := Below.refl _ _
          clear c0 c1 c2 c3 d0 d1 d2 d3 x0 x1 x2 x3 hle1 hle2 hle3 hle4
          have hte' : t ≤ e := Nat.le_of_lt hte
          go_loopw [13] (fun s wq => ∃ k : Nat, t ≤ k ∧ k ≤ e ∧ s = .int .i64 k ∧ Hid (Below W2.heap.size W2 wq)) (fun s _ => e - (intOf s).toNat)
          case atStart => exact ⟨t, Nat.le_refl _, hte', rfl, HBI⟩
          case round =>
            obtain ⟨k, hk1, hk2, rfl, HBq⟩ := hrel
            have HBV := Lib.hid (HBR2.out.trans (HBq.out.mono HBR2.out.size))
            have HSV := Lib.hid (HS7.out.keep HBV.out)
            have HTV := Lib.hid (HT7.out.keep HBV.out)
            have HXV := Lib.hid (HRB2.out.keep HBq.out)
            obtain ⟨c0, c1, c2, c3⟩ := HSV.out.1.cells
            obtain ⟨d0, d1, d2, d3⟩ := HTV.out.1.cells
            obtain ⟨x0, x1, x2, x3⟩ := HXV.out.cells
            by_cases hke : k < e
            · have HH1 : Hid ((decide (0 ≤ (k : Int)) && (Bm.val ys).testBit (k : Int).toNat) = false) := by show _ = _; rw [HVV1.out, Int.toNat_natCast, (HBT.out k hk1 hke).1]; simp
              have HH2 : Hid ((decide (0 ≤ (k : Int)) && (Bm.val (Bm.notL N ys)).testBit (k : Int).toNat) = true) := by show _ = _; rw [HVV2.out, Int.toNat_natCast, (HBT.out k hk1 hke).2]; simp
              go_wp2_with (first
                | (go_at_call 28; ((with_reducible refine (has_at HSV.out (k : Int) false HH1.out).mono ?_); rintro e1 w8 ⟨rfl, hb8⟩; have HB8 := Lib.hid hb8; have HT8 := Lib.hid (HTV.out.keep hb8); obtain ⟨d80, d81, d82, d83⟩ := (HTV.out.keep hb8).1.cells; obtain ⟨x80, x81, x82, x83⟩ := (HXV.out.keep hb8).cells; clear hb8))
                | (go_at_call 28; ((with_reducible refine (has_at HT8.out (k : Int) true HH2.out).mono ?_); rintro e1 w9 ⟨rfl, hb9⟩; have HB9 := Lib.hid (HB8.out.trans (hb9.mono HB8.out.size)); obtain ⟨x90, x91, x92, x93⟩ := (HXV.out.keep HB9.out).cells; clear hb9)))
              exact ⟨⟨k + 1, by omega, hke, rfl, Lib.hid (HBq.out.trans (HB9.out.mono HBq.out.size))⟩, by simp [intOf]; omega⟩
            · obtain rfl : e = k := by omega
              clear hk1 hk2
              cases rest with
              | nil =>
                have hn0 := HQ6.out.2.1
                simp only [List.length_nil] at hn0
                subst hn0
                go_wp2_with fail
                exact ⟨⟨e, i, j + 1, 0, 0, k1, k2 - 1, aa, a2, heN, rfl, rfl, rfl, HQ1, Lib.hid (by rw [HDR.out]; exact HQ6.out), HLO3, HLP3, HBV⟩, by simp [intOf]; omega⟩
              | cons p rest =>
                obtain ⟨p1, p2⟩ := p
                have hn0 := HQ6.out.2.1
                simp only [List.length_cons] at hn0
                obtain ⟨m2, rfl⟩ : ∃ n, l2' = n + 1 := ⟨_, hn0.symm⟩
                obtain ⟨g4, o4, rfl, hg4, f1, f2, _⟩ := headP HQ6.out.1
                have F1 : wr.cell? ⟨g4, o4, none⟩ = some (.int .i64 p1) := (HBV.out.cell (p := ⟨g4, o4, none⟩) hg4).trans f1
                have hne : p1 ≠ e := HNX.out (p1, p2) rfl
                have hne1 : ((p1 : Int) == (e : Int)) = false := by simp; omega
                have hne2 : (p1 == e) = false := by simp; omega
                have hl1 : decide ((0 : Int) < (m2 : Int) + 1) = true := by rw [decide_eq_true_eq]; omega
                have hl2 : (0 : Int) < (m2 : Int) + 1 := by omega
                clear f1 f2 hn0
                go_wp2_with fail
                exact ⟨⟨e, i, j + 1, 0, m2 + 1, k1, k2 - 1, aa, some ⟨g4, o4, none⟩, heN, rfl, rfl, rfl, HQ1, Lib.hid (by rw [HDR.out]; exact HQ6.out), HLO3, HLP3, HBV⟩, by simp [intOf]; omega⟩
        | cons pa resta =>
          obtain ⟨q1, q2⟩ := pa
          have hQ1 := HQ1.out
          rw [hda] at hQ1
          obtain ⟨l1', rfl⟩ : ∃ n, l1 = n + 1 := ⟨resta.length, by rw [← hQ1.2.1]; rfl⟩
          obtain ⟨ga, oa, rfl, hga, fa1, fa2, _⟩ := headP hQ1.1
          have FA : wo.cell? ⟨ga, oa, none⟩ = some (.int .i64 q1) := (HBR.out.cell (p := ⟨ga, oa, none⟩) hga).trans fa1
          have hnq : q1 ≠ t := hno (q1, q2) (by have h1 : (ra.drop i)[0]? = some (q1, q2) := by rw [hda]; rfl
                                                rw [List.getElem?_drop] at h1; simpa using h1)
          have hnq1 : ((q1 : Int) == (t : Int)) = false := by simp; omega
          have hnq2 : (q1 == t) = false := by simp; omega
          obtain ⟨z, hz, hz0⟩ : ∃ z : Int, wrap64 ((l1' : Int) + 1 + ((l2' : Int) + 1)) = z ∧ 0 < z := ⟨_, rfl, by unfold wrap64; omega⟩
          have hm1 : decide ((0 : Int) < (l1' : Int) + 1) = true := by rw [decide_eq_true_eq]; omega
          have hm2 : (0 : Int) < (l1' : Int) + 1 := by omega
          clear hl11 hl21 hda hQ1 fa1 fa2
          obtain ⟨W1, hW1⟩ : ∃ W1, wo.alloc (.cells #[.int .i64 0, .int .i64 0] 50) = W1 := ⟨_, rfl⟩
          have HBOX : Hid (RunBox W1 wo.heap.size (.int .i64 0) (.int .i64 0)) := by rw [← hW1]; exact RunBox.new _ _ _
          have HB1 : Hid (Below wo.heap.size wo W1) := by rw [← hW1]; exact (Below.refl _ wo).alloc (Nat.le_refl _) _
          have hgr : g < wo.heap.size := Nat.lt_of_lt_of_le hg HBR.out.size
          have G1 : W1.cell? ⟨g, o, none⟩ = some (.int .i64 t) := (HB1.out.cell (p := ⟨g, o, none⟩) hgr).trans F1
          have G2 : W1.cell? ⟨g, o + 1, none⟩ = some (.int .i64 e) := (HB1.out.cell (p := ⟨g, o + 1, none⟩) hgr).trans F2
          go_wp2_with fail
          try rw [hW1]
          clear hW1
          clear F1 F2 c0 c1 c2 c3 d0 d1 d2 d3
          obtain ⟨B, hB⟩ : ∃ B, wo.heap.size = B := ⟨_, rfl⟩
          have HBRZ := Lib.hid hB
          rw [hB] at HBOX hgr ⊢
          clear hB hl1 hl2 hz hz0 hdiff hg FA hnq hnq1 hnq2 hm1 hm2
          obtain ⟨x0, x1, x2, x3⟩ := HBOX.out.cells
          have hgB : g ≠ B := Nat.ne_of_lt hgr
          obtain ⟨a2, ha2⟩ : ∃ a2 : Option Addr, (if k2 = 1 then some (⟨g, o, none⟩ : Addr) else some ⟨g, o + 2, none⟩) = a2 := ⟨_, rfl⟩
          have HQ6 : Hid (Rest w7 a2 l2' (k2 - 1) rest) := by
            simp only [List.length_cons] at hq2
            refine ⟨?_, by omega, by omega, by omega⟩
            rw [← ha2]
            by_cases hk : k2 = 1
            · have h0 : rest = [] := List.eq_nil_of_length_eq_zero (by omega)
              rw [h0]
              exact fun i p hp => by simp at hp
            · rw [if_neg hk]; exact hq5
          have HDR : Hid (rb.drop (j + 1) = rest) := hrest
          have HNX : Hid (∀ p : Nat × Nat, rest[0]? = some p → p.1 ≠ e) := by
            intro p hp
            apply hnext p
            rw [← hrest, List.getElem?_drop] at hp
            simpa using hp
          have HLP3 := Lib.hid hlp
          have HLO3 := Lib.hid hother
          have HBT : Hid (∀ k, t ≤ k → k < e → V.testBit k = false ∧ V2.testBit k = true) := fun k h1 h2 => ⟨hbv k h1 h2, hbits k h1 h2⟩
          clear hq1 hq2 hq3 hq4 hq5 hbits hlp hother hnext hre hdr hrest hstop hbit hbit2
          go_region
          have HRB2 : Hid (RunBox ((W1.setCell ⟨B, 0, none⟩ (.int .i64 t)).setCell ⟨B, 1, none⟩ (.int .i64 e)).drew B (.int .i64 t) (.int .i64 e)) := HBOX.out.set _ _
          have HB2 : Hid (Below wo.heap.size wo ((W1.setCell ⟨B, 0, none⟩ (.int .i64 t)).setCell ⟨B, 1, none⟩ (.int .i64 e)).drew) := ((HB1.out.setCell (p := ⟨B, 0, none⟩) (Nat.le_of_eq HBRZ.out) _).setCell (p := ⟨B, 1, none⟩) (Nat.le_of_eq HBRZ.out) _).drew
          generalize ((W1.setCell ⟨B, 0, none⟩ (.int .i64 t)).setCell ⟨B, 1, none⟩ (.int .i64 e)).drew = W2 at HRB2 HB2 ⊢
          clear x0 x1 x2 x3 G1 G2 hgB hgr ha2 HBOX HB1
          have HBR2 := Lib.hid (HBR.out.trans (HB2.out.mono HBR.out.size))
          have HS2 := Lib.hid (HS7.out.keep HBR2.out)
          have HT2 := Lib.hid (HT7.out.keep HBR2.out)
          obtain ⟨c0, c1, c2, c3⟩ := HS2.out.1.cells
          obtain ⟨d0, d1, d2, d3⟩ := HT2.out.1.cells
          obtain ⟨x0, x1, x2, x3⟩ := HRB2.out.cells
          have hle1 : decide ((e : Int) ≤ (t : Int)) = false := by rw [decide_eq_false_iff_not]; omega
          have hle2 : ¬ (e : Int) ≤ (t : Int) := by omega
          have hle3 : decide ((N : Int) < (e : Int)) = false := by rw [decide_eq_false_iff_not]; omega
          have hle4 : ¬ (N : Int) < (e : Int) := by omega
          go_wp2_with fail
          have HBI : Hid (Below W2.heap.size W2 W2) := Below.refl _ _
          clear c0 c1 c2 c3 d0 d1 d2 d3 x0 x1 x2 x3 hle1 hle2 hle3 hle4
          have hte' : t ≤ e := Nat.le_of_lt hte
          go_loopw [13] (fun s wq => ∃ k : Nat, t ≤ k ∧ k ≤ e ∧ s = .int .i64 k ∧ Hid (Below W2.heap.size W2 wq)) (fun s _ => e - (intOf s).toNat)
          case atStart => exact ⟨t, Nat.le_refl _, hte', rfl, HBI⟩
          case round =>
            obtain ⟨k, hk1, hk2, rfl, HBq⟩ := hrel
            have HBV := Lib.hid (HBR2.out.trans (HBq.out.mono HBR2.out.size))
            have HSV := Lib.hid (HS7.out.keep HBV.out)
            have HTV := Lib.hid (HT7.out.keep HBV.out)
            have HXV := Lib.hid (HRB2.out.keep HBq.out)
            obtain ⟨c0, c1, c2, c3⟩ := HSV.out.1.cells
            obtain ⟨d0, d1, d2, d3⟩ := HTV.out.1.cells
            obtain ⟨x0, x1, x2, x3⟩ := HXV.out.cells
            by_cases hke : k < e
            · have HH1 : Hid ((decide (0 ≤ (k : Int)) && (Bm.val ys).testBit (k : Int).toNat) = false) := by show _ = _; rw [HVV1.out, Int.toNat_natCast, (HBT.out k hk1 hke).1]; simp
              have HH2 : Hid ((decide (0 ≤ (k : Int)) && (Bm.val (Bm.notL N ys)).testBit (k : Int).toNat) = true) := by show _ = _; rw [HVV2.out, Int.toNat_natCast, (HBT.out k hk1 hke).2]; simp
              go_wp2_with (first
                | (go_at_call 28; ((with_reducible refine (has_at HSV.out (k : Int) false HH1.out).mono ?_); rintro e1 w8 ⟨rfl, hb8⟩; have HB8 := Lib.hid hb8; have HT8 := Lib.hid (HTV.out.keep hb8); obtain ⟨d80, d81, d82, d83⟩ := (HTV.out.keep hb8).1.cells; obtain ⟨x80, x81, x82, x83⟩ := (HXV.out.keep hb8).cells; clear hb8))
                | (go_at_call 28; ((with_reducible refine (has_at HT8.out (k : Int) true HH2.out).mono ?_); rintro e1 w9 ⟨rfl, hb9⟩; have HB9 := Lib.hid (HB8.out.trans (hb9.mono HB8.out.size)); obtain ⟨x90, x91, x92, x93⟩ := (HXV.out.keep HB9.out).cells; clear hb9)))
              exact ⟨⟨k + 1, by omega, hke, rfl, Lib.hid (HBq.out.trans (HB9.out.mono HBq.out.size))⟩, by simp [intOf]; omega⟩
            · obtain rfl : e = k := by omega
              clear hk1 hk2
              cases rest with
              | nil =>
                have hn0 := HQ6.out.2.1
                simp only [List.length_nil] at hn0
                subst hn0
                go_wp2_with fail
                exact ⟨⟨e, i, j + 1, l1' + 1, 0, k1, k2 - 1, some ⟨ga, oa, none⟩, a2, heN, rfl, rfl, rfl, HQ1, Lib.hid (by rw [HDR.out]; exact HQ6.out), HLO3, HLP3, HBV⟩, by simp [intOf]; omega⟩
              | cons p rest =>
                obtain ⟨p1, p2⟩ := p
                have hn0 := HQ6.out.2.1
                simp only [List.length_cons] at hn0
                obtain ⟨m2, rfl⟩ : ∃ n, l2' = n + 1 := ⟨_, hn0.symm⟩
                obtain ⟨g4, o4, rfl, hg4, f1, f2, _⟩ := headP HQ6.out.1
                have F1 : wr.cell? ⟨g4, o4, none⟩ = some (.int .i64 p1) := (HBV.out.cell (p := ⟨g4, o4, none⟩) hg4).trans f1
                have hne : p1 ≠ e := HNX.out (p1, p2) rfl
                have hne1 : ((p1 : Int) == (e : Int)) = false := by simp; omega
                have hne2 : (p1 == e) = false := by simp; omega
                have hl1 : decide ((0 : Int) < (m2 : Int) + 1) = true := by rw [decide_eq_true_eq]; omega
                have hl2 : (0 : Int) < (m2 : Int) + 1 := by omega
                clear f1 f2 hn0
                go_wp2_with fail
                exact ⟨⟨e, i, j + 1, l1' + 1, m2 + 1, k1, k2 - 1, some ⟨ga, oa, none⟩, some ⟨g4, o4, none⟩, heN, rfl, rfl, rfl, HQ1, Lib.hid (by rw [HDR.out]; exact HQ6.out), HLO3, HLP3, HBV⟩, by simp [intOf]; omega⟩
    · obtain rfl : N = t := by omega
      have hn1 : l1 = 0 := by have h1 := HQ1.out.2.1; rw [List.length_drop] at h1; have := Bm.lp_end HL1.out; omega
      have hn2 : l2 = 0 := by have h1 := HQ2.out.2.1; rw [List.length_drop] at h1; have := Bm.lp_end HL2.out; omega
      subst hn1
      subst hn2
      clear hl11 hl21 hlt
      go_wp2_with fail
      go_ret
      exact ⟨rfl, HBRW.out⟩

theorem runs_walk (a0 : Int) (a1 : Option Addr) (len1 cap1 : Nat) (z1 : List Int) (w : World) (w0 : (Lit.int .u16 a0).wf = true) (w1 : IsRow .u64 w a1 len1 cap1 z1) (wx : HT w) :
    Calls Tryd.prog 8 #[.int .u16 a0, .slice a1 len1 cap1] w fun e w' => e = .returned (.bool true) ∧ Below w.heap.size w w' := by
  obtain ⟨xs, hn, hS, hx, h1, h2⟩ := row_u64 w1
  have b0 := bounds_u16 w0
  obtain ⟨x0, rfl⟩ : ∃ x : Nat, a0 = (x : Int) := ⟨a0.toNat, by omega⟩
  exact runs_law x0 (by omega) a1 len1 cap1 xs hn h1 h2 hx w hS wx

end Go.Proofs.YtkochcolmkgkgaaDoor
