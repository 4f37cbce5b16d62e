/-
  Made.
-/
import Derived.Test.YthamilolacfeoaaEqQ
import Derived.Test.YthamilolacfeoaaOfQ
namespace Go.Proofs.Ythamilolacfeoaa
open Go.RowKit Sq
set_option linter.unusedVariables false

namespace Sq
/-- The run that Made makes of a byte. -/
def mdF (at_ : Int) (b : Nat) : Int := if 250 ≤ b then at_ + 1 + ((b % 16 : Nat) : Int) + ((b - 249 : Nat) : Int) * 1099511627776 else at_ + 1 + ((b % 16 : Nat) : Int)
def mdC (b : Nat) : Int := if 250 ≤ b then (1 + ((b / 16 : Nat) : Int)) * ((2 ^ (4 * (b - 249)) : Nat) : Int) else 1 + ((b / 16 : Nat) : Int)
theorem mdF_low (at_ : Int) (b : Nat) (hb : b < 256) : at_ + 1 ≤ mdF at_ b ∧ mdF at_ b ≤ at_ + 16 + 6 * 1099511627776 := by
  unfold mdF; split <;> omega
theorem mdC_low (b : Nat) (hb : b < 256) : 1 ≤ mdC b ∧ mdC b ≤ 268435456 := by
  unfold mdC
  split
  · have : b = 250 ∨ b = 251 ∨ b = 252 ∨ b = 253 ∨ b = 254 ∨ b = 255 := by omega
    rcases this with rfl | rfl | rfl | rfl | rfl | rfl <;> decide
  · omega
structure MdI (k : Nat) (L : Rs) (at_ : Int) : Prop where
  rt : RtF 1 L
  ends : ∀ r ∈ L, r.1 + r.2 ≤ at_
  low : 0 ≤ at_
  high : at_ ≤ k * 7696581394432
  len : L.length = k
theorem mdI_0 : MdI 0 [] 0 := ⟨trivial, fun r h => by simp at h, Int.le_refl _, by simp, rfl⟩
theorem mdI_s {k : Nat} {L : Rs} {at_ : Int} (h : MdI k L at_) (hk : k < 30) (b : Nat) (hb : b < 256) : MdI (k + 1) (L ++ [(mdF at_ b, mdC b)]) (mdF at_ b + mdC b) := by
  obtain ⟨rt, ends, low, high, len⟩ := h
  have h1 := mdF_low at_ b hb
  have h2 := mdC_low b hb
  refine ⟨rt.snoc (fun r hr => by have := ends r hr; omega) (by omega) (by omega) (by omega), fun r hr => ?_, by omega, by push_cast; omega, by simp [len]⟩
  rcases List.mem_append.1 hr with hr | hr
  · have := ends r hr; omega
  · simp only [List.mem_singleton] at hr; subst hr; exact Int.le_refl _
/-- A set that Made makes. -/
def Md (L : Rs) : Prop := RtF 1 L ∧ L.length ≤ 30
theorem Md.rt {L : Rs} (h : Md L) : Rt L := ⟨by have := h.2; omega, h.1⟩
end Sq

set_option maxRecDepth 100000 in
set_option maxHeartbeats 8000000 in
theorem made_any (a : Option Addr) (n c : Nat) (xs : List Nat) (hn : xs.length = n) (hx : ∀ x ∈ xs, x < 256) (hnc : n ≤ c) (hcm : c ≤ maxLen) (w : World) (B : Nat) (hS : Seen w B .u8 a xs) (hB : B ≤ w.heap.size) :
    Calls Try.prog 18 #[.slice a n c] w fun e w' => (∃ a' c' L, e = .returned (.slice a' L.length c') ∧ w'.ownsRow w.heap.size 34 2 (.slice a' L.length c') L.length (flat L) ∧ Md L) ∧ Below w.heap.size w w' := by
  obtain ⟨i0, hi, hz0, hz1, hz2⟩ := info_parts infoR
  obtain ⟨m, hm⟩ : ∃ m, min n 30 = m := ⟨_, rfl⟩
  have hmn : m ≤ n := by omega
  have hm30 : m ≤ 30 := by omega
  have e1 : (if (n : Int) < 30 then (n : Int) else 30) = (m : Int) := by split <;> omega
  have e2 : (if (30 : Int) < (n : Int) then (30 : Int) else (n : Int)) = (m : Int) := by split <;> omega
  have e3 : min (n : Int) 30 = (m : Int) := by omega
  have e4 : (if n < 30 then n else 30) = m := by split <;> omega
  have e5 : (if 30 < n then 30 else n) = m := by split <;> omega
  have e6 : (if (n : Int) ≤ 30 then (n : Int) else 30) = (m : Int) := by split <;> omega
  have e7 : (m : Int) ≤ (c : Int) := by omega
  have HX : Hid (∀ i, i < m → ∃ x, xs[i]? = some x ∧ x < 256) := fun i hi => ⟨xs[i]'(by omega), List.getElem?_eq_getElem (by omega), hx _ (List.getElem_mem _)⟩
  have HS : Hid (Seen w B .u8 a xs) := hS
  have HB := Lib.hid hB
  have HM3 := Lib.hid hm30
  clear hm hx hS hB hn
  go_enter Try.func18, Try.ntmps18
  go_wp2
  go_loopw [3, 4, 14] (fun lv av iv wr => ∃ (k : Nat) (L : Rs) (p : Int), k ≤ m ∧ iv = .int .i64 k ∧ av = .int .i64 p ∧ Hid (MdI k L p) ∧ Hid (wr.ownsRow w.heap.size 34 2 lv L.length (flat L)) ∧ Hid (Below w.heap.size w wr)) (fun _ _ iv _ => m - (intOf iv).toNat)
  case atStart => exact ⟨0, [], 0, Nat.zero_le _, rfl, rfl, mdI_0, World.ownsRow_nil _ _ _ _, Below.refl _ _⟩
  case round =>
    obtain ⟨k, L, p, hk, rfl, rfl, HI, HOL, HW⟩ := hrel
    by_cases hkm : k < m
    · obtain ⟨b, hb, hb256⟩ := HX.out k hkm
      obtain ⟨b1, off, rfl, hb1, hc1⟩ := (HS.out.below (HW.out.mono HB.out)) k b hb
      have hk30 : k < 30 := by have := HM3.out; omega
      have HI2 := Lib.hid (mdI_s HI.out hk30 b hb256)
      have HLL : Hid (L.length < 30) := by show _ < _; rw [HI.out.len]; exact hk30
      have hp0 : 0 ≤ p := HI.out.low
      have hp1 : p ≤ 230897441832960 := by have := HI.out.high; omega
      obtain ⟨va, vc, rfl⟩ := own_val HOL.out
      obtain ⟨q, hq⟩ : ∃ q, L.length = q := ⟨_, rfl⟩
      have HQ := Lib.hid hq
      rw [hq] at HOL HLL
      rw [hq]
      have hki : (k : Int) < 30 := by omega
      by_cases hb250 : b < 250
      · obtain ⟨u, hu⟩ : ∃ u, b % 16 = u := ⟨_, rfl⟩
        obtain ⟨v, hv⟩ : ∃ v, b / 16 = v := ⟨_, rfl⟩
        have g1 : (b : Int) % 16 = (u : Int) := by omega
        have g2 : (b : Int) / 16 = (v : Int) := by omega
        have g3 : (u : Int) < 16 := by omega
        have g4 : (v : Int) < 16 := by omega
        have g5 : decide ((250 : Int) ≤ (b : Int)) = false := by simp; omega
        have g6 : ¬ (250 : Int) ≤ (b : Int) := by omega
        have g7 : decide (250 ≤ b) = false := by simp; omega
        have g8 : ¬ 250 ≤ b := by omega
        obtain ⟨f, hf⟩ : ∃ f, p + 1 + (u : Int) = f := ⟨_, rfl⟩
        obtain ⟨d, hd⟩ : ∃ d, 1 + (v : Int) = d := ⟨_, rfl⟩
        have HFD : Hid (mdF p b = f ∧ mdC b = d) := by
          unfold mdF mdC
          rw [if_neg (by omega), if_neg (by omega), hu, hv]; exact ⟨hf, hd⟩
        have HFR := Lib.hid (mdF_low p b hb256)
        have HDR := Lib.hid (mdC_low b hb256)
        rw [HFD.out.1] at HFR
        rw [HFD.out.2] at HDR
        have hw : IntKind.i64.wrap (f + d) = f + d := wrap_i (by have := HFR.out; have := HDR.out; omega) (by have := HFR.out; have := HDR.out; omega)
        obtain ⟨W1, hW1⟩ : ∃ W1, wr.alloc (.cells #[.int .i64 f, .int .i64 d] 34) = W1 := ⟨_, rfl⟩
        have HW1 : Hid (Below w.heap.size w W1) := by rw [← hW1]; exact HW.out.alloc HW.out.size _
        have HO1 : Hid (W1.ownsRow w.heap.size 34 2 (.slice va q vc) q (flat L)) := by rw [← hW1]; exact HOL.out.alloc _
        have x0 : W1.cell? ⟨wr.heap.size, 0, none⟩ = some (.int .i64 f) := by rw [← hW1]; exact cells_two_new _ _ _ _ 0 _ rfl
        have x1 : W1.cell? ⟨wr.heap.size, 1, none⟩ = some (.int .i64 d) := by rw [← hW1]; exact cells_two_new _ _ _ _ 1 _ rfl
        have HBX : Hid (∃ cs, W1.heap[wr.heap.size]? = some (.cells cs 34 (0, 0)) ∧ w.heap.size ≤ wr.heap.size) := ⟨_, by rw [← hW1]; exact heap_alloc_new _ _, HW.out.size⟩
        have hsz : wr.heap.size < W1.heap.size := by rw [← hW1]; simp
        have HRG : Hid (some wr.heap.size ≠ (Value.slice va q vc).ownBlock) := by
          show _ ≠ _
          rcases HOL.out.2 with ⟨h0, _⟩ | ⟨g, cap, cur, h0, _, hh, _⟩
          · rw [h0]; simp [Value.ownBlock]
          · rw [h0]; intro e
            have e' : wr.heap.size = g := by simpa [Value.ownBlock] using e
            have := (Array.getElem?_eq_some_iff.1 hh).1
            omega
        clear hb hb1 hq hu hv g3 g4
        go_wp2_with (at_builtin; refine wpList_append_own _ rfl _ _ 22 rfl w.heap.size 34 i0 (.agg #[.int .i64 0, .int .i64 0]) 2 16 Try.underlying22 hi hz0 hz1 hz2 rfl (by decide) _ _ _ rfl (HO1.out.alloc _) ⟨W1.heap.size, 0, none⟩ 1 1 [.int .i64 f, .int .i64 d] rfl rfl (cells_two_new _ _ _ _) (by simp [Value.oneCell']) (by have := HLL.out; unfold maxLen; omega) (by have := HLL.out; omega) (by have := HW1.out.size; simp; omega) ?_; intro v6 w6 hown6 hgrow6 _; have HG6 : Hid ((W1.alloc (.cells #[.int .i64 f, .int .i64 d] 34)).grownBy w6 _) := ⟨hgrow6.os, hgrow6.tape, hgrow6.output, hgrow6.size, hgrow6.block⟩; have HO6 := Lib.hid hown6; have HB6 : Hid (Below w.heap.size w w6) := (HW1.out.alloc HW1.out.size _).grown HG6.out (by have := HW1.out.size; simp; omega) (own_ge HO1.out); have y0 : w6.cell? ⟨wr.heap.size, 0, none⟩ = some (.int .i64 f) := (World.cell?_of_block (w := W1) ((HG6.out.block wr.heap.size (by simp; omega) HRG.out).trans (Below.heap_alloc W1 _ _ hsz))).trans x0; have y1 : w6.cell? ⟨wr.heap.size, 1, none⟩ = some (.int .i64 d) := (World.cell?_of_block (w := W1) ((HG6.out.block wr.heap.size (by simp; omega) HRG.out).trans (Below.heap_alloc W1 _ _ hsz))).trans x1; clear hown6 hgrow6 HG6)
        exact ⟨⟨k + 1, L ++ [(f, d)], f + d, hkm, rfl, rfl, by show MdI _ _ _; have := HI2.out; rw [HFD.out.1, HFD.out.2] at this; exact this, by show World.ownsRow _ _ _ _ _ _ _; rw [List.length_append, HQ.out, flat_append]; exact HO6.out, HB6⟩, by simp [intOf]; omega⟩
      · have hbc : b = 250 ∨ b = 251 ∨ b = 252 ∨ b = 253 ∨ b = 254 ∨ b = 255 := by omega
        clear hb hb1 hq
        rcases hbc with rfl | rfl | rfl | rfl | rfl | rfl
        · obtain ⟨f, hf⟩ : ∃ f, p + 1 + 10 + 1099511627776 = f := ⟨_, rfl⟩
          have HFD : Hid (mdF p 250 = f ∧ mdC 250 = 256) := by
            unfold mdF mdC
            rw [if_pos (by decide), if_pos (by decide)]; exact ⟨by rw [← hf]; rfl, by decide⟩
          have HFR := Lib.hid (mdF_low p 250 (by decide))
          have HDR := Lib.hid (mdC_low 250 (by decide))
          rw [HFD.out.1] at HFR
          rw [HFD.out.2] at HDR
          have hw : IntKind.i64.wrap (f + 256) = f + 256 := wrap_i (by have := HFR.out; have := HDR.out; omega) (by have := HFR.out; have := HDR.out; omega)
          obtain ⟨W1, hW1⟩ : ∃ W1, wr.alloc (.cells #[.int .i64 f, .int .i64 256] 34) = W1 := ⟨_, rfl⟩
          have HW1 : Hid (Below w.heap.size w W1) := by rw [← hW1]; exact HW.out.alloc HW.out.size _
          have HO1 : Hid (W1.ownsRow w.heap.size 34 2 (.slice va q vc) q (flat L)) := by rw [← hW1]; exact HOL.out.alloc _
          have x0 : W1.cell? ⟨wr.heap.size, 0, none⟩ = some (.int .i64 f) := by rw [← hW1]; exact cells_two_new _ _ _ _ 0 _ rfl
          have x1 : W1.cell? ⟨wr.heap.size, 1, none⟩ = some (.int .i64 256) := by rw [← hW1]; exact cells_two_new _ _ _ _ 1 _ rfl
          have HBX : Hid (∃ cs, W1.heap[wr.heap.size]? = some (.cells cs 34 (0, 0)) ∧ w.heap.size ≤ wr.heap.size) := ⟨_, by rw [← hW1]; exact heap_alloc_new _ _, HW.out.size⟩
          have hsz : wr.heap.size < W1.heap.size := by rw [← hW1]; simp
          have HRG : Hid (some wr.heap.size ≠ (Value.slice va q vc).ownBlock) := by
            show _ ≠ _
            rcases HOL.out.2 with ⟨h0, _⟩ | ⟨g, cap, cur, h0, _, hh, _⟩
            · rw [h0]; simp [Value.ownBlock]
            · rw [h0]; intro e
              have e' : wr.heap.size = g := by simpa [Value.ownBlock] using e
              have := (Array.getElem?_eq_some_iff.1 hh).1
              omega
          go_wp2_with (at_builtin; refine wpList_append_own _ rfl _ _ 22 rfl w.heap.size 34 i0 (.agg #[.int .i64 0, .int .i64 0]) 2 16 Try.underlying22 hi hz0 hz1 hz2 rfl (by decide) _ _ _ rfl (HO1.out.alloc _) ⟨W1.heap.size, 0, none⟩ 1 1 [.int .i64 f, .int .i64 256] rfl rfl (cells_two_new _ _ _ _) (by simp [Value.oneCell']) (by have := HLL.out; unfold maxLen; omega) (by have := HLL.out; omega) (by have := HW1.out.size; simp; omega) ?_; intro v6 w6 hown6 hgrow6 _; have HG6 : Hid ((W1.alloc (.cells #[.int .i64 f, .int .i64 256] 34)).grownBy w6 _) := ⟨hgrow6.os, hgrow6.tape, hgrow6.output, hgrow6.size, hgrow6.block⟩; have HO6 := Lib.hid hown6; have HB6 : Hid (Below w.heap.size w w6) := (HW1.out.alloc HW1.out.size _).grown HG6.out (by have := HW1.out.size; simp; omega) (own_ge HO1.out); have y0 : w6.cell? ⟨wr.heap.size, 0, none⟩ = some (.int .i64 f) := (World.cell?_of_block (w := W1) ((HG6.out.block wr.heap.size (by simp; omega) HRG.out).trans (Below.heap_alloc W1 _ _ hsz))).trans x0; have y1 : w6.cell? ⟨wr.heap.size, 1, none⟩ = some (.int .i64 256) := (World.cell?_of_block (w := W1) ((HG6.out.block wr.heap.size (by simp; omega) HRG.out).trans (Below.heap_alloc W1 _ _ hsz))).trans x1; clear hown6 hgrow6 HG6)
          exact ⟨⟨k + 1, L ++ [(f, 256)], f + 256, hkm, rfl, rfl, by show MdI _ _ _; have := HI2.out; rw [HFD.out.1, HFD.out.2] at this; exact this, by show World.ownsRow _ _ _ _ _ _ _; rw [List.length_append, HQ.out, flat_append]; exact HO6.out, HB6⟩, by simp [intOf]; omega⟩
        · obtain ⟨f, hf⟩ : ∃ f, p + 1 + 11 + 2199023255552 = f := ⟨_, rfl⟩
          have HFD : Hid (mdF p 251 = f ∧ mdC 251 = 4096) := by
            unfold mdF mdC
            rw [if_pos (by decide), if_pos (by decide)]; exact ⟨by rw [← hf]; rfl, by decide⟩
          have HFR := Lib.hid (mdF_low p 251 (by decide))
          have HDR := Lib.hid (mdC_low 251 (by decide))
          rw [HFD.out.1] at HFR
          rw [HFD.out.2] at HDR
          have hw : IntKind.i64.wrap (f + 4096) = f + 4096 := wrap_i (by have := HFR.out; have := HDR.out; omega) (by have := HFR.out; have := HDR.out; omega)
          obtain ⟨W1, hW1⟩ : ∃ W1, wr.alloc (.cells #[.int .i64 f, .int .i64 4096] 34) = W1 := ⟨_, rfl⟩
          have HW1 : Hid (Below w.heap.size w W1) := by rw [← hW1]; exact HW.out.alloc HW.out.size _
          have HO1 : Hid (W1.ownsRow w.heap.size 34 2 (.slice va q vc) q (flat L)) := by rw [← hW1]; exact HOL.out.alloc _
          have x0 : W1.cell? ⟨wr.heap.size, 0, none⟩ = some (.int .i64 f) := by rw [← hW1]; exact cells_two_new _ _ _ _ 0 _ rfl
          have x1 : W1.cell? ⟨wr.heap.size, 1, none⟩ = some (.int .i64 4096) := by rw [← hW1]; exact cells_two_new _ _ _ _ 1 _ rfl
          have HBX : Hid (∃ cs, W1.heap[wr.heap.size]? = some (.cells cs 34 (0, 0)) ∧ w.heap.size ≤ wr.heap.size) := ⟨_, by rw [← hW1]; exact heap_alloc_new _ _, HW.out.size⟩
          have hsz : wr.heap.size < W1.heap.size := by rw [← hW1]; simp
          have HRG : Hid (some wr.heap.size ≠ (Value.slice va q vc).ownBlock) := by
            show _ ≠ _
            rcases HOL.out.2 with ⟨h0, _⟩ | ⟨g, cap, cur, h0, _, hh, _⟩
            · rw [h0]; simp [Value.ownBlock]
            · rw [h0]; intro e
              have e' : wr.heap.size = g := by simpa [Value.ownBlock] using e
              have := (Array.getElem?_eq_some_iff.1 hh).1
              omega
          go_wp2_with (at_builtin; refine wpList_append_own _ rfl _ _ 22 rfl w.heap.size 34 i0 (.agg #[.int .i64 0, .int .i64 0]) 2 16 Try.underlying22 hi hz0 hz1 hz2 rfl (by decide) _ _ _ rfl (HO1.out.alloc _) ⟨W1.heap.size, 0, none⟩ 1 1 [.int .i64 f, .int .i64 4096] rfl rfl (cells_two_new _ _ _ _) (by simp [Value.oneCell']) (by have := HLL.out; unfold maxLen; omega) (by have := HLL.out; omega) (by have := HW1.out.size; simp; omega) ?_; intro v6 w6 hown6 hgrow6 _; have HG6 : Hid ((W1.alloc (.cells #[.int .i64 f, .int .i64 4096] 34)).grownBy w6 _) := ⟨hgrow6.os, hgrow6.tape, hgrow6.output, hgrow6.size, hgrow6.block⟩; have HO6 := Lib.hid hown6; have HB6 : Hid (Below w.heap.size w w6) := (HW1.out.alloc HW1.out.size _).grown HG6.out (by have := HW1.out.size; simp; omega) (own_ge HO1.out); have y0 : w6.cell? ⟨wr.heap.size, 0, none⟩ = some (.int .i64 f) := (World.cell?_of_block (w := W1) ((HG6.out.block wr.heap.size (by simp; omega) HRG.out).trans (Below.heap_alloc W1 _ _ hsz))).trans x0; have y1 : w6.cell? ⟨wr.heap.size, 1, none⟩ = some (.int .i64 4096) := (World.cell?_of_block (w := W1) ((HG6.out.block wr.heap.size (by simp; omega) HRG.out).trans (Below.heap_alloc W1 _ _ hsz))).trans x1; clear hown6 hgrow6 HG6)
          exact ⟨⟨k + 1, L ++ [(f, 4096)], f + 4096, hkm, rfl, rfl, by show MdI _ _ _; have := HI2.out; rw [HFD.out.1, HFD.out.2] at this; exact this, by show World.ownsRow _ _ _ _ _ _ _; rw [List.length_append, HQ.out, flat_append]; exact HO6.out, HB6⟩, by simp [intOf]; omega⟩
        · obtain ⟨f, hf⟩ : ∃ f, p + 1 + 12 + 3298534883328 = f := ⟨_, rfl⟩
          have HFD : Hid (mdF p 252 = f ∧ mdC 252 = 65536) := by
            unfold mdF mdC
            rw [if_pos (by decide), if_pos (by decide)]; exact ⟨by rw [← hf]; rfl, by decide⟩
          have HFR := Lib.hid (mdF_low p 252 (by decide))
          have HDR := Lib.hid (mdC_low 252 (by decide))
          rw [HFD.out.1] at HFR
          rw [HFD.out.2] at HDR
          have hw : IntKind.i64.wrap (f + 65536) = f + 65536 := wrap_i (by have := HFR.out; have := HDR.out; omega) (by have := HFR.out; have := HDR.out; omega)
          obtain ⟨W1, hW1⟩ : ∃ W1, wr.alloc (.cells #[.int .i64 f, .int .i64 65536] 34) = W1 := ⟨_, rfl⟩
          have HW1 : Hid (Below w.heap.size w W1) := by rw [← hW1]; exact HW.out.alloc HW.out.size _
          have HO1 : Hid (W1.ownsRow w.heap.size 34 2 (.slice va q vc) q (flat L)) := by rw [← hW1]; exact HOL.out.alloc _
          have x0 : W1.cell? ⟨wr.heap.size, 0, none⟩ = some (.int .i64 f) := by rw [← hW1]; exact cells_two_new _ _ _ _ 0 _ rfl
          have x1 : W1.cell? ⟨wr.heap.size, 1, none⟩ = some (.int .i64 65536) := by rw [← hW1]; exact cells_two_new _ _ _ _ 1 _ rfl
          have HBX : Hid (∃ cs, W1.heap[wr.heap.size]? = some (.cells cs 34 (0, 0)) ∧ w.heap.size ≤ wr.heap.size) := ⟨_, by rw [← hW1]; exact heap_alloc_new _ _, HW.out.size⟩
          have hsz : wr.heap.size < W1.heap.size := by rw [← hW1]; simp
          have HRG : Hid (some wr.heap.size ≠ (Value.slice va q vc).ownBlock) := by
            show _ ≠ _
            rcases HOL.out.2 with ⟨h0, _⟩ | ⟨g, cap, cur, h0, _, hh, _⟩
            · rw [h0]; simp [Value.ownBlock]
            · rw [h0]; intro e
              have e' : wr.heap.size = g := by simpa [Value.ownBlock] using e
              have := (Array.getElem?_eq_some_iff.1 hh).1
              omega
          go_wp2_with (at_builtin; refine wpList_append_own _ rfl _ _ 22 rfl w.heap.size 34 i0 (.agg #[.int .i64 0, .int .i64 0]) 2 16 Try.underlying22 hi hz0 hz1 hz2 rfl (by decide) _ _ _ rfl (HO1.out.alloc _) ⟨W1.heap.size, 0, none⟩ 1 1 [.int .i64 f, .int .i64 65536] rfl rfl (cells_two_new _ _ _ _) (by simp [Value.oneCell']) (by have := HLL.out; unfold maxLen; omega) (by have := HLL.out; omega) (by have := HW1.out.size; simp; omega) ?_; intro v6 w6 hown6 hgrow6 _; have HG6 : Hid ((W1.alloc (.cells #[.int .i64 f, .int .i64 65536] 34)).grownBy w6 _) := ⟨hgrow6.os, hgrow6.tape, hgrow6.output, hgrow6.size, hgrow6.block⟩; have HO6 := Lib.hid hown6; have HB6 : Hid (Below w.heap.size w w6) := (HW1.out.alloc HW1.out.size _).grown HG6.out (by have := HW1.out.size; simp; omega) (own_ge HO1.out); have y0 : w6.cell? ⟨wr.heap.size, 0, none⟩ = some (.int .i64 f) := (World.cell?_of_block (w := W1) ((HG6.out.block wr.heap.size (by simp; omega) HRG.out).trans (Below.heap_alloc W1 _ _ hsz))).trans x0; have y1 : w6.cell? ⟨wr.heap.size, 1, none⟩ = some (.int .i64 65536) := (World.cell?_of_block (w := W1) ((HG6.out.block wr.heap.size (by simp; omega) HRG.out).trans (Below.heap_alloc W1 _ _ hsz))).trans x1; clear hown6 hgrow6 HG6)
          exact ⟨⟨k + 1, L ++ [(f, 65536)], f + 65536, hkm, rfl, rfl, by show MdI _ _ _; have := HI2.out; rw [HFD.out.1, HFD.out.2] at this; exact this, by show World.ownsRow _ _ _ _ _ _ _; rw [List.length_append, HQ.out, flat_append]; exact HO6.out, HB6⟩, by simp [intOf]; omega⟩
        · obtain ⟨f, hf⟩ : ∃ f, p + 1 + 13 + 4398046511104 = f := ⟨_, rfl⟩
          have HFD : Hid (mdF p 253 = f ∧ mdC 253 = 1048576) := by
            unfold mdF mdC
            rw [if_pos (by decide), if_pos (by decide)]; exact ⟨by rw [← hf]; rfl, by decide⟩
          have HFR := Lib.hid (mdF_low p 253 (by decide))
          have HDR := Lib.hid (mdC_low 253 (by decide))
          rw [HFD.out.1] at HFR
          rw [HFD.out.2] at HDR
          have hw : IntKind.i64.wrap (f + 1048576) = f + 1048576 := wrap_i (by have := HFR.out; have := HDR.out; omega) (by have := HFR.out; have := HDR.out; omega)
          obtain ⟨W1, hW1⟩ : ∃ W1, wr.alloc (.cells #[.int .i64 f, .int .i64 1048576] 34) = W1 := ⟨_, rfl⟩
          have HW1 : Hid (Below w.heap.size w W1) := by rw [← hW1]; exact HW.out.alloc HW.out.size _
          have HO1 : Hid (W1.ownsRow w.heap.size 34 2 (.slice va q vc) q (flat L)) := by rw [← hW1]; exact HOL.out.alloc _
          have x0 : W1.cell? ⟨wr.heap.size, 0, none⟩ = some (.int .i64 f) := by rw [← hW1]; exact cells_two_new _ _ _ _ 0 _ rfl
          have x1 : W1.cell? ⟨wr.heap.size, 1, none⟩ = some (.int .i64 1048576) := by rw [← hW1]; exact cells_two_new _ _ _ _ 1 _ rfl
          have HBX : Hid (∃ cs, W1.heap[wr.heap.size]? = some (.cells cs 34 (0, 0)) ∧ w.heap.size ≤ wr.heap.size) := ⟨_, by rw [← hW1]; exact heap_alloc_new _ _, HW.out.size⟩
          have hsz : wr.heap.size < W1.heap.size := by rw [← hW1]; simp
          have HRG : Hid (some wr.heap.size ≠ (Value.slice va q vc).ownBlock) := by
            show _ ≠ _
            rcases HOL.out.2 with ⟨h0, _⟩ | ⟨g, cap, cur, h0, _, hh, _⟩
            · rw [h0]; simp [Value.ownBlock]
            · rw [h0]; intro e
              have e' : wr.heap.size = g := by simpa [Value.ownBlock] using e
              have := (Array.getElem?_eq_some_iff.1 hh).1
              omega
          go_wp2_with (at_builtin; refine wpList_append_own _ rfl _ _ 22 rfl w.heap.size 34 i0 (.agg #[.int .i64 0, .int .i64 0]) 2 16 Try.underlying22 hi hz0 hz1 hz2 rfl (by decide) _ _ _ rfl (HO1.out.alloc _) ⟨W1.heap.size, 0, none⟩ 1 1 [.int .i64 f, .int .i64 1048576] rfl rfl (cells_two_new _ _ _ _) (by simp [Value.oneCell']) (by have := HLL.out; unfold maxLen; omega) (by have := HLL.out; omega) (by have := HW1.out.size; simp; omega) ?_; intro v6 w6 hown6 hgrow6 _; have HG6 : Hid ((W1.alloc (.cells #[.int .i64 f, .int .i64 1048576] 34)).grownBy w6 _) := ⟨hgrow6.os, hgrow6.tape, hgrow6.output, hgrow6.size, hgrow6.block⟩; have HO6 := Lib.hid hown6; have HB6 : Hid (Below w.heap.size w w6) := (HW1.out.alloc HW1.out.size _).grown HG6.out (by have := HW1.out.size; simp; omega) (own_ge HO1.out); have y0 : w6.cell? ⟨wr.heap.size, 0, none⟩ = some (.int .i64 f) := (World.cell?_of_block (w := W1) ((HG6.out.block wr.heap.size (by simp; omega) HRG.out).trans (Below.heap_alloc W1 _ _ hsz))).trans x0; have y1 : w6.cell? ⟨wr.heap.size, 1, none⟩ = some (.int .i64 1048576) := (World.cell?_of_block (w := W1) ((HG6.out.block wr.heap.size (by simp; omega) HRG.out).trans (Below.heap_alloc W1 _ _ hsz))).trans x1; clear hown6 hgrow6 HG6)
          exact ⟨⟨k + 1, L ++ [(f, 1048576)], f + 1048576, hkm, rfl, rfl, by show MdI _ _ _; have := HI2.out; rw [HFD.out.1, HFD.out.2] at this; exact this, by show World.ownsRow _ _ _ _ _ _ _; rw [List.length_append, HQ.out, flat_append]; exact HO6.out, HB6⟩, by simp [intOf]; omega⟩
        · obtain ⟨f, hf⟩ : ∃ f, p + 1 + 14 + 5497558138880 = f := ⟨_, rfl⟩
          have HFD : Hid (mdF p 254 = f ∧ mdC 254 = 16777216) := by
            unfold mdF mdC
            rw [if_pos (by decide), if_pos (by decide)]; exact ⟨by rw [← hf]; rfl, by decide⟩
          have HFR := Lib.hid (mdF_low p 254 (by decide))
          have HDR := Lib.hid (mdC_low 254 (by decide))
          rw [HFD.out.1] at HFR
          rw [HFD.out.2] at HDR
          have hw : IntKind.i64.wrap (f + 16777216) = f + 16777216 := wrap_i (by have := HFR.out; have := HDR.out; omega) (by have := HFR.out; have := HDR.out; omega)
          obtain ⟨W1, hW1⟩ : ∃ W1, wr.alloc (.cells #[.int .i64 f, .int .i64 16777216] 34) = W1 := ⟨_, rfl⟩
          have HW1 : Hid (Below w.heap.size w W1) := by rw [← hW1]; exact HW.out.alloc HW.out.size _
          have HO1 : Hid (W1.ownsRow w.heap.size 34 2 (.slice va q vc) q (flat L)) := by rw [← hW1]; exact HOL.out.alloc _
          have x0 : W1.cell? ⟨wr.heap.size, 0, none⟩ = some (.int .i64 f) := by rw [← hW1]; exact cells_two_new _ _ _ _ 0 _ rfl
          have x1 : W1.cell? ⟨wr.heap.size, 1, none⟩ = some (.int .i64 16777216) := by rw [← hW1]; exact cells_two_new _ _ _ _ 1 _ rfl
          have HBX : Hid (∃ cs, W1.heap[wr.heap.size]? = some (.cells cs 34 (0, 0)) ∧ w.heap.size ≤ wr.heap.size) := ⟨_, by rw [← hW1]; exact heap_alloc_new _ _, HW.out.size⟩
          have hsz : wr.heap.size < W1.heap.size := by rw [← hW1]; simp
          have HRG : Hid (some wr.heap.size ≠ (Value.slice va q vc).ownBlock) := by
            show _ ≠ _
            rcases HOL.out.2 with ⟨h0, _⟩ | ⟨g, cap, cur, h0, _, hh, _⟩
            · rw [h0]; simp [Value.ownBlock]
            · rw [h0]; intro e
              have e' : wr.heap.size = g := by simpa [Value.ownBlock] using e
              have := (Array.getElem?_eq_some_iff.1 hh).1
              omega
          go_wp2_with (at_builtin; refine wpList_append_own _ rfl _ _ 22 rfl w.heap.size 34 i0 (.agg #[.int .i64 0, .int .i64 0]) 2 16 Try.underlying22 hi hz0 hz1 hz2 rfl (by decide) _ _ _ rfl (HO1.out.alloc _) ⟨W1.heap.size, 0, none⟩ 1 1 [.int .i64 f, .int .i64 16777216] rfl rfl (cells_two_new _ _ _ _) (by simp [Value.oneCell']) (by have := HLL.out; unfold maxLen; omega) (by have := HLL.out; omega) (by have := HW1.out.size; simp; omega) ?_; intro v6 w6 hown6 hgrow6 _; have HG6 : Hid ((W1.alloc (.cells #[.int .i64 f, .int .i64 16777216] 34)).grownBy w6 _) := ⟨hgrow6.os, hgrow6.tape, hgrow6.output, hgrow6.size, hgrow6.block⟩; have HO6 := Lib.hid hown6; have HB6 : Hid (Below w.heap.size w w6) := (HW1.out.alloc HW1.out.size _).grown HG6.out (by have := HW1.out.size; simp; omega) (own_ge HO1.out); have y0 : w6.cell? ⟨wr.heap.size, 0, none⟩ = some (.int .i64 f) := (World.cell?_of_block (w := W1) ((HG6.out.block wr.heap.size (by simp; omega) HRG.out).trans (Below.heap_alloc W1 _ _ hsz))).trans x0; have y1 : w6.cell? ⟨wr.heap.size, 1, none⟩ = some (.int .i64 16777216) := (World.cell?_of_block (w := W1) ((HG6.out.block wr.heap.size (by simp; omega) HRG.out).trans (Below.heap_alloc W1 _ _ hsz))).trans x1; clear hown6 hgrow6 HG6)
          exact ⟨⟨k + 1, L ++ [(f, 16777216)], f + 16777216, hkm, rfl, rfl, by show MdI _ _ _; have := HI2.out; rw [HFD.out.1, HFD.out.2] at this; exact this, by show World.ownsRow _ _ _ _ _ _ _; rw [List.length_append, HQ.out, flat_append]; exact HO6.out, HB6⟩, by simp [intOf]; omega⟩
        · obtain ⟨f, hf⟩ : ∃ f, p + 1 + 15 + 6597069766656 = f := ⟨_, rfl⟩
          have HFD : Hid (mdF p 255 = f ∧ mdC 255 = 268435456) := by
            unfold mdF mdC
            rw [if_pos (by decide), if_pos (by decide)]; exact ⟨by rw [← hf]; rfl, by decide⟩
          have HFR := Lib.hid (mdF_low p 255 (by decide))
          have HDR := Lib.hid (mdC_low 255 (by decide))
          rw [HFD.out.1] at HFR
          rw [HFD.out.2] at HDR
          have hw : IntKind.i64.wrap (f + 268435456) = f + 268435456 := wrap_i (by have := HFR.out; have := HDR.out; omega) (by have := HFR.out; have := HDR.out; omega)
          obtain ⟨W1, hW1⟩ : ∃ W1, wr.alloc (.cells #[.int .i64 f, .int .i64 268435456] 34) = W1 := ⟨_, rfl⟩
          have HW1 : Hid (Below w.heap.size w W1) := by rw [← hW1]; exact HW.out.alloc HW.out.size _
          have HO1 : Hid (W1.ownsRow w.heap.size 34 2 (.slice va q vc) q (flat L)) := by rw [← hW1]; exact HOL.out.alloc _
          have x0 : W1.cell? ⟨wr.heap.size, 0, none⟩ = some (.int .i64 f) := by rw [← hW1]; exact cells_two_new _ _ _ _ 0 _ rfl
          have x1 : W1.cell? ⟨wr.heap.size, 1, none⟩ = some (.int .i64 268435456) := by rw [← hW1]; exact cells_two_new _ _ _ _ 1 _ rfl
          have HBX : Hid (∃ cs, W1.heap[wr.heap.size]? = some (.cells cs 34 (0, 0)) ∧ w.heap.size ≤ wr.heap.size) := ⟨_, by rw [← hW1]; exact heap_alloc_new _ _, HW.out.size⟩
          have hsz : wr.heap.size < W1.heap.size := by rw [← hW1]; simp
          have HRG : Hid (some wr.heap.size ≠ (Value.slice va q vc).ownBlock) := by
            show _ ≠ _
            rcases HOL.out.2 with ⟨h0, _⟩ | ⟨g, cap, cur, h0, _, hh, _⟩
            · rw [h0]; simp [Value.ownBlock]
            · rw [h0]; intro e
              have e' : wr.heap.size = g := by simpa [Value.ownBlock] using e
              have := (Array.getElem?_eq_some_iff.1 hh).1
              omega
          go_wp2_with (at_builtin; refine wpList_append_own _ rfl _ _ 22 rfl w.heap.size 34 i0 (.agg #[.int .i64 0, .int .i64 0]) 2 16 Try.underlying22 hi hz0 hz1 hz2 rfl (by decide) _ _ _ rfl (HO1.out.alloc _) ⟨W1.heap.size, 0, none⟩ 1 1 [.int .i64 f, .int .i64 268435456] rfl rfl (cells_two_new _ _ _ _) (by simp [Value.oneCell']) (by have := HLL.out; unfold maxLen; omega) (by have := HLL.out; omega) (by have := HW1.out.size; simp; omega) ?_; intro v6 w6 hown6 hgrow6 _; have HG6 : Hid ((W1.alloc (.cells #[.int .i64 f, .int .i64 268435456] 34)).grownBy w6 _) := ⟨hgrow6.os, hgrow6.tape, hgrow6.output, hgrow6.size, hgrow6.block⟩; have HO6 := Lib.hid hown6; have HB6 : Hid (Below w.heap.size w w6) := (HW1.out.alloc HW1.out.size _).grown HG6.out (by have := HW1.out.size; simp; omega) (own_ge HO1.out); have y0 : w6.cell? ⟨wr.heap.size, 0, none⟩ = some (.int .i64 f) := (World.cell?_of_block (w := W1) ((HG6.out.block wr.heap.size (by simp; omega) HRG.out).trans (Below.heap_alloc W1 _ _ hsz))).trans x0; have y1 : w6.cell? ⟨wr.heap.size, 1, none⟩ = some (.int .i64 268435456) := (World.cell?_of_block (w := W1) ((HG6.out.block wr.heap.size (by simp; omega) HRG.out).trans (Below.heap_alloc W1 _ _ hsz))).trans x1; clear hown6 hgrow6 HG6)
          exact ⟨⟨k + 1, L ++ [(f, 268435456)], f + 268435456, hkm, rfl, rfl, by show MdI _ _ _; have := HI2.out; rw [HFD.out.1, HFD.out.2] at this; exact this, by show World.ownsRow _ _ _ _ _ _ _; rw [List.length_append, HQ.out, flat_append]; exact HO6.out, HB6⟩, by simp [intOf]; omega⟩
    · obtain rfl : m = k := by omega
      obtain ⟨va, vc, rfl⟩ := own_val HOL.out
      clear hkm
      go_wp2
      go_ret
      exact ⟨⟨va, vc, L, rfl, HOL.out, HI.out.rt, by rw [HI.out.len]; exact HM3.out⟩, HW.out⟩
end Go.Proofs.Ythamilolacfeoaa
