/-
  ends of the law; tables of sets.
-/
import Derived.Test.YthamilolacfeoaaSetsQ
import Derived.Test.YthamilolacfeoaaArgs
namespace Go.Proofs.Ythamilolacfeoaa
open Go.RowKit Sq
set_option linter.unusedVariables false

theorem cells_new_list (W : World) (t : TypeId) (cs : Array Value) : ∀ j x, cs.toList[j]? = some x → (W.alloc (.cells cs t)).cell? ((⟨W.heap.size, 0, none⟩ : Addr).add j) = some x := by
  intro j x hx
  have hh := heap_alloc_new W (.cells cs t)
  have e : ((⟨W.heap.size, 0, none⟩ : Addr).add j) = ⟨W.heap.size, j, none⟩ := by
    unfold Addr.add; split
    · rename_i h0; subst h0; rfl
    · simp
  rw [e]
  unfold World.cell?
  rw [hh]
  simpa using hx
/-- Block g holds right sets. -/
def TabS (w : World) (g m : Nat) : Prop := g < w.heap.size ∧ ∀ i, i < m → ∃ a n c L, w.cell? ⟨g, i, none⟩ = some (.slice a n c) ∧ SetIn w a n c L ∧ n ≤ 1000
theorem TabS.keep {w w' : World} {g m : Nat} (h : TabS w g m) (hb : Below w.heap.size w w') : TabS w' g m := ⟨Nat.lt_of_lt_of_le h.1 hb.size, fun i hi => by
  obtain ⟨a, n, c, L, h1, h2, h3⟩ := h.2 i hi
  exact ⟨a, n, c, L, (hb.cell (p := ⟨g, i, none⟩) h.1).trans h1, h2.keep hb, h3⟩⟩
theorem tabS_2 {w : World} {a1 a2 : Option Addr} {n1 n2 c1 c2 : Nat} {L1 L2 : Rs} (h1 : SetIn w a1 n1 c1 L1) (h2 : SetIn w a2 n2 c2 L2) (k1 : n1 ≤ 1000) (k2 : n2 ≤ 1000) (t : TypeId) : TabS (w.alloc (.cells #[.slice a1 n1 c1, .slice a2 n2 c2] t)) w.heap.size 2 := ⟨by simp, fun i hi => by
  have hh := heap_alloc_new w (.cells #[.slice a1 n1 c1, .slice a2 n2 c2] t)
  match i, hi with
  | 0, _ => exact ⟨a1, n1, c1, L1, by unfold World.cell?; rw [hh]; rfl, h1.alloc _, k1⟩
  | 1, _ => exact ⟨a2, n2, c2, L2, by unfold World.cell?; rw [hh]; rfl, h2.alloc _, k2⟩⟩
theorem tabS_4 {w : World} {a1 a2 a3 a4 : Option Addr} {n1 n2 n3 n4 c1 c2 c3 c4 : Nat} {L1 L2 L3 L4 : Rs} (h1 : SetIn w a1 n1 c1 L1) (h2 : SetIn w a2 n2 c2 L2) (h3 : SetIn w a3 n3 c3 L3) (h4 : SetIn w a4 n4 c4 L4) (k1 : n1 ≤ 1000) (k2 : n2 ≤ 1000) (k3 : n3 ≤ 1000) (k4 : n4 ≤ 1000) (t : TypeId) : TabS (w.alloc (.cells #[.slice a1 n1 c1, .slice a2 n2 c2, .slice a3 n3 c3, .slice a4 n4 c4] t)) w.heap.size 4 := ⟨by simp, fun i hi => by
  have hh := heap_alloc_new w (.cells #[.slice a1 n1 c1, .slice a2 n2 c2, .slice a3 n3 c3, .slice a4 n4 c4] t)
  match i, hi with
  | 0, _ => exact ⟨a1, n1, c1, L1, by unfold World.cell?; rw [hh]; rfl, h1.alloc _, k1⟩
  | 1, _ => exact ⟨a2, n2, c2, L2, by unfold World.cell?; rw [hh]; rfl, h2.alloc _, k2⟩
  | 2, _ => exact ⟨a3, n3, c3, L3, by unfold World.cell?; rw [hh]; rfl, h3.alloc _, k3⟩
  | 3, _ => exact ⟨a4, n4, c4, L4, by unfold World.cell?; rw [hh]; rfl, h4.alloc _, k4⟩⟩
section
variable {w : World} {a1 : Option Addr} {n c1 : Nat} {A : Rs}
theorem has_at (hA : SetIn w a1 n c1 A) (x : Int) {r : Bool} (hr : hs A x = r) : Calls Try.prog 25 #[.slice a1 n c1, .int .i64 x] w fun e w' => e = .returned (.tuple #[.bool r, .int .i64 0]) ∧ Below w.heap.size w w' :=
  has_yes a1 n c1 A hA.len w w.heap.size hA.seen (Nat.le_refl _) hA.rt x r hr
theorem lhas_at (hA : SetIn w a1 n c1 A) (x : Int) {r : Bool} (hr : hs A x = r) : Calls Try.prog 24 #[.slice a1 n c1, .int .i64 x] w fun e w' => e = .returned (.bool r) ∧ Below w.heap.size w w' :=
  lhas_any a1 n c1 A hA.len (by have := hA.le; omega) w w.heap.size hA.seen (Nat.le_refl _) 1 hA.rt.2 (by decide) x r hr
end
set_option maxRecDepth 100000 in
set_option maxHeartbeats 8000000 in
/-- ends: some numbers. -/
theorem ends_any (g : Nat) (w : World) (hT : TabS w g 2) : Calls Try.prog 23 #[.slice (some ⟨g, 0, none⟩) 2 2] w fun e w' => (∃ a c zs, e = .returned (.slice a zs.length c) ∧ w'.ownsRow w.heap.size 3 1 (.slice a zs.length c) zs.length (zv zs) ∧ zs.length ≤ 12000) ∧ Below w.heap.size w w' := by
  obtain ⟨i0, hi, hz0, hz1, hz2⟩ := info_parts infoI
  have HT : Hid (TabS w g 2) := hT
  clear hT
  go_enter Try.func23, Try.ntmps23
  go_wp2
  go_loopw [3, 10] (fun lv iv wr => ∃ (k : Nat) (zs : List Int), k ≤ 2 ∧ iv = .int .i64 k ∧ Hid (zs.length ≤ 6000 * k) ∧ Hid (wr.ownsRow w.heap.size 3 1 lv zs.length (zv zs)) ∧ Hid (Below w.heap.size w wr)) (fun _ iv _ => 2 - (intOf iv).toNat)
  case atStart => exact ⟨0, [], Nat.zero_le _, rfl, Nat.le_refl _, World.ownsRow_nil _ _ _ _, Below.refl _ _⟩
  case round =>
    obtain ⟨k, zs, hk, rfl, HL, HO, HW⟩ := hrel
    by_cases hk2 : k < 2
    · obtain ⟨a1, n1, c1, L, hc0, hs, hn⟩ := HT.out.2 k hk2
      have hc : wr.cell? ⟨g, k, none⟩ = some (.slice a1 n1 c1) := (HW.out.cell (p := ⟨g, k, none⟩) HT.out.1).trans hc0
      have HS := Lib.hid hs
      have HN := Lib.hid hn
      have hni : (n1 : Int) ≤ 1000 := by omega
      have hki : (k : Int) < 2 := by omega
      obtain ⟨wo, rfl⟩ : ∃ wo, wo = wr := ⟨_, rfl⟩
      clear hs hn hc0
      go_wp2
      go_loopw [3, 16] (fun lv iv wq => ∃ (j : Nat) (ys : List Int), j ≤ n1 ∧ iv = .int .i64 j ∧ Hid (ys.length ≤ 6000 * k + 6 * j) ∧ Hid (wq.ownsRow w.heap.size 3 1 lv ys.length (zv ys)) ∧ Hid (Below w.heap.size w wq)) (fun _ iv _ => n1 - (intOf iv).toNat)
      case atStart => exact ⟨0, zs, Nat.zero_le _, rfl, HL, HO, HW⟩
      case round =>
        obtain ⟨j, ys, hj, rfl, HJ, HOJ, HWJ⟩ := hrel
        by_cases hjn : j < n1
        · obtain ⟨r, hr⟩ : ∃ r, L[j]? = some r := ⟨_, List.getElem?_eq_getElem (by rw [HS.out.len]; exact hjn)⟩
          obtain ⟨q1, q2, q3⟩ := ends_high HS.out.rt.2 r (List.mem_of_getElem? hr)
          obtain ⟨b, off, rfl, hb, d1, d2⟩ := (HS.out.seen.below HWJ.out) j r hr
          obtain ⟨f, hf⟩ : ∃ f, r.1 = f := ⟨_, rfl⟩
          obtain ⟨d, hd⟩ : ∃ d, r.2 = d := ⟨_, rfl⟩
          rw [hf] at d1 q1 q3
          rw [hd] at d2 q2 q3
          obtain ⟨x, hx⟩ : ∃ x, f + d = x := ⟨_, rfl⟩
          have w1 : IntKind.i64.wrap x = x := wrap_i (by omega) (by omega)
          have w2 : IntKind.i64.wrap (x - 1) = x - 1 := wrap_i (by omega) (by omega)
          have w3 : IntKind.i64.wrap (x + 1) = x + 1 := wrap_i (by omega) (by omega)
          have w4 : IntKind.i64.wrap (f - 1) = f - 1 := wrap_i (by omega) (by omega)
          have w5 : IntKind.i64.wrap (f + 1) = f + 1 := wrap_i (by omega) (by omega)
          have HJL : Hid (ys.length ≤ 18000) := by show _ ≤ _; have := HJ.out; have := HN.out; omega
          have HJ2 : Hid (ys.length + 6 ≤ 6000 * k + 6 * (j + 1)) := by show _ ≤ _; have := HJ.out; omega
          obtain ⟨va, vc, rfl⟩ := own_val HOJ.out
          obtain ⟨m, hm⟩ : ∃ m, ys.length = m := ⟨_, rfl⟩
          have HM := Lib.hid hm
          rw [hm] at HOJ HJL
          rw [hm]
          obtain ⟨W1, hW1⟩ : ∃ W1, wr.alloc (.cells #[.int .i64 f, .int .i64 d] 34) = W1 := ⟨_, rfl⟩
          have HW1 : Hid (Below w.heap.size w W1) := by rw [← hW1]; exact HWJ.out.alloc HWJ.out.size _
          have HO1 : Hid (W1.ownsRow w.heap.size 3 1 (.slice va m vc) m (zv ys)) := by rw [← hW1]; exact HOJ.out.alloc _
          have x0 : W1.cell? ⟨wr.heap.size, 0, none⟩ = some (.int .i64 f) := by rw [← hW1]; exact cells_two_new _ _ _ _ 0 _ rfl
          have x1 : W1.cell? ⟨wr.heap.size, 1, none⟩ = some (.int .i64 d) := by rw [← hW1]; exact cells_two_new _ _ _ _ 1 _ rfl
          have hji : (j : Int) < 1000 := by omega
          clear hr hf hd hb q1 q2 q3 hm
          go_wp2_with (at_builtin; refine wpList_append_own _ rfl _ _ 26 rfl w.heap.size 3 i0 (.int .i64 0) 1 8 Try.underlying26 hi hz0 hz1 hz2 rfl (by decide) _ _ _ rfl (HO1.out.alloc _) ⟨W1.heap.size, 0, none⟩ 6 6 [.int .i64 (f - 1), .int .i64 f, .int .i64 (f + 1), .int .i64 (x - 1), .int .i64 x, .int .i64 (x + 1)] rfl rfl (cells_new_list _ _ _) (by simp [Value.oneCell']) (by have := HJL.out; unfold maxLen; omega) (by have := HJL.out; omega) (by have := HW1.out.size; simp; omega) ?_; intro v6 w6 hown6 hgrow6 _; have HG6 : Hid ((W1.alloc (.cells #[.int .i64 (f - 1), .int .i64 f, .int .i64 (f + 1), .int .i64 (x - 1), .int .i64 x, .int .i64 (x + 1)] 3)).grownBy w6 _) := ⟨hgrow6.os, hgrow6.tape, hgrow6.output, hgrow6.size, hgrow6.block⟩; have HO6 := Lib.hid hown6; have HB6 : Hid (Below w.heap.size w w6) := (HW1.out.alloc HW1.out.size _).grown HG6.out (by have := HW1.out.size; simp; omega) (own_ge HO1.out); clear hown6 hgrow6 HG6)
          exact ⟨⟨j + 1, ys ++ [f - 1, f, f + 1, x - 1, x, x + 1], hjn, rfl, by show _ ≤ _; rw [List.length_append, HM.out]; have := HJ2.out; rw [HM.out] at this; exact this, by show World.ownsRow _ _ _ _ _ _ _; rw [List.length_append, HM.out, zv, List.map_append]; exact HO6.out, HB6⟩, by simp [intOf]; omega⟩
        · obtain rfl : n1 = j := by omega
          have HL2 : Hid (ys.length ≤ 6000 * (k + 1)) := by show _ ≤ _; have := HJ.out; have := HN.out; omega
          clear hjn
          go_wp2
          first
            | exact ⟨⟨k + 1, ys, hk2, rfl, HL2, HOJ, HWJ⟩, by simp [intOf]; omega⟩
            | (refine ⟨?_, by simp [intOf]; omega⟩; repeat apply Exists.intro; refine ⟨⟨k + 1, ys, hk2, rfl, HL2, HOJ, HWJ⟩, ?_⟩; simp; repeat' (first | exact rfl | omega | apply And.intro))
    · obtain rfl : 2 = k := by omega
      obtain ⟨va, vc, rfl⟩ := own_val HO.out
      clear hk2
      go_wp2
      go_ret
      exact ⟨⟨va, vc, zs, rfl, HO.out, HL.out⟩, HW.out⟩
end Go.Proofs.Ythamilolacfeoaa
