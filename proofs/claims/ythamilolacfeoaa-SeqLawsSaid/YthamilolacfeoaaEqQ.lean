/-
  slices.Equal of runs; has of the law.
-/
import Derived.Test.YthamilolacfeoaaCountQ
import Derived.Laws.StructEq
namespace Go.Proofs.Ythamilolacfeoaa
open Go.RowKit Sq
set_option linter.unusedVariables false

set_option maxRecDepth 100000 in
theorem run_eq_run (t : TypeId) (ht : t = 34 ∨ t = 33) (x y : Int) (a b : Int) (w : World) : (Op.equalIn 10000 t (.agg #[.int .i64 x, .int .i64 a]) (.agg #[.int .i64 y, .int .i64 b])).run Try.prog w = .ok (x == y && (a == b)) w := by
  have hU : Try.prog.underlying t = some (.struct (Try.prog.fieldsOf t)) := by rcases ht with rfl | rfl <;> kernel_rfl
  have hF : (Try.prog.fieldsOf t).toList.map (fun f => (f.name, f.type, f.offset)) = [("First", 3, 0), ("Count", 3, 1)] := by rcases ht with rfl | rfl <;> kernel_rfl
  have hS : (Try.prog.fieldsOf t).toList.length = 2 := by rcases ht with rfl | rfl <;> kernel_rfl
  have hx : ∀ (w : World), (Op.equalIn 9999 3 (.int .i64 x) (.int .i64 y)).run Try.prog w = .ok (x == y) w := fun w => run_equalIn_int (P := Try.prog) w 9998 3 .i64 .i64 x y Try.underlying3
  have hi : ∀ (a b : Int) (w : World), (Op.equalIn 9999 3 (.int .i64 a) (.int .i64 b)).run Try.prog w = .ok (a == b) w := fun a b w => run_equalIn_int (P := Try.prog) w 9998 3 .i64 .i64 a b Try.underlying3
  show (Op.equalIn (9999 + 1) _ _ _).run _ _ = _
  rw [run_equalIn_struct w 9999 _ _ _ hU (by rcases ht with rfl | rfl <;> kernel_rfl)]
  obtain ⟨f0, f1, hl⟩ : ∃ f0 f1, (Try.prog.fieldsOf t).toList = [f0, f1] := by
    match (Try.prog.fieldsOf t).toList, hS with
    | [f0, f1], _ => exact ⟨f0, f1, rfl⟩
  rw [hl] at hF ⊢
  simp only [List.map_cons, List.map_nil, List.cons.injEq, Prod.mk.injEq, and_true] at hF
  obtain ⟨⟨a0, b0, d0⟩, ⟨a1, b1, d1⟩⟩ := hF
  simp only [Op.eqFields, a0, b0, d0, a1, b1, d1]
  simp [part, Try.underlying3, run_underlying, isAgg, hi, go_sem]
  (repeat' split) <;> simp_all
namespace Sq
theorem take_snoc {l : Rs} {k : Nat} {r : Int × Int} (h : l[k]? = some r) : l.take (k + 1) = l.take k ++ [r] := by rw [List.take_add_one, h]; rfl
end Sq
section
variable (a1 a2 : Option Addr) (n m c1 c2 : Nat) (a b : Rs) (hn : a.length = n) (hm : b.length = m) (hnl : n ≤ 1000000) (hml : m ≤ 1000000) (w : World) (B : Nat) (hS1 : SeenR w B a1 a) (hS2 : SeenR w B a2 b)
include hn hm hnl hml hS1 hS2
set_option maxRecDepth 100000 in
set_option maxHeartbeats 2000000 in
theorem equalR_any (r : Bool) (hr : decide (a = b) = r) :
    Calls Try.prog 29 #[.slice a1 n c1, .slice a2 m c2] w fun e w' => e = .returned (.bool r) ∧ Below w.heap.size w w' := by
  have HN := Lib.hid hn
  have HM := Lib.hid hm
  have H1 : Hid (SeenR w B a1 a) := hS1
  have H2 : Hid (SeenR w B a2 b) := hS2
  have HR := Lib.hid hr
  have hni : (n : Int) ≤ 1000000 := by omega
  by_cases hnm : n = m
  · subst hnm
    have el : ((n : Int) != (n : Int)) = false := by simp
    clear hn hm hS1 hS2 hr hnl hml
    go_enter Try.func29, Try.ntmps29
    go_wp2
    go_loopw [13] (fun i wr => ∃ (k : Nat), k ≤ n ∧ i = .int .i64 k ∧ Hid (a.take k = b.take k) ∧ ∃ q, wr = w.drewN q) (fun i _ => n - (intOf i).toNat)
    case atStart => exact ⟨0, Nat.zero_le _, rfl, rfl, 0, rfl⟩
    case round =>
      obtain ⟨k, hk, rfl, HT, q, rfl⟩ := hrel
      by_cases hkn : k < n
      · obtain ⟨p, hp⟩ : ∃ p, a[k]? = some p := ⟨_, List.getElem?_eq_getElem (by rw [HN.out]; exact hkn)⟩
        obtain ⟨z, hz⟩ : ∃ p, b[k]? = some p := ⟨_, List.getElem?_eq_getElem (by rw [HM.out]; exact hkn)⟩
        obtain ⟨b1, o1, rfl, hb1, d1, d2⟩ := H1.out k p hp
        obtain ⟨b2, o2, rfl, hb2, d3, d4⟩ := H2.out k z hz
        have HA := Lib.hid (Sq.take_snoc hp)
        have HB := Lib.hid (Sq.take_snoc hz)
        have HPP := Lib.hid hp
        have HZZ := Lib.hid hz
        obtain ⟨p1, p2⟩ := p
        obtain ⟨z1, z2⟩ := z
        dsimp only at d1 d2 d3 d4
        have heq : ∀ u : World, (Op.equalIn 10000 34 (.agg #[.int .i64 p1, .int .i64 p2]) (.agg #[.int .i64 z1, .int .i64 z2])).run Try.prog u = .ok (p1 == z1 && (p2 == z2)) u := fun u => run_eq_run _ (by decide) _ _ _ _ u
        clear hp hz hb1 hb2
        have i0 : (0 : Int) ≤ (k : Int) := by omega
        have i1 : (k : Int) < (n : Int) := by omega
        by_cases he : p1 = z1 ∧ p2 = z2
        · obtain ⟨rfl, rfl⟩ := he
          have e1 : (p1 == p1 && (p2 == p2)) = true := by simp
          rw [e1] at heq
          have HT' : Hid (a.take (k + 1) = b.take (k + 1)) := by show _ = _; rw [HA.out, HB.out, HT.out]
          clear e1
          go_wp2
          go_quiet (fail)
          go_wp2
          exact ⟨⟨k + 1, hkn, by go_num, HT', q + nq, rfl⟩, by simp [intOf]; omega⟩
        · have e1 : (p1 == z1 && (p2 == z2)) = false := by
            rw [Bool.eq_false_iff]; intro h; simp at h; exact he h
          rw [e1] at heq
          obtain rfl : r = false := by
            rw [← HR.out, decide_eq_false_iff_not]
            intro e; subst e
            have := HPP.out.symm.trans HZZ.out
            injection this with this
            injection this with h1 h2
            exact he ⟨h1, h2⟩
          clear e1
          go_wp2
          go_quiet (fail)
          go_wp2
          go_ret
          exact ⟨rfl, below_drewN (below_drewN (Below.refl _ _) q) nq⟩
      · obtain rfl : n = k := by omega
        obtain rfl : r = true := by
          have := HT.out
          rw [List.take_of_length_le (by rw [HN.out]; exact Nat.le_refl _), List.take_of_length_le (by rw [HM.out]; exact Nat.le_refl _)] at this
          rw [← HR.out]; simpa using this
        clear hkn HT
        go_wp2
        go_ret
        exact ⟨rfl, below_drewN (Below.refl _ _) q⟩
  · have el : ((n : Int) != (m : Int)) = true := by simp; omega
    obtain rfl : r = false := by
      rw [← hr, decide_eq_false_iff_not]; intro e; subst e; exact hnm (hn.symm.trans hm)
    clear hn hm hS1 hS2 hr hnl hml
    go_enter Try.func29, Try.ntmps29
    go_wp2
    go_ret
    exact ⟨rfl, Below.refl _ _⟩
end
section
variable (a1 a2 : Option Addr) (n m c1 c2 : Nat) (a b : Rs) (hn : a.length = n) (hm : b.length = m) (hnl : n ≤ 1000000) (hml : m ≤ 1000000) (w : World) (B : Nat) (hS1 : SeenR w B a1 a) (hS2 : SeenR w B a2 b)
include hn hm hnl hml hS1 hS2
set_option maxRecDepth 100000 in
set_option maxHeartbeats 2000000 in
theorem equalT_any (r : Bool) (hr : decide (a = b) = r) :
    Calls Try.prog 63 #[.slice a1 n c1, .slice a2 m c2] w fun e w' => e = .returned (.bool r) ∧ Below w.heap.size w w' := by
  have HN := Lib.hid hn
  have HM := Lib.hid hm
  have H1 : Hid (SeenR w B a1 a) := hS1
  have H2 : Hid (SeenR w B a2 b) := hS2
  have HR := Lib.hid hr
  have hni : (n : Int) ≤ 1000000 := by omega
  by_cases hnm : n = m
  · subst hnm
    have el : ((n : Int) != (n : Int)) = false := by simp
    clear hn hm hS1 hS2 hr hnl hml
    go_enter Try.func63, Try.ntmps63
    go_wp2
    go_loopw [13] (fun i wr => ∃ (k : Nat), k ≤ n ∧ i = .int .i64 k ∧ Hid (a.take k = b.take k) ∧ ∃ q, wr = w.drewN q) (fun i _ => n - (intOf i).toNat)
    case atStart => exact ⟨0, Nat.zero_le _, rfl, rfl, 0, rfl⟩
    case round =>
      obtain ⟨k, hk, rfl, HT, q, rfl⟩ := hrel
      by_cases hkn : k < n
      · obtain ⟨p, hp⟩ : ∃ p, a[k]? = some p := ⟨_, List.getElem?_eq_getElem (by rw [HN.out]; exact hkn)⟩
        obtain ⟨z, hz⟩ : ∃ p, b[k]? = some p := ⟨_, List.getElem?_eq_getElem (by rw [HM.out]; exact hkn)⟩
        obtain ⟨b1, o1, rfl, hb1, d1, d2⟩ := H1.out k p hp
        obtain ⟨b2, o2, rfl, hb2, d3, d4⟩ := H2.out k z hz
        have HA := Lib.hid (Sq.take_snoc hp)
        have HB := Lib.hid (Sq.take_snoc hz)
        have HPP := Lib.hid hp
        have HZZ := Lib.hid hz
        obtain ⟨p1, p2⟩ := p
        obtain ⟨z1, z2⟩ := z
        dsimp only at d1 d2 d3 d4
        have heq : ∀ u : World, (Op.equalIn 10000 33 (.agg #[.int .i64 p1, .int .i64 p2]) (.agg #[.int .i64 z1, .int .i64 z2])).run Try.prog u = .ok (p1 == z1 && (p2 == z2)) u := fun u => run_eq_run _ (by decide) _ _ _ _ u
        clear hp hz hb1 hb2
        have i0 : (0 : Int) ≤ (k : Int) := by omega
        have i1 : (k : Int) < (n : Int) := by omega
        by_cases he : p1 = z1 ∧ p2 = z2
        · obtain ⟨rfl, rfl⟩ := he
          have e1 : (p1 == p1 && (p2 == p2)) = true := by simp
          rw [e1] at heq
          have HT' : Hid (a.take (k + 1) = b.take (k + 1)) := by show _ = _; rw [HA.out, HB.out, HT.out]
          clear e1
          go_wp2
          go_quiet (fail)
          go_wp2
          exact ⟨⟨k + 1, hkn, by go_num, HT', q + nq, rfl⟩, by simp [intOf]; omega⟩
        · have e1 : (p1 == z1 && (p2 == z2)) = false := by
            rw [Bool.eq_false_iff]; intro h; simp at h; exact he h
          rw [e1] at heq
          obtain rfl : r = false := by
            rw [← HR.out, decide_eq_false_iff_not]
            intro e; subst e
            have := HPP.out.symm.trans HZZ.out
            injection this with this
            injection this with h1 h2
            exact he ⟨h1, h2⟩
          clear e1
          go_wp2
          go_quiet (fail)
          go_wp2
          go_ret
          exact ⟨rfl, below_drewN (below_drewN (Below.refl _ _) q) nq⟩
      · obtain rfl : n = k := by omega
        obtain rfl : r = true := by
          have := HT.out
          rw [List.take_of_length_le (by rw [HN.out]; exact Nat.le_refl _), List.take_of_length_le (by rw [HM.out]; exact Nat.le_refl _)] at this
          rw [← HR.out]; simpa using this
        clear hkn HT
        go_wp2
        go_ret
        exact ⟨rfl, below_drewN (Below.refl _ _) q⟩
  · have el : ((n : Int) != (m : Int)) = true := by simp; omega
    obtain rfl : r = false := by
      rw [← hr, decide_eq_false_iff_not]; intro e; subst e; exact hnm (hn.symm.trans hm)
    clear hn hm hS1 hS2 hr hnl hml
    go_enter Try.func63, Try.ntmps63
    go_wp2
    go_ret
    exact ⟨rfl, Below.refl _ _⟩
end
section
variable (a : Option Addr) (n c : Nat) (l : Rs) (hl : l.length = n) (hn : n ≤ 1000000) (w : World) (B : Nat) (hS : SeenR w B a l) (hB : B ≤ w.heap.size)
include hl hn hS hB
set_option maxRecDepth 100000 in
set_option maxHeartbeats 2000000 in
/-- has of the law: of a right set's runs. -/
theorem lhas_any (s : Int) (hR : RtF s l) (hs0 : 0 ≤ s) (x : Int) (r : Bool) (hr : hs l x = r) :
    Calls Try.prog 24 #[.slice a n c, .int .i64 x] w fun e w' => e = .returned (.bool r) ∧ Below w.heap.size w w' := by
  have HL := Lib.hid hl
  have HS : Hid (SeenR w B a l) := hS
  have HB := Lib.hid hB
  have HR : Hid (RtF s l) := hR
  have HS0 := Lib.hid hs0
  have HRR := Lib.hid hr
  have hni : (n : Int) ≤ 1000000 := by omega
  clear hl hS hB hR hs0 hr hn
  go_enter Try.func24, Try.ntmps24
  go_wp2
  go_loopw [9] (fun i wr => ∃ (k : Nat), k ≤ n ∧ i = .int .i64 k ∧ Hid (hs (l.drop k) x = r) ∧ Hid (Below w.heap.size w wr)) (fun i _ => n - (intOf i).toNat)
  case atStart => exact ⟨0, Nat.zero_le _, rfl, HRR, Below.refl _ _⟩
  case round =>
    obtain ⟨k, hk, rfl, HK, HW⟩ := hrel
    by_cases hkn : k < n
    · obtain ⟨q, hrk⟩ : ∃ r, l[k]? = some r := ⟨_, List.getElem?_eq_getElem (by rw [HL.out]; exact hkn)⟩
      have hdr := drop_cons hrk
      obtain ⟨q1, q2, q3⟩ := ends_high HR.out q (List.mem_of_getElem? hrk)
      obtain ⟨b, off, rfl, hb, hc1, hc2⟩ := (HS.out.below (HW.out.mono HB.out)) k q hrk
      obtain ⟨f, hf⟩ : ∃ f, q.1 = f := ⟨_, rfl⟩
      obtain ⟨d, hd⟩ : ∃ d, q.2 = d := ⟨_, rfl⟩
      have hw1 : IntKind.i64.wrap (f + d) = f + d := by rw [← hf, ← hd]; have := HS0.out; exact wrap_i (by omega) (by omega)
      have HD : Hid (((decide (f ≤ x) && decide (x < f + d)) || hs (l.drop (k + 1)) x) = r) := by
        show _ = _
        rw [← HK.out, hdr, hs_cons, ← hf, ← hd]; rfl
      have HB1 : Hid (Below w.heap.size w (wr.alloc (.cells #[.int .i64 f, .int .i64 d] 34))) := HW.out.alloc HW.out.size _
      rw [hf] at hc1
      rw [hd] at hc2
      clear hrk hdr hf hd hb HK q1 q2 q3
      by_cases h1 : f ≤ x
      · have h1' : decide (f ≤ x) = true := decide_eq_true h1
        by_cases h2 : x < f + d
        · have h2' : decide (x < f + d) = true := decide_eq_true h2
          obtain rfl : r = true := by rw [← HD.out, h1', h2']; rfl
          go_wp2
          go_ret
          exact ⟨rfl, HB1.out⟩
        · have h2' : decide (x < f + d) = false := decide_eq_false h2
          have HD2 : Hid (hs (l.drop (k + 1)) x = r) := by show _ = _; rw [← HD.out, h1', h2']; rfl
          go_wp2
          exact ⟨⟨k + 1, hkn, rfl, HD2, HB1⟩, by simp [intOf]; omega⟩
      · have h1' : decide (f ≤ x) = false := decide_eq_false h1
        have HD2 : Hid (hs (l.drop (k + 1)) x = r) := by show _ = _; rw [← HD.out, h1']; rfl
        go_wp2
        exact ⟨⟨k + 1, hkn, rfl, HD2, HB1⟩, by simp [intOf]; omega⟩
    · obtain rfl : n = k := by omega
      obtain rfl : r = false := by
        rw [← HK.out, List.drop_eq_nil_of_le (by rw [HL.out]; exact Nat.le_refl _)]; rfl
      clear hkn HK
      go_wp2
      go_ret
      exact ⟨rfl, HW.out⟩
end
end Go.Proofs.Ythamilolacfeoaa
