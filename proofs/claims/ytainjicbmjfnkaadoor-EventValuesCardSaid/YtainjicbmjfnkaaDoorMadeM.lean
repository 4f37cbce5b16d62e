/-
  What Made makes is right; right events with one text are the same.
-/
import Derived.Test.YtainjicbmjfnkaaDoorMade6
namespace Go.Proofs.YtainjicbmjfnkaaDoor
open Go.RowKit
set_option linter.unusedVariables false
/-- What Made returns. -/
def Sm.e (x : Sm) : Ev.E := match x.kd % 10 with
  | 0 => .ev (1 + (x.sq : Int)) (x.tm : Int) (x.cp % 64) 1 (1 + ((x.tk % 65535 : Nat) : Int)) ((x.gr % 256 : Nat) : Int) 0 (1 + ((x.wg % 65536 : Nat) : Int)) 0 (x.ms ||| 2 ^ (x.cp % 64)) 0
  | 1 => .ev (1 + (x.sq : Int)) (x.tm : Int) (x.cp % 64) 2 (1 + ((x.tk % 65535 : Nat) : Int)) 0 0 0 0 0 0
  | 2 => .ev (1 + (x.sq : Int)) (x.tm : Int) (x.cp % 64) 3 0 0 0 0 0 0 (1 + ((x.gt % 65535 : Nat) : Int))
  | 3 => .ev (1 + (x.sq : Int)) (x.tm : Int) (x.cp % 64) 4 0 0 0 0 0 0 (1 + ((x.gt % 65535 : Nat) : Int))
  | 4 => .ev (1 + (x.sq : Int)) (x.tm : Int) (x.cp % 64) 5 0 0 0 0 ((max x.tc 1 : Nat) : Int) 0 (1 + ((x.gt % 65535 : Nat) : Int) - 1)
  | 5 => .ev (1 + (x.sq : Int)) (x.tm : Int) (x.cp % 64) 6 0 0 0 0 0 0 (1 + ((x.gt % 65535 : Nat) : Int) - 1)
  | 6 => .ev (1 + (x.sq : Int)) (x.tm : Int) (x.cp % 64) 7 (1 + ((x.tk % 65535 : Nat) : Int)) 0 0 (1 + ((x.wg % 65536 : Nat) : Int)) 0 0 0
  | 7 => .ev (1 + (x.sq : Int)) (x.tm : Int) (x.cp % 64) 8 0 (1 + ((x.gr % 255 : Nat) : Int)) 0 (1 + ((x.wg % 65536 : Nat) : Int)) 0 0 0
  | 8 => .ev (1 + (x.sq : Int)) (x.tm : Int) (x.cp % 64) 9 (1 + ((x.tk % 65535 : Nat) : Int)) 0 (((x.cp % 64 + 1 + x.to_ % 63) % 64 : Nat) : Int) 0 0 0 0
  | _ => .ev (1 + (x.sq : Int)) (x.tm : Int) (x.cp % 64) 10 0 0 0 0 0 0 (1 + ((x.gt % 65535 : Nat) : Int))
theorem made_any (x : Sm) (hx : x.wf) (w : World) : Calls Tryd.prog 14 #[x.v] w fun e w' => e = .returned x.e.v ∧ Below w.heap.size w w' := by
  obtain ⟨kd, cp, sq, tm, tk, gr, to_, wg, tc, gt, ms⟩ := x
  obtain ⟨q0, q1, q2, q3, q4, q5, q6, q7, q8, q9, q10⟩ := hx
  have hk : kd % 10 < 10 := Nat.mod_lt _ (by decide)
  have go : ∀ K, kd % 10 = K → K < 10 → Calls Tryd.prog 14 #[(Sm.mk kd cp sq tm tk gr to_ wg tc gt ms).v] w fun e w' => e = .returned (Sm.mk kd cp sq tm tk gr to_ wg tc gt ms).e.v ∧ Below w.heap.size w w' := by
    intro K hK hK10
    unfold Sm.e
    rw [show (Sm.mk kd cp sq tm tk gr to_ wg tc gt ms).kd % 10 = K from hK]
    match K, hK, hK10 with
    | 0, hK, _ => exact made_1 kd cp sq tm tk gr to_ wg tc gt ms q1 q2 q3 q4 q5 q6 q7 q8 q9 q10 q0 hK w
    | 1, hK, _ => exact made_2 kd cp sq tm tk gr to_ wg tc gt ms q1 q2 q3 q4 q5 q6 q7 q8 q9 q10 q0 hK w
    | 2, hK, _ => exact made_3 kd cp sq tm tk gr to_ wg tc gt ms q1 q2 q3 q4 q5 q6 q7 q8 q9 q10 q0 hK w
    | 3, hK, _ => exact made_4 kd cp sq tm tk gr to_ wg tc gt ms q1 q2 q3 q4 q5 q6 q7 q8 q9 q10 q0 hK w
    | 4, hK, _ => exact made_5 kd cp sq tm tk gr to_ wg tc gt ms q1 q2 q3 q4 q5 q6 q7 q8 q9 q10 q0 hK w
    | 5, hK, _ => exact made_6 kd cp sq tm tk gr to_ wg tc gt ms q1 q2 q3 q4 q5 q6 q7 q8 q9 q10 q0 hK w
    | 6, hK, _ => exact made_7 kd cp sq tm tk gr to_ wg tc gt ms q1 q2 q3 q4 q5 q6 q7 q8 q9 q10 q0 hK w
    | 7, hK, _ => exact made_8 kd cp sq tm tk gr to_ wg tc gt ms q1 q2 q3 q4 q5 q6 q7 q8 q9 q10 q0 hK w
    | 8, hK, _ => exact made_9 kd cp sq tm tk gr to_ wg tc gt ms q1 q2 q3 q4 q5 q6 q7 q8 q9 q10 q0 hK w
    | 9, hK, _ => exact made_10 kd cp sq tm tk gr to_ wg tc gt ms q1 q2 q3 q4 q5 q6 q7 q8 q9 q10 q0 hK w
  exact go _ rfl hk
theorem mask_bit (m c : Nat) : (m ||| 2 ^ c) / 2 ^ c % 2 = 1 := by
  have h : (m ||| 2 ^ c).testBit c = true := by rw [Nat.testBit_or, Nat.testBit_two_pow_self, Bool.or_true]
  rw [Nat.testBit_eq_decide_div_mod_eq] at h
  simpa using h
theorem made_right (x : Sm) (hx : x.wf) : x.e.right := by
  obtain ⟨kd, cp, sq, tm, tk, gr, to_, wg, tc, gt, ms⟩ := x
  obtain ⟨q0, q1, q2, q3, q4, q5, q6, q7, q8, q9, q10⟩ := hx
  simp only at q0 q1 q2 q3 q4 q5 q6 q7 q8 q9 q10
  have hk : kd % 10 < 10 := Nat.mod_lt _ (by decide)
  have hc : cp % 64 < 64 := Nat.mod_lt _ (by decide)
  have hm : ms ||| 2 ^ (cp % 64) < 2 ^ 64 := Nat.or_lt_two_pow q10 (Nat.pow_lt_pow_right (by decide) hc)
  have hb := mask_bit ms (cp % 64)
  have hbi : (((ms ||| 2 ^ (cp % 64) : Nat) : Int)) / 2 ^ (cp % 64) % 2 = 1 := by
    have : ((2 : Int) ^ (cp % 64)) = ((2 ^ (cp % 64) : Nat) : Int) := by simp
    rw [this]
    exact_mod_cast hb
  have go : ∀ K, kd % 10 = K → K < 10 → (Sm.mk kd cp sq tm tk gr to_ wg tc gt ms).e.right := by
    intro K hK hK10
    unfold Sm.e
    rw [show (Sm.mk kd cp sq tm tk gr to_ wg tc gt ms).kd % 10 = K from hK]
    obtain ⟨c, hcc⟩ : ∃ c, cp % 64 = c := ⟨_, rfl⟩
    obtain ⟨mk, hmk⟩ : ∃ m, ms ||| 2 ^ c = m := ⟨_, rfl⟩
    simp only [hcc] at *
    simp only [hmk] at *
    match K, hK, hK10 with
    | 0, hK, _ => refine ⟨?_, ?_⟩; (unfold Ev.E.wf Ev.WF Ev.I64; simp only; omega); (simp [Ev.E.check, Ev.check, Ev.within, Ev.kfs, Ev.tab, Ev.fits, Ev.other, Ev.lg]; omega)
    | 1, hK, _ => refine ⟨?_, ?_⟩; (unfold Ev.E.wf Ev.WF Ev.I64; simp only; omega); (simp [Ev.E.check, Ev.check, Ev.within, Ev.kfs, Ev.tab, Ev.fits, Ev.other]; omega)
    | 2, hK, _ => refine ⟨?_, ?_⟩; (unfold Ev.E.wf Ev.WF Ev.I64; simp only; omega); (simp [Ev.E.check, Ev.check, Ev.within, Ev.kfs, Ev.tab, Ev.fits, Ev.other, Ev.lt]; omega)
    | 3, hK, _ => refine ⟨?_, ?_⟩; (unfold Ev.E.wf Ev.WF Ev.I64; simp only; omega); (simp [Ev.E.check, Ev.check, Ev.within, Ev.kfs, Ev.tab, Ev.fits, Ev.other, Ev.lt]; omega)
    | 4, hK, _ => refine ⟨?_, ?_⟩; (unfold Ev.E.wf Ev.WF Ev.I64; simp only; omega); (simp [Ev.E.check, Ev.check, Ev.within, Ev.kfs, Ev.tab, Ev.fits, Ev.other, Ev.lt]; omega)
    | 5, hK, _ => refine ⟨?_, ?_⟩; (unfold Ev.E.wf Ev.WF Ev.I64; simp only; omega); (simp [Ev.E.check, Ev.check, Ev.within, Ev.kfs, Ev.tab, Ev.fits, Ev.other, Ev.lt]; omega)
    | 6, hK, _ => refine ⟨?_, ?_⟩; (unfold Ev.E.wf Ev.WF Ev.I64; simp only; omega); (simp [Ev.E.check, Ev.check, Ev.within, Ev.kfs, Ev.tab, Ev.fits, Ev.other]; omega)
    | 7, hK, _ => refine ⟨?_, ?_⟩; (unfold Ev.E.wf Ev.WF Ev.I64; simp only; omega); (simp [Ev.E.check, Ev.check, Ev.within, Ev.kfs, Ev.tab, Ev.fits, Ev.other, Ev.lg]; omega)
    | 8, hK, _ => refine ⟨?_, ?_⟩; (unfold Ev.E.wf Ev.WF Ev.I64; simp only; omega); (simp [Ev.E.check, Ev.check, Ev.within, Ev.kfs, Ev.tab, Ev.fits, Ev.other]; omega)
    | 9, hK, _ => refine ⟨?_, ?_⟩; (unfold Ev.E.wf Ev.WF Ev.I64; simp only; omega); (simp [Ev.E.check, Ev.check, Ev.within, Ev.kfs, Ev.tab, Ev.fits, Ev.other, Ev.lt]; omega)
  exact go _ rfl hk
/-- Right events with one text are the same. -/
theorem text_inj {a b : Ev.E} (ha : a.right) (hb : b.right) (h : a.text = b.text) : a = b := by
  obtain ⟨wa, ca⟩ := ha
  obtain ⟨wb, cb⟩ := hb
  obtain ⟨ka1, ka2, ia, oa⟩ := Ev.check_zero ca
  obtain ⟨kb1, kb2, ib, ob⟩ := Ev.check_zero cb
  obtain ⟨pa1, pa2, pa3⟩ := Ev.within_parts ia
  obtain ⟨pb1, pb2, pb3⟩ := Ev.within_parts ib
  have hwa := Ev.words_text (sq := a.sq) (tm := a.tm) (cp := a.cp) (kd := a.kd) wa.2.2.2.1 (by omega) (by omega) (vs := a.vals) (Ev.vals_len wa.2.2.2.1)
  have hwb := Ev.words_text (sq := b.sq) (tm := b.tm) (cp := b.cp) (kd := b.kd) wb.2.2.2.1 (by omega) (by omega) (vs := b.vals) (Ev.vals_len wb.2.2.2.1)
  have h' : Ev.text a.sq a.tm a.cp a.kd a.vals = Ev.text b.sq b.tm b.cp b.kd b.vals := h
  rw [h', hwb] at hwa
  simp only [Ev.head, List.cons_append, List.nil_append, List.cons.injEq] at hwa
  obtain ⟨e1, e2, e3, e4, e5⟩ := hwa
  have num : ∀ x y : Int, 0 ≤ x → 0 ≤ y → x < 18446744073709551616 → y < 18446744073709551616 → Lib.itoa x = Lib.itoa y → x = y := by
    intro x y hx hy hx2 hy2 e
    obtain ⟨n, rfl⟩ := Int.eq_ofNat_of_zero_le hx
    obtain ⟨m, rfl⟩ := Int.eq_ofNat_of_zero_le hy
    have h1 := Ev.num_itoa n (by omega)
    have h2 := Ev.num_itoa m (by omega)
    rw [e, h2] at h1
    injection h1 with h1
    rw [h1]
  have s1 := num b.sq a.sq (by omega) (by omega) (by omega) (by omega) e1
  have s2 := num b.tm a.tm (by omega) (by omega) (by omega) (by omega) e2
  have s3 := num b.cp a.cp (by omega) (by omega) (by omega) (by omega) e3
  have s4 : b.kd = a.kd := by
    by_cases hne : b.kd = a.kd
    · exact hne
    · exact absurd e4 (Ev.names_apart ⟨b.kd, by omega⟩ ⟨a.kd, by omega⟩ kb1 ka1 (fun e => hne (congrArg Fin.val e)))
  have s5 : b.vals = a.vals := by
    have key : ∀ l l' : List Nat, (∀ x ∈ l, x < 18446744073709551616) → (∀ x ∈ l', x < 18446744073709551616) → l.map Lib.decDigits = l'.map Lib.decDigits → l = l' := by
      intro l
      induction l with
      | nil => intro l' _ _ e; cases l' with
        | nil => rfl
        | cons y l' => simp at e
      | cons x l ih => intro l' h1 h2 e; cases l' with
        | nil => simp at e
        | cons y l' =>
          simp only [List.map_cons, List.cons.injEq] at e
          have n1 := Ev.num_dec x (h1 x (by simp))
          have n2 := Ev.num_dec y (h2 y (by simp))
          rw [e.1, n2] at n1
          injection n1 with n1
          rw [n1, ih l' (fun z hz => h1 z (by simp [hz])) (fun z hz => h2 z (by simp [hz])) e.2]
    exact key _ _ (Ev.vals_lt wb.2.2.2.2.2.2.2.2.2.1) (Ev.vals_lt wa.2.2.2.2.2.2.2.2.2.1) e5
  obtain ⟨g0, g1, g2, g3, g4, g5, g6, g7, g8, g9, g10⟩ := wa
  obtain ⟨f0, f1, f2, f3, f4, f5, f6, f7, f8, f9, f10⟩ := wb
  obtain ⟨t0, t1, t2, t3, t4, t5, t6⟩ := Ev.right_get g4 g5 g6 g7 g8 g10 oa _ rfl
  obtain ⟨u0, u1, u2, u3, u4, u5, u6⟩ := Ev.right_get f4 f5 f6 f7 f8 f10 ob _ rfl
  have hz : (Ev.kfs b.kd).zip (Ev.vals b.kd b.tk b.gr b.to_ b.wg b.tc b.mk b.gt) = (Ev.kfs a.kd).zip (Ev.vals a.kd a.tk a.gr a.to_ a.wg a.tc a.mk a.gt) := by
    have s5' : Ev.vals b.kd b.tk b.gr b.to_ b.wg b.tc b.mk b.gt = Ev.vals a.kd a.tk a.gr a.to_ a.wg a.tc a.mk a.gt := s5
    rw [s5', s4]
  rw [hz] at u0 u1 u2 u3 u4 u5 u6
  cases a
  cases b
  simp only at *
  simp only [Ev.E.ev.injEq]
  refine ⟨s1.symm, s2.symm, by omega, s4.symm, t0.symm.trans u0, t1.symm.trans u1, t2.symm.trans u2, t3.symm.trans u3, t4.symm.trans u4, t5.symm.trans u5, t6.symm.trans u6⟩
end Go.Proofs.YtainjicbmjfnkaaDoor
