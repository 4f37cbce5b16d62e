/-
  Made.
-/
import Derived.Test.YtainjicbmjfnkaaDoorArgE
import Derived.Deep.RegionHeld3
import Derived.Laws.BitsAllLaws
import Derived.Deep.DeepCutAuto
namespace Go.Proofs.YtainjicbmjfnkaaDoor
open Go.RowKit
set_option linter.unusedVariables false
theorem EBox.other {w : World} {b : Nat} {sq tm : Int} {cp kd : Nat} {tk gr to_ wg tc : Int} {mk : Nat} {gt : Int} (h : EBox w b sq tm cp kd tk gr to_ wg tc mk gt) {b' : Nat} (hb : b' ≠ b) (i : Nat) (v : Value) : EBox (w.setCell ⟨b', i, none⟩ v) b sq tm cp kd tk gr to_ wg tc mk gt := by
  unfold EBox at *
  unfold World.setCell
  show (Array.modify _ _ _)[b]? = _
  rw [Array.getElem?_modify, if_neg hb]
  exact h
theorem below_dn {B : Nat} {a w : World} (h : Below B a w) (n : Nat) : Below B a (w.drewN n) := h.trans ⟨rfl, rfl, rfl, Nat.le_refl _, fun _ _ => rfl⟩
theorem shl1 {k : Nat} (h : k < 64) : IntKind.u64.wrap ((2 : Int) ^ k) = ((2 ^ k : Nat) : Int) := by
  have hp : 2 ^ k < 2 ^ 64 := Nat.pow_lt_pow_right (by decide) h
  have e : (2 : Int) ^ k = ((2 ^ k : Nat) : Int) := by simp
  rw [e, IntKind.wrap_u64]
  generalize 2 ^ k = P at hp
  omega
theorem tmod_nat (a b : Nat) : ((a : Int)).tmod (b : Int) = ((a % b : Nat) : Int) := by rw [Int.tmod_eq_emod_of_nonneg (by omega)]; omega
set_option maxRecDepth 100000 in
set_option maxHeartbeats 2000000 in
theorem made_1 (kd cp sq tm tk gr to_ wg tc gt ms : Nat) (h1 : cp < 2 ^ 8) (h2 : sq < 2 ^ 32) (h3 : tm < 2 ^ 32) (h4 : tk < 2 ^ 32) (h5 : gr < 2 ^ 32) (h6 : to_ < 2 ^ 32) (h7 : wg < 2 ^ 32) (h8 : tc < 2 ^ 32) (h9 : gt < 2 ^ 32) (h10 : ms < 2 ^ 64) (hk : kd < 2 ^ 8) (hK : kd % 10 = 0) (w : World) : Calls Tryd.prog 14 #[.agg #[.int .u8 kd, .int .u8 cp, .int .u32 sq, .int .u32 tm, .int .u32 tk, .int .u32 gr, .int .u32 to_, .int .u32 wg, .int .u32 tc, .int .u32 gt, .int .u64 ms]] w fun e w' => e = .returned (.agg #[.int .i64 ((1 + (sq : Int))), .int .i64 ((tm : Int)), .int .u8 (((cp % 64 : Nat) : Int)), .int .u8 (1), .int .i64 ((1 + ((tk % 65535 : Nat) : Int))), .int .i64 (((gr % 256 : Nat) : Int)), .int .i64 (0), .int .i64 ((1 + ((wg % 65536 : Nat) : Int))), .int .i64 (0), .int .u64 ((((ms ||| 2 ^ (cp % 64) : Nat) : Int) : Int)), .int .i64 (0)]) ∧ Below w.heap.size w w' := by
  have c1 : IntKind.i64.wrap (sq : Int) = (sq : Int) := by rw [IntKind.wrap_i64]; omega
  have c2 : IntKind.i64.wrap (tm : Int) = (tm : Int) := by rw [IntKind.wrap_i64]; omega
  have hkd : (kd : Int).tmod 10 = 0 := by rw [show (10 : Int) = ((10 : Nat) : Int) from rfl, tmod_nat, hK]; rfl
  obtain ⟨c, hc⟩ : ∃ c, cp % 64 = c := ⟨_, rfl⟩
  have hcd : (cp : Int).tmod 64 = (c : Int) := by rw [← hc]; exact tmod_nat cp 64
  have c4 : IntKind.i64.wrap (tk : Int) = (tk : Int) := by rw [IntKind.wrap_i64]; omega
  have c5 : IntKind.i64.wrap (gr : Int) = (gr : Int) := by rw [IntKind.wrap_i64]; omega
  have c6 : IntKind.i64.wrap (to_ : Int) = (to_ : Int) := by rw [IntKind.wrap_i64]; omega
  have c7 : IntKind.i64.wrap (wg : Int) = (wg : Int) := by rw [IntKind.wrap_i64]; omega
  have c8 : IntKind.i64.wrap (tc : Int) = (tc : Int) := by rw [IntKind.wrap_i64]; omega
  have c9 : IntKind.i64.wrap (gt : Int) = (gt : Int) := by rw [IntKind.wrap_i64]; omega
  obtain ⟨m4, hm4⟩ : ∃ m, tk % 65535 = m := ⟨_, rfl⟩
  obtain ⟨m7, hm7⟩ : ∃ m, wg % 65536 = m := ⟨_, rfl⟩
  obtain ⟨m10, hm10⟩ : ∃ m, gt % 65535 = m := ⟨_, rfl⟩
  have r4 : (tk : Int).tmod 65535 = (m4 : Int) := by rw [← hm4]; exact tmod_nat tk 65535
  have r7 : (wg : Int).tmod 65536 = (m7 : Int) := by rw [← hm7]; exact tmod_nat wg 65536
  have r10 : (gt : Int).tmod 65535 = (m10 : Int) := by rw [← hm10]; exact tmod_nat gt 65535
  have s4 : IntKind.i64.wrap (1 + (m4 : Int)) = 1 + (m4 : Int) := by rw [IntKind.wrap_i64]; omega
  have s7 : IntKind.i64.wrap (1 + (m7 : Int)) = 1 + (m7 : Int) := by rw [IntKind.wrap_i64]; omega
  have s10 : IntKind.i64.wrap (1 + (m10 : Int)) = 1 + (m10 : Int) := by rw [IntKind.wrap_i64]; omega
  obtain ⟨m5, hm5⟩ : ∃ m, gr % 256 = m := ⟨_, rfl⟩
  have r5 : (gr : Int).tmod 256 = (m5 : Int) := by rw [← hm5]; exact tmod_nat gr 256
  obtain ⟨mk, hmk⟩ : ∃ m, ms ||| 2 ^ c = m := ⟨_, rfl⟩
  have hor : bits .or .u64 (ms : Int) (IntKind.u64.wrap ((2 : Int) ^ c)) = (mk : Int) := by
    have hp : 2 ^ c < 18446744073709551616 := (Nat.pow_lt_pow_right (by decide : 1 < 2) (show c < 64 by omega) : 2 ^ c < 2 ^ 64)
    rw [shl1 (show c < 64 by omega), u64_or_nat ms _ h10 hp, hmk]
  go_enter Tryd.func14, Tryd.ntmps14
  go_wp2
  go_quiet (fail)
  have HB0 : Hid (Below w.heap.size w ((((w.alloc (.cells #[.int .u8 kd, .int .u8 cp, .int .u32 sq, .int .u32 tm, .int .u32 tk, .int .u32 gr, .int .u32 to_, .int .u32 wg, .int .u32 tc, .int .u32 gt, .int .u64 ms] 31)).alloc (.cells #[.int .i64 0, .int .i64 0, .int .u8 0, .int .u8 0, .int .i64 0, .int .i64 0, .int .i64 0, .int .i64 0, .int .i64 0, .int .u64 0, .int .i64 0] 24)).alloc (.cells #[.int .i64 (1 + (sq : Int)), .int .i64 (tm : Int), .int .u8 c, .int .u8 1, .int .i64 0, .int .i64 0, .int .i64 0, .int .i64 0, .int .i64 0, .int .u64 0, .int .i64 0] 24)).drewN nq)) := below_dn ((((Below.refl w.heap.size w).alloc (Nat.le_refl _) _).alloc (by simp) _).alloc (by simp; omega) _) nq
  have HZ0 : Hid (EBox ((((w.alloc (.cells #[.int .u8 kd, .int .u8 cp, .int .u32 sq, .int .u32 tm, .int .u32 tk, .int .u32 gr, .int .u32 to_, .int .u32 wg, .int .u32 tc, .int .u32 gt, .int .u64 ms] 31)).alloc (.cells #[.int .i64 0, .int .i64 0, .int .u8 0, .int .u8 0, .int .i64 0, .int .i64 0, .int .i64 0, .int .i64 0, .int .i64 0, .int .u64 0, .int .i64 0] 24)).alloc (.cells #[.int .i64 (1 + (sq : Int)), .int .i64 (tm : Int), .int .u8 c, .int .u8 1, .int .i64 0, .int .i64 0, .int .i64 0, .int .i64 0, .int .i64 0, .int .u64 0, .int .i64 0] 24)).drewN nq) (w.heap.size + 1) 0 0 0 0 0 0 0 0 0 0 0) := by
    have t := (EBox.new (w.alloc (.cells #[.int .u8 kd, .int .u8 cp, .int .u32 sq, .int .u32 tm, .int .u32 tk, .int .u32 gr, .int .u32 to_, .int .u32 wg, .int .u32 tc, .int .u32 gt, .int .u64 ms] 31)) 0 0 0 0 0 0 0 0 0 0 0).alloc (.cells #[.int .i64 (1 + (sq : Int)), .int .i64 (tm : Int), .int .u8 c, .int .u8 1, .int .i64 0, .int .i64 0, .int .i64 0, .int .i64 0, .int .i64 0, .int .u64 0, .int .i64 0] 24)
    simp only [World.size_alloc] at t
    exact t
  have HO0 : Hid (EBox ((((w.alloc (.cells #[.int .u8 kd, .int .u8 cp, .int .u32 sq, .int .u32 tm, .int .u32 tk, .int .u32 gr, .int .u32 to_, .int .u32 wg, .int .u32 tc, .int .u32 gt, .int .u64 ms] 31)).alloc (.cells #[.int .i64 0, .int .i64 0, .int .u8 0, .int .u8 0, .int .i64 0, .int .i64 0, .int .i64 0, .int .i64 0, .int .i64 0, .int .u64 0, .int .i64 0] 24)).alloc (.cells #[.int .i64 (1 + (sq : Int)), .int .i64 (tm : Int), .int .u8 c, .int .u8 1, .int .i64 0, .int .i64 0, .int .i64 0, .int .i64 0, .int .i64 0, .int .u64 0, .int .i64 0] 24)).drewN nq) (w.heap.size + 1 + 1) (1 + (sq : Int)) (tm : Int) c 1 0 0 0 0 0 0 0) := by
    have t := EBox.new ((w.alloc (.cells #[.int .u8 kd, .int .u8 cp, .int .u32 sq, .int .u32 tm, .int .u32 tk, .int .u32 gr, .int .u32 to_, .int .u32 wg, .int .u32 tc, .int .u32 gt, .int .u64 ms] 31)).alloc (.cells #[.int .i64 0, .int .i64 0, .int .u8 0, .int .u8 0, .int .i64 0, .int .i64 0, .int .i64 0, .int .i64 0, .int .i64 0, .int .u64 0, .int .i64 0] 24)) (1 + (sq : Int)) (tm : Int) c 1 0 0 0 0 0 0 0
    simp only [World.size_alloc] at t
    exact t
  go_upto_region 6 with fail
  obtain ⟨W1, hW1⟩ : ∃ W, ((((w.alloc (.cells #[.int .u8 kd, .int .u8 cp, .int .u32 sq, .int .u32 tm, .int .u32 tk, .int .u32 gr, .int .u32 to_, .int .u32 wg, .int .u32 tc, .int .u32 gt, .int .u64 ms] 31)).alloc (.cells #[.int .i64 0, .int .i64 0, .int .u8 0, .int .u8 0, .int .i64 0, .int .i64 0, .int .i64 0, .int .i64 0, .int .i64 0, .int .u64 0, .int .i64 0] 24)).alloc (.cells #[.int .i64 (1 + (sq : Int)), .int .i64 (tm : Int), .int .u8 c, .int .u8 1, .int .i64 0, .int .i64 0, .int .i64 0, .int .i64 0, .int .i64 0, .int .u64 0, .int .i64 0] 24)).drewN nq) = W := ⟨_, rfl⟩
  have l5 : ((((w.alloc (.cells #[.int .u8 kd, .int .u8 cp, .int .u32 sq, .int .u32 tm, .int .u32 tk, .int .u32 gr, .int .u32 to_, .int .u32 wg, .int .u32 tc, .int .u32 gt, .int .u64 ms] 31)).alloc (.cells #[.int .i64 0, .int .i64 0, .int .u8 0, .int .u8 0, .int .i64 0, .int .i64 0, .int .i64 0, .int .i64 0, .int .i64 0, .int .u64 0, .int .i64 0] 24)).alloc (.cells #[.int .i64 (1 + (sq : Int)), .int .i64 (tm : Int), .int .u8 c, .int .u8 1, .int .i64 0, .int .i64 0, .int .i64 0, .int .i64 0, .int .i64 0, .int .u64 0, .int .i64 0] 24)).drewN nq).cell? ⟨w.heap.size, 5, none⟩ = some (.int .u32 gr) := by
    have hb : Below (w.heap.size + 1) (w.alloc (.cells #[.int .u8 kd, .int .u8 cp, .int .u32 sq, .int .u32 tm, .int .u32 tk, .int .u32 gr, .int .u32 to_, .int .u32 wg, .int .u32 tc, .int .u32 gt, .int .u64 ms] 31)) ((((w.alloc (.cells #[.int .u8 kd, .int .u8 cp, .int .u32 sq, .int .u32 tm, .int .u32 tk, .int .u32 gr, .int .u32 to_, .int .u32 wg, .int .u32 tc, .int .u32 gt, .int .u64 ms] 31)).alloc (.cells #[.int .i64 0, .int .i64 0, .int .u8 0, .int .u8 0, .int .i64 0, .int .i64 0, .int .i64 0, .int .i64 0, .int .i64 0, .int .u64 0, .int .i64 0] 24)).alloc (.cells #[.int .i64 (1 + (sq : Int)), .int .i64 (tm : Int), .int .u8 c, .int .u8 1, .int .i64 0, .int .i64 0, .int .i64 0, .int .i64 0, .int .i64 0, .int .u64 0, .int .i64 0] 24)).drewN nq) := below_dn (((Below.refl (w.heap.size + 1) (w.alloc (.cells #[.int .u8 kd, .int .u8 cp, .int .u32 sq, .int .u32 tm, .int .u32 tk, .int .u32 gr, .int .u32 to_, .int .u32 wg, .int .u32 tc, .int .u32 gt, .int .u64 ms] 31))).alloc (by simp) _).alloc (by simp) _) nq
    refine (hb.cell (p := ⟨w.heap.size, 5, none⟩) (Nat.lt_succ_self _)).trans ?_
    unfold World.cell?
    rw [heap_alloc_new w _]
    rfl
  have l10 : ((((w.alloc (.cells #[.int .u8 kd, .int .u8 cp, .int .u32 sq, .int .u32 tm, .int .u32 tk, .int .u32 gr, .int .u32 to_, .int .u32 wg, .int .u32 tc, .int .u32 gt, .int .u64 ms] 31)).alloc (.cells #[.int .i64 0, .int .i64 0, .int .u8 0, .int .u8 0, .int .i64 0, .int .i64 0, .int .i64 0, .int .i64 0, .int .i64 0, .int .u64 0, .int .i64 0] 24)).alloc (.cells #[.int .i64 (1 + (sq : Int)), .int .i64 (tm : Int), .int .u8 c, .int .u8 1, .int .i64 0, .int .i64 0, .int .i64 0, .int .i64 0, .int .i64 0, .int .u64 0, .int .i64 0] 24)).drewN nq).cell? ⟨w.heap.size, 10, none⟩ = some (.int .u64 ms) := by
    have hb : Below (w.heap.size + 1) (w.alloc (.cells #[.int .u8 kd, .int .u8 cp, .int .u32 sq, .int .u32 tm, .int .u32 tk, .int .u32 gr, .int .u32 to_, .int .u32 wg, .int .u32 tc, .int .u32 gt, .int .u64 ms] 31)) ((((w.alloc (.cells #[.int .u8 kd, .int .u8 cp, .int .u32 sq, .int .u32 tm, .int .u32 tk, .int .u32 gr, .int .u32 to_, .int .u32 wg, .int .u32 tc, .int .u32 gt, .int .u64 ms] 31)).alloc (.cells #[.int .i64 0, .int .i64 0, .int .u8 0, .int .u8 0, .int .i64 0, .int .i64 0, .int .i64 0, .int .i64 0, .int .i64 0, .int .u64 0, .int .i64 0] 24)).alloc (.cells #[.int .i64 (1 + (sq : Int)), .int .i64 (tm : Int), .int .u8 c, .int .u8 1, .int .i64 0, .int .i64 0, .int .i64 0, .int .i64 0, .int .i64 0, .int .u64 0, .int .i64 0] 24)).drewN nq) := below_dn (((Below.refl (w.heap.size + 1) (w.alloc (.cells #[.int .u8 kd, .int .u8 cp, .int .u32 sq, .int .u32 tm, .int .u32 tk, .int .u32 gr, .int .u32 to_, .int .u32 wg, .int .u32 tc, .int .u32 gt, .int .u64 ms] 31))).alloc (by simp) _).alloc (by simp) _) nq
    refine (hb.cell (p := ⟨w.heap.size, 10, none⟩) (Nat.lt_succ_self _)).trans ?_
    unfold World.cell?
    rw [heap_alloc_new w _]
    rfl
  rw [hW1] at HB0 HZ0 HO0 l5 l10 ⊢
  clear hW1
  obtain ⟨o0, o1, o2, o3, o4, o5, o6, o7, o8, o9, o10⟩ := HO0.out.cells
  have f4 := HO0.out.free 4
  have f5 := HO0.out.free 5
  have f6 := HO0.out.free 6
  have f7 := HO0.out.free 7
  have f8 := HO0.out.free 8
  have f9 := HO0.out.free 9
  have f10 := HO0.out.free 10
  have hlt : w.heap.size ≠ w.heap.size + 1 + 1 := by omega
  have HS0 : Hid ((fun W : World => W.cell? ⟨w.heap.size, 5, none⟩ = some (.int .u32 gr) ∧ W.cell? ⟨w.heap.size, 10, none⟩ = some (.int .u64 ms) ∧ W.cell? ⟨w.heap.size + 1 + 1, 2, none⟩ = some (.int .u8 c)) W1) := ⟨l5, l10, o2⟩
  have HKD : Hid (∀ W : World, (fun W : World => W.cell? ⟨w.heap.size, 5, none⟩ = some (.int .u32 gr) ∧ W.cell? ⟨w.heap.size, 10, none⟩ = some (.int .u64 ms) ∧ W.cell? ⟨w.heap.size + 1 + 1, 2, none⟩ = some (.int .u8 c)) W → (fun W : World => W.cell? ⟨w.heap.size, 5, none⟩ = some (.int .u32 gr) ∧ W.cell? ⟨w.heap.size, 10, none⟩ = some (.int .u64 ms) ∧ W.cell? ⟨w.heap.size + 1 + 1, 2, none⟩ = some (.int .u8 c)) W.drew) := fun W h => h
  have HK : Hid (∀ W : World, (fun W : World => W.cell? ⟨w.heap.size, 5, none⟩ = some (.int .u32 gr) ∧ W.cell? ⟨w.heap.size, 10, none⟩ = some (.int .u64 ms) ∧ W.cell? ⟨w.heap.size + 1 + 1, 2, none⟩ = some (.int .u8 c)) W → ∀ (i : Nat) (v : Value), i ≠ 2 → (fun W : World => W.cell? ⟨w.heap.size, 5, none⟩ = some (.int .u32 gr) ∧ W.cell? ⟨w.heap.size, 10, none⟩ = some (.int .u64 ms) ∧ W.cell? ⟨w.heap.size + 1 + 1, 2, none⟩ = some (.int .u8 c)) (W.setCell ⟨w.heap.size + 1 + 1, i, none⟩ v)) := by
    intro W h i v hi
    obtain ⟨h0, h1, h2⟩ := h
    refine ⟨?_, ?_, ?_⟩
    · exact (World.cell?_setCell_other _ _ _ _ (by intro e; injection e with e1 e2; omega)).trans h0
    · exact (World.cell?_setCell_other _ _ _ _ (by intro e; injection e with e1 e2; omega)).trans h1
    · exact (World.cell?_setCell_other _ _ _ _ (by intro e; injection e with e1 e2; omega)).trans h2
  go_region_held3 (fun W => W.cell? ⟨w.heap.size, 5, none⟩ = some (.int .u32 gr) ∧ W.cell? ⟨w.heap.size, 10, none⟩ = some (.int .u64 ms) ∧ W.cell? ⟨w.heap.size + 1 + 1, 2, none⟩ = some (.int .u8 c)) (first
    | with_reducible exact HKD.out _ HS0.out
    | with_reducible exact HKD.out _ (HK.out _ HS0.out 4 (.int .i64 (1 + (m4 : Int))) (by decide))
    | with_reducible exact HKD.out _ (HK.out _ (HK.out _ HS0.out 4 (.int .i64 (1 + (m4 : Int))) (by decide)) 5 (.int .i64 (m5 : Int)) (by decide))
    | with_reducible exact HKD.out _ (HK.out _ (HK.out _ (HK.out _ HS0.out 4 (.int .i64 (1 + (m4 : Int))) (by decide)) 5 (.int .i64 (m5 : Int)) (by decide)) 7 (.int .i64 (1 + (m7 : Int))) (by decide))
    | with_reducible exact HKD.out _ (HK.out _ (HK.out _ (HK.out _ (HK.out _ HS0.out 4 (.int .i64 (1 + (m4 : Int))) (by decide)) 5 (.int .i64 (m5 : Int)) (by decide)) 7 (.int .i64 (1 + (m7 : Int))) (by decide)) 9 (.int .u64 mk) (by decide))) (first | fail)
  rename_i hcont hheld
  refine hcont _ _ ?_
  clear hcont hheld
  clear o0 o1 o2 o3 o4 o5 o6 o7 o8 o9 o10 f4 f5 f6 f7 f8 f9 f10 l5 l10
  have HZ1 : Hid (EBox ((((W1.setCell ⟨w.heap.size + 1 + 1, 4, none⟩ (.int .i64 (1 + (m4 : Int)))).setCell ⟨w.heap.size + 1 + 1, 5, none⟩ (.int .i64 (m5 : Int))).setCell ⟨w.heap.size + 1 + 1, 7, none⟩ (.int .i64 (1 + (m7 : Int)))).setCell ⟨w.heap.size + 1 + 1, 9, none⟩ (.int .u64 mk)).drew (w.heap.size + 1) 0 0 0 0 0 0 0 0 0 0 0) := ((((HZ0.out.other (b' := w.heap.size + 1 + 1) (by show w.heap.size + 1 + 1 ≠ w.heap.size + 1; simp) 4 (.int .i64 (1 + (m4 : Int)))).other (b' := w.heap.size + 1 + 1) (by show w.heap.size + 1 + 1 ≠ w.heap.size + 1; simp) 5 (.int .i64 (m5 : Int))).other (b' := w.heap.size + 1 + 1) (by show w.heap.size + 1 + 1 ≠ w.heap.size + 1; simp) 7 (.int .i64 (1 + (m7 : Int)))).other (b' := w.heap.size + 1 + 1) (by show w.heap.size + 1 + 1 ≠ w.heap.size + 1; simp) 9 (.int .u64 mk))
  have HO1 : Hid (EBox ((((W1.setCell ⟨w.heap.size + 1 + 1, 4, none⟩ (.int .i64 (1 + (m4 : Int)))).setCell ⟨w.heap.size + 1 + 1, 5, none⟩ (.int .i64 (m5 : Int))).setCell ⟨w.heap.size + 1 + 1, 7, none⟩ (.int .i64 (1 + (m7 : Int)))).setCell ⟨w.heap.size + 1 + 1, 9, none⟩ (.int .u64 mk)).drew (w.heap.size + 1 + 1) (1 + (sq : Int)) (tm : Int) c 1 (1 + (m4 : Int)) (m5 : Int) 0 (1 + (m7 : Int)) 0 mk 0) := (EBox.one (EBox.one (EBox.one (EBox.one HO0.out 4 (.int .i64 (1 + (m4 : Int)))) 5 (.int .i64 (m5 : Int))) 7 (.int .i64 (1 + (m7 : Int)))) 9 (.int .u64 mk))
  have HB1 : Hid (Below w.heap.size w ((((W1.setCell ⟨w.heap.size + 1 + 1, 4, none⟩ (.int .i64 (1 + (m4 : Int)))).setCell ⟨w.heap.size + 1 + 1, 5, none⟩ (.int .i64 (m5 : Int))).setCell ⟨w.heap.size + 1 + 1, 7, none⟩ (.int .i64 (1 + (m7 : Int)))).setCell ⟨w.heap.size + 1 + 1, 9, none⟩ (.int .u64 mk)).drew) := ((((HB0.out.setCell (p := ⟨w.heap.size + 1 + 1, 4, none⟩) (by show w.heap.size ≤ w.heap.size + 1 + 1; exact Nat.le_succ_of_le (Nat.le_succ _)) (.int .i64 (1 + (m4 : Int)))).setCell (p := ⟨w.heap.size + 1 + 1, 5, none⟩) (by show w.heap.size ≤ w.heap.size + 1 + 1; exact Nat.le_succ_of_le (Nat.le_succ _)) (.int .i64 (m5 : Int))).setCell (p := ⟨w.heap.size + 1 + 1, 7, none⟩) (by show w.heap.size ≤ w.heap.size + 1 + 1; exact Nat.le_succ_of_le (Nat.le_succ _)) (.int .i64 (1 + (m7 : Int)))).setCell (p := ⟨w.heap.size + 1 + 1, 9, none⟩) (by show w.heap.size ≤ w.heap.size + 1 + 1; exact Nat.le_succ_of_le (Nat.le_succ _)) (.int .u64 mk)).drew
  generalize ((((W1.setCell ⟨w.heap.size + 1 + 1, 4, none⟩ (.int .i64 (1 + (m4 : Int)))).setCell ⟨w.heap.size + 1 + 1, 5, none⟩ (.int .i64 (m5 : Int))).setCell ⟨w.heap.size + 1 + 1, 7, none⟩ (.int .i64 (1 + (m7 : Int)))).setCell ⟨w.heap.size + 1 + 1, 9, none⟩ (.int .u64 mk)).drew = W2 at HZ1 HO1 HB1 ⊢
  obtain ⟨z0, z1, z2, z3, z4, z5, z6, z7, z8, z9, z10⟩ := HZ1.out.cells
  obtain ⟨o0, o1, o2, o3, o4, o5, o6, o7, o8, o9, o10⟩ := HO1.out.cells
  have f0 := HZ1.out.free 0
  have f1 := HZ1.out.free 1
  have f2 := HZ1.out.free 2
  have f3 := HZ1.out.free 3
  have f4 := HZ1.out.free 4
  have f5 := HZ1.out.free 5
  have f6 := HZ1.out.free 6
  have f7 := HZ1.out.free 7
  have f8 := HZ1.out.free 8
  have f9 := HZ1.out.free 9
  have f10 := HZ1.out.free 10
  go_wp2
  have hg := EBox.setAll HZ1.out (1 + (sq : Int)) (tm : Int) c 1 (1 + (m4 : Int)) (m5 : Int) 0 (1 + (m7 : Int)) 0 mk 0
  have hbz := below_setAll HB1.out (Nat.le_succ _) (1 + (sq : Int)) (tm : Int) c 1 (1 + (m4 : Int)) (m5 : Int) 0 (1 + (m7 : Int)) 0 mk 0
  generalize (((((((((((W2.setCell ⟨w.heap.size + 1, 0, none⟩ (.int .i64 (1 + (sq : Int)))).setCell ⟨w.heap.size + 1, 1, none⟩ (.int .i64 (tm : Int))).setCell ⟨w.heap.size + 1, 2, none⟩ (.int .u8 c)).setCell ⟨w.heap.size + 1, 3, none⟩ (.int .u8 1)).setCell ⟨w.heap.size + 1, 4, none⟩ (.int .i64 (1 + (m4 : Int)))).setCell ⟨w.heap.size + 1, 5, none⟩ (.int .i64 (m5 : Int))).setCell ⟨w.heap.size + 1, 6, none⟩ (.int .i64 0)).setCell ⟨w.heap.size + 1, 7, none⟩ (.int .i64 (1 + (m7 : Int)))).setCell ⟨w.heap.size + 1, 8, none⟩ (.int .i64 0)).setCell ⟨w.heap.size + 1, 9, none⟩ (.int .u64 mk)).setCell ⟨w.heap.size + 1, 10, none⟩ (.int .i64 0)) = Wz at hg hbz ⊢
  obtain ⟨g0, g1, g2, g3, g4, g5, g6, g7, g8, g9, g10⟩ := hg.cells
  refine bodyPost_ret (v := .agg #[.int .i64 (1 + (sq : Int)), .int .i64 (tm : Int), .int .u8 c, .int .u8 1, .int .i64 (1 + (m4 : Int)), .int .i64 (m5 : Int), .int .i64 0, .int .i64 (1 + (m7 : Int)), .int .i64 0, .int .u64 mk, .int .i64 0]) ?_ rfl ⟨?_, hbz⟩
  · simp [results, Tryd.results14, go_sem, g0, g1, g2, g3, g4, g5, g6, g7, g8, g9, g10]
  · simp only [← hc, ← hm4, ← hm5, ← hm7, ← hmk]
set_option maxRecDepth 100000 in
set_option maxHeartbeats 2000000 in
theorem made_2 (kd cp sq tm tk gr to_ wg tc gt ms : Nat) (h1 : cp < 2 ^ 8) (h2 : sq < 2 ^ 32) (h3 : tm < 2 ^ 32) (h4 : tk < 2 ^ 32) (h5 : gr < 2 ^ 32) (h6 : to_ < 2 ^ 32) (h7 : wg < 2 ^ 32) (h8 : tc < 2 ^ 32) (h9 : gt < 2 ^ 32) (h10 : ms < 2 ^ 64) (hk : kd < 2 ^ 8) (hK : kd % 10 = 1) (w : World) : Calls Tryd.prog 14 #[.agg #[.int .u8 kd, .int .u8 cp, .int .u32 sq, .int .u32 tm, .int .u32 tk, .int .u32 gr, .int .u32 to_, .int .u32 wg, .int .u32 tc, .int .u32 gt, .int .u64 ms]] w fun e w' => e = .returned (.agg #[.int .i64 ((1 + (sq : Int))), .int .i64 ((tm : Int)), .int .u8 (((cp % 64 : Nat) : Int)), .int .u8 (2), .int .i64 ((1 + ((tk % 65535 : Nat) : Int))), .int .i64 (0), .int .i64 (0), .int .i64 (0), .int .i64 (0), .int .u64 (0), .int .i64 (0)]) ∧ Below w.heap.size w w' := by
  have c1 : IntKind.i64.wrap (sq : Int) = (sq : Int) := by rw [IntKind.wrap_i64]; omega
  have c2 : IntKind.i64.wrap (tm : Int) = (tm : Int) := by rw [IntKind.wrap_i64]; omega
  have hkd : (kd : Int).tmod 10 = 1 := by rw [show (10 : Int) = ((10 : Nat) : Int) from rfl, tmod_nat, hK]; rfl
  obtain ⟨c, hc⟩ : ∃ c, cp % 64 = c := ⟨_, rfl⟩
  have hcd : (cp : Int).tmod 64 = (c : Int) := by rw [← hc]; exact tmod_nat cp 64
  have c4 : IntKind.i64.wrap (tk : Int) = (tk : Int) := by rw [IntKind.wrap_i64]; omega
  have c5 : IntKind.i64.wrap (gr : Int) = (gr : Int) := by rw [IntKind.wrap_i64]; omega
  have c6 : IntKind.i64.wrap (to_ : Int) = (to_ : Int) := by rw [IntKind.wrap_i64]; omega
  have c7 : IntKind.i64.wrap (wg : Int) = (wg : Int) := by rw [IntKind.wrap_i64]; omega
  have c8 : IntKind.i64.wrap (tc : Int) = (tc : Int) := by rw [IntKind.wrap_i64]; omega
  have c9 : IntKind.i64.wrap (gt : Int) = (gt : Int) := by rw [IntKind.wrap_i64]; omega
  obtain ⟨m4, hm4⟩ : ∃ m, tk % 65535 = m := ⟨_, rfl⟩
  obtain ⟨m7, hm7⟩ : ∃ m, wg % 65536 = m := ⟨_, rfl⟩
  obtain ⟨m10, hm10⟩ : ∃ m, gt % 65535 = m := ⟨_, rfl⟩
  have r4 : (tk : Int).tmod 65535 = (m4 : Int) := by rw [← hm4]; exact tmod_nat tk 65535
  have r7 : (wg : Int).tmod 65536 = (m7 : Int) := by rw [← hm7]; exact tmod_nat wg 65536
  have r10 : (gt : Int).tmod 65535 = (m10 : Int) := by rw [← hm10]; exact tmod_nat gt 65535
  have s4 : IntKind.i64.wrap (1 + (m4 : Int)) = 1 + (m4 : Int) := by rw [IntKind.wrap_i64]; omega
  have s7 : IntKind.i64.wrap (1 + (m7 : Int)) = 1 + (m7 : Int) := by rw [IntKind.wrap_i64]; omega
  have s10 : IntKind.i64.wrap (1 + (m10 : Int)) = 1 + (m10 : Int) := by rw [IntKind.wrap_i64]; omega
  go_enter Tryd.func14, Tryd.ntmps14
  go_wp2
  go_quiet (fail)
  have HB0 : Hid (Below w.heap.size w ((((w.alloc (.cells #[.int .u8 kd, .int .u8 cp, .int .u32 sq, .int .u32 tm, .int .u32 tk, .int .u32 gr, .int .u32 to_, .int .u32 wg, .int .u32 tc, .int .u32 gt, .int .u64 ms] 31)).alloc (.cells #[.int .i64 0, .int .i64 0, .int .u8 0, .int .u8 0, .int .i64 0, .int .i64 0, .int .i64 0, .int .i64 0, .int .i64 0, .int .u64 0, .int .i64 0] 24)).alloc (.cells #[.int .i64 (1 + (sq : Int)), .int .i64 (tm : Int), .int .u8 c, .int .u8 2, .int .i64 0, .int .i64 0, .int .i64 0, .int .i64 0, .int .i64 0, .int .u64 0, .int .i64 0] 24)).drewN nq)) := below_dn ((((Below.refl w.heap.size w).alloc (Nat.le_refl _) _).alloc (by simp) _).alloc (by simp; omega) _) nq
  have HZ0 : Hid (EBox ((((w.alloc (.cells #[.int .u8 kd, .int .u8 cp, .int .u32 sq, .int .u32 tm, .int .u32 tk, .int .u32 gr, .int .u32 to_, .int .u32 wg, .int .u32 tc, .int .u32 gt, .int .u64 ms] 31)).alloc (.cells #[.int .i64 0, .int .i64 0, .int .u8 0, .int .u8 0, .int .i64 0, .int .i64 0, .int .i64 0, .int .i64 0, .int .i64 0, .int .u64 0, .int .i64 0] 24)).alloc (.cells #[.int .i64 (1 + (sq : Int)), .int .i64 (tm : Int), .int .u8 c, .int .u8 2, .int .i64 0, .int .i64 0, .int .i64 0, .int .i64 0, .int .i64 0, .int .u64 0, .int .i64 0] 24)).drewN nq) (w.heap.size + 1) 0 0 0 0 0 0 0 0 0 0 0) := by
    have t := (EBox.new (w.alloc (.cells #[.int .u8 kd, .int .u8 cp, .int .u32 sq, .int .u32 tm, .int .u32 tk, .int .u32 gr, .int .u32 to_, .int .u32 wg, .int .u32 tc, .int .u32 gt, .int .u64 ms] 31)) 0 0 0 0 0 0 0 0 0 0 0).alloc (.cells #[.int .i64 (1 + (sq : Int)), .int .i64 (tm : Int), .int .u8 c, .int .u8 2, .int .i64 0, .int .i64 0, .int .i64 0, .int .i64 0, .int .i64 0, .int .u64 0, .int .i64 0] 24)
    simp only [World.size_alloc] at t
    exact t
  have HO0 : Hid (EBox ((((w.alloc (.cells #[.int .u8 kd, .int .u8 cp, .int .u32 sq, .int .u32 tm, .int .u32 tk, .int .u32 gr, .int .u32 to_, .int .u32 wg, .int .u32 tc, .int .u32 gt, .int .u64 ms] 31)).alloc (.cells #[.int .i64 0, .int .i64 0, .int .u8 0, .int .u8 0, .int .i64 0, .int .i64 0, .int .i64 0, .int .i64 0, .int .i64 0, .int .u64 0, .int .i64 0] 24)).alloc (.cells #[.int .i64 (1 + (sq : Int)), .int .i64 (tm : Int), .int .u8 c, .int .u8 2, .int .i64 0, .int .i64 0, .int .i64 0, .int .i64 0, .int .i64 0, .int .u64 0, .int .i64 0] 24)).drewN nq) (w.heap.size + 1 + 1) (1 + (sq : Int)) (tm : Int) c 2 0 0 0 0 0 0 0) := by
    have t := EBox.new ((w.alloc (.cells #[.int .u8 kd, .int .u8 cp, .int .u32 sq, .int .u32 tm, .int .u32 tk, .int .u32 gr, .int .u32 to_, .int .u32 wg, .int .u32 tc, .int .u32 gt, .int .u64 ms] 31)).alloc (.cells #[.int .i64 0, .int .i64 0, .int .u8 0, .int .u8 0, .int .i64 0, .int .i64 0, .int .i64 0, .int .i64 0, .int .i64 0, .int .u64 0, .int .i64 0] 24)) (1 + (sq : Int)) (tm : Int) c 2 0 0 0 0 0 0 0
    simp only [World.size_alloc] at t
    exact t
  go_wp2
  have hg := EBox.setAll (HZ0.out.other (b' := w.heap.size + 1 + 1) (by show w.heap.size + 1 + 1 ≠ w.heap.size + 1; simp) 4 (.int .i64 (1 + (m4 : Int)))) (1 + (sq : Int)) (tm : Int) c 2 (1 + (m4 : Int)) 0 0 0 0 0 0
  have hbz := below_setAll (HB0.out.setCell (p := ⟨w.heap.size + 1 + 1, 4, none⟩) (by show w.heap.size ≤ w.heap.size + 1 + 1; exact Nat.le_succ_of_le (Nat.le_succ _)) (.int .i64 (1 + (m4 : Int)))) (Nat.le_succ _) (1 + (sq : Int)) (tm : Int) c 2 (1 + (m4 : Int)) 0 0 0 0 0 0
  generalize ((((((((((((((((w.alloc (.cells #[.int .u8 kd, .int .u8 cp, .int .u32 sq, .int .u32 tm, .int .u32 tk, .int .u32 gr, .int .u32 to_, .int .u32 wg, .int .u32 tc, .int .u32 gt, .int .u64 ms] 31)).alloc (.cells #[.int .i64 0, .int .i64 0, .int .u8 0, .int .u8 0, .int .i64 0, .int .i64 0, .int .i64 0, .int .i64 0, .int .i64 0, .int .u64 0, .int .i64 0] 24)).alloc (.cells #[.int .i64 (1 + (sq : Int)), .int .i64 (tm : Int), .int .u8 c, .int .u8 2, .int .i64 0, .int .i64 0, .int .i64 0, .int .i64 0, .int .i64 0, .int .u64 0, .int .i64 0] 24)).drewN nq).setCell ⟨w.heap.size + 1 + 1, 4, none⟩ (.int .i64 (1 + (m4 : Int)))).setCell ⟨w.heap.size + 1, 0, none⟩ (.int .i64 (1 + (sq : Int)))).setCell ⟨w.heap.size + 1, 1, none⟩ (.int .i64 (tm : Int))).setCell ⟨w.heap.size + 1, 2, none⟩ (.int .u8 c)).setCell ⟨w.heap.size + 1, 3, none⟩ (.int .u8 2)).setCell ⟨w.heap.size + 1, 4, none⟩ (.int .i64 (1 + (m4 : Int)))).setCell ⟨w.heap.size + 1, 5, none⟩ (.int .i64 0)).setCell ⟨w.heap.size + 1, 6, none⟩ (.int .i64 0)).setCell ⟨w.heap.size + 1, 7, none⟩ (.int .i64 0)).setCell ⟨w.heap.size + 1, 8, none⟩ (.int .i64 0)).setCell ⟨w.heap.size + 1, 9, none⟩ (.int .u64 0)).setCell ⟨w.heap.size + 1, 10, none⟩ (.int .i64 0)) = Wz at hg hbz ⊢
  obtain ⟨g0, g1, g2, g3, g4, g5, g6, g7, g8, g9, g10⟩ := hg.cells
  refine bodyPost_ret (v := .agg #[.int .i64 (1 + (sq : Int)), .int .i64 (tm : Int), .int .u8 c, .int .u8 2, .int .i64 (1 + (m4 : Int)), .int .i64 0, .int .i64 0, .int .i64 0, .int .i64 0, .int .u64 0, .int .i64 0]) ?_ rfl ⟨?_, hbz⟩
  · simp [results, Tryd.results14, go_sem, g0, g1, g2, g3, g4, g5, g6, g7, g8, g9, g10]
  · simp only [← hc, ← hm4]
set_option maxRecDepth 100000 in
set_option maxHeartbeats 2000000 in
theorem made_3 (kd cp sq tm tk gr to_ wg tc gt ms : Nat) (h1 : cp < 2 ^ 8) (h2 : sq < 2 ^ 32) (h3 : tm < 2 ^ 32) (h4 : tk < 2 ^ 32) (h5 : gr < 2 ^ 32) (h6 : to_ < 2 ^ 32) (h7 : wg < 2 ^ 32) (h8 : tc < 2 ^ 32) (h9 : gt < 2 ^ 32) (h10 : ms < 2 ^ 64) (hk : kd < 2 ^ 8) (hK : kd % 10 = 2) (w : World) : Calls Tryd.prog 14 #[.agg #[.int .u8 kd, .int .u8 cp, .int .u32 sq, .int .u32 tm, .int .u32 tk, .int .u32 gr, .int .u32 to_, .int .u32 wg, .int .u32 tc, .int .u32 gt, .int .u64 ms]] w fun e w' => e = .returned (.agg #[.int .i64 ((1 + (sq : Int))), .int .i64 ((tm : Int)), .int .u8 (((cp % 64 : Nat) : Int)), .int .u8 (3), .int .i64 (0), .int .i64 (0), .int .i64 (0), .int .i64 (0), .int .i64 (0), .int .u64 (0), .int .i64 ((1 + ((gt % 65535 : Nat) : Int)))]) ∧ Below w.heap.size w w' := by
  have c1 : IntKind.i64.wrap (sq : Int) = (sq : Int) := by rw [IntKind.wrap_i64]; omega
  have c2 : IntKind.i64.wrap (tm : Int) = (tm : Int) := by rw [IntKind.wrap_i64]; omega
  have hkd : (kd : Int).tmod 10 = 2 := by rw [show (10 : Int) = ((10 : Nat) : Int) from rfl, tmod_nat, hK]; rfl
  obtain ⟨c, hc⟩ : ∃ c, cp % 64 = c := ⟨_, rfl⟩
  have hcd : (cp : Int).tmod 64 = (c : Int) := by rw [← hc]; exact tmod_nat cp 64
  have c4 : IntKind.i64.wrap (tk : Int) = (tk : Int) := by rw [IntKind.wrap_i64]; omega
  have c5 : IntKind.i64.wrap (gr : Int) = (gr : Int) := by rw [IntKind.wrap_i64]; omega
  have c6 : IntKind.i64.wrap (to_ : Int) = (to_ : Int) := by rw [IntKind.wrap_i64]; omega
  have c7 : IntKind.i64.wrap (wg : Int) = (wg : Int) := by rw [IntKind.wrap_i64]; omega
  have c8 : IntKind.i64.wrap (tc : Int) = (tc : Int) := by rw [IntKind.wrap_i64]; omega
  have c9 : IntKind.i64.wrap (gt : Int) = (gt : Int) := by rw [IntKind.wrap_i64]; omega
  obtain ⟨m4, hm4⟩ : ∃ m, tk % 65535 = m := ⟨_, rfl⟩
  obtain ⟨m7, hm7⟩ : ∃ m, wg % 65536 = m := ⟨_, rfl⟩
  obtain ⟨m10, hm10⟩ : ∃ m, gt % 65535 = m := ⟨_, rfl⟩
  have r4 : (tk : Int).tmod 65535 = (m4 : Int) := by rw [← hm4]; exact tmod_nat tk 65535
  have r7 : (wg : Int).tmod 65536 = (m7 : Int) := by rw [← hm7]; exact tmod_nat wg 65536
  have r10 : (gt : Int).tmod 65535 = (m10 : Int) := by rw [← hm10]; exact tmod_nat gt 65535
  have s4 : IntKind.i64.wrap (1 + (m4 : Int)) = 1 + (m4 : Int) := by rw [IntKind.wrap_i64]; omega
  have s7 : IntKind.i64.wrap (1 + (m7 : Int)) = 1 + (m7 : Int) := by rw [IntKind.wrap_i64]; omega
  have s10 : IntKind.i64.wrap (1 + (m10 : Int)) = 1 + (m10 : Int) := by rw [IntKind.wrap_i64]; omega
  go_enter Tryd.func14, Tryd.ntmps14
  go_wp2
  go_quiet (fail)
  have HB0 : Hid (Below w.heap.size w ((((w.alloc (.cells #[.int .u8 kd, .int .u8 cp, .int .u32 sq, .int .u32 tm, .int .u32 tk, .int .u32 gr, .int .u32 to_, .int .u32 wg, .int .u32 tc, .int .u32 gt, .int .u64 ms] 31)).alloc (.cells #[.int .i64 0, .int .i64 0, .int .u8 0, .int .u8 0, .int .i64 0, .int .i64 0, .int .i64 0, .int .i64 0, .int .i64 0, .int .u64 0, .int .i64 0] 24)).alloc (.cells #[.int .i64 (1 + (sq : Int)), .int .i64 (tm : Int), .int .u8 c, .int .u8 3, .int .i64 0, .int .i64 0, .int .i64 0, .int .i64 0, .int .i64 0, .int .u64 0, .int .i64 0] 24)).drewN nq)) := below_dn ((((Below.refl w.heap.size w).alloc (Nat.le_refl _) _).alloc (by simp) _).alloc (by simp; omega) _) nq
  have HZ0 : Hid (EBox ((((w.alloc (.cells #[.int .u8 kd, .int .u8 cp, .int .u32 sq, .int .u32 tm, .int .u32 tk, .int .u32 gr, .int .u32 to_, .int .u32 wg, .int .u32 tc, .int .u32 gt, .int .u64 ms] 31)).alloc (.cells #[.int .i64 0, .int .i64 0, .int .u8 0, .int .u8 0, .int .i64 0, .int .i64 0, .int .i64 0, .int .i64 0, .int .i64 0, .int .u64 0, .int .i64 0] 24)).alloc (.cells #[.int .i64 (1 + (sq : Int)), .int .i64 (tm : Int), .int .u8 c, .int .u8 3, .int .i64 0, .int .i64 0, .int .i64 0, .int .i64 0, .int .i64 0, .int .u64 0, .int .i64 0] 24)).drewN nq) (w.heap.size + 1) 0 0 0 0 0 0 0 0 0 0 0) := by
    have t := (EBox.new (w.alloc (.cells #[.int .u8 kd, .int .u8 cp, .int .u32 sq, .int .u32 tm, .int .u32 tk, .int .u32 gr, .int .u32 to_, .int .u32 wg, .int .u32 tc, .int .u32 gt, .int .u64 ms] 31)) 0 0 0 0 0 0 0 0 0 0 0).alloc (.cells #[.int .i64 (1 + (sq : Int)), .int .i64 (tm : Int), .int .u8 c, .int .u8 3, .int .i64 0, .int .i64 0, .int .i64 0, .int .i64 0, .int .i64 0, .int .u64 0, .int .i64 0] 24)
    simp only [World.size_alloc] at t
    exact t
  have HO0 : Hid (EBox ((((w.alloc (.cells #[.int .u8 kd, .int .u8 cp, .int .u32 sq, .int .u32 tm, .int .u32 tk, .int .u32 gr, .int .u32 to_, .int .u32 wg, .int .u32 tc, .int .u32 gt, .int .u64 ms] 31)).alloc (.cells #[.int .i64 0, .int .i64 0, .int .u8 0, .int .u8 0, .int .i64 0, .int .i64 0, .int .i64 0, .int .i64 0, .int .i64 0, .int .u64 0, .int .i64 0] 24)).alloc (.cells #[.int .i64 (1 + (sq : Int)), .int .i64 (tm : Int), .int .u8 c, .int .u8 3, .int .i64 0, .int .i64 0, .int .i64 0, .int .i64 0, .int .i64 0, .int .u64 0, .int .i64 0] 24)).drewN nq) (w.heap.size + 1 + 1) (1 + (sq : Int)) (tm : Int) c 3 0 0 0 0 0 0 0) := by
    have t := EBox.new ((w.alloc (.cells #[.int .u8 kd, .int .u8 cp, .int .u32 sq, .int .u32 tm, .int .u32 tk, .int .u32 gr, .int .u32 to_, .int .u32 wg, .int .u32 tc, .int .u32 gt, .int .u64 ms] 31)).alloc (.cells #[.int .i64 0, .int .i64 0, .int .u8 0, .int .u8 0, .int .i64 0, .int .i64 0, .int .i64 0, .int .i64 0, .int .i64 0, .int .u64 0, .int .i64 0] 24)) (1 + (sq : Int)) (tm : Int) c 3 0 0 0 0 0 0 0
    simp only [World.size_alloc] at t
    exact t
  go_wp2
  have hg := EBox.setAll (HZ0.out.other (b' := w.heap.size + 1 + 1) (by show w.heap.size + 1 + 1 ≠ w.heap.size + 1; simp) 10 (.int .i64 (1 + (m10 : Int)))) (1 + (sq : Int)) (tm : Int) c 3 0 0 0 0 0 0 (1 + (m10 : Int))
  have hbz := below_setAll (HB0.out.setCell (p := ⟨w.heap.size + 1 + 1, 10, none⟩) (by show w.heap.size ≤ w.heap.size + 1 + 1; exact Nat.le_succ_of_le (Nat.le_succ _)) (.int .i64 (1 + (m10 : Int)))) (Nat.le_succ _) (1 + (sq : Int)) (tm : Int) c 3 0 0 0 0 0 0 (1 + (m10 : Int))
  generalize ((((((((((((((((w.alloc (.cells #[.int .u8 kd, .int .u8 cp, .int .u32 sq, .int .u32 tm, .int .u32 tk, .int .u32 gr, .int .u32 to_, .int .u32 wg, .int .u32 tc, .int .u32 gt, .int .u64 ms] 31)).alloc (.cells #[.int .i64 0, .int .i64 0, .int .u8 0, .int .u8 0, .int .i64 0, .int .i64 0, .int .i64 0, .int .i64 0, .int .i64 0, .int .u64 0, .int .i64 0] 24)).alloc (.cells #[.int .i64 (1 + (sq : Int)), .int .i64 (tm : Int), .int .u8 c, .int .u8 3, .int .i64 0, .int .i64 0, .int .i64 0, .int .i64 0, .int .i64 0, .int .u64 0, .int .i64 0] 24)).drewN nq).setCell ⟨w.heap.size + 1 + 1, 10, none⟩ (.int .i64 (1 + (m10 : Int)))).setCell ⟨w.heap.size + 1, 0, none⟩ (.int .i64 (1 + (sq : Int)))).setCell ⟨w.heap.size + 1, 1, none⟩ (.int .i64 (tm : Int))).setCell ⟨w.heap.size + 1, 2, none⟩ (.int .u8 c)).setCell ⟨w.heap.size + 1, 3, none⟩ (.int .u8 3)).setCell ⟨w.heap.size + 1, 4, none⟩ (.int .i64 0)).setCell ⟨w.heap.size + 1, 5, none⟩ (.int .i64 0)).setCell ⟨w.heap.size + 1, 6, none⟩ (.int .i64 0)).setCell ⟨w.heap.size + 1, 7, none⟩ (.int .i64 0)).setCell ⟨w.heap.size + 1, 8, none⟩ (.int .i64 0)).setCell ⟨w.heap.size + 1, 9, none⟩ (.int .u64 0)).setCell ⟨w.heap.size + 1, 10, none⟩ (.int .i64 (1 + (m10 : Int)))) = Wz at hg hbz ⊢
  obtain ⟨g0, g1, g2, g3, g4, g5, g6, g7, g8, g9, g10⟩ := hg.cells
  refine bodyPost_ret (v := .agg #[.int .i64 (1 + (sq : Int)), .int .i64 (tm : Int), .int .u8 c, .int .u8 3, .int .i64 0, .int .i64 0, .int .i64 0, .int .i64 0, .int .i64 0, .int .u64 0, .int .i64 (1 + (m10 : Int))]) ?_ rfl ⟨?_, hbz⟩
  · simp [results, Tryd.results14, go_sem, g0, g1, g2, g3, g4, g5, g6, g7, g8, g9, g10]
  · simp only [← hc, ← hm10]
set_option maxRecDepth 100000 in
set_option maxHeartbeats 2000000 in
theorem made_4 (kd cp sq tm tk gr to_ wg tc gt ms : Nat) (h1 : cp < 2 ^ 8) (h2 : sq < 2 ^ 32) (h3 : tm < 2 ^ 32) (h4 : tk < 2 ^ 32) (h5 : gr < 2 ^ 32) (h6 : to_ < 2 ^ 32) (h7 : wg < 2 ^ 32) (h8 : tc < 2 ^ 32) (h9 : gt < 2 ^ 32) (h10 : ms < 2 ^ 64) (hk : kd < 2 ^ 8) (hK : kd % 10 = 3) (w : World) : Calls Tryd.prog 14 #[.agg #[.int .u8 kd, .int .u8 cp, .int .u32 sq, .int .u32 tm, .int .u32 tk, .int .u32 gr, .int .u32 to_, .int .u32 wg, .int .u32 tc, .int .u32 gt, .int .u64 ms]] w fun e w' => e = .returned (.agg #[.int .i64 ((1 + (sq : Int))), .int .i64 ((tm : Int)), .int .u8 (((cp % 64 : Nat) : Int)), .int .u8 (4), .int .i64 (0), .int .i64 (0), .int .i64 (0), .int .i64 (0), .int .i64 (0), .int .u64 (0), .int .i64 ((1 + ((gt % 65535 : Nat) : Int)))]) ∧ Below w.heap.size w w' := by
  have c1 : IntKind.i64.wrap (sq : Int) = (sq : Int) := by rw [IntKind.wrap_i64]; omega
  have c2 : IntKind.i64.wrap (tm : Int) = (tm : Int) := by rw [IntKind.wrap_i64]; omega
  have hkd : (kd : Int).tmod 10 = 3 := by rw [show (10 : Int) = ((10 : Nat) : Int) from rfl, tmod_nat, hK]; rfl
  obtain ⟨c, hc⟩ : ∃ c, cp % 64 = c := ⟨_, rfl⟩
  have hcd : (cp : Int).tmod 64 = (c : Int) := by rw [← hc]; exact tmod_nat cp 64
  have c4 : IntKind.i64.wrap (tk : Int) = (tk : Int) := by rw [IntKind.wrap_i64]; omega
  have c5 : IntKind.i64.wrap (gr : Int) = (gr : Int) := by rw [IntKind.wrap_i64]; omega
  have c6 : IntKind.i64.wrap (to_ : Int) = (to_ : Int) := by rw [IntKind.wrap_i64]; omega
  have c7 : IntKind.i64.wrap (wg : Int) = (wg : Int) := by rw [IntKind.wrap_i64]; omega
  have c8 : IntKind.i64.wrap (tc : Int) = (tc : Int) := by rw [IntKind.wrap_i64]; omega
  have c9 : IntKind.i64.wrap (gt : Int) = (gt : Int) := by rw [IntKind.wrap_i64]; omega
  obtain ⟨m4, hm4⟩ : ∃ m, tk % 65535 = m := ⟨_, rfl⟩
  obtain ⟨m7, hm7⟩ : ∃ m, wg % 65536 = m := ⟨_, rfl⟩
  obtain ⟨m10, hm10⟩ : ∃ m, gt % 65535 = m := ⟨_, rfl⟩
  have r4 : (tk : Int).tmod 65535 = (m4 : Int) := by rw [← hm4]; exact tmod_nat tk 65535
  have r7 : (wg : Int).tmod 65536 = (m7 : Int) := by rw [← hm7]; exact tmod_nat wg 65536
  have r10 : (gt : Int).tmod 65535 = (m10 : Int) := by rw [← hm10]; exact tmod_nat gt 65535
  have s4 : IntKind.i64.wrap (1 + (m4 : Int)) = 1 + (m4 : Int) := by rw [IntKind.wrap_i64]; omega
  have s7 : IntKind.i64.wrap (1 + (m7 : Int)) = 1 + (m7 : Int) := by rw [IntKind.wrap_i64]; omega
  have s10 : IntKind.i64.wrap (1 + (m10 : Int)) = 1 + (m10 : Int) := by rw [IntKind.wrap_i64]; omega
  go_enter Tryd.func14, Tryd.ntmps14
  go_wp2
  go_quiet (fail)
  have HB0 : Hid (Below w.heap.size w ((((w.alloc (.cells #[.int .u8 kd, .int .u8 cp, .int .u32 sq, .int .u32 tm, .int .u32 tk, .int .u32 gr, .int .u32 to_, .int .u32 wg, .int .u32 tc, .int .u32 gt, .int .u64 ms] 31)).alloc (.cells #[.int .i64 0, .int .i64 0, .int .u8 0, .int .u8 0, .int .i64 0, .int .i64 0, .int .i64 0, .int .i64 0, .int .i64 0, .int .u64 0, .int .i64 0] 24)).alloc (.cells #[.int .i64 (1 + (sq : Int)), .int .i64 (tm : Int), .int .u8 c, .int .u8 4, .int .i64 0, .int .i64 0, .int .i64 0, .int .i64 0, .int .i64 0, .int .u64 0, .int .i64 0] 24)).drewN nq)) := below_dn ((((Below.refl w.heap.size w).alloc (Nat.le_refl _) _).alloc (by simp) _).alloc (by simp; omega) _) nq
  have HZ0 : Hid (EBox ((((w.alloc (.cells #[.int .u8 kd, .int .u8 cp, .int .u32 sq, .int .u32 tm, .int .u32 tk, .int .u32 gr, .int .u32 to_, .int .u32 wg, .int .u32 tc, .int .u32 gt, .int .u64 ms] 31)).alloc (.cells #[.int .i64 0, .int .i64 0, .int .u8 0, .int .u8 0, .int .i64 0, .int .i64 0, .int .i64 0, .int .i64 0, .int .i64 0, .int .u64 0, .int .i64 0] 24)).alloc (.cells #[.int .i64 (1 + (sq : Int)), .int .i64 (tm : Int), .int .u8 c, .int .u8 4, .int .i64 0, .int .i64 0, .int .i64 0, .int .i64 0, .int .i64 0, .int .u64 0, .int .i64 0] 24)).drewN nq) (w.heap.size + 1) 0 0 0 0 0 0 0 0 0 0 0) := by
    have t := (EBox.new (w.alloc (.cells #[.int .u8 kd, .int .u8 cp, .int .u32 sq, .int .u32 tm, .int .u32 tk, .int .u32 gr, .int .u32 to_, .int .u32 wg, .int .u32 tc, .int .u32 gt, .int .u64 ms] 31)) 0 0 0 0 0 0 0 0 0 0 0).alloc (.cells #[.int .i64 (1 + (sq : Int)), .int .i64 (tm : Int), .int .u8 c, .int .u8 4, .int .i64 0, .int .i64 0, .int .i64 0, .int .i64 0, .int .i64 0, .int .u64 0, .int .i64 0] 24)
    simp only [World.size_alloc] at t
    exact t
  have HO0 : Hid (EBox ((((w.alloc (.cells #[.int .u8 kd, .int .u8 cp, .int .u32 sq, .int .u32 tm, .int .u32 tk, .int .u32 gr, .int .u32 to_, .int .u32 wg, .int .u32 tc, .int .u32 gt, .int .u64 ms] 31)).alloc (.cells #[.int .i64 0, .int .i64 0, .int .u8 0, .int .u8 0, .int .i64 0, .int .i64 0, .int .i64 0, .int .i64 0, .int .i64 0, .int .u64 0, .int .i64 0] 24)).alloc (.cells #[.int .i64 (1 + (sq : Int)), .int .i64 (tm : Int), .int .u8 c, .int .u8 4, .int .i64 0, .int .i64 0, .int .i64 0, .int .i64 0, .int .i64 0, .int .u64 0, .int .i64 0] 24)).drewN nq) (w.heap.size + 1 + 1) (1 + (sq : Int)) (tm : Int) c 4 0 0 0 0 0 0 0) := by
    have t := EBox.new ((w.alloc (.cells #[.int .u8 kd, .int .u8 cp, .int .u32 sq, .int .u32 tm, .int .u32 tk, .int .u32 gr, .int .u32 to_, .int .u32 wg, .int .u32 tc, .int .u32 gt, .int .u64 ms] 31)).alloc (.cells #[.int .i64 0, .int .i64 0, .int .u8 0, .int .u8 0, .int .i64 0, .int .i64 0, .int .i64 0, .int .i64 0, .int .i64 0, .int .u64 0, .int .i64 0] 24)) (1 + (sq : Int)) (tm : Int) c 4 0 0 0 0 0 0 0
    simp only [World.size_alloc] at t
    exact t
  go_wp2
  have hg := EBox.setAll (HZ0.out.other (b' := w.heap.size + 1 + 1) (by show w.heap.size + 1 + 1 ≠ w.heap.size + 1; simp) 10 (.int .i64 (1 + (m10 : Int)))) (1 + (sq : Int)) (tm : Int) c 4 0 0 0 0 0 0 (1 + (m10 : Int))
  have hbz := below_setAll (HB0.out.setCell (p := ⟨w.heap.size + 1 + 1, 10, none⟩) (by show w.heap.size ≤ w.heap.size + 1 + 1; exact Nat.le_succ_of_le (Nat.le_succ _)) (.int .i64 (1 + (m10 : Int)))) (Nat.le_succ _) (1 + (sq : Int)) (tm : Int) c 4 0 0 0 0 0 0 (1 + (m10 : Int))
  generalize ((((((((((((((((w.alloc (.cells #[.int .u8 kd, .int .u8 cp, .int .u32 sq, .int .u32 tm, .int .u32 tk, .int .u32 gr, .int .u32 to_, .int .u32 wg, .int .u32 tc, .int .u32 gt, .int .u64 ms] 31)).alloc (.cells #[.int .i64 0, .int .i64 0, .int .u8 0, .int .u8 0, .int .i64 0, .int .i64 0, .int .i64 0, .int .i64 0, .int .i64 0, .int .u64 0, .int .i64 0] 24)).alloc (.cells #[.int .i64 (1 + (sq : Int)), .int .i64 (tm : Int), .int .u8 c, .int .u8 4, .int .i64 0, .int .i64 0, .int .i64 0, .int .i64 0, .int .i64 0, .int .u64 0, .int .i64 0] 24)).drewN nq).setCell ⟨w.heap.size + 1 + 1, 10, none⟩ (.int .i64 (1 + (m10 : Int)))).setCell ⟨w.heap.size + 1, 0, none⟩ (.int .i64 (1 + (sq : Int)))).setCell ⟨w.heap.size + 1, 1, none⟩ (.int .i64 (tm : Int))).setCell ⟨w.heap.size + 1, 2, none⟩ (.int .u8 c)).setCell ⟨w.heap.size + 1, 3, none⟩ (.int .u8 4)).setCell ⟨w.heap.size + 1, 4, none⟩ (.int .i64 0)).setCell ⟨w.heap.size + 1, 5, none⟩ (.int .i64 0)).setCell ⟨w.heap.size + 1, 6, none⟩ (.int .i64 0)).setCell ⟨w.heap.size + 1, 7, none⟩ (.int .i64 0)).setCell ⟨w.heap.size + 1, 8, none⟩ (.int .i64 0)).setCell ⟨w.heap.size + 1, 9, none⟩ (.int .u64 0)).setCell ⟨w.heap.size + 1, 10, none⟩ (.int .i64 (1 + (m10 : Int)))) = Wz at hg hbz ⊢
  obtain ⟨g0, g1, g2, g3, g4, g5, g6, g7, g8, g9, g10⟩ := hg.cells
  refine bodyPost_ret (v := .agg #[.int .i64 (1 + (sq : Int)), .int .i64 (tm : Int), .int .u8 c, .int .u8 4, .int .i64 0, .int .i64 0, .int .i64 0, .int .i64 0, .int .i64 0, .int .u64 0, .int .i64 (1 + (m10 : Int))]) ?_ rfl ⟨?_, hbz⟩
  · simp [results, Tryd.results14, go_sem, g0, g1, g2, g3, g4, g5, g6, g7, g8, g9, g10]
  · simp only [← hc, ← hm10]
set_option maxRecDepth 100000 in
set_option maxHeartbeats 2000000 in
theorem made_5 (kd cp sq tm tk gr to_ wg tc gt ms : Nat) (h1 : cp < 2 ^ 8) (h2 : sq < 2 ^ 32) (h3 : tm < 2 ^ 32) (h4 : tk < 2 ^ 32) (h5 : gr < 2 ^ 32) (h6 : to_ < 2 ^ 32) (h7 : wg < 2 ^ 32) (h8 : tc < 2 ^ 32) (h9 : gt < 2 ^ 32) (h10 : ms < 2 ^ 64) (hk : kd < 2 ^ 8) (hK : kd % 10 = 4) (w : World) : Calls Tryd.prog 14 #[.agg #[.int .u8 kd, .int .u8 cp, .int .u32 sq, .int .u32 tm, .int .u32 tk, .int .u32 gr, .int .u32 to_, .int .u32 wg, .int .u32 tc, .int .u32 gt, .int .u64 ms]] w fun e w' => e = .returned (.agg #[.int .i64 ((1 + (sq : Int))), .int .i64 ((tm : Int)), .int .u8 (((cp % 64 : Nat) : Int)), .int .u8 (5), .int .i64 (0), .int .i64 (0), .int .i64 (0), .int .i64 (0), .int .i64 (((max tc 1 : Nat) : Int)), .int .u64 (0), .int .i64 ((1 + ((gt % 65535 : Nat) : Int) - 1))]) ∧ Below w.heap.size w w' := by
  have c1 : IntKind.i64.wrap (sq : Int) = (sq : Int) := by rw [IntKind.wrap_i64]; omega
  have c2 : IntKind.i64.wrap (tm : Int) = (tm : Int) := by rw [IntKind.wrap_i64]; omega
  have hkd : (kd : Int).tmod 10 = 4 := by rw [show (10 : Int) = ((10 : Nat) : Int) from rfl, tmod_nat, hK]; rfl
  obtain ⟨c, hc⟩ : ∃ c, cp % 64 = c := ⟨_, rfl⟩
  have hcd : (cp : Int).tmod 64 = (c : Int) := by rw [← hc]; exact tmod_nat cp 64
  have c4 : IntKind.i64.wrap (tk : Int) = (tk : Int) := by rw [IntKind.wrap_i64]; omega
  have c5 : IntKind.i64.wrap (gr : Int) = (gr : Int) := by rw [IntKind.wrap_i64]; omega
  have c6 : IntKind.i64.wrap (to_ : Int) = (to_ : Int) := by rw [IntKind.wrap_i64]; omega
  have c7 : IntKind.i64.wrap (wg : Int) = (wg : Int) := by rw [IntKind.wrap_i64]; omega
  have c8 : IntKind.i64.wrap (tc : Int) = (tc : Int) := by rw [IntKind.wrap_i64]; omega
  have c9 : IntKind.i64.wrap (gt : Int) = (gt : Int) := by rw [IntKind.wrap_i64]; omega
  obtain ⟨m4, hm4⟩ : ∃ m, tk % 65535 = m := ⟨_, rfl⟩
  obtain ⟨m7, hm7⟩ : ∃ m, wg % 65536 = m := ⟨_, rfl⟩
  obtain ⟨m10, hm10⟩ : ∃ m, gt % 65535 = m := ⟨_, rfl⟩
  have r4 : (tk : Int).tmod 65535 = (m4 : Int) := by rw [← hm4]; exact tmod_nat tk 65535
  have r7 : (wg : Int).tmod 65536 = (m7 : Int) := by rw [← hm7]; exact tmod_nat wg 65536
  have r10 : (gt : Int).tmod 65535 = (m10 : Int) := by rw [← hm10]; exact tmod_nat gt 65535
  have s4 : IntKind.i64.wrap (1 + (m4 : Int)) = 1 + (m4 : Int) := by rw [IntKind.wrap_i64]; omega
  have s7 : IntKind.i64.wrap (1 + (m7 : Int)) = 1 + (m7 : Int) := by rw [IntKind.wrap_i64]; omega
  have s10 : IntKind.i64.wrap (1 + (m10 : Int)) = 1 + (m10 : Int) := by rw [IntKind.wrap_i64]; omega
  obtain ⟨a8, ha8⟩ : ∃ a : Nat, max tc 1 = a := ⟨_, rfl⟩
  have x8 : max (tc : Int) 1 = (a8 : Int) := by omega
  go_enter Tryd.func14, Tryd.ntmps14
  go_wp2
  go_quiet (fail)
  have HB0 : Hid (Below w.heap.size w ((((w.alloc (.cells #[.int .u8 kd, .int .u8 cp, .int .u32 sq, .int .u32 tm, .int .u32 tk, .int .u32 gr, .int .u32 to_, .int .u32 wg, .int .u32 tc, .int .u32 gt, .int .u64 ms] 31)).alloc (.cells #[.int .i64 0, .int .i64 0, .int .u8 0, .int .u8 0, .int .i64 0, .int .i64 0, .int .i64 0, .int .i64 0, .int .i64 0, .int .u64 0, .int .i64 0] 24)).alloc (.cells #[.int .i64 (1 + (sq : Int)), .int .i64 (tm : Int), .int .u8 c, .int .u8 5, .int .i64 0, .int .i64 0, .int .i64 0, .int .i64 0, .int .i64 0, .int .u64 0, .int .i64 0] 24)).drewN nq)) := below_dn ((((Below.refl w.heap.size w).alloc (Nat.le_refl _) _).alloc (by simp) _).alloc (by simp; omega) _) nq
  have HZ0 : Hid (EBox ((((w.alloc (.cells #[.int .u8 kd, .int .u8 cp, .int .u32 sq, .int .u32 tm, .int .u32 tk, .int .u32 gr, .int .u32 to_, .int .u32 wg, .int .u32 tc, .int .u32 gt, .int .u64 ms] 31)).alloc (.cells #[.int .i64 0, .int .i64 0, .int .u8 0, .int .u8 0, .int .i64 0, .int .i64 0, .int .i64 0, .int .i64 0, .int .i64 0, .int .u64 0, .int .i64 0] 24)).alloc (.cells #[.int .i64 (1 + (sq : Int)), .int .i64 (tm : Int), .int .u8 c, .int .u8 5, .int .i64 0, .int .i64 0, .int .i64 0, .int .i64 0, .int .i64 0, .int .u64 0, .int .i64 0] 24)).drewN nq) (w.heap.size + 1) 0 0 0 0 0 0 0 0 0 0 0) := by
    have t := (EBox.new (w.alloc (.cells #[.int .u8 kd, .int .u8 cp, .int .u32 sq, .int .u32 tm, .int .u32 tk, .int .u32 gr, .int .u32 to_, .int .u32 wg, .int .u32 tc, .int .u32 gt, .int .u64 ms] 31)) 0 0 0 0 0 0 0 0 0 0 0).alloc (.cells #[.int .i64 (1 + (sq : Int)), .int .i64 (tm : Int), .int .u8 c, .int .u8 5, .int .i64 0, .int .i64 0, .int .i64 0, .int .i64 0, .int .i64 0, .int .u64 0, .int .i64 0] 24)
    simp only [World.size_alloc] at t
    exact t
  have HO0 : Hid (EBox ((((w.alloc (.cells #[.int .u8 kd, .int .u8 cp, .int .u32 sq, .int .u32 tm, .int .u32 tk, .int .u32 gr, .int .u32 to_, .int .u32 wg, .int .u32 tc, .int .u32 gt, .int .u64 ms] 31)).alloc (.cells #[.int .i64 0, .int .i64 0, .int .u8 0, .int .u8 0, .int .i64 0, .int .i64 0, .int .i64 0, .int .i64 0, .int .i64 0, .int .u64 0, .int .i64 0] 24)).alloc (.cells #[.int .i64 (1 + (sq : Int)), .int .i64 (tm : Int), .int .u8 c, .int .u8 5, .int .i64 0, .int .i64 0, .int .i64 0, .int .i64 0, .int .i64 0, .int .u64 0, .int .i64 0] 24)).drewN nq) (w.heap.size + 1 + 1) (1 + (sq : Int)) (tm : Int) c 5 0 0 0 0 0 0 0) := by
    have t := EBox.new ((w.alloc (.cells #[.int .u8 kd, .int .u8 cp, .int .u32 sq, .int .u32 tm, .int .u32 tk, .int .u32 gr, .int .u32 to_, .int .u32 wg, .int .u32 tc, .int .u32 gt, .int .u64 ms] 31)).alloc (.cells #[.int .i64 0, .int .i64 0, .int .u8 0, .int .u8 0, .int .i64 0, .int .i64 0, .int .i64 0, .int .i64 0, .int .i64 0, .int .u64 0, .int .i64 0] 24)) (1 + (sq : Int)) (tm : Int) c 5 0 0 0 0 0 0 0
    simp only [World.size_alloc] at t
    exact t
  go_wp2
  have hg := EBox.setAll ((HZ0.out.other (b' := w.heap.size + 1 + 1) (by show w.heap.size + 1 + 1 ≠ w.heap.size + 1; simp) 8 (.int .i64 (a8 : Int))).other (b' := w.heap.size + 1 + 1) (by show w.heap.size + 1 + 1 ≠ w.heap.size + 1; simp) 10 (.int .i64 (1 + (m10 : Int) - 1))) (1 + (sq : Int)) (tm : Int) c 5 0 0 0 0 (a8 : Int) 0 (1 + (m10 : Int) - 1)
  have hbz := below_setAll ((HB0.out.setCell (p := ⟨w.heap.size + 1 + 1, 8, none⟩) (by show w.heap.size ≤ w.heap.size + 1 + 1; exact Nat.le_succ_of_le (Nat.le_succ _)) (.int .i64 (a8 : Int))).setCell (p := ⟨w.heap.size + 1 + 1, 10, none⟩) (by show w.heap.size ≤ w.heap.size + 1 + 1; exact Nat.le_succ_of_le (Nat.le_succ _)) (.int .i64 (1 + (m10 : Int) - 1))) (Nat.le_succ _) (1 + (sq : Int)) (tm : Int) c 5 0 0 0 0 (a8 : Int) 0 (1 + (m10 : Int) - 1)
  generalize (((((((((((((((((w.alloc (.cells #[.int .u8 kd, .int .u8 cp, .int .u32 sq, .int .u32 tm, .int .u32 tk, .int .u32 gr, .int .u32 to_, .int .u32 wg, .int .u32 tc, .int .u32 gt, .int .u64 ms] 31)).alloc (.cells #[.int .i64 0, .int .i64 0, .int .u8 0, .int .u8 0, .int .i64 0, .int .i64 0, .int .i64 0, .int .i64 0, .int .i64 0, .int .u64 0, .int .i64 0] 24)).alloc (.cells #[.int .i64 (1 + (sq : Int)), .int .i64 (tm : Int), .int .u8 c, .int .u8 5, .int .i64 0, .int .i64 0, .int .i64 0, .int .i64 0, .int .i64 0, .int .u64 0, .int .i64 0] 24)).drewN nq).setCell ⟨w.heap.size + 1 + 1, 8, none⟩ (.int .i64 (a8 : Int))).setCell ⟨w.heap.size + 1 + 1, 10, none⟩ (.int .i64 (1 + (m10 : Int) - 1))).setCell ⟨w.heap.size + 1, 0, none⟩ (.int .i64 (1 + (sq : Int)))).setCell ⟨w.heap.size + 1, 1, none⟩ (.int .i64 (tm : Int))).setCell ⟨w.heap.size + 1, 2, none⟩ (.int .u8 c)).setCell ⟨w.heap.size + 1, 3, none⟩ (.int .u8 5)).setCell ⟨w.heap.size + 1, 4, none⟩ (.int .i64 0)).setCell ⟨w.heap.size + 1, 5, none⟩ (.int .i64 0)).setCell ⟨w.heap.size + 1, 6, none⟩ (.int .i64 0)).setCell ⟨w.heap.size + 1, 7, none⟩ (.int .i64 0)).setCell ⟨w.heap.size + 1, 8, none⟩ (.int .i64 (a8 : Int))).setCell ⟨w.heap.size + 1, 9, none⟩ (.int .u64 0)).setCell ⟨w.heap.size + 1, 10, none⟩ (.int .i64 (1 + (m10 : Int) - 1))) = Wz at hg hbz ⊢
  obtain ⟨g0, g1, g2, g3, g4, g5, g6, g7, g8, g9, g10⟩ := hg.cells
  refine bodyPost_ret (v := .agg #[.int .i64 (1 + (sq : Int)), .int .i64 (tm : Int), .int .u8 c, .int .u8 5, .int .i64 0, .int .i64 0, .int .i64 0, .int .i64 0, .int .i64 (a8 : Int), .int .u64 0, .int .i64 (1 + (m10 : Int) - 1)]) ?_ rfl ⟨?_, hbz⟩
  · simp [results, Tryd.results14, go_sem, g0, g1, g2, g3, g4, g5, g6, g7, g8, g9, g10]
  · simp only [← hc, ← ha8, ← hm10]
set_option maxRecDepth 100000 in
set_option maxHeartbeats 2000000 in
theorem made_6 (kd cp sq tm tk gr to_ wg tc gt ms : Nat) (h1 : cp < 2 ^ 8) (h2 : sq < 2 ^ 32) (h3 : tm < 2 ^ 32) (h4 : tk < 2 ^ 32) (h5 : gr < 2 ^ 32) (h6 : to_ < 2 ^ 32) (h7 : wg < 2 ^ 32) (h8 : tc < 2 ^ 32) (h9 : gt < 2 ^ 32) (h10 : ms < 2 ^ 64) (hk : kd < 2 ^ 8) (hK : kd % 10 = 5) (w : World) : Calls Tryd.prog 14 #[.agg #[.int .u8 kd, .int .u8 cp, .int .u32 sq, .int .u32 tm, .int .u32 tk, .int .u32 gr, .int .u32 to_, .int .u32 wg, .int .u32 tc, .int .u32 gt, .int .u64 ms]] w fun e w' => e = .returned (.agg #[.int .i64 ((1 + (sq : Int))), .int .i64 ((tm : Int)), .int .u8 (((cp % 64 : Nat) : Int)), .int .u8 (6), .int .i64 (0), .int .i64 (0), .int .i64 (0), .int .i64 (0), .int .i64 (0), .int .u64 (0), .int .i64 ((1 + ((gt % 65535 : Nat) : Int) - 1))]) ∧ Below w.heap.size w w' := by
  have c1 : IntKind.i64.wrap (sq : Int) = (sq : Int) := by rw [IntKind.wrap_i64]; omega
  have c2 : IntKind.i64.wrap (tm : Int) = (tm : Int) := by rw [IntKind.wrap_i64]; omega
  have hkd : (kd : Int).tmod 10 = 5 := by rw [show (10 : Int) = ((10 : Nat) : Int) from rfl, tmod_nat, hK]; rfl
  obtain ⟨c, hc⟩ : ∃ c, cp % 64 = c := ⟨_, rfl⟩
  have hcd : (cp : Int).tmod 64 = (c : Int) := by rw [← hc]; exact tmod_nat cp 64
  have c4 : IntKind.i64.wrap (tk : Int) = (tk : Int) := by rw [IntKind.wrap_i64]; omega
  have c5 : IntKind.i64.wrap (gr : Int) = (gr : Int) := by rw [IntKind.wrap_i64]; omega
  have c6 : IntKind.i64.wrap (to_ : Int) = (to_ : Int) := by rw [IntKind.wrap_i64]; omega
  have c7 : IntKind.i64.wrap (wg : Int) = (wg : Int) := by rw [IntKind.wrap_i64]; omega
  have c8 : IntKind.i64.wrap (tc : Int) = (tc : Int) := by rw [IntKind.wrap_i64]; omega
  have c9 : IntKind.i64.wrap (gt : Int) = (gt : Int) := by rw [IntKind.wrap_i64]; omega
  obtain ⟨m4, hm4⟩ : ∃ m, tk % 65535 = m := ⟨_, rfl⟩
  obtain ⟨m7, hm7⟩ : ∃ m, wg % 65536 = m := ⟨_, rfl⟩
  obtain ⟨m10, hm10⟩ : ∃ m, gt % 65535 = m := ⟨_, rfl⟩
  have r4 : (tk : Int).tmod 65535 = (m4 : Int) := by rw [← hm4]; exact tmod_nat tk 65535
  have r7 : (wg : Int).tmod 65536 = (m7 : Int) := by rw [← hm7]; exact tmod_nat wg 65536
  have r10 : (gt : Int).tmod 65535 = (m10 : Int) := by rw [← hm10]; exact tmod_nat gt 65535
  have s4 : IntKind.i64.wrap (1 + (m4 : Int)) = 1 + (m4 : Int) := by rw [IntKind.wrap_i64]; omega
  have s7 : IntKind.i64.wrap (1 + (m7 : Int)) = 1 + (m7 : Int) := by rw [IntKind.wrap_i64]; omega
  have s10 : IntKind.i64.wrap (1 + (m10 : Int)) = 1 + (m10 : Int) := by rw [IntKind.wrap_i64]; omega
  go_enter Tryd.func14, Tryd.ntmps14
  go_wp2
  go_quiet (fail)
  have HB0 : Hid (Below w.heap.size w ((((w.alloc (.cells #[.int .u8 kd, .int .u8 cp, .int .u32 sq, .int .u32 tm, .int .u32 tk, .int .u32 gr, .int .u32 to_, .int .u32 wg, .int .u32 tc, .int .u32 gt, .int .u64 ms] 31)).alloc (.cells #[.int .i64 0, .int .i64 0, .int .u8 0, .int .u8 0, .int .i64 0, .int .i64 0, .int .i64 0, .int .i64 0, .int .i64 0, .int .u64 0, .int .i64 0] 24)).alloc (.cells #[.int .i64 (1 + (sq : Int)), .int .i64 (tm : Int), .int .u8 c, .int .u8 6, .int .i64 0, .int .i64 0, .int .i64 0, .int .i64 0, .int .i64 0, .int .u64 0, .int .i64 0] 24)).drewN nq)) := below_dn ((((Below.refl w.heap.size w).alloc (Nat.le_refl _) _).alloc (by simp) _).alloc (by simp; omega) _) nq
  have HZ0 : Hid (EBox ((((w.alloc (.cells #[.int .u8 kd, .int .u8 cp, .int .u32 sq, .int .u32 tm, .int .u32 tk, .int .u32 gr, .int .u32 to_, .int .u32 wg, .int .u32 tc, .int .u32 gt, .int .u64 ms] 31)).alloc (.cells #[.int .i64 0, .int .i64 0, .int .u8 0, .int .u8 0, .int .i64 0, .int .i64 0, .int .i64 0, .int .i64 0, .int .i64 0, .int .u64 0, .int .i64 0] 24)).alloc (.cells #[.int .i64 (1 + (sq : Int)), .int .i64 (tm : Int), .int .u8 c, .int .u8 6, .int .i64 0, .int .i64 0, .int .i64 0, .int .i64 0, .int .i64 0, .int .u64 0, .int .i64 0] 24)).drewN nq) (w.heap.size + 1) 0 0 0 0 0 0 0 0 0 0 0) := by
    have t := (EBox.new (w.alloc (.cells #[.int .u8 kd, .int .u8 cp, .int .u32 sq, .int .u32 tm, .int .u32 tk, .int .u32 gr, .int .u32 to_, .int .u32 wg, .int .u32 tc, .int .u32 gt, .int .u64 ms] 31)) 0 0 0 0 0 0 0 0 0 0 0).alloc (.cells #[.int .i64 (1 + (sq : Int)), .int .i64 (tm : Int), .int .u8 c, .int .u8 6, .int .i64 0, .int .i64 0, .int .i64 0, .int .i64 0, .int .i64 0, .int .u64 0, .int .i64 0] 24)
    simp only [World.size_alloc] at t
    exact t
  have HO0 : Hid (EBox ((((w.alloc (.cells #[.int .u8 kd, .int .u8 cp, .int .u32 sq, .int .u32 tm, .int .u32 tk, .int .u32 gr, .int .u32 to_, .int .u32 wg, .int .u32 tc, .int .u32 gt, .int .u64 ms] 31)).alloc (.cells #[.int .i64 0, .int .i64 0, .int .u8 0, .int .u8 0, .int .i64 0, .int .i64 0, .int .i64 0, .int .i64 0, .int .i64 0, .int .u64 0, .int .i64 0] 24)).alloc (.cells #[.int .i64 (1 + (sq : Int)), .int .i64 (tm : Int), .int .u8 c, .int .u8 6, .int .i64 0, .int .i64 0, .int .i64 0, .int .i64 0, .int .i64 0, .int .u64 0, .int .i64 0] 24)).drewN nq) (w.heap.size + 1 + 1) (1 + (sq : Int)) (tm : Int) c 6 0 0 0 0 0 0 0) := by
    have t := EBox.new ((w.alloc (.cells #[.int .u8 kd, .int .u8 cp, .int .u32 sq, .int .u32 tm, .int .u32 tk, .int .u32 gr, .int .u32 to_, .int .u32 wg, .int .u32 tc, .int .u32 gt, .int .u64 ms] 31)).alloc (.cells #[.int .i64 0, .int .i64 0, .int .u8 0, .int .u8 0, .int .i64 0, .int .i64 0, .int .i64 0, .int .i64 0, .int .i64 0, .int .u64 0, .int .i64 0] 24)) (1 + (sq : Int)) (tm : Int) c 6 0 0 0 0 0 0 0
    simp only [World.size_alloc] at t
    exact t
  go_wp2
  have hg := EBox.setAll (HZ0.out.other (b' := w.heap.size + 1 + 1) (by show w.heap.size + 1 + 1 ≠ w.heap.size + 1; simp) 10 (.int .i64 (1 + (m10 : Int) - 1))) (1 + (sq : Int)) (tm : Int) c 6 0 0 0 0 0 0 (1 + (m10 : Int) - 1)
  have hbz := below_setAll (HB0.out.setCell (p := ⟨w.heap.size + 1 + 1, 10, none⟩) (by show w.heap.size ≤ w.heap.size + 1 + 1; exact Nat.le_succ_of_le (Nat.le_succ _)) (.int .i64 (1 + (m10 : Int) - 1))) (Nat.le_succ _) (1 + (sq : Int)) (tm : Int) c 6 0 0 0 0 0 0 (1 + (m10 : Int) - 1)
  generalize ((((((((((((((((w.alloc (.cells #[.int .u8 kd, .int .u8 cp, .int .u32 sq, .int .u32 tm, .int .u32 tk, .int .u32 gr, .int .u32 to_, .int .u32 wg, .int .u32 tc, .int .u32 gt, .int .u64 ms] 31)).alloc (.cells #[.int .i64 0, .int .i64 0, .int .u8 0, .int .u8 0, .int .i64 0, .int .i64 0, .int .i64 0, .int .i64 0, .int .i64 0, .int .u64 0, .int .i64 0] 24)).alloc (.cells #[.int .i64 (1 + (sq : Int)), .int .i64 (tm : Int), .int .u8 c, .int .u8 6, .int .i64 0, .int .i64 0, .int .i64 0, .int .i64 0, .int .i64 0, .int .u64 0, .int .i64 0] 24)).drewN nq).setCell ⟨w.heap.size + 1 + 1, 10, none⟩ (.int .i64 (1 + (m10 : Int) - 1))).setCell ⟨w.heap.size + 1, 0, none⟩ (.int .i64 (1 + (sq : Int)))).setCell ⟨w.heap.size + 1, 1, none⟩ (.int .i64 (tm : Int))).setCell ⟨w.heap.size + 1, 2, none⟩ (.int .u8 c)).setCell ⟨w.heap.size + 1, 3, none⟩ (.int .u8 6)).setCell ⟨w.heap.size + 1, 4, none⟩ (.int .i64 0)).setCell ⟨w.heap.size + 1, 5, none⟩ (.int .i64 0)).setCell ⟨w.heap.size + 1, 6, none⟩ (.int .i64 0)).setCell ⟨w.heap.size + 1, 7, none⟩ (.int .i64 0)).setCell ⟨w.heap.size + 1, 8, none⟩ (.int .i64 0)).setCell ⟨w.heap.size + 1, 9, none⟩ (.int .u64 0)).setCell ⟨w.heap.size + 1, 10, none⟩ (.int .i64 (1 + (m10 : Int) - 1))) = Wz at hg hbz ⊢
  obtain ⟨g0, g1, g2, g3, g4, g5, g6, g7, g8, g9, g10⟩ := hg.cells
  refine bodyPost_ret (v := .agg #[.int .i64 (1 + (sq : Int)), .int .i64 (tm : Int), .int .u8 c, .int .u8 6, .int .i64 0, .int .i64 0, .int .i64 0, .int .i64 0, .int .i64 0, .int .u64 0, .int .i64 (1 + (m10 : Int) - 1)]) ?_ rfl ⟨?_, hbz⟩
  · simp [results, Tryd.results14, go_sem, g0, g1, g2, g3, g4, g5, g6, g7, g8, g9, g10]
  · simp only [← hc, ← hm10]
set_option maxRecDepth 100000 in
set_option maxHeartbeats 2000000 in
theorem made_7 (kd cp sq tm tk gr to_ wg tc gt ms : Nat) (h1 : cp < 2 ^ 8) (h2 : sq < 2 ^ 32) (h3 : tm < 2 ^ 32) (h4 : tk < 2 ^ 32) (h5 : gr < 2 ^ 32) (h6 : to_ < 2 ^ 32) (h7 : wg < 2 ^ 32) (h8 : tc < 2 ^ 32) (h9 : gt < 2 ^ 32) (h10 : ms < 2 ^ 64) (hk : kd < 2 ^ 8) (hK : kd % 10 = 6) (w : World) : Calls Tryd.prog 14 #[.agg #[.int .u8 kd, .int .u8 cp, .int .u32 sq, .int .u32 tm, .int .u32 tk, .int .u32 gr, .int .u32 to_, .int .u32 wg, .int .u32 tc, .int .u32 gt, .int .u64 ms]] w fun e w' => e = .returned (.agg #[.int .i64 ((1 + (sq : Int))), .int .i64 ((tm : Int)), .int .u8 (((cp % 64 : Nat) : Int)), .int .u8 (7), .int .i64 ((1 + ((tk % 65535 : Nat) : Int))), .int .i64 (0), .int .i64 (0), .int .i64 ((1 + ((wg % 65536 : Nat) : Int))), .int .i64 (0), .int .u64 (0), .int .i64 (0)]) ∧ Below w.heap.size w w' := by
  have c1 : IntKind.i64.wrap (sq : Int) = (sq : Int) := by rw [IntKind.wrap_i64]; omega
  have c2 : IntKind.i64.wrap (tm : Int) = (tm : Int) := by rw [IntKind.wrap_i64]; omega
  have hkd : (kd : Int).tmod 10 = 6 := by rw [show (10 : Int) = ((10 : Nat) : Int) from rfl, tmod_nat, hK]; rfl
  obtain ⟨c, hc⟩ : ∃ c, cp % 64 = c := ⟨_, rfl⟩
  have hcd : (cp : Int).tmod 64 = (c : Int) := by rw [← hc]; exact tmod_nat cp 64
  have c4 : IntKind.i64.wrap (tk : Int) = (tk : Int) := by rw [IntKind.wrap_i64]; omega
  have c5 : IntKind.i64.wrap (gr : Int) = (gr : Int) := by rw [IntKind.wrap_i64]; omega
  have c6 : IntKind.i64.wrap (to_ : Int) = (to_ : Int) := by rw [IntKind.wrap_i64]; omega
  have c7 : IntKind.i64.wrap (wg : Int) = (wg : Int) := by rw [IntKind.wrap_i64]; omega
  have c8 : IntKind.i64.wrap (tc : Int) = (tc : Int) := by rw [IntKind.wrap_i64]; omega
  have c9 : IntKind.i64.wrap (gt : Int) = (gt : Int) := by rw [IntKind.wrap_i64]; omega
  obtain ⟨m4, hm4⟩ : ∃ m, tk % 65535 = m := ⟨_, rfl⟩
  obtain ⟨m7, hm7⟩ : ∃ m, wg % 65536 = m := ⟨_, rfl⟩
  obtain ⟨m10, hm10⟩ : ∃ m, gt % 65535 = m := ⟨_, rfl⟩
  have r4 : (tk : Int).tmod 65535 = (m4 : Int) := by rw [← hm4]; exact tmod_nat tk 65535
  have r7 : (wg : Int).tmod 65536 = (m7 : Int) := by rw [← hm7]; exact tmod_nat wg 65536
  have r10 : (gt : Int).tmod 65535 = (m10 : Int) := by rw [← hm10]; exact tmod_nat gt 65535
  have s4 : IntKind.i64.wrap (1 + (m4 : Int)) = 1 + (m4 : Int) := by rw [IntKind.wrap_i64]; omega
  have s7 : IntKind.i64.wrap (1 + (m7 : Int)) = 1 + (m7 : Int) := by rw [IntKind.wrap_i64]; omega
  have s10 : IntKind.i64.wrap (1 + (m10 : Int)) = 1 + (m10 : Int) := by rw [IntKind.wrap_i64]; omega
  go_enter Tryd.func14, Tryd.ntmps14
  go_wp2
  go_quiet (fail)
  have HB0 : Hid (Below w.heap.size w ((((w.alloc (.cells #[.int .u8 kd, .int .u8 cp, .int .u32 sq, .int .u32 tm, .int .u32 tk, .int .u32 gr, .int .u32 to_, .int .u32 wg, .int .u32 tc, .int .u32 gt, .int .u64 ms] 31)).alloc (.cells #[.int .i64 0, .int .i64 0, .int .u8 0, .int .u8 0, .int .i64 0, .int .i64 0, .int .i64 0, .int .i64 0, .int .i64 0, .int .u64 0, .int .i64 0] 24)).alloc (.cells #[.int .i64 (1 + (sq : Int)), .int .i64 (tm : Int), .int .u8 c, .int .u8 7, .int .i64 0, .int .i64 0, .int .i64 0, .int .i64 0, .int .i64 0, .int .u64 0, .int .i64 0] 24)).drewN nq)) := below_dn ((((Below.refl w.heap.size w).alloc (Nat.le_refl _) _).alloc (by simp) _).alloc (by simp; omega) _) nq
  have HZ0 : Hid (EBox ((((w.alloc (.cells #[.int .u8 kd, .int .u8 cp, .int .u32 sq, .int .u32 tm, .int .u32 tk, .int .u32 gr, .int .u32 to_, .int .u32 wg, .int .u32 tc, .int .u32 gt, .int .u64 ms] 31)).alloc (.cells #[.int .i64 0, .int .i64 0, .int .u8 0, .int .u8 0, .int .i64 0, .int .i64 0, .int .i64 0, .int .i64 0, .int .i64 0, .int .u64 0, .int .i64 0] 24)).alloc (.cells #[.int .i64 (1 + (sq : Int)), .int .i64 (tm : Int), .int .u8 c, .int .u8 7, .int .i64 0, .int .i64 0, .int .i64 0, .int .i64 0, .int .i64 0, .int .u64 0, .int .i64 0] 24)).drewN nq) (w.heap.size + 1) 0 0 0 0 0 0 0 0 0 0 0) := by
    have t := (EBox.new (w.alloc (.cells #[.int .u8 kd, .int .u8 cp, .int .u32 sq, .int .u32 tm, .int .u32 tk, .int .u32 gr, .int .u32 to_, .int .u32 wg, .int .u32 tc, .int .u32 gt, .int .u64 ms] 31)) 0 0 0 0 0 0 0 0 0 0 0).alloc (.cells #[.int .i64 (1 + (sq : Int)), .int .i64 (tm : Int), .int .u8 c, .int .u8 7, .int .i64 0, .int .i64 0, .int .i64 0, .int .i64 0, .int .i64 0, .int .u64 0, .int .i64 0] 24)
    simp only [World.size_alloc] at t
    exact t
  have HO0 : Hid (EBox ((((w.alloc (.cells #[.int .u8 kd, .int .u8 cp, .int .u32 sq, .int .u32 tm, .int .u32 tk, .int .u32 gr, .int .u32 to_, .int .u32 wg, .int .u32 tc, .int .u32 gt, .int .u64 ms] 31)).alloc (.cells #[.int .i64 0, .int .i64 0, .int .u8 0, .int .u8 0, .int .i64 0, .int .i64 0, .int .i64 0, .int .i64 0, .int .i64 0, .int .u64 0, .int .i64 0] 24)).alloc (.cells #[.int .i64 (1 + (sq : Int)), .int .i64 (tm : Int), .int .u8 c, .int .u8 7, .int .i64 0, .int .i64 0, .int .i64 0, .int .i64 0, .int .i64 0, .int .u64 0, .int .i64 0] 24)).drewN nq) (w.heap.size + 1 + 1) (1 + (sq : Int)) (tm : Int) c 7 0 0 0 0 0 0 0) := by
    have t := EBox.new ((w.alloc (.cells #[.int .u8 kd, .int .u8 cp, .int .u32 sq, .int .u32 tm, .int .u32 tk, .int .u32 gr, .int .u32 to_, .int .u32 wg, .int .u32 tc, .int .u32 gt, .int .u64 ms] 31)).alloc (.cells #[.int .i64 0, .int .i64 0, .int .u8 0, .int .u8 0, .int .i64 0, .int .i64 0, .int .i64 0, .int .i64 0, .int .i64 0, .int .u64 0, .int .i64 0] 24)) (1 + (sq : Int)) (tm : Int) c 7 0 0 0 0 0 0 0
    simp only [World.size_alloc] at t
    exact t
  go_wp2
  have hg := EBox.setAll ((HZ0.out.other (b' := w.heap.size + 1 + 1) (by show w.heap.size + 1 + 1 ≠ w.heap.size + 1; simp) 4 (.int .i64 (1 + (m4 : Int)))).other (b' := w.heap.size + 1 + 1) (by show w.heap.size + 1 + 1 ≠ w.heap.size + 1; simp) 7 (.int .i64 (1 + (m7 : Int)))) (1 + (sq : Int)) (tm : Int) c 7 (1 + (m4 : Int)) 0 0 (1 + (m7 : Int)) 0 0 0
  have hbz := below_setAll ((HB0.out.setCell (p := ⟨w.heap.size + 1 + 1, 4, none⟩) (by show w.heap.size ≤ w.heap.size + 1 + 1; exact Nat.le_succ_of_le (Nat.le_succ _)) (.int .i64 (1 + (m4 : Int)))).setCell (p := ⟨w.heap.size + 1 + 1, 7, none⟩) (by show w.heap.size ≤ w.heap.size + 1 + 1; exact Nat.le_succ_of_le (Nat.le_succ _)) (.int .i64 (1 + (m7 : Int)))) (Nat.le_succ _) (1 + (sq : Int)) (tm : Int) c 7 (1 + (m4 : Int)) 0 0 (1 + (m7 : Int)) 0 0 0
  generalize (((((((((((((((((w.alloc (.cells #[.int .u8 kd, .int .u8 cp, .int .u32 sq, .int .u32 tm, .int .u32 tk, .int .u32 gr, .int .u32 to_, .int .u32 wg, .int .u32 tc, .int .u32 gt, .int .u64 ms] 31)).alloc (.cells #[.int .i64 0, .int .i64 0, .int .u8 0, .int .u8 0, .int .i64 0, .int .i64 0, .int .i64 0, .int .i64 0, .int .i64 0, .int .u64 0, .int .i64 0] 24)).alloc (.cells #[.int .i64 (1 + (sq : Int)), .int .i64 (tm : Int), .int .u8 c, .int .u8 7, .int .i64 0, .int .i64 0, .int .i64 0, .int .i64 0, .int .i64 0, .int .u64 0, .int .i64 0] 24)).drewN nq).setCell ⟨w.heap.size + 1 + 1, 4, none⟩ (.int .i64 (1 + (m4 : Int)))).setCell ⟨w.heap.size + 1 + 1, 7, none⟩ (.int .i64 (1 + (m7 : Int)))).setCell ⟨w.heap.size + 1, 0, none⟩ (.int .i64 (1 + (sq : Int)))).setCell ⟨w.heap.size + 1, 1, none⟩ (.int .i64 (tm : Int))).setCell ⟨w.heap.size + 1, 2, none⟩ (.int .u8 c)).setCell ⟨w.heap.size + 1, 3, none⟩ (.int .u8 7)).setCell ⟨w.heap.size + 1, 4, none⟩ (.int .i64 (1 + (m4 : Int)))).setCell ⟨w.heap.size + 1, 5, none⟩ (.int .i64 0)).setCell ⟨w.heap.size + 1, 6, none⟩ (.int .i64 0)).setCell ⟨w.heap.size + 1, 7, none⟩ (.int .i64 (1 + (m7 : Int)))).setCell ⟨w.heap.size + 1, 8, none⟩ (.int .i64 0)).setCell ⟨w.heap.size + 1, 9, none⟩ (.int .u64 0)).setCell ⟨w.heap.size + 1, 10, none⟩ (.int .i64 0)) = Wz at hg hbz ⊢
  obtain ⟨g0, g1, g2, g3, g4, g5, g6, g7, g8, g9, g10⟩ := hg.cells
  refine bodyPost_ret (v := .agg #[.int .i64 (1 + (sq : Int)), .int .i64 (tm : Int), .int .u8 c, .int .u8 7, .int .i64 (1 + (m4 : Int)), .int .i64 0, .int .i64 0, .int .i64 (1 + (m7 : Int)), .int .i64 0, .int .u64 0, .int .i64 0]) ?_ rfl ⟨?_, hbz⟩
  · simp [results, Tryd.results14, go_sem, g0, g1, g2, g3, g4, g5, g6, g7, g8, g9, g10]
  · simp only [← hc, ← hm4, ← hm7]
set_option maxRecDepth 100000 in
set_option maxHeartbeats 2000000 in
theorem made_8 (kd cp sq tm tk gr to_ wg tc gt ms : Nat) (h1 : cp < 2 ^ 8) (h2 : sq < 2 ^ 32) (h3 : tm < 2 ^ 32) (h4 : tk < 2 ^ 32) (h5 : gr < 2 ^ 32) (h6 : to_ < 2 ^ 32) (h7 : wg < 2 ^ 32) (h8 : tc < 2 ^ 32) (h9 : gt < 2 ^ 32) (h10 : ms < 2 ^ 64) (hk : kd < 2 ^ 8) (hK : kd % 10 = 7) (w : World) : Calls Tryd.prog 14 #[.agg #[.int .u8 kd, .int .u8 cp, .int .u32 sq, .int .u32 tm, .int .u32 tk, .int .u32 gr, .int .u32 to_, .int .u32 wg, .int .u32 tc, .int .u32 gt, .int .u64 ms]] w fun e w' => e = .returned (.agg #[.int .i64 ((1 + (sq : Int))), .int .i64 ((tm : Int)), .int .u8 (((cp % 64 : Nat) : Int)), .int .u8 (8), .int .i64 (0), .int .i64 ((1 + ((gr % 255 : Nat) : Int))), .int .i64 (0), .int .i64 ((1 + ((wg % 65536 : Nat) : Int))), .int .i64 (0), .int .u64 (0), .int .i64 (0)]) ∧ Below w.heap.size w w' := by
  have c1 : IntKind.i64.wrap (sq : Int) = (sq : Int) := by rw [IntKind.wrap_i64]; omega
  have c2 : IntKind.i64.wrap (tm : Int) = (tm : Int) := by rw [IntKind.wrap_i64]; omega
  have hkd : (kd : Int).tmod 10 = 7 := by rw [show (10 : Int) = ((10 : Nat) : Int) from rfl, tmod_nat, hK]; rfl
  obtain ⟨c, hc⟩ : ∃ c, cp % 64 = c := ⟨_, rfl⟩
  have hcd : (cp : Int).tmod 64 = (c : Int) := by rw [← hc]; exact tmod_nat cp 64
  have c4 : IntKind.i64.wrap (tk : Int) = (tk : Int) := by rw [IntKind.wrap_i64]; omega
  have c5 : IntKind.i64.wrap (gr : Int) = (gr : Int) := by rw [IntKind.wrap_i64]; omega
  have c6 : IntKind.i64.wrap (to_ : Int) = (to_ : Int) := by rw [IntKind.wrap_i64]; omega
  have c7 : IntKind.i64.wrap (wg : Int) = (wg : Int) := by rw [IntKind.wrap_i64]; omega
  have c8 : IntKind.i64.wrap (tc : Int) = (tc : Int) := by rw [IntKind.wrap_i64]; omega
  have c9 : IntKind.i64.wrap (gt : Int) = (gt : Int) := by rw [IntKind.wrap_i64]; omega
  obtain ⟨m4, hm4⟩ : ∃ m, tk % 65535 = m := ⟨_, rfl⟩
  obtain ⟨m7, hm7⟩ : ∃ m, wg % 65536 = m := ⟨_, rfl⟩
  obtain ⟨m10, hm10⟩ : ∃ m, gt % 65535 = m := ⟨_, rfl⟩
  have r4 : (tk : Int).tmod 65535 = (m4 : Int) := by rw [← hm4]; exact tmod_nat tk 65535
  have r7 : (wg : Int).tmod 65536 = (m7 : Int) := by rw [← hm7]; exact tmod_nat wg 65536
  have r10 : (gt : Int).tmod 65535 = (m10 : Int) := by rw [← hm10]; exact tmod_nat gt 65535
  have s4 : IntKind.i64.wrap (1 + (m4 : Int)) = 1 + (m4 : Int) := by rw [IntKind.wrap_i64]; omega
  have s7 : IntKind.i64.wrap (1 + (m7 : Int)) = 1 + (m7 : Int) := by rw [IntKind.wrap_i64]; omega
  have s10 : IntKind.i64.wrap (1 + (m10 : Int)) = 1 + (m10 : Int) := by rw [IntKind.wrap_i64]; omega
  obtain ⟨m5, hm5⟩ : ∃ m, gr % 255 = m := ⟨_, rfl⟩
  have r5 : (gr : Int).tmod 255 = (m5 : Int) := by rw [← hm5]; exact tmod_nat gr 255
  have s5 : IntKind.i64.wrap (1 + (m5 : Int)) = 1 + (m5 : Int) := by rw [IntKind.wrap_i64]; omega
  go_enter Tryd.func14, Tryd.ntmps14
  go_wp2
  go_quiet (fail)
  have HB0 : Hid (Below w.heap.size w ((((w.alloc (.cells #[.int .u8 kd, .int .u8 cp, .int .u32 sq, .int .u32 tm, .int .u32 tk, .int .u32 gr, .int .u32 to_, .int .u32 wg, .int .u32 tc, .int .u32 gt, .int .u64 ms] 31)).alloc (.cells #[.int .i64 0, .int .i64 0, .int .u8 0, .int .u8 0, .int .i64 0, .int .i64 0, .int .i64 0, .int .i64 0, .int .i64 0, .int .u64 0, .int .i64 0] 24)).alloc (.cells #[.int .i64 (1 + (sq : Int)), .int .i64 (tm : Int), .int .u8 c, .int .u8 8, .int .i64 0, .int .i64 0, .int .i64 0, .int .i64 0, .int .i64 0, .int .u64 0, .int .i64 0] 24)).drewN nq)) := below_dn ((((Below.refl w.heap.size w).alloc (Nat.le_refl _) _).alloc (by simp) _).alloc (by simp; omega) _) nq
  have HZ0 : Hid (EBox ((((w.alloc (.cells #[.int .u8 kd, .int .u8 cp, .int .u32 sq, .int .u32 tm, .int .u32 tk, .int .u32 gr, .int .u32 to_, .int .u32 wg, .int .u32 tc, .int .u32 gt, .int .u64 ms] 31)).alloc (.cells #[.int .i64 0, .int .i64 0, .int .u8 0, .int .u8 0, .int .i64 0, .int .i64 0, .int .i64 0, .int .i64 0, .int .i64 0, .int .u64 0, .int .i64 0] 24)).alloc (.cells #[.int .i64 (1 + (sq : Int)), .int .i64 (tm : Int), .int .u8 c, .int .u8 8, .int .i64 0, .int .i64 0, .int .i64 0, .int .i64 0, .int .i64 0, .int .u64 0, .int .i64 0] 24)).drewN nq) (w.heap.size + 1) 0 0 0 0 0 0 0 0 0 0 0) := by
    have t := (EBox.new (w.alloc (.cells #[.int .u8 kd, .int .u8 cp, .int .u32 sq, .int .u32 tm, .int .u32 tk, .int .u32 gr, .int .u32 to_, .int .u32 wg, .int .u32 tc, .int .u32 gt, .int .u64 ms] 31)) 0 0 0 0 0 0 0 0 0 0 0).alloc (.cells #[.int .i64 (1 + (sq : Int)), .int .i64 (tm : Int), .int .u8 c, .int .u8 8, .int .i64 0, .int .i64 0, .int .i64 0, .int .i64 0, .int .i64 0, .int .u64 0, .int .i64 0] 24)
    simp only [World.size_alloc] at t
    exact t
  have HO0 : Hid (EBox ((((w.alloc (.cells #[.int .u8 kd, .int .u8 cp, .int .u32 sq, .int .u32 tm, .int .u32 tk, .int .u32 gr, .int .u32 to_, .int .u32 wg, .int .u32 tc, .int .u32 gt, .int .u64 ms] 31)).alloc (.cells #[.int .i64 0, .int .i64 0, .int .u8 0, .int .u8 0, .int .i64 0, .int .i64 0, .int .i64 0, .int .i64 0, .int .i64 0, .int .u64 0, .int .i64 0] 24)).alloc (.cells #[.int .i64 (1 + (sq : Int)), .int .i64 (tm : Int), .int .u8 c, .int .u8 8, .int .i64 0, .int .i64 0, .int .i64 0, .int .i64 0, .int .i64 0, .int .u64 0, .int .i64 0] 24)).drewN nq) (w.heap.size + 1 + 1) (1 + (sq : Int)) (tm : Int) c 8 0 0 0 0 0 0 0) := by
    have t := EBox.new ((w.alloc (.cells #[.int .u8 kd, .int .u8 cp, .int .u32 sq, .int .u32 tm, .int .u32 tk, .int .u32 gr, .int .u32 to_, .int .u32 wg, .int .u32 tc, .int .u32 gt, .int .u64 ms] 31)).alloc (.cells #[.int .i64 0, .int .i64 0, .int .u8 0, .int .u8 0, .int .i64 0, .int .i64 0, .int .i64 0, .int .i64 0, .int .i64 0, .int .u64 0, .int .i64 0] 24)) (1 + (sq : Int)) (tm : Int) c 8 0 0 0 0 0 0 0
    simp only [World.size_alloc] at t
    exact t
  go_wp2
  have hg := EBox.setAll ((HZ0.out.other (b' := w.heap.size + 1 + 1) (by show w.heap.size + 1 + 1 ≠ w.heap.size + 1; simp) 5 (.int .i64 (1 + (m5 : Int)))).other (b' := w.heap.size + 1 + 1) (by show w.heap.size + 1 + 1 ≠ w.heap.size + 1; simp) 7 (.int .i64 (1 + (m7 : Int)))) (1 + (sq : Int)) (tm : Int) c 8 0 (1 + (m5 : Int)) 0 (1 + (m7 : Int)) 0 0 0
  have hbz := below_setAll ((HB0.out.setCell (p := ⟨w.heap.size + 1 + 1, 5, none⟩) (by show w.heap.size ≤ w.heap.size + 1 + 1; exact Nat.le_succ_of_le (Nat.le_succ _)) (.int .i64 (1 + (m5 : Int)))).setCell (p := ⟨w.heap.size + 1 + 1, 7, none⟩) (by show w.heap.size ≤ w.heap.size + 1 + 1; exact Nat.le_succ_of_le (Nat.le_succ _)) (.int .i64 (1 + (m7 : Int)))) (Nat.le_succ _) (1 + (sq : Int)) (tm : Int) c 8 0 (1 + (m5 : Int)) 0 (1 + (m7 : Int)) 0 0 0
  generalize (((((((((((((((((w.alloc (.cells #[.int .u8 kd, .int .u8 cp, .int .u32 sq, .int .u32 tm, .int .u32 tk, .int .u32 gr, .int .u32 to_, .int .u32 wg, .int .u32 tc, .int .u32 gt, .int .u64 ms] 31)).alloc (.cells #[.int .i64 0, .int .i64 0, .int .u8 0, .int .u8 0, .int .i64 0, .int .i64 0, .int .i64 0, .int .i64 0, .int .i64 0, .int .u64 0, .int .i64 0] 24)).alloc (.cells #[.int .i64 (1 + (sq : Int)), .int .i64 (tm : Int), .int .u8 c, .int .u8 8, .int .i64 0, .int .i64 0, .int .i64 0, .int .i64 0, .int .i64 0, .int .u64 0, .int .i64 0] 24)).drewN nq).setCell ⟨w.heap.size + 1 + 1, 5, none⟩ (.int .i64 (1 + (m5 : Int)))).setCell ⟨w.heap.size + 1 + 1, 7, none⟩ (.int .i64 (1 + (m7 : Int)))).setCell ⟨w.heap.size + 1, 0, none⟩ (.int .i64 (1 + (sq : Int)))).setCell ⟨w.heap.size + 1, 1, none⟩ (.int .i64 (tm : Int))).setCell ⟨w.heap.size + 1, 2, none⟩ (.int .u8 c)).setCell ⟨w.heap.size + 1, 3, none⟩ (.int .u8 8)).setCell ⟨w.heap.size + 1, 4, none⟩ (.int .i64 0)).setCell ⟨w.heap.size + 1, 5, none⟩ (.int .i64 (1 + (m5 : Int)))).setCell ⟨w.heap.size + 1, 6, none⟩ (.int .i64 0)).setCell ⟨w.heap.size + 1, 7, none⟩ (.int .i64 (1 + (m7 : Int)))).setCell ⟨w.heap.size + 1, 8, none⟩ (.int .i64 0)).setCell ⟨w.heap.size + 1, 9, none⟩ (.int .u64 0)).setCell ⟨w.heap.size + 1, 10, none⟩ (.int .i64 0)) = Wz at hg hbz ⊢
  obtain ⟨g0, g1, g2, g3, g4, g5, g6, g7, g8, g9, g10⟩ := hg.cells
  refine bodyPost_ret (v := .agg #[.int .i64 (1 + (sq : Int)), .int .i64 (tm : Int), .int .u8 c, .int .u8 8, .int .i64 0, .int .i64 (1 + (m5 : Int)), .int .i64 0, .int .i64 (1 + (m7 : Int)), .int .i64 0, .int .u64 0, .int .i64 0]) ?_ rfl ⟨?_, hbz⟩
  · simp [results, Tryd.results14, go_sem, g0, g1, g2, g3, g4, g5, g6, g7, g8, g9, g10]
  · simp only [← hc, ← hm5, ← hm7]
set_option maxRecDepth 100000 in
set_option maxHeartbeats 2000000 in
theorem made_9 (kd cp sq tm tk gr to_ wg tc gt ms : Nat) (h1 : cp < 2 ^ 8) (h2 : sq < 2 ^ 32) (h3 : tm < 2 ^ 32) (h4 : tk < 2 ^ 32) (h5 : gr < 2 ^ 32) (h6 : to_ < 2 ^ 32) (h7 : wg < 2 ^ 32) (h8 : tc < 2 ^ 32) (h9 : gt < 2 ^ 32) (h10 : ms < 2 ^ 64) (hk : kd < 2 ^ 8) (hK : kd % 10 = 8) (w : World) : Calls Tryd.prog 14 #[.agg #[.int .u8 kd, .int .u8 cp, .int .u32 sq, .int .u32 tm, .int .u32 tk, .int .u32 gr, .int .u32 to_, .int .u32 wg, .int .u32 tc, .int .u32 gt, .int .u64 ms]] w fun e w' => e = .returned (.agg #[.int .i64 ((1 + (sq : Int))), .int .i64 ((tm : Int)), .int .u8 (((cp % 64 : Nat) : Int)), .int .u8 (9), .int .i64 ((1 + ((tk % 65535 : Nat) : Int))), .int .i64 (0), .int .i64 ((((cp % 64 + 1 + to_ % 63) % 64 : Nat) : Int)), .int .i64 (0), .int .i64 (0), .int .u64 (0), .int .i64 (0)]) ∧ Below w.heap.size w w' := by
  have c1 : IntKind.i64.wrap (sq : Int) = (sq : Int) := by rw [IntKind.wrap_i64]; omega
  have c2 : IntKind.i64.wrap (tm : Int) = (tm : Int) := by rw [IntKind.wrap_i64]; omega
  have hkd : (kd : Int).tmod 10 = 8 := by rw [show (10 : Int) = ((10 : Nat) : Int) from rfl, tmod_nat, hK]; rfl
  obtain ⟨c, hc⟩ : ∃ c, cp % 64 = c := ⟨_, rfl⟩
  have hcd : (cp : Int).tmod 64 = (c : Int) := by rw [← hc]; exact tmod_nat cp 64
  have c4 : IntKind.i64.wrap (tk : Int) = (tk : Int) := by rw [IntKind.wrap_i64]; omega
  have c5 : IntKind.i64.wrap (gr : Int) = (gr : Int) := by rw [IntKind.wrap_i64]; omega
  have c6 : IntKind.i64.wrap (to_ : Int) = (to_ : Int) := by rw [IntKind.wrap_i64]; omega
  have c7 : IntKind.i64.wrap (wg : Int) = (wg : Int) := by rw [IntKind.wrap_i64]; omega
  have c8 : IntKind.i64.wrap (tc : Int) = (tc : Int) := by rw [IntKind.wrap_i64]; omega
  have c9 : IntKind.i64.wrap (gt : Int) = (gt : Int) := by rw [IntKind.wrap_i64]; omega
  obtain ⟨m4, hm4⟩ : ∃ m, tk % 65535 = m := ⟨_, rfl⟩
  obtain ⟨m7, hm7⟩ : ∃ m, wg % 65536 = m := ⟨_, rfl⟩
  obtain ⟨m10, hm10⟩ : ∃ m, gt % 65535 = m := ⟨_, rfl⟩
  have r4 : (tk : Int).tmod 65535 = (m4 : Int) := by rw [← hm4]; exact tmod_nat tk 65535
  have r7 : (wg : Int).tmod 65536 = (m7 : Int) := by rw [← hm7]; exact tmod_nat wg 65536
  have r10 : (gt : Int).tmod 65535 = (m10 : Int) := by rw [← hm10]; exact tmod_nat gt 65535
  have s4 : IntKind.i64.wrap (1 + (m4 : Int)) = 1 + (m4 : Int) := by rw [IntKind.wrap_i64]; omega
  have s7 : IntKind.i64.wrap (1 + (m7 : Int)) = 1 + (m7 : Int) := by rw [IntKind.wrap_i64]; omega
  have s10 : IntKind.i64.wrap (1 + (m10 : Int)) = 1 + (m10 : Int) := by rw [IntKind.wrap_i64]; omega
  obtain ⟨n6, hn6⟩ : ∃ m, to_ % 63 = m := ⟨_, rfl⟩
  have r6 : (to_ : Int).tmod 63 = (n6 : Int) := by rw [← hn6]; exact tmod_nat to_ 63
  obtain ⟨m6, hm6⟩ : ∃ m, (c + 1 + n6) % 64 = m := ⟨_, rfl⟩
  have r6' : ((c : Int) + 1 + (n6 : Int)).tmod 64 = (m6 : Int) := by rw [← hm6]; exact tmod_nat (c + 1 + n6) 64
  have s6 : IntKind.i64.wrap ((c : Int) + 1) = (c : Int) + 1 := by rw [IntKind.wrap_i64]; omega
  have s6' : IntKind.i64.wrap ((c : Int) + 1 + (n6 : Int)) = (c : Int) + 1 + (n6 : Int) := by rw [IntKind.wrap_i64]; omega
  have s6'' : IntKind.i64.wrap (c : Int) = (c : Int) := by rw [IntKind.wrap_i64]; omega
  go_enter Tryd.func14, Tryd.ntmps14
  go_wp2
  go_quiet (fail)
  have HB0 : Hid (Below w.heap.size w ((((w.alloc (.cells #[.int .u8 kd, .int .u8 cp, .int .u32 sq, .int .u32 tm, .int .u32 tk, .int .u32 gr, .int .u32 to_, .int .u32 wg, .int .u32 tc, .int .u32 gt, .int .u64 ms] 31)).alloc (.cells #[.int .i64 0, .int .i64 0, .int .u8 0, .int .u8 0, .int .i64 0, .int .i64 0, .int .i64 0, .int .i64 0, .int .i64 0, .int .u64 0, .int .i64 0] 24)).alloc (.cells #[.int .i64 (1 + (sq : Int)), .int .i64 (tm : Int), .int .u8 c, .int .u8 9, .int .i64 0, .int .i64 0, .int .i64 0, .int .i64 0, .int .i64 0, .int .u64 0, .int .i64 0] 24)).drewN nq)) := below_dn ((((Below.refl w.heap.size w).alloc (Nat.le_refl _) _).alloc (by simp) _).alloc (by simp; omega) _) nq
  have HZ0 : Hid (EBox ((((w.alloc (.cells #[.int .u8 kd, .int .u8 cp, .int .u32 sq, .int .u32 tm, .int .u32 tk, .int .u32 gr, .int .u32 to_, .int .u32 wg, .int .u32 tc, .int .u32 gt, .int .u64 ms] 31)).alloc (.cells #[.int .i64 0, .int .i64 0, .int .u8 0, .int .u8 0, .int .i64 0, .int .i64 0, .int .i64 0, .int .i64 0, .int .i64 0, .int .u64 0, .int .i64 0] 24)).alloc (.cells #[.int .i64 (1 + (sq : Int)), .int .i64 (tm : Int), .int .u8 c, .int .u8 9, .int .i64 0, .int .i64 0, .int .i64 0, .int .i64 0, .int .i64 0, .int .u64 0, .int .i64 0] 24)).drewN nq) (w.heap.size + 1) 0 0 0 0 0 0 0 0 0 0 0) := by
    have t := (EBox.new (w.alloc (.cells #[.int .u8 kd, .int .u8 cp, .int .u32 sq, .int .u32 tm, .int .u32 tk, .int .u32 gr, .int .u32 to_, .int .u32 wg, .int .u32 tc, .int .u32 gt, .int .u64 ms] 31)) 0 0 0 0 0 0 0 0 0 0 0).alloc (.cells #[.int .i64 (1 + (sq : Int)), .int .i64 (tm : Int), .int .u8 c, .int .u8 9, .int .i64 0, .int .i64 0, .int .i64 0, .int .i64 0, .int .i64 0, .int .u64 0, .int .i64 0] 24)
    simp only [World.size_alloc] at t
    exact t
  have HO0 : Hid (EBox ((((w.alloc (.cells #[.int .u8 kd, .int .u8 cp, .int .u32 sq, .int .u32 tm, .int .u32 tk, .int .u32 gr, .int .u32 to_, .int .u32 wg, .int .u32 tc, .int .u32 gt, .int .u64 ms] 31)).alloc (.cells #[.int .i64 0, .int .i64 0, .int .u8 0, .int .u8 0, .int .i64 0, .int .i64 0, .int .i64 0, .int .i64 0, .int .i64 0, .int .u64 0, .int .i64 0] 24)).alloc (.cells #[.int .i64 (1 + (sq : Int)), .int .i64 (tm : Int), .int .u8 c, .int .u8 9, .int .i64 0, .int .i64 0, .int .i64 0, .int .i64 0, .int .i64 0, .int .u64 0, .int .i64 0] 24)).drewN nq) (w.heap.size + 1 + 1) (1 + (sq : Int)) (tm : Int) c 9 0 0 0 0 0 0 0) := by
    have t := EBox.new ((w.alloc (.cells #[.int .u8 kd, .int .u8 cp, .int .u32 sq, .int .u32 tm, .int .u32 tk, .int .u32 gr, .int .u32 to_, .int .u32 wg, .int .u32 tc, .int .u32 gt, .int .u64 ms] 31)).alloc (.cells #[.int .i64 0, .int .i64 0, .int .u8 0, .int .u8 0, .int .i64 0, .int .i64 0, .int .i64 0, .int .i64 0, .int .i64 0, .int .u64 0, .int .i64 0] 24)) (1 + (sq : Int)) (tm : Int) c 9 0 0 0 0 0 0 0
    simp only [World.size_alloc] at t
    exact t
  go_upto_region 18 with fail
  obtain ⟨W1, hW1⟩ : ∃ W, ((((w.alloc (.cells #[.int .u8 kd, .int .u8 cp, .int .u32 sq, .int .u32 tm, .int .u32 tk, .int .u32 gr, .int .u32 to_, .int .u32 wg, .int .u32 tc, .int .u32 gt, .int .u64 ms] 31)).alloc (.cells #[.int .i64 0, .int .i64 0, .int .u8 0, .int .u8 0, .int .i64 0, .int .i64 0, .int .i64 0, .int .i64 0, .int .i64 0, .int .u64 0, .int .i64 0] 24)).alloc (.cells #[.int .i64 (1 + (sq : Int)), .int .i64 (tm : Int), .int .u8 c, .int .u8 9, .int .i64 0, .int .i64 0, .int .i64 0, .int .i64 0, .int .i64 0, .int .u64 0, .int .i64 0] 24)).drewN nq) = W := ⟨_, rfl⟩
  have l6 : ((((w.alloc (.cells #[.int .u8 kd, .int .u8 cp, .int .u32 sq, .int .u32 tm, .int .u32 tk, .int .u32 gr, .int .u32 to_, .int .u32 wg, .int .u32 tc, .int .u32 gt, .int .u64 ms] 31)).alloc (.cells #[.int .i64 0, .int .i64 0, .int .u8 0, .int .u8 0, .int .i64 0, .int .i64 0, .int .i64 0, .int .i64 0, .int .i64 0, .int .u64 0, .int .i64 0] 24)).alloc (.cells #[.int .i64 (1 + (sq : Int)), .int .i64 (tm : Int), .int .u8 c, .int .u8 9, .int .i64 0, .int .i64 0, .int .i64 0, .int .i64 0, .int .i64 0, .int .u64 0, .int .i64 0] 24)).drewN nq).cell? ⟨w.heap.size, 6, none⟩ = some (.int .u32 to_) := by
    have hb : Below (w.heap.size + 1) (w.alloc (.cells #[.int .u8 kd, .int .u8 cp, .int .u32 sq, .int .u32 tm, .int .u32 tk, .int .u32 gr, .int .u32 to_, .int .u32 wg, .int .u32 tc, .int .u32 gt, .int .u64 ms] 31)) ((((w.alloc (.cells #[.int .u8 kd, .int .u8 cp, .int .u32 sq, .int .u32 tm, .int .u32 tk, .int .u32 gr, .int .u32 to_, .int .u32 wg, .int .u32 tc, .int .u32 gt, .int .u64 ms] 31)).alloc (.cells #[.int .i64 0, .int .i64 0, .int .u8 0, .int .u8 0, .int .i64 0, .int .i64 0, .int .i64 0, .int .i64 0, .int .i64 0, .int .u64 0, .int .i64 0] 24)).alloc (.cells #[.int .i64 (1 + (sq : Int)), .int .i64 (tm : Int), .int .u8 c, .int .u8 9, .int .i64 0, .int .i64 0, .int .i64 0, .int .i64 0, .int .i64 0, .int .u64 0, .int .i64 0] 24)).drewN nq) := below_dn (((Below.refl (w.heap.size + 1) (w.alloc (.cells #[.int .u8 kd, .int .u8 cp, .int .u32 sq, .int .u32 tm, .int .u32 tk, .int .u32 gr, .int .u32 to_, .int .u32 wg, .int .u32 tc, .int .u32 gt, .int .u64 ms] 31))).alloc (by simp) _).alloc (by simp) _) nq
    refine (hb.cell (p := ⟨w.heap.size, 6, none⟩) (Nat.lt_succ_self _)).trans ?_
    unfold World.cell?
    rw [heap_alloc_new w _]
    rfl
  rw [hW1] at HB0 HZ0 HO0 l6 ⊢
  clear hW1
  obtain ⟨o0, o1, o2, o3, o4, o5, o6, o7, o8, o9, o10⟩ := HO0.out.cells
  have f4 := HO0.out.free 4
  have f5 := HO0.out.free 5
  have f6 := HO0.out.free 6
  have f7 := HO0.out.free 7
  have f8 := HO0.out.free 8
  have f9 := HO0.out.free 9
  have f10 := HO0.out.free 10
  have hlt : w.heap.size ≠ w.heap.size + 1 + 1 := by omega
  have HS0 : Hid ((fun W : World => W.cell? ⟨w.heap.size, 6, none⟩ = some (.int .u32 to_) ∧ W.cell? ⟨w.heap.size + 1 + 1, 2, none⟩ = some (.int .u8 c)) W1) := ⟨l6, o2⟩
  have HKD : Hid (∀ W : World, (fun W : World => W.cell? ⟨w.heap.size, 6, none⟩ = some (.int .u32 to_) ∧ W.cell? ⟨w.heap.size + 1 + 1, 2, none⟩ = some (.int .u8 c)) W → (fun W : World => W.cell? ⟨w.heap.size, 6, none⟩ = some (.int .u32 to_) ∧ W.cell? ⟨w.heap.size + 1 + 1, 2, none⟩ = some (.int .u8 c)) W.drew) := fun W h => h
  have HK : Hid (∀ W : World, (fun W : World => W.cell? ⟨w.heap.size, 6, none⟩ = some (.int .u32 to_) ∧ W.cell? ⟨w.heap.size + 1 + 1, 2, none⟩ = some (.int .u8 c)) W → ∀ (i : Nat) (v : Value), i ≠ 2 → (fun W : World => W.cell? ⟨w.heap.size, 6, none⟩ = some (.int .u32 to_) ∧ W.cell? ⟨w.heap.size + 1 + 1, 2, none⟩ = some (.int .u8 c)) (W.setCell ⟨w.heap.size + 1 + 1, i, none⟩ v)) := by
    intro W h i v hi
    obtain ⟨h0, h1⟩ := h
    refine ⟨?_, ?_⟩
    · exact (World.cell?_setCell_other _ _ _ _ (by intro e; injection e with e1 e2; omega)).trans h0
    · exact (World.cell?_setCell_other _ _ _ _ (by intro e; injection e with e1 e2; omega)).trans h1
  go_region_held3 (fun W => W.cell? ⟨w.heap.size, 6, none⟩ = some (.int .u32 to_) ∧ W.cell? ⟨w.heap.size + 1 + 1, 2, none⟩ = some (.int .u8 c)) (first
    | with_reducible exact HKD.out _ HS0.out
    | with_reducible exact HKD.out _ (HK.out _ HS0.out 4 (.int .i64 (1 + (m4 : Int))) (by decide))
    | with_reducible exact HKD.out _ (HK.out _ (HK.out _ HS0.out 4 (.int .i64 (1 + (m4 : Int))) (by decide)) 6 (.int .i64 (m6 : Int)) (by decide))) (first | fail)
  rename_i hcont hheld
  refine hcont _ _ ?_
  clear hcont hheld
  clear o0 o1 o2 o3 o4 o5 o6 o7 o8 o9 o10 f4 f5 f6 f7 f8 f9 f10 l6
  have HZ1 : Hid (EBox ((W1.setCell ⟨w.heap.size + 1 + 1, 4, none⟩ (.int .i64 (1 + (m4 : Int)))).setCell ⟨w.heap.size + 1 + 1, 6, none⟩ (.int .i64 (m6 : Int))).drew (w.heap.size + 1) 0 0 0 0 0 0 0 0 0 0 0) := ((HZ0.out.other (b' := w.heap.size + 1 + 1) (by show w.heap.size + 1 + 1 ≠ w.heap.size + 1; simp) 4 (.int .i64 (1 + (m4 : Int)))).other (b' := w.heap.size + 1 + 1) (by show w.heap.size + 1 + 1 ≠ w.heap.size + 1; simp) 6 (.int .i64 (m6 : Int)))
  have HO1 : Hid (EBox ((W1.setCell ⟨w.heap.size + 1 + 1, 4, none⟩ (.int .i64 (1 + (m4 : Int)))).setCell ⟨w.heap.size + 1 + 1, 6, none⟩ (.int .i64 (m6 : Int))).drew (w.heap.size + 1 + 1) (1 + (sq : Int)) (tm : Int) c 9 (1 + (m4 : Int)) 0 (m6 : Int) 0 0 0 0) := (EBox.one (EBox.one HO0.out 4 (.int .i64 (1 + (m4 : Int)))) 6 (.int .i64 (m6 : Int)))
  have HB1 : Hid (Below w.heap.size w ((W1.setCell ⟨w.heap.size + 1 + 1, 4, none⟩ (.int .i64 (1 + (m4 : Int)))).setCell ⟨w.heap.size + 1 + 1, 6, none⟩ (.int .i64 (m6 : Int))).drew) := ((HB0.out.setCell (p := ⟨w.heap.size + 1 + 1, 4, none⟩) (by show w.heap.size ≤ w.heap.size + 1 + 1; exact Nat.le_succ_of_le (Nat.le_succ _)) (.int .i64 (1 + (m4 : Int)))).setCell (p := ⟨w.heap.size + 1 + 1, 6, none⟩) (by show w.heap.size ≤ w.heap.size + 1 + 1; exact Nat.le_succ_of_le (Nat.le_succ _)) (.int .i64 (m6 : Int))).drew
  generalize ((W1.setCell ⟨w.heap.size + 1 + 1, 4, none⟩ (.int .i64 (1 + (m4 : Int)))).setCell ⟨w.heap.size + 1 + 1, 6, none⟩ (.int .i64 (m6 : Int))).drew = W2 at HZ1 HO1 HB1 ⊢
  obtain ⟨z0, z1, z2, z3, z4, z5, z6, z7, z8, z9, z10⟩ := HZ1.out.cells
  obtain ⟨o0, o1, o2, o3, o4, o5, o6, o7, o8, o9, o10⟩ := HO1.out.cells
  have f0 := HZ1.out.free 0
  have f1 := HZ1.out.free 1
  have f2 := HZ1.out.free 2
  have f3 := HZ1.out.free 3
  have f4 := HZ1.out.free 4
  have f5 := HZ1.out.free 5
  have f6 := HZ1.out.free 6
  have f7 := HZ1.out.free 7
  have f8 := HZ1.out.free 8
  have f9 := HZ1.out.free 9
  have f10 := HZ1.out.free 10
  go_wp2
  have hg := EBox.setAll HZ1.out (1 + (sq : Int)) (tm : Int) c 9 (1 + (m4 : Int)) 0 (m6 : Int) 0 0 0 0
  have hbz := below_setAll HB1.out (Nat.le_succ _) (1 + (sq : Int)) (tm : Int) c 9 (1 + (m4 : Int)) 0 (m6 : Int) 0 0 0 0
  generalize (((((((((((W2.setCell ⟨w.heap.size + 1, 0, none⟩ (.int .i64 (1 + (sq : Int)))).setCell ⟨w.heap.size + 1, 1, none⟩ (.int .i64 (tm : Int))).setCell ⟨w.heap.size + 1, 2, none⟩ (.int .u8 c)).setCell ⟨w.heap.size + 1, 3, none⟩ (.int .u8 9)).setCell ⟨w.heap.size + 1, 4, none⟩ (.int .i64 (1 + (m4 : Int)))).setCell ⟨w.heap.size + 1, 5, none⟩ (.int .i64 0)).setCell ⟨w.heap.size + 1, 6, none⟩ (.int .i64 (m6 : Int))).setCell ⟨w.heap.size + 1, 7, none⟩ (.int .i64 0)).setCell ⟨w.heap.size + 1, 8, none⟩ (.int .i64 0)).setCell ⟨w.heap.size + 1, 9, none⟩ (.int .u64 0)).setCell ⟨w.heap.size + 1, 10, none⟩ (.int .i64 0)) = Wz at hg hbz ⊢
  obtain ⟨g0, g1, g2, g3, g4, g5, g6, g7, g8, g9, g10⟩ := hg.cells
  refine bodyPost_ret (v := .agg #[.int .i64 (1 + (sq : Int)), .int .i64 (tm : Int), .int .u8 c, .int .u8 9, .int .i64 (1 + (m4 : Int)), .int .i64 0, .int .i64 (m6 : Int), .int .i64 0, .int .i64 0, .int .u64 0, .int .i64 0]) ?_ rfl ⟨?_, hbz⟩
  · simp [results, Tryd.results14, go_sem, g0, g1, g2, g3, g4, g5, g6, g7, g8, g9, g10]
  · simp only [← hc, ← hm4, ← hm6, ← hn6]
set_option maxRecDepth 100000 in
set_option maxHeartbeats 2000000 in
theorem made_10 (kd cp sq tm tk gr to_ wg tc gt ms : Nat) (h1 : cp < 2 ^ 8) (h2 : sq < 2 ^ 32) (h3 : tm < 2 ^ 32) (h4 : tk < 2 ^ 32) (h5 : gr < 2 ^ 32) (h6 : to_ < 2 ^ 32) (h7 : wg < 2 ^ 32) (h8 : tc < 2 ^ 32) (h9 : gt < 2 ^ 32) (h10 : ms < 2 ^ 64) (hk : kd < 2 ^ 8) (hK : kd % 10 = 9) (w : World) : Calls Tryd.prog 14 #[.agg #[.int .u8 kd, .int .u8 cp, .int .u32 sq, .int .u32 tm, .int .u32 tk, .int .u32 gr, .int .u32 to_, .int .u32 wg, .int .u32 tc, .int .u32 gt, .int .u64 ms]] w fun e w' => e = .returned (.agg #[.int .i64 ((1 + (sq : Int))), .int .i64 ((tm : Int)), .int .u8 (((cp % 64 : Nat) : Int)), .int .u8 (10), .int .i64 (0), .int .i64 (0), .int .i64 (0), .int .i64 (0), .int .i64 (0), .int .u64 (0), .int .i64 ((1 + ((gt % 65535 : Nat) : Int)))]) ∧ Below w.heap.size w w' := by
  have c1 : IntKind.i64.wrap (sq : Int) = (sq : Int) := by rw [IntKind.wrap_i64]; omega
  have c2 : IntKind.i64.wrap (tm : Int) = (tm : Int) := by rw [IntKind.wrap_i64]; omega
  have hkd : (kd : Int).tmod 10 = 9 := by rw [show (10 : Int) = ((10 : Nat) : Int) from rfl, tmod_nat, hK]; rfl
  obtain ⟨c, hc⟩ : ∃ c, cp % 64 = c := ⟨_, rfl⟩
  have hcd : (cp : Int).tmod 64 = (c : Int) := by rw [← hc]; exact tmod_nat cp 64
  have c4 : IntKind.i64.wrap (tk : Int) = (tk : Int) := by rw [IntKind.wrap_i64]; omega
  have c5 : IntKind.i64.wrap (gr : Int) = (gr : Int) := by rw [IntKind.wrap_i64]; omega
  have c6 : IntKind.i64.wrap (to_ : Int) = (to_ : Int) := by rw [IntKind.wrap_i64]; omega
  have c7 : IntKind.i64.wrap (wg : Int) = (wg : Int) := by rw [IntKind.wrap_i64]; omega
  have c8 : IntKind.i64.wrap (tc : Int) = (tc : Int) := by rw [IntKind.wrap_i64]; omega
  have c9 : IntKind.i64.wrap (gt : Int) = (gt : Int) := by rw [IntKind.wrap_i64]; omega
  obtain ⟨m4, hm4⟩ : ∃ m, tk % 65535 = m := ⟨_, rfl⟩
  obtain ⟨m7, hm7⟩ : ∃ m, wg % 65536 = m := ⟨_, rfl⟩
  obtain ⟨m10, hm10⟩ : ∃ m, gt % 65535 = m := ⟨_, rfl⟩
  have r4 : (tk : Int).tmod 65535 = (m4 : Int) := by rw [← hm4]; exact tmod_nat tk 65535
  have r7 : (wg : Int).tmod 65536 = (m7 : Int) := by rw [← hm7]; exact tmod_nat wg 65536
  have r10 : (gt : Int).tmod 65535 = (m10 : Int) := by rw [← hm10]; exact tmod_nat gt 65535
  have s4 : IntKind.i64.wrap (1 + (m4 : Int)) = 1 + (m4 : Int) := by rw [IntKind.wrap_i64]; omega
  have s7 : IntKind.i64.wrap (1 + (m7 : Int)) = 1 + (m7 : Int) := by rw [IntKind.wrap_i64]; omega
  have s10 : IntKind.i64.wrap (1 + (m10 : Int)) = 1 + (m10 : Int) := by rw [IntKind.wrap_i64]; omega
  go_enter Tryd.func14, Tryd.ntmps14
  go_wp2
  go_quiet (fail)
  have HB0 : Hid (Below w.heap.size w ((((w.alloc (.cells #[.int .u8 kd, .int .u8 cp, .int .u32 sq, .int .u32 tm, .int .u32 tk, .int .u32 gr, .int .u32 to_, .int .u32 wg, .int .u32 tc, .int .u32 gt, .int .u64 ms] 31)).alloc (.cells #[.int .i64 0, .int .i64 0, .int .u8 0, .int .u8 0, .int .i64 0, .int .i64 0, .int .i64 0, .int .i64 0, .int .i64 0, .int .u64 0, .int .i64 0] 24)).alloc (.cells #[.int .i64 (1 + (sq : Int)), .int .i64 (tm : Int), .int .u8 c, .int .u8 10, .int .i64 0, .int .i64 0, .int .i64 0, .int .i64 0, .int .i64 0, .int .u64 0, .int .i64 0] 24)).drewN nq)) := below_dn ((((Below.refl w.heap.size w).alloc (Nat.le_refl _) _).alloc (by simp) _).alloc (by simp; omega) _) nq
  have HZ0 : Hid (EBox ((((w.alloc (.cells #[.int .u8 kd, .int .u8 cp, .int .u32 sq, .int .u32 tm, .int .u32 tk, .int .u32 gr, .int .u32 to_, .int .u32 wg, .int .u32 tc, .int .u32 gt, .int .u64 ms] 31)).alloc (.cells #[.int .i64 0, .int .i64 0, .int .u8 0, .int .u8 0, .int .i64 0, .int .i64 0, .int .i64 0, .int .i64 0, .int .i64 0, .int .u64 0, .int .i64 0] 24)).alloc (.cells #[.int .i64 (1 + (sq : Int)), .int .i64 (tm : Int), .int .u8 c, .int .u8 10, .int .i64 0, .int .i64 0, .int .i64 0, .int .i64 0, .int .i64 0, .int .u64 0, .int .i64 0] 24)).drewN nq) (w.heap.size + 1) 0 0 0 0 0 0 0 0 0 0 0) := by
    have t := (EBox.new (w.alloc (.cells #[.int .u8 kd, .int .u8 cp, .int .u32 sq, .int .u32 tm, .int .u32 tk, .int .u32 gr, .int .u32 to_, .int .u32 wg, .int .u32 tc, .int .u32 gt, .int .u64 ms] 31)) 0 0 0 0 0 0 0 0 0 0 0).alloc (.cells #[.int .i64 (1 + (sq : Int)), .int .i64 (tm : Int), .int .u8 c, .int .u8 10, .int .i64 0, .int .i64 0, .int .i64 0, .int .i64 0, .int .i64 0, .int .u64 0, .int .i64 0] 24)
    simp only [World.size_alloc] at t
    exact t
  have HO0 : Hid (EBox ((((w.alloc (.cells #[.int .u8 kd, .int .u8 cp, .int .u32 sq, .int .u32 tm, .int .u32 tk, .int .u32 gr, .int .u32 to_, .int .u32 wg, .int .u32 tc, .int .u32 gt, .int .u64 ms] 31)).alloc (.cells #[.int .i64 0, .int .i64 0, .int .u8 0, .int .u8 0, .int .i64 0, .int .i64 0, .int .i64 0, .int .i64 0, .int .i64 0, .int .u64 0, .int .i64 0] 24)).alloc (.cells #[.int .i64 (1 + (sq : Int)), .int .i64 (tm : Int), .int .u8 c, .int .u8 10, .int .i64 0, .int .i64 0, .int .i64 0, .int .i64 0, .int .i64 0, .int .u64 0, .int .i64 0] 24)).drewN nq) (w.heap.size + 1 + 1) (1 + (sq : Int)) (tm : Int) c 10 0 0 0 0 0 0 0) := by
    have t := EBox.new ((w.alloc (.cells #[.int .u8 kd, .int .u8 cp, .int .u32 sq, .int .u32 tm, .int .u32 tk, .int .u32 gr, .int .u32 to_, .int .u32 wg, .int .u32 tc, .int .u32 gt, .int .u64 ms] 31)).alloc (.cells #[.int .i64 0, .int .i64 0, .int .u8 0, .int .u8 0, .int .i64 0, .int .i64 0, .int .i64 0, .int .i64 0, .int .i64 0, .int .u64 0, .int .i64 0] 24)) (1 + (sq : Int)) (tm : Int) c 10 0 0 0 0 0 0 0
    simp only [World.size_alloc] at t
    exact t
  go_wp2
  have hg := EBox.setAll (HZ0.out.other (b' := w.heap.size + 1 + 1) (by show w.heap.size + 1 + 1 ≠ w.heap.size + 1; simp) 10 (.int .i64 (1 + (m10 : Int)))) (1 + (sq : Int)) (tm : Int) c 10 0 0 0 0 0 0 (1 + (m10 : Int))
  have hbz := below_setAll (HB0.out.setCell (p := ⟨w.heap.size + 1 + 1, 10, none⟩) (by show w.heap.size ≤ w.heap.size + 1 + 1; exact Nat.le_succ_of_le (Nat.le_succ _)) (.int .i64 (1 + (m10 : Int)))) (Nat.le_succ _) (1 + (sq : Int)) (tm : Int) c 10 0 0 0 0 0 0 (1 + (m10 : Int))
  generalize ((((((((((((((((w.alloc (.cells #[.int .u8 kd, .int .u8 cp, .int .u32 sq, .int .u32 tm, .int .u32 tk, .int .u32 gr, .int .u32 to_, .int .u32 wg, .int .u32 tc, .int .u32 gt, .int .u64 ms] 31)).alloc (.cells #[.int .i64 0, .int .i64 0, .int .u8 0, .int .u8 0, .int .i64 0, .int .i64 0, .int .i64 0, .int .i64 0, .int .i64 0, .int .u64 0, .int .i64 0] 24)).alloc (.cells #[.int .i64 (1 + (sq : Int)), .int .i64 (tm : Int), .int .u8 c, .int .u8 10, .int .i64 0, .int .i64 0, .int .i64 0, .int .i64 0, .int .i64 0, .int .u64 0, .int .i64 0] 24)).drewN nq).setCell ⟨w.heap.size + 1 + 1, 10, none⟩ (.int .i64 (1 + (m10 : Int)))).setCell ⟨w.heap.size + 1, 0, none⟩ (.int .i64 (1 + (sq : Int)))).setCell ⟨w.heap.size + 1, 1, none⟩ (.int .i64 (tm : Int))).setCell ⟨w.heap.size + 1, 2, none⟩ (.int .u8 c)).setCell ⟨w.heap.size + 1, 3, none⟩ (.int .u8 10)).setCell ⟨w.heap.size + 1, 4, none⟩ (.int .i64 0)).setCell ⟨w.heap.size + 1, 5, none⟩ (.int .i64 0)).setCell ⟨w.heap.size + 1, 6, none⟩ (.int .i64 0)).setCell ⟨w.heap.size + 1, 7, none⟩ (.int .i64 0)).setCell ⟨w.heap.size + 1, 8, none⟩ (.int .i64 0)).setCell ⟨w.heap.size + 1, 9, none⟩ (.int .u64 0)).setCell ⟨w.heap.size + 1, 10, none⟩ (.int .i64 (1 + (m10 : Int)))) = Wz at hg hbz ⊢
  obtain ⟨g0, g1, g2, g3, g4, g5, g6, g7, g8, g9, g10⟩ := hg.cells
  refine bodyPost_ret (v := .agg #[.int .i64 (1 + (sq : Int)), .int .i64 (tm : Int), .int .u8 c, .int .u8 10, .int .i64 0, .int .i64 0, .int .i64 0, .int .i64 0, .int .i64 0, .int .u64 0, .int .i64 (1 + (m10 : Int))]) ?_ rfl ⟨?_, hbz⟩
  · simp [results, Tryd.results14, go_sem, g0, g1, g2, g3, g4, g5, g6, g7, g8, g9, g10]
  · simp only [← hc, ← hm10]
end Go.Proofs.YtainjicbmjfnkaaDoor
