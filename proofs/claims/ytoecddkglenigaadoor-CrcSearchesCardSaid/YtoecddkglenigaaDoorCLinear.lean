/-
  The walk of CrcLinear.
-/
import Derived.Test.YtoecddkglenigaaDoorBursts
import Derived.Test.YtoecddkglenigaaDoorWant
import Derived.Deep.QuietTactic
import Derived.BigQuiet
namespace Go.Proofs.YtoecddkglenigaaDoor
open Go.RowKit
set_option linter.unusedVariables false

theorem run_min3 {P : Program} (w : World) (ts : Array TypeId) (t : TypeId) (x y z n : Int) (h : min (min x y) z = n) : (Builtin.min_ ts t #[.int .i64 x, .int .i64 y, .int .i64 z]).run P w = .ok (.int .i64 n) w := by
  have h1 := run_min_int2 (P := P) (w := w) ts t .i64 .i64 x y
  have h2 := run_min_int2 (P := P) (w := w) ts t .i64 .i64 (if y < x then y else x) z
  have e : (if z < (if y < x then y else x) then z else (if y < x then y else x)) = n := by omega
  rw [e] at h2
  simp [Builtin.min_] at h1 h2 ⊢
  rw [h1]
  simpa [Result.andThen] using h2

theorem fill_step (X : List Nat) (N i x : Nat) (hX : X.length = N) (hx : X[i]? = some x) : (X.take i ++ List.replicate (N - i) 0).set i x = X.take (i + 1) ++ List.replicate (N - (i + 1)) 0 := by
  have hi : i < N := by have := (List.getElem?_eq_some_iff.1 hx).1; omega
  have hl : (X.take i).length = i := by rw [List.length_take, hX]; omega
  rw [show N - i = (N - (i + 1)) + 1 by omega, List.replicate_succ, List.set_append_right _ _ (by omega), hl, Nat.sub_self, List.set_cons_zero, List.take_add_one, hx]
  simp
theorem sum_xor (A Bq : List Nat) (h : A.length = Bq.length) : Crc.upd 0 A ^^^ Crc.upd 0 Bq = Crc.reg 0 (List.zipWith (· ^^^ ·) A Bq) := by
  have e := Crc.reg_xor A Bq 4294967295 4294967295 h
  rw [Nat.xor_self] at e
  rw [e]
  unfold Crc.upd
  rw [Nat.zero_xor]
  generalize Crc.reg 4294967295 A = u
  generalize Crc.reg 4294967295 Bq = v
  rw [Nat.xor_assoc, Gf.xor_left_comm 4294967295 v, Nat.xor_self, Nat.xor_zero]
theorem seen_take {w : World} {B : Nat} {k : IntKind} {a : Option Addr} {xs : List Nat} (h : Seen w B k a xs) (n : Nat) : Seen w B k a (xs.take n) := fun i x hx => by
  have hi : i < n := by have := (List.getElem?_eq_some_iff.1 hx).1; simp at this; omega
  rw [List.getElem?_take_of_lt hi] at hx
  exact h i x hx

theorem quiet_left {P : Program} {f : FuncId} {args : Array Value} {w : World} {n : Nat} {v : Value}
    (h : Calls P f args (w.drewN n) fun e w' => e = .returned v ∧ w.drewN n = w') : Calls P f args (w.drewN n) fun e w'' => e = .returned v ∧ ∃ m, w'' = w.drewN m :=
  h.mono fun _ _ ⟨he, hm⟩ => ⟨he, n, hm.symm⟩
theorem Seen.drewN {w : World} {B : Nat} {k : IntKind} {a : Option Addr} {xs : List Nat} (h : Seen w B k a xs) (n : Nat) : Seen (w.drewN n) B k a xs := h.keep fun _ _ => World.cell?_drewN _ _ _
theorem HT.drewN {w : World} (h : HT w) (n : Nat) : HT (w.drewN n) := fun i hi => (World.cell?_drewN _ _ _).trans (h i hi)

theorem below_drewN {B : Nat} {a w : World} (h : Below B a w) (n : Nat) : Below B a (w.drewN n) := ⟨h.os, h.tape, h.output, h.size, h.block⟩
theorem zeros_row {w : World} {base n : Nat} {v : Value} (h : w.ownsRow base 5 1 v n (madeCells (Value.int .u8 0).cells (n * 1)).toList) : w.ownsRow base 5 1 v n ((List.replicate n 0).map fun x : Nat => Value.int .u8 x) := by
  have e : (madeCells (Value.int .u8 0).cells (n * 1)).toList = (List.replicate n 0).map fun x : Nat => Value.int .u8 x := by
    rw [show (Value.int .u8 0).cells = #[.int .u8 0] from rfl, toList_madeCells_one, Nat.mul_one, List.map_replicate]; rfl
  rw [e] at h
  exact h
theorem row_x {w : World} {base n k : Nat} {v : Value} {X : List Nat} (h : w.ownsRow base 5 1 v n (X.map (fun x : Nat => Value.int .u8 x) ++ List.replicate k (.int .u8 0))) : ∃ a c, v = .slice a n c ∧ Seen w w.heap.size .u8 a (X ++ List.replicate k 0) := by
  have e : X.map (fun x : Nat => Value.int .u8 x) ++ List.replicate k (.int .u8 0) = (X ++ List.replicate k 0).map fun x : Nat => Value.int .u8 x := by
    rw [List.map_append, List.map_replicate]; rfl
  rw [e] at h
  obtain ⟨a, c, hv, hS, _⟩ := own_slice h
  exact ⟨a, c, hv, hS⟩

set_option maxRecDepth 100000 in
set_option maxHeartbeats 4000000 in
theorem clinear_law (a : Option Addr) (m cap : Nat) (xs : List Nat) (hxs : ∀ y ∈ xs, y < 256) (hm : xs.length = m) (hmc : m ≤ cap) (hcm : cap ≤ maxLen) (b : Option Addr) (m2 cap2 : Nat) (bs : List Nat) (hbs : ∀ y ∈ bs, y < 256) (hm2 : bs.length = m2) (hmc2 : m2 ≤ cap2) (hcm2 : cap2 ≤ maxLen)
    (z : Nat) (hz : z < 65536) (w : World) (hS : Seen w w.heap.size .u8 a xs) (hS2 : Seen w w.heap.size .u8 b bs) (hT : HT w) :
    Calls Tryd.prog 11 #[.slice a m cap, .slice b m2 cap2, .int .u16 z] w fun e w' => e = .returned (.bool true) ∧ Below w.heap.size w w' := by
  obtain ⟨i0, hi, hz0, hz1, hz2⟩ := info_parts infoB
  unfold maxLen at hcm hcm2
  obtain ⟨N, hN⟩ : ∃ N : Nat, min (min m m2) 300 = N := ⟨_, rfl⟩
  have hNi : min (min (m : Int) (m2 : Int)) 300 = (N : Int) := by omega
  have hmin := fun W : World => run_min3 (P := Tryd.prog) W #[3, 3, 3] 3 m m2 300 N hNi
  have hN3 : (N : Int) ≤ 300 := by omega
  have hNm : N ≤ m := by omega
  have hNm2 : N ≤ m2 := by omega
  have hN1 : N ≤ cap := by omega
  have hN2 : N ≤ cap2 := by omega
  have hN1i : (N : Int) ≤ (cap : Int) := by omega
  have hN2i : (N : Int) ≤ (cap2 : Int) := by omega
  have hN0 : (0 : Int) ≤ (N : Int) := by omega
  have hAl : (xs.take N).length = N := by rw [List.length_take, hm]; omega
  have hBl : (bs.take N).length = N := by rw [List.length_take, hm2]; omega
  have hAb : ∀ y ∈ xs.take N, y < 256 := fun y hy => hxs y (List.mem_of_mem_take hy)
  have hBb : ∀ y ∈ bs.take N, y < 256 := fun y hy => hbs y (List.mem_of_mem_take hy)
  have hSA := seen_take hS N
  have hSB := seen_take hS2 N
  obtain ⟨A, hA⟩ : ∃ A, xs.take N = A := ⟨_, rfl⟩
  obtain ⟨Bq, hBq⟩ : ∃ Bq, bs.take N = Bq := ⟨_, rfl⟩
  rw [hA] at hAl hAb hSA
  rw [hBq] at hBl hBb hSB
  obtain ⟨X, hX⟩ : ∃ X, List.zipWith (· ^^^ ·) A Bq = X := ⟨_, rfl⟩
  have hXl : X.length = N := by rw [← hX, List.length_zipWith, hAl, hBl]; omega
  have hXb : ∀ y ∈ X, y < 256 := by
    intro y hy
    rw [← hX] at hy
    obtain ⟨i, hi⟩ := List.mem_iff_getElem?.1 hy
    rw [List.getElem?_zipWith] at hi
    cases h1 : A[i]? with
    | none => rw [h1] at hi; simp at hi
    | some u => cases h2 : Bq[i]? with
      | none => rw [h1, h2] at hi; simp at hi
      | some v =>
        rw [h1, h2] at hi
        simp at hi
        rw [← hi]
        exact Gf.xor_lt (n := 8) (hAb u (List.mem_of_getElem? h1)) (hBb v (List.mem_of_getElem? h2))
  obtain ⟨lx, hlx⟩ : ∃ lx, Crc.reg 0 X = lx := ⟨_, rfl⟩
  obtain ⟨la, hla⟩ : ∃ la, Crc.reg 0 A = la := ⟨_, rfl⟩
  obtain ⟨lb', hlb⟩ : ∃ lb', Crc.reg 0 Bq = lb' := ⟨_, rfl⟩
  obtain ⟨sa, hsa⟩ : ∃ sa, Crc.upd 0 A = sa := ⟨_, rfl⟩
  obtain ⟨sb, hsb⟩ : ∃ sb, Crc.upd 0 Bq = sb := ⟨_, rfl⟩
  have hlx32 : lx < 2 ^ 32 := by rw [← hlx]; exact Crc.reg_lt hXb (by decide)
  have hx1 : bits .xor .u32 (la : Int) (lb' : Int) = (lx : Int) := by
    refine xb (by rw [← hla]; exact Crc.reg_lt hAb (by decide)) (by rw [← hlb]; exact Crc.reg_lt hBb (by decide)) ?_
    have := Crc.reg_xor A Bq 0 0 (by rw [hAl, hBl])
    rw [Nat.xor_self, hX, hlx, hla, hlb] at this
    exact this.symm
  have hx2 : bits .xor .u32 (sa : Int) (sb : Int) = (lx : Int) := by
    refine xb (by rw [← hsa]; exact Crc.upd_lt hAb (by decide)) (by rw [← hsb]; exact Crc.upd_lt hBb (by decide)) ?_
    rw [← hsa, ← hsb, sum_xor A Bq (by rw [hAl, hBl]), hX, hlx]
  obtain ⟨kk, hkk⟩ : ∃ kk, z % 301 = kk := ⟨_, rfl⟩
  have hkki : (z : Int) % 301 = (kk : Int) := by omega
  have hkk3 : (kk : Int) ≤ 300 := by omega
  have hwz : IntKind.i64.wrap (z : Int) = (z : Int) := by rw [IntKind.wrap_i64]; omega
  obtain ⟨mv, hmv⟩ : ∃ mv, Crc.sts (8 * kk) lx = mv := ⟨_, rfl⟩
  have HXL := Lib.hid hXl
  have HXB : Hid (∀ y ∈ X, y < 256) := hXb
  have HAL := Lib.hid hAl
  have HBL := Lib.hid hBl
  have HAB : Hid (∀ y ∈ A, y < 256) := hAb
  have HBB : Hid (∀ y ∈ Bq, y < 256) := hBb
  have HSA : Hid (Seen w w.heap.size .u8 a A) := hSA
  have HSB : Hid (Seen w w.heap.size .u8 b Bq) := hSB
  have HX := Lib.hid hX
  have HLX := Lib.hid hlx
  have HLA := Lib.hid hla
  have HLB := Lib.hid hlb
  have HSAM := Lib.hid hsa
  have HSBM := Lib.hid hsb
  have HLX32 := Lib.hid hlx32
  have HMV := Lib.hid hmv
  have HKK16 : Hid (kk ≤ 16777216) := by show _ ≤ _; omega
  have HTT : Hid (HT w) := hT
  have HNM : Hid (N ≤ maxLen) := by show N ≤ maxLen; unfold maxLen; omega
  have HLZ : Hid (Crc.reg 0 (List.replicate kk 0 ++ X) = lx) := by
    show _ = _
    rw [Crc.reg_append, Crc.reg_zeros, Crc.sts_zero, hlx]
  have HLM : Hid (Crc.reg 0 (X ++ List.replicate kk 0) = mv) := by
    show _ = _
    rw [Crc.reg_append, Crc.reg_zeros, hlx, hmv]
  have HZB : Hid (∀ y ∈ List.replicate kk 0 ++ X, y < 256) := fun y hy => by
    rcases List.mem_append.1 hy with h | h
    · rw [List.eq_of_mem_replicate h]; decide
    · exact hXb y h
  have HZB2 : Hid (∀ y ∈ X ++ List.replicate kk 0, y < 256) := fun y hy => by
    rcases List.mem_append.1 hy with h | h
    · exact hXb y h
    · rw [List.eq_of_mem_replicate h]; decide
  have HZL : Hid ((List.replicate kk 0 ++ X).length = kk + N) := by show _ = _; rw [List.length_append, List.length_replicate, hXl]
  have HZL2 : Hid ((X ++ List.replicate kk 0).length = N + kk) := by show _ = _; rw [List.length_append, List.length_replicate, hXl]
  have HKN : Hid (kk + N ≤ maxLen) := by show kk + N ≤ maxLen; unfold maxLen; omega
  have HNK : Hid (N + kk ≤ maxLen) := by show N + kk ≤ maxLen; unfold maxLen; omega
  clear hxs hbs hS hS2 hT hN hNi hAl hBl hAb hBb hSA hSB hA hBq hX hXl hXb hlx hla hlb hsa hsb hlx32 hkk hmv hm hm2
  go_enter Tryd.func11, Tryd.ntmps11
  go_wp2_with (at_make; refine wpList_make_full _ rfl _ _ 22 rfl w.heap.size 5 i0 (.int .u8 0) 1 Tryd.underlying22 hi hz0 hz1 .i64 .i64 _ _ N rfl rfl rfl rfl (by rw [hz2]; omega) (by unfold maxLen; omega) (Nat.le_refl _) ?_; intro w1 hown1 hgrow1)
  have hB1 : Below w.heap.size w w1 := (Below.refl _ _).grown hgrow1 (Nat.le_refl _) (fun k e => by cases e)
  obtain ⟨g, hg⟩ : ∃ g, w.heap.size = g := ⟨_, rfl⟩
  have hO : w1.ownsRow w.heap.size 5 1 (.slice (some ⟨g, 0, none⟩) N N) N ((X.take 0 ++ List.replicate (N - 0) 0).map fun x : Nat => Value.int .u8 x) := by
    rw [← hg]
    have e : (madeCells (Value.int .u8 0).cells (N * 1)).toList = (X.take 0 ++ List.replicate (N - 0) 0).map fun x : Nat => Value.int .u8 x := by
      rw [show (Value.int .u8 0).cells = #[.int .u8 0] from rfl, toList_madeCells_one, Nat.mul_one, List.take_zero, List.nil_append, Nat.sub_zero, List.map_replicate]; rfl
    rw [e] at hown1
    exact hown1
  have HO := Lib.hid hO
  have HB1 := Lib.hid hB1
  rw [hg]
  clear hown1 hgrow1 hO hB1
  go_loopw [22] (fun iv wr => ∃ i : Nat, i ≤ N ∧ iv = .int .i64 i ∧ wr.ownsRow w.heap.size 5 1 (.slice (some ⟨g, 0, none⟩) N N) N ((X.take i ++ List.replicate (N - i) 0).map fun x : Nat => Value.int .u8 x) ∧ Below w.heap.size w wr) (fun i _ => N - (intOf i).toNat)
  case atStart => exact ⟨0, Nat.zero_le _, rfl, HO.out, HB1.out⟩
  case round =>
    obtain ⟨i, hiN, rfl, hrow, hbel⟩ := hrel
    have HROW := Lib.hid hrow
    have HBE := Lib.hid hbel
    clear hbel
    by_cases hi3 : i < N
    · obtain ⟨b1, o1, rfl, _, hc1⟩ := (HSA.out.below HBE.out).at (i := i) (by rw [HAL.out]; exact hi3)
      obtain ⟨b2, o2, rfl, _, hc2⟩ := (HSB.out.below HBE.out).at (i := i) (by rw [HBL.out]; exact hi3)
      obtain ⟨x, hx⟩ : ∃ x, A[i]'(by rw [HAL.out]; exact hi3) = x := ⟨_, rfl⟩
      obtain ⟨y, hy⟩ : ∃ y, Bq[i]'(by rw [HBL.out]; exact hi3) = y := ⟨_, rfl⟩
      rw [hx] at hc1
      rw [hy] at hc2
      obtain ⟨v, hv⟩ : ∃ v, x ^^^ y = v := ⟨_, rfl⟩
      have hxy : bits .xor .u8 (x : Int) (y : Int) = (v : Int) := by
        rw [u8_xor_nat x y (by rw [← hx]; exact HAB.out _ (List.getElem_mem _)) (by rw [← hy]; exact HBB.out _ (List.getElem_mem _)), hv]
      have HXI : Hid (X[i]? = some v) := by
        show _ = _
        rw [← HX.out, List.getElem?_zipWith, List.getElem?_eq_getElem (by rw [HAL.out]; exact hi3), List.getElem?_eq_getElem (by rw [HBL.out]; exact hi3), hx, hy, ← hv]
      have hfr := hrow.frozenAt i
      have hcl : (wr.cell? ⟨g, i, none⟩).isSome = true := by
        rw [hrow.cellAt i (by omega), List.getElem?_map, List.getElem?_eq_getElem (by rw [List.length_append, List.length_take, List.length_replicate, HXL.out]; omega)]; rfl
      obtain ⟨u0, hu0⟩ := Option.isSome_iff_exists.1 hcl
      clear hrow hx hy hv hcl
      go_wp2
      go_region
      go_wp2
      refine ⟨⟨i + 1, hi3, rfl, ?_, (HBE.out.setCell ((HROW.out.lt g rfl).1) _).drew⟩, by simp [intOf]; omega⟩
      rw [← fill_step X N i v HXL.out HXI.out, List.map_set]
      exact ((HROW.out.stored i _).1).drew
    · have hiN2 : N ≤ i := by omega
      have HSX : Hid (Seen wr wr.heap.size .u8 (some ⟨g, 0, none⟩) X) := by
        have h := Seen.of_own (k := .u8) hrow
        rw [show N - i = 0 by omega, List.replicate_zero, List.append_nil, List.take_of_length_le (by rw [HXL.out]; exact hiN2)] at h
        exact h
      have HTR : Hid (HT wr) := HTT.out.below HBE.out
      clear hrow
      go_wp2
      go_quiet ((first
        | (go_at_call 31; with_reducible exact quiet_left (linear_any _ N _ X HXB.out HXL.out HNM.out _ _ (HSX.out.drewN _) (HTR.out.drewN _) lx HLX.out))
        | (go_at_call 31; with_reducible exact quiet_left (linear_any a N _ A HAB.out HAL.out HNM.out _ _ ((HSA.out.below HBE.out).drewN _) (HTR.out.drewN _) la HLA.out))
        | (go_at_call 31; with_reducible exact quiet_left (linear_any b N _ Bq HBB.out HBL.out HNM.out _ _ ((HSB.out.below HBE.out).drewN _) (HTR.out.drewN _) lb' HLB.out))
        | (go_at_call 32; with_reducible exact quiet_left (sum_any a N _ A HAB.out HAL.out HNM.out _ _ ((HSA.out.below HBE.out).drewN _) (HTR.out.drewN _) sa HSAM.out))
        | (go_at_call 32; with_reducible exact quiet_left (sum_any b N _ Bq HBB.out HBL.out HNM.out _ _ ((HSB.out.below HBE.out).drewN _) (HTR.out.drewN _) sb HSBM.out))))
      have HSX8 : Hid (Seen (wr.drewN nq) wr.heap.size .u8 (some ⟨g, 0, none⟩) X) := HSX.out.drewN _
      have HTR8 : Hid (HT (wr.drewN nq)) := HTR.out.drewN _
      have HBE8 : Hid (Below w.heap.size w (wr.drewN nq)) := below_drewN HBE.out _
      obtain ⟨W8, hW8⟩ : ∃ W8, wr.drewN nq = W8 := ⟨_, rfl⟩
      have hsz8 : wr.heap.size = W8.heap.size := by rw [← hW8]; rfl
      rw [hW8] at HSX8 HTR8 HBE8 ⊢
      rw [hsz8] at HSX8
      clear hW8 hsz8
      by_cases hN00 : N = 0
      · have H0 := Lib.hid hN00
        have hX0 : X = [] := List.eq_nil_of_length_eq_zero (HXL.out.trans hN00)
        have HX0 := Lib.hid hX0
        have HZL0 : Hid ((List.replicate kk 0 ++ X).length = kk) := by show _ = _; rw [hX0, List.append_nil, List.length_replicate]
        have HZL20 : Hid ((X ++ List.replicate kk 0).length = kk) := by show _ = _; rw [hX0, List.nil_append, List.length_replicate]
        have HK0 : Hid (kk ≤ maxLen) := by show kk ≤ maxLen; unfold maxLen; omega
        have HNK0 : Hid (0 + kk ≤ maxLen) := by show 0 + kk ≤ maxLen; unfold maxLen; omega
        clear hX0 hN00
        go_wp2_with (first
          | (go_at_call 31; ((with_reducible refine (linear_any _ N _ X HXB.out HXL.out HNM.out W8 _ HSX8.out HTR8.out lx HLX.out).mono ?_); rintro e w2 ⟨rfl, rfl⟩))
          | (go_at_call 22; ((with_reducible refine (shift_any lx kk HLX32.out HKK16.out mv HMV.out _).mono ?_); rintro e w5 ⟨rfl, hb5⟩; have HB5 := Lib.hid (HBE8.out.trans (hb5.mono HBE8.out.size)); have HS5 : Hid (Seen w5 W8.heap.size .u8 (some ⟨g, 0, none⟩) X) := HSX8.out.below hb5; have HTM5 : Hid (HT w5) := HTR8.out.below hb5; have HSZ5 : Hid (W8.heap.size ≤ w5.heap.size) := hb5.size; clear hb5))
          | (at_make; refine wantMake _ rfl _ _ 22 rfl w5.heap.size 5 i0 (.int .u8 0) 1 Tryd.underlying22 hi hz0 hz1 .i64 .i64 _ _ kk rfl rfl rfl rfl (by rw [hz2]; omega) (by unfold maxLen; omega) (Nat.le_refl _) ?_; intro w6 hown6 hgrow6; have HO6 := Lib.hid (zeros_row hown6); have HO60 : Hid (w6.ownsRow w5.heap.size 5 1 (.slice (some ⟨w5.heap.size, 0, none⟩) kk kk) kk ((List.replicate kk 0 ++ X).map fun x : Nat => Value.int .u8 x)) := (by rw [HX0.out, List.append_nil]; exact HO6.out); have HB6 : Hid (Below w5.heap.size w5 w6) := (Below.refl _ _).grown hgrow6 (Nat.le_refl _) (fun k e => by cases e); clear hown6 hgrow6)
          | (at_builtin; (refine wantNothing _ rfl _ _ 22 rfl 5 i0 Tryd.underlying22 hi _ _ _ rfl (Nat.le_refl _) _ _ _ H0.out rfl ?_); have HT7 : Hid (HT w6) := HTM5.out.below HB6.out; have HS7 : Hid (Seen w6 W8.heap.size .u8 (some ⟨g, 0, none⟩) X) := HS5.out.below (HB6.out.mono HSZ5.out); have HO8 := Lib.hid (own_empty w6); have HA8 : Hid (Below w6.heap.size w6 (w6.alloc (.cells #[] 5))) := (Below.refl _ w6).alloc (Nat.le_refl _) _)
          | (go_at_call 31; ((with_reducible refine (linear_any _ kk _ _ HZB.out HZL0.out HK0.out w6 _ (Seen.of_own HO60.out) HT7.out lx HLZ.out).mono ?_); rintro e w2 ⟨rfl, rfl⟩))
          | (go_at_call 31; ((with_reducible refine (linear_any _ N _ X HXB.out HXL.out HNM.out w6 _ HS7.out HT7.out lx HLX.out).mono ?_); rintro e w2 ⟨rfl, rfl⟩))
          | (at_builtin; (refine wantZeros _ rfl _ _ 22 3 rfl w6.heap.size 5 i0 .i64 .i64 Tryd.underlying22 Tryd.underlying3 hi hz0 hz1 hz2 _ _ _ kk _ rfl rfl HO8.out HA8.out.size (by omega) ?_); intro v10 w10 hown10 hgrow10; have HB10 : Hid (Below w6.heap.size w6 w10) := HA8.out.grown hgrow10 HA8.out.size (fun k e => (HO8.out.lt k e).1); have HT10 : Hid (HT w10) := HT7.out.below HB10.out; obtain ⟨a10, c10, rfl, HS10⟩ := row_x (X := X) (n := kk) (by rw [HX0.out]; rw [Nat.zero_add] at hown10; exact hown10))
          | (go_at_call 31; ((with_reducible refine (linear_any _ kk _ _ HZB2.out HZL20.out HK0.out w10 _ HS10 HT10.out mv HLM.out).mono ?_); rintro e w2 ⟨rfl, rfl⟩))
          | (go_at_call 15; ((with_reducible refine (awake_any _ HT10.out).mono ?_); rintro e w11 ⟨rfl, hb11⟩)))
        go_ret
        exact ⟨rfl, HB5.out.trans ((HB6.out.trans ((HB10.out.trans (hb11.mono HB10.out.size)).mono HB6.out.size)).mono HB5.out.size)⟩
      · clear hiN2
        go_wp2_with (first
          | (go_at_call 31; ((with_reducible refine (linear_any _ N _ X HXB.out HXL.out HNM.out W8 _ HSX8.out HTR8.out lx HLX.out).mono ?_); rintro e w2 ⟨rfl, rfl⟩))
          | (go_at_call 22; ((with_reducible refine (shift_any lx kk HLX32.out HKK16.out mv HMV.out _).mono ?_); rintro e w5 ⟨rfl, hb5⟩; have HB5 := Lib.hid (HBE8.out.trans (hb5.mono HBE8.out.size)); have HS5 : Hid (Seen w5 W8.heap.size .u8 (some ⟨g, 0, none⟩) X) := HSX8.out.below hb5; have HTM5 : Hid (HT w5) := HTR8.out.below hb5; have HSZ5 : Hid (W8.heap.size ≤ w5.heap.size) := hb5.size; clear hb5))
          | (at_make; refine wantMake _ rfl _ _ 22 rfl w5.heap.size 5 i0 (.int .u8 0) 1 Tryd.underlying22 hi hz0 hz1 .i64 .i64 _ _ kk rfl rfl rfl rfl (by rw [hz2]; omega) (by unfold maxLen; omega) (Nat.le_refl _) ?_; intro w6 hown6 hgrow6; have HO6 := Lib.hid (zeros_row hown6); have HB6 : Hid (Below w5.heap.size w5 w6) := (Below.refl _ _).grown hgrow6 (Nat.le_refl _) (fun k e => by cases e); clear hown6 hgrow6)
          | (at_builtin; refine wantOwn _ rfl _ _ 22 rfl w5.heap.size 5 i0 (.int .u8 0) 1 1 Tryd.underlying22 hi hz0 hz1 hz2 rfl (by decide) _ _ _ rfl HO6.out _ _ _ (X.map fun x : Nat => Value.int .u8 x) rfl (by rw [List.length_map, HXL.out, Nat.mul_one]) (seen_cells ((HS5.out.more HSZ5.out).below HB6.out)) (by intro u hu; obtain ⟨z, _, rfl⟩ := List.mem_map.1 hu; rfl) (by unfold maxLen; omega) (by omega) HB6.out.size ?_; intro v7 w7 hown7 hgrow7; rw [← List.map_append] at hown7; obtain ⟨g7, c7, rfl⟩ := own_form hown7 (by omega); have HB7 : Hid (Below w5.heap.size w5 w7) := HB6.out.grown hgrow7 HB6.out.size (fun k e => (HO6.out.lt k e).1); have HO7 := Lib.hid hown7; have HT7 : Hid (HT w7) := HTM5.out.below HB7.out; have HS7 : Hid (Seen w7 W8.heap.size .u8 (some ⟨g, 0, none⟩) X) := HS5.out.below (HB7.out.mono HSZ5.out); have HO8 := Lib.hid (own_empty w7); have HA8 : Hid (Below w7.heap.size w7 (w7.alloc (.cells #[] 5))) := (Below.refl _ w7).alloc (Nat.le_refl _) _; clear hown7 hgrow7)
          | (go_at_call 31; ((with_reducible refine (linear_any _ (kk + N) _ _ HZB.out HZL.out HKN.out w7 _ (Seen.of_own HO7.out) HT7.out lx HLZ.out).mono ?_); rintro e w2 ⟨rfl, rfl⟩))
          | (go_at_call 31; ((with_reducible refine (linear_any _ N _ X HXB.out HXL.out HNM.out w7 _ HS7.out HT7.out lx HLX.out).mono ?_); rintro e w2 ⟨rfl, rfl⟩))
          | (at_builtin; refine wantOwn _ rfl _ _ 22 rfl w7.heap.size 5 i0 (.int .u8 0) 1 1 Tryd.underlying22 hi hz0 hz1 hz2 rfl (by decide) _ _ _ rfl HO8.out _ _ _ (X.map fun x : Nat => Value.int .u8 x) rfl (by rw [List.length_map, HXL.out, Nat.mul_one]) (seen_cells (HS7.out.below (HA8.out.mono (Nat.le_trans HSZ5.out HB7.out.size)))) (by intro u hu; obtain ⟨z, _, rfl⟩ := List.mem_map.1 hu; rfl) (by unfold maxLen; omega) (by omega) HA8.out.size ?_; intro v9 w9 hown9 hgrow9; rw [List.nil_append, Nat.zero_add] at hown9; obtain ⟨g9, c9, rfl⟩ := own_form hown9 (by omega); have HB9 : Hid (Below w7.heap.size w7 w9) := HA8.out.grown hgrow9 HA8.out.size (fun k e => (HO8.out.lt k e).1); have HO9 := Lib.hid hown9; clear hown9 hgrow9)
          | (at_builtin; refine wantZeros _ rfl _ _ 22 3 rfl w7.heap.size 5 i0 .i64 .i64 Tryd.underlying22 Tryd.underlying3 hi hz0 hz1 hz2 _ _ _ kk _ rfl rfl HO9.out HB9.out.size (by omega) ?_; intro v10 w10 hown10 hgrow10; have HB10 : Hid (Below w7.heap.size w7 w10) := HB9.out.grown hgrow10 HB9.out.size (fun k e => (HO9.out.lt k e).1); have HT10 : Hid (HT w10) := HT7.out.below HB10.out; obtain ⟨a10, c10, rfl, HS10⟩ := row_x hown10)
          | (go_at_call 31; ((with_reducible refine (linear_any _ (N + kk) _ _ HZB2.out HZL2.out HNK.out w10 _ HS10 HT10.out mv HLM.out).mono ?_); rintro e w2 ⟨rfl, rfl⟩))
          | (go_at_call 15; ((with_reducible refine (awake_any _ HT10.out).mono ?_); rintro e w11 ⟨rfl, hb11⟩)))
        go_ret
        exact ⟨rfl, HB5.out.trans ((HB7.out.trans ((HB10.out.trans (hb11.mono HB10.out.size)).mono HB7.out.size)).mono HB5.out.size)⟩

theorem clinear_walk (a0 : Option Addr) (len0 cap0 : Nat) (z0 : List Int) (a1 : Option Addr) (len1 cap1 : Nat) (z1 : List Int) (a2 : Int) (w : World) (w0 : IsRow .u8 w a0 len0 cap0 z0) (w1 : IsRow .u8 w a1 len1 cap1 z1) (w2 : (Lit.int .u16 a2).wf = true) (wx : HT w) :
    Calls Tryd.prog 11 #[.slice a0 len0 cap0, .slice a1 len1 cap1, .int .u16 a2] w fun e w' => e = .returned (.bool true) ∧ Below w.heap.size w w' := by
  obtain ⟨xs, hn, hS, hx, h1, h2⟩ := row_u8 w0
  obtain ⟨ys, hn', hS', hx', h1', h2'⟩ := row_u8 w1
  have b2 := bounds_u16 w2
  obtain ⟨x2, rfl⟩ : ∃ x : Nat, a2 = (x : Int) := ⟨a2.toNat, by omega⟩
  exact clinear_law a0 len0 cap0 xs hx hn h1 h2 a1 len1 cap1 ys hx' hn' h1' h2' x2 (by omega) w hS hS' wx

end Go.Proofs.YtoecddkglenigaaDoor
