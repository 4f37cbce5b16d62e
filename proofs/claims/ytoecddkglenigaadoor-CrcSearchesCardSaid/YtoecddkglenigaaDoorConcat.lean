/-
  slices.Grow of nil, slices.Concat of two.
-/
import Derived.Test.YtoecddkglenigaaDoorOpen
import Derived.Test.YtoecddkglenigaaDoorWant
import Derived.Test.YtoecddkglenigaaDoorBursts
namespace Go.Proofs.YtoecddkglenigaaDoor
open Go.RowKit
set_option linter.unusedVariables false

theorem wpList_nil_zeros {P : Program} (w : World) {ops : Array Oper} {rest : List Oper} {o : Oper} {a : Act} {Q : Exit → Act → World → Prop}
    (hgd : o.guard = none) (s x : Operand) (t tn : TypeId) (hop : o.op = Op.call { callee := Callee.builtin Builtin.append, args := #[s, x], argTypes := #[t, tn] })
    (e : TypeId) (i : TypeInfo) (kq kn : IntKind) (ht : P.underlying t = some (.slice e)) (htn : P.underlying tn = some (.int kn)) (hi : P.info? e = some i) (hz : i.zero = some (.int .u8 0)) (hsz : i.size = 1) (hby : i.bytes = 1)
    (k : Nat) (hs : a.eval s = .slice none 0 0) (hx : a.eval x = .int kq k) (hk0 : 0 < k) (hk : k ≤ 1000000000)
    (hK : ∀ c w', k ≤ c → c ≤ maxLen → w'.ownsRow w.heap.size e 1 (.slice (some ⟨w.heap.size, 0, none⟩) 0 c) 0 [] → w.grownBy w' none → wpList P ops Q rest (a.put o.dst (.slice (some ⟨w.heap.size, 0, none⟩) k c)) w') :
    wpList P ops Q (o :: rest) a w := by
  refine wpList_plain hgd fun K hK' => ?_
  have hold : (Builtin.firstCells i.size 0 (.slice none 0 0)).run P w.drew = .ok ([] : List Value).toArray w.drew := by simp [Builtin.firstCells]
  have hnb : Builtin.nextslicecap (0 + k) 0 ≤ 281474976710656 := by
    have := growslice_fits (need := 0 + k) (old := 0) (bytes := 1) (by omega) (by omega)
    simpa using this
  have hr := Lib.run_append_grow_zeros (P := P) w t tn o.type e i (.int .u8 0) kq kn ht htn hi hz none 0 0 [] hold k hk0 (by omega) (by omega) (by omega) (by rw [hby]; omega) (by rw [hby, Nat.mul_one]; exact hnb)
  have hge := grownCap_ge w (0 + k) 0 e
  have hcm2 : grownCap w (0 + k) 0 e ≤ maxLen := grownCap_le_maxLen w (0 + k) 0 e (by unfold maxLen; omega)
  rw [Nat.zero_add] at hr hge hcm2
  unfold Oper.wp
  simp [execOp, hop, resolve, invoke, builtin, hs, hx, hr, Result.andThen]
  refine hK' _ _ (hK _ _ hge hcm2 ⟨rfl, .inr ⟨w.heap.size, _, _, rfl, Nat.le_refl _, heap_alloc_new w.drew _, Nat.zero_le _, hcm2, ?_, rfl⟩⟩ ⟨rfl, rfl, rfl, by simp, fun j hj _ => heap_alloc_old w.drew _ hj⟩)
  have hs1 : (Value.int IntKind.u8 0).cells.size = 1 := rfl
  simp only [Array.size_append, size_zeroCells, hs1]
  omega

set_option maxRecDepth 100000 in
set_option maxHeartbeats 1000000 in
theorem growNil_any (n : Nat) (hn : n ≤ 1000000) (w : World) :
    Calls Tryd.prog 57 #[.slice none 0 0, .int .i64 n] w fun e w' => ∃ v, e = .returned v ∧ w'.ownsRow w.heap.size 5 1 v 0 ([] : List Value) ∧ Below w.heap.size w w' := by
  obtain ⟨i0, hi, hz0, hz1, hz2⟩ := info_parts infoB
  have hni : (n : Int) ≤ 1000000 := by omega
  by_cases h0 : n = 0
  · have h1 : ¬ (0 : Int) < (n : Int) := by omega
    have h2 : decide ((0 : Int) < (n : Int)) = false := by simp; omega
    go_enter Tryd.func57, Tryd.ntmps57
    go_wp2
    go_ret
    exact ⟨_, rfl, ⟨rfl, .inl ⟨rfl, rfl⟩⟩, Below.refl _ _⟩
  · have h1 : (0 : Int) < (n : Int) := by omega
    go_enter Tryd.func57, Tryd.ntmps57
    go_wp2_with (at_builtin; refine wpList_nil_zeros _ rfl _ _ 22 3 rfl 5 i0 .i64 .i64 Tryd.underlying22 Tryd.underlying3 hi hz0 hz1 hz2 n rfl rfl (by omega) (by omega) ?_; intro c1 w1 hc1 hc2 hown hgrow; unfold maxLen at hc2)
    go_ret
    exact ⟨_, rfl, hown, (Below.refl _ w).grown hgrow (Nat.le_refl _) (fun k e => by cases e)⟩

theorem run_append_zero {P : Program} (w : World) (t ty e : TypeId) (i : TypeInfo) (ht : P.underlying t = some (.slice e)) (hi : P.info? e = some i) (A : Option Addr) (c : Nat) :
    (Builtin.append_ #[t, t] ty #[.slice none 0 0, .slice A 0 c]).run P w = .ok (.slice none 0 0) w := by
  cases A <;> simp [Builtin.append_, run_underlying ht, sizeOf, typeInfo, hi, Builtin.lenOf, Builtin.firstCells, loadCells, loadCellsFrom]
/-- append of nothing to an owned row. -/
theorem wpList_append_zero {P : Program} (w : World) {ops : Array Oper} {rest : List Oper} {o : Oper} {a : Act} {Q : Exit → Act → World → Prop}
    (hg : o.guard = none) (s x : Operand) (t : TypeId) (hop : o.op = Op.call { callee := Callee.builtin Builtin.append, args := #[s, x], argTypes := #[t, t] })
    (e : TypeId) (i : TypeInfo) (h1 : P.underlying t = some (.slice e)) (h2 : P.info? e = some i) (base size n : Nat) (v : Value) (xs : List Value) (hs : a.eval s = v) (hown : w.ownsRow base e size v n xs)
    (A : Option Addr) (m c : Nat) (hm : m = 0) (hx : a.eval x = .slice A m c) (hK : wpList P ops Q rest (a.put o.dst v) w) : wpList P ops Q (o :: rest) a w := by
  subst hm
  rcases hown.2 with ⟨rfl, rfl⟩ | ⟨g, cap, cur, rfl, _, _, hn, _⟩
  · refine wpList_plain hg fun K hK' => ?_
    have hrun := run_append_zero (P := P) w t o.type e i h1 h2 A c
    unfold Oper.wp
    simp [execOp, hop, resolve, invoke, builtin, hs, hx, hrun, Result.andThen]
    exact hK' _ _ hK
  · exact wpList_append_nothing w hg s x t hop e i h1 h2 _ n cap hs hn A 0 c rfl hx hK

/-- The lengths and the numbers of the first k of two. -/
def pre2 (n m k : Nat) : Nat := if k = 0 then 0 else if k = 1 then n else n + m
def cat2 (xs ys : List Nat) (k : Nat) : List Nat := if k = 0 then [] else if k = 1 then xs else xs ++ ys
theorem pre2_at {xs ys : List Nat} {n m k : Nat} (hn : xs.length = n) (hm : ys.length = m) {a b : Option Addr} {c d g B : Nat} {w w' : World} (hg : w.heap[g]? = some (.cells #[.slice a n c, .slice b m d] 22)) (hS : Seen w B .u8 a xs) (hS2 : Seen w B .u8 b ys) (hk : k < 2) :
    ∃ q l cq zs, w.cell? ⟨g, k, none⟩ = some (.slice q l cq) ∧ zs.length = l ∧ Seen w B .u8 q zs ∧ pre2 n m k + l = pre2 n m (k + 1) ∧ cat2 xs ys (k + 1) = cat2 xs ys k ++ zs ∧ (l = n ∨ l = m) := by
  have : k = 0 ∨ k = 1 := by omega
  rcases this with rfl | rfl
  · exact ⟨a, n, c, xs, by unfold World.cell?; rw [hg]; rfl, hn, hS, by simp [pre2], by simp [cat2], .inl rfl⟩
  · exact ⟨b, m, d, ys, by unfold World.cell?; rw [hg]; rfl, hm, hS2, by simp [pre2], by simp [cat2], .inr rfl⟩

set_option maxRecDepth 100000 in
set_option maxHeartbeats 2000000 in
theorem concat_any (a : Option Addr) (n c : Nat) (xs : List Nat) (hn : xs.length = n) (b : Option Addr) (m d : Nat) (ys : List Nat) (hm : ys.length = m) (hn5 : n ≤ 100000) (hm5 : m ≤ 100000) (B : Nat) (w : World) (g : Nat)
    (hg : w.heap[g]? = some (.cells #[.slice a n c, .slice b m d] 22)) (hS : Seen w B .u8 a xs) (hS2 : Seen w B .u8 b ys) (hBw : B ≤ w.heap.size) :
    Calls Tryd.prog 33 #[.slice (some ⟨g, 0, none⟩) 2 2] w fun e w' => ∃ v, e = .returned v ∧ w'.ownsRow w.heap.size 5 1 v (n + m) ((xs ++ ys).map fun x : Nat => Value.int .u8 x) ∧ Below w.heap.size w w' := by
  obtain ⟨i0, hi, hz0, hz1, hz2⟩ := info_parts infoB
  have HN := Lib.hid hn
  have HM := Lib.hid hm
  have HG := Lib.hid hg
  have HS : Hid (Seen w B .u8 a xs) := hS
  have HS2 : Hid (Seen w B .u8 b ys) := hS2
  have HB := Lib.hid hBw
  have hgs : g < w.heap.size := (Array.getElem?_eq_some_iff.1 hg).1
  have HGS := Lib.hid hgs
  clear hn hm hg hS hS2 hBw hgs
  go_enter Tryd.func33, Tryd.ntmps33
  go_wp2
  go_loopw [3, 11] (fun sv iv wr => ∃ k s : Nat, k ≤ 2 ∧ iv = .int .i64 k ∧ sv = .int .i64 s ∧ Hid (pre2 n m k = s) ∧ w = wr) (fun _ i _ => 2 - (intOf i).toNat)
  case atStart => exact ⟨0, 0, by omega, rfl, rfl, rfl, rfl⟩
  case round =>
    obtain ⟨k, s, hk, rfl, rfl, HP, rfl⟩ := hrel
    by_cases hk2 : k < 2
    · obtain ⟨q, l, cq, zs, hcell, hz, _, hpre, _, hl⟩ := pre2_at (w' := w) HN.out HM.out HG.out HS.out HS2.out hk2
      have hs : s ≤ 200000 := by rw [← HP.out]; unfold pre2; split <;> (try split) <;> omega
      obtain ⟨u, hu⟩ : ∃ u, s + l = u := ⟨_, rfl⟩
      have HP1 : Hid (pre2 n m (k + 1) = u) := by show _ = _; rw [← hpre, HP.out]; exact hu
      have hsl : (s : Int) + (l : Int) = (u : Int) := by omega
      have hu5 : (u : Int) ≤ 300000 := by omega
      have hng : ¬ (u : Int) < 0 := by omega
      have hngb : decide ((u : Int) < 0) = false := by simp
      clear hpre hz hl hu
      go_wp2
      exact ⟨⟨k + 1, u, hk2, rfl, rfl, HP1, trivial⟩, by simp [intOf]; omega⟩
    · obtain ⟨T, hT⟩ : ∃ T, n + m = T := ⟨_, rfl⟩
      have HE : Hid (s = T) := by
        show _ = _
        have h : k = 2 := by omega
        rw [← HP.out, h, ← hT]; rfl
      obtain rfl : s = T := HE.out
      have hT1 : s ≤ 1000000 := by omega
      have HT1 := Lib.hid hT1
      have hTi : (s : Int) ≤ 1000000 := by omega
      clear hT HE
      have hk3 : 2 ≤ k := by omega
      clear hk2
      go_wp2_with (go_at_call 57; ((with_reducible refine (growNil_any s HT1.out _).mono ?_); rintro e w1 ⟨v1, rfl, hown1, hb1⟩))
      have HB1 : Hid (Below w.heap.size w w1) := hb1
      have HO1 : Hid (w1.ownsRow w.heap.size 5 1 v1 (pre2 n m 0) ((cat2 xs ys 0).map fun x : Nat => Value.int .u8 x)) := hown1
      clear hown1 hb1
      go_loopw [6, 27] (fun v iv wr => ∃ k : Nat, k ≤ 2 ∧ iv = .int .i64 k ∧ wr.ownsRow w.heap.size 5 1 v (pre2 n m k) ((cat2 xs ys k).map fun x : Nat => Value.int .u8 x) ∧ Below w.heap.size w wr) (fun _ i _ => 2 - (intOf i).toNat)
      case atStart => exact ⟨0, by omega, rfl, HO1.out, HB1.out⟩
      case round =>
        obtain ⟨k', hk', rfl, hrow, hbel⟩ := hrel
        have HROW := Lib.hid hrow
        have HBE := Lib.hid hbel
        clear hrow hbel
        by_cases hk2 : k' < 2
        · obtain ⟨q, l, cq, zs, hcell, hz, hSz, hpre, hcat, hl⟩ := pre2_at (w' := w) HN.out HM.out ((HBE.out.block g HGS.out).trans HG.out) (HS.out.below (HBE.out.mono HB.out)) (HS2.out.below (HBE.out.mono HB.out)) hk2
          have HSZ : Hid (Seen wr B .u8 q zs) := hSz
          have HPRE := Lib.hid hpre
          have HCAT := Lib.hid hcat
          have HZL := Lib.hid hz
          have HL5 : Hid (l ≤ 100000) := by show _ ≤ _; omega
          have HP5 : Hid (pre2 n m k' ≤ 200000) := by show _ ≤ _; unfold pre2; split <;> (try split) <;> omega
          clear hSz hpre hcat hl hz
          by_cases hl0 : l = 0
          · have H0 := Lib.hid hl0
            have HE : Hid (pre2 n m (k' + 1) = pre2 n m k' ∧ cat2 xs ys (k' + 1) = cat2 xs ys k') := by
              refine ⟨by have := HPRE.out; omega, ?_⟩
              rw [HCAT.out, List.eq_nil_of_length_eq_zero (HZL.out.trans hl0), List.append_nil]
            clear hl0
            go_wp2_with (at_builtin; refine wpList_append_zero _ rfl _ _ 22 rfl 5 i0 Tryd.underlying22 hi w.heap.size 1 _ _ _ rfl HROW.out _ _ _ H0.out rfl ?_)
            exact ⟨⟨k' + 1, hk2, rfl, by rw [HE.out.1, HE.out.2]; exact HROW.out, HBE.out⟩, by simp [intOf]; omega⟩
          · obtain ⟨b1, o1, rfl, _, _⟩ := HSZ.out.at (i := 0) (by rw [HZL.out]; omega)
            go_wp2_with (at_builtin; refine wpList_append_own _ rfl _ _ 22 rfl w.heap.size 5 i0 (.int .u8 0) 1 1 Tryd.underlying22 hi hz0 hz1 hz2 rfl (by decide) _ _ _ rfl HROW.out _ _ _ (zs.map fun x : Nat => Value.int .u8 x) rfl (by rw [List.length_map, HZL.out, Nat.mul_one]) (seen_cells HSZ.out) (by intro u hu; obtain ⟨z, _, rfl⟩ := List.mem_map.1 hu; rfl) (by have := HP5.out; have := HL5.out; unfold maxLen; omega) (by have := HP5.out; have := HL5.out; omega) HBE.out.size ?_; intro v6 w6 hown6 hgrow6 _)
            exact ⟨⟨k' + 1, hk2, rfl, by rw [← HPRE.out, HCAT.out, List.map_append]; exact hown6, HBE.out.grown hgrow6 HBE.out.size (fun j ej => (HROW.out.lt j ej).1)⟩, by simp [intOf]; omega⟩
        · have hk4 : 2 ≤ k' := by omega
          have he : k' = 2 := by omega
          have hrow := HROW.out
          rw [he] at hrow
          have HR2 : Hid (wr.ownsRow w.heap.size 5 1 u6 (n + m) ((xs ++ ys).map fun x : Nat => Value.int .u8 x)) := hrow
          clear hrow he hk2
          go_wp2
          go_ret
          exact ⟨_, rfl, HR2.out, HBE.out⟩
end Go.Proofs.YtoecddkglenigaaDoor
