/-
  The walk of CrcBits.
-/
import Derived.Test.YtoecddkglenigaaDoorRDam
import Derived.Test.YtoecddkglenigaaDoorConcat
import Derived.Deep.QuietTactic
import Derived.BigQuiet
namespace Go.Proofs.YtoecddkglenigaaDoor
open Go.RowKit
set_option linter.unusedVariables false

/-- What Bit returns. -/
def OutB (n k : Int) (x f : Int) : Prop :=
  ((n < 1 ∨ 16777216 < n ∨ k < 0 ∨ 8 * n ≤ k) ∧ x = 0 ∧ f = 2) ∨
  ∃ nn kk : Nat, n = nn ∧ k = kk ∧ 1 ≤ nn ∧ nn ≤ 100 ∧ kk < 8 * nn ∧ x = (Crc.part nn kk : Nat) ∧ f = 0
theorem outB_ex (n k : Int) (hn : n ≤ 100 ∨ 16777216 < n) : ∃ x f, OutB n k x f ∧ 0 ≤ f ∧ f ≤ 5 := by
  by_cases h : n < 1 ∨ 16777216 < n ∨ k < 0 ∨ 8 * n ≤ k
  · exact ⟨0, 2, .inl ⟨h, rfl, rfl⟩, by decide, by decide⟩
  · exact ⟨_, 0, .inr ⟨n.toNat, k.toNat, by omega, by omega, by omega, by omega, by omega, rfl, rfl⟩, by decide, by decide⟩
theorem bit_out (n k x f : Int) (h : OutB n k x f) (w : World) : Calls Tryd.prog 23 #[.int .i64 n, .int .i64 k] w fun e w' => e = .returned (.tuple #[.int .u32 x, .int .i64 f]) ∧ Below w.heap.size w w' := by
  rcases h with ⟨h, rfl, rfl⟩ | ⟨nn, kk, rfl, rfl, h1, h2, h3, rfl, rfl⟩
  · exact (bit_arg n k h w).mono fun e w' hh => by obtain ⟨h1, rfl⟩ := hh; exact ⟨h1, Below.refl _ _⟩
  · exact bit_any nn kk h1 (by omega) h3 _ rfl w
theorem rbit_out (n k x f : Int) (h : OutB n k x f) (w : World) : Calls Tryd.prog 42 #[.int .i64 n, .int .i64 k] w fun e w' => e = .returned (.tuple #[.int .u32 x, .int .i64 f]) ∧ Below w.heap.size w w' := by
  rcases h with ⟨h, rfl, rfl⟩ | ⟨nn, kk, rfl, rfl, h1, h2, h3, rfl, rfl⟩
  · exact (rbit_arg n k h w).mono fun e w' hh => by obtain ⟨h1, rfl⟩ := hh; exact ⟨h1, Below.refl _ _⟩
  · exact rbit_any nn kk h1 (by omega) h3 _ rfl w

/-- What Damages returns. -/
def OutD (n : Int) (zs : List Int) (d : Bool) (g : Int) : Prop :=
  ((n < 4 ∨ 16777216 < n) ∧ d = false ∧ g = 2) ∨
  (∃ nn : Nat, n = nn ∧ 4 ≤ nn ∧ nn ≤ 100 ∧ d = false ∧ ((¬ (∀ z ∈ zs, good nn z) ∧ g = 2) ∨ ((∀ z ∈ zs, good nn z) ∧ 4096 < zs.length ∧ g = 5))) ∨
  ∃ (nn : Nat) (ks : List Nat), n = nn ∧ 4 ≤ nn ∧ nn ≤ 100 ∧ zs = ks.map (fun x : Nat => (x : Int)) ∧ (∀ k ∈ ks, k < 8 * nn) ∧ ks.length ≤ 4096 ∧ d = decide (parts nn ks ≠ 0) ∧ g = 0
theorem outD_ex (n : Int) (zs : List Int) (hn : n ≤ 100 ∨ 16777216 < n) : ∃ d g, OutD n zs d g ∧ 0 ≤ g ∧ g ≤ 5 := by
  by_cases h : n < 4 ∨ 16777216 < n
  · exact ⟨false, 2, .inl ⟨h, rfl, rfl⟩, by decide, by decide⟩
  · by_cases hg : ∀ z ∈ zs, good n.toNat z
    · by_cases hl : 4096 < zs.length
      · exact ⟨false, 5, .inr (.inl ⟨n.toNat, by omega, by omega, by omega, rfl, .inr ⟨hg, hl, rfl⟩⟩), by decide, by decide⟩
      · refine ⟨_, 0, .inr (.inr ⟨n.toNat, zs.map Int.toNat, by omega, by omega, by omega, ?_, fun k hk => ?_, by rw [List.length_map]; omega, rfl, rfl⟩), by decide, by decide⟩
        · rw [List.map_map]
          exact ((List.map_congr_left (g := id) (fun z hz => by have := hg z hz; unfold good at this; show ((z.toNat : Nat) : Int) = z; omega)).trans (List.map_id zs)).symm
        · obtain ⟨z, hz, rfl⟩ := List.mem_map.1 hk
          have := hg z hz
          unfold good at this
          omega
    · exact ⟨false, 2, .inr (.inl ⟨n.toNat, by omega, by omega, by omega, rfl, .inl ⟨hg, rfl⟩⟩), by decide, by decide⟩
theorem seen_of_I {w : World} {B : Nat} {a : Option Addr} {ks : List Nat} (h : SeenI w B a (ks.map fun x : Nat => (x : Int))) : Seen w B .i64 a ks := fun i x hx => h i (x : Int) (by rw [List.getElem?_map, hx]; rfl)
section
variable (n : Int) (zs : List Int) (d : Bool) (g : Int) (h : OutD n zs d g) (a : Option Addr) (m cap : Nat) (hm : zs.length = m) (hm5 : m ≤ 100000) (B : Nat) (w : World) (hS : SeenI w B a zs) (hB : B ≤ w.heap.size)
include h hm hm5 hS hB
theorem damages_out : Calls Tryd.prog 25 #[.int .i64 n, .slice a m cap] w fun e w' => e = .returned (.tuple #[.bool d, .int .i64 g]) ∧ Below w.heap.size w w' := by
  rcases h with ⟨h, rfl, rfl⟩ | ⟨nn, rfl, h1, h2, rfl, h3⟩ | ⟨nn, ks, rfl, h1, h2, rfl, h3, h4, rfl, rfl⟩
  · exact (damages_arg n h _ w).mono fun e w' hh => by obtain ⟨h1, rfl⟩ := hh; exact ⟨h1, Below.refl _ _⟩
  · exact (damages_not nn h1 (by omega) a m cap zs hm hm5 g (by rw [hm] at h3; exact h3) B w hS hB).mono fun e w' hh => by obtain ⟨h1, rfl⟩ := hh; exact ⟨h1, Below.refl _ _⟩
  · rw [List.length_map] at hm
    exact damages_any nn h1 (by omega) a m cap ks h3 hm (by omega) _ rfl B w (seen_of_I hS) hB
theorem rdamages_out : Calls Tryd.prog 43 #[.int .i64 n, .slice a m cap] w fun e w' => e = .returned (.tuple #[.bool d, .int .i64 g]) ∧ Below w.heap.size w w' := by
  rcases h with ⟨h, rfl, rfl⟩ | ⟨nn, rfl, h1, h2, rfl, h3⟩ | ⟨nn, ks, rfl, h1, h2, rfl, h3, h4, rfl, rfl⟩
  · exact (rdamages_arg n h _ w).mono fun e w' hh => by obtain ⟨h1, rfl⟩ := hh; exact ⟨h1, Below.refl _ _⟩
  · exact (rdamages_not nn h1 (by omega) a m cap zs hm hm5 g (by rw [hm] at h3; exact h3) B w hS hB).mono fun e w' hh => by obtain ⟨h1, rfl⟩ := hh; exact ⟨h1, Below.refl _ _⟩
  · rw [List.length_map] at hm
    exact rdamages_any nn h1 (by omega) a m cap ks h3 hm (by omega) _ rfl B w (seen_of_I hS) hB
end

theorem own_emptyI (w : World) : (w.alloc (.cells #[] 3)).ownsRow w.heap.size 3 1 (.slice (some ⟨w.heap.size, 0, none⟩) 0 0) 0 ([] : List Value) := by
  have := World.ownsRow_lit (base := w.heap.size) (e := 3) (size := 1) w #[] 0 (Nat.le_refl _) (Nat.zero_le _) rfl
  simpa using this
theorem own_sliceI {w : World} {base n : Nat} {e : TypeId} {v : Value} {zs : List Int} (h : w.ownsRow base e 1 v n (zs.map fun x : Int => Value.int .i64 x)) :
    ∃ a c, v = .slice a n c ∧ SeenI w w.heap.size a zs := by
  have hl : zs.length = n := by simpa using h.1
  rcases h.2 with ⟨rfl, rfl⟩ | ⟨g, cap, cur, rfl, hg, hh, h1, h2, _⟩
  · exact ⟨none, 0, rfl, fun i z hz => by rw [List.eq_nil_of_length_eq_zero hl] at hz; cases hz⟩
  · refine ⟨_, cap, rfl, fun i z hz => ⟨g, 0, rfl, (Array.getElem?_eq_some_iff.1 hh).1, ?_⟩⟩
    have hi : i < zs.length := (List.getElem?_eq_some_iff.1 hz).1
    rw [Nat.zero_add, h.cellAt i (by omega), List.getElem?_map, hz]; rfl
theorem seenI_cells {w : World} {B : Nat} {ad : Addr} {zs : List Int} (h : SeenI w B (some ad) zs) : ∀ j u, (zs.map fun x : Int => Value.int .i64 x)[j]? = some u → w.cell? (ad.add j) = some u := by
  intro j u hu
  rw [List.getElem?_map] at hu
  cases hx : zs[j]? with
  | none => rw [hx] at hu; simp at hu
  | some x =>
    rw [hx] at hu
    simp at hu
    obtain ⟨b, off, e, _, hc⟩ := h j x hx
    cases e
    rw [← hu]
    by_cases h0 : j = 0
    · subst h0; simpa [Addr.add] using hc
    · simpa [Addr.add, h0] using hc
theorem app_ints (w : World) {ops : Array Oper} {rest : List Oper} {o : Oper} {a : Act} {Q : Exit → Act → World → Prop}
    (hg : o.guard = none) (s x : Operand) (hop : o.op = Op.call { callee := Callee.builtin Builtin.append, args := #[s, x], argTypes := #[27, 27] })
    (base : Nat) (v : Value) (hs : a.eval s = v) (hown : w.ownsRow base 3 1 v 0 [])
    (A : Option Addr) (m c : Nat) (zs : List Int) (hxl : zs.length = m) (hx : a.eval x = .slice A m c) (B : Nat) (hS : SeenI w B A zs) (hlen : m ≤ 100000) (hb : base ≤ w.heap.size)
    (hK : ∀ v' w', w'.ownsRow base 3 1 v' m (zs.map fun x : Int => Value.int .i64 x) → Below base w w' → wpList Tryd.prog ops Q rest (a.put o.dst v') w') : wpList Tryd.prog ops Q (o :: rest) a w := by
  obtain ⟨iI, hiI, zI0, zI1, zI2⟩ := info_parts infoI
  by_cases hm0 : m = 0
  · have e : zs = [] := List.eq_nil_of_length_eq_zero (hxl.trans hm0)
    refine wpList_append_zero w hg s x 27 hop 3 iI Tryd.underlying27 hiI base 1 0 v _ hs hown A m c hm0 hx (hK v w ?_ (Below.refl _ _))
    rw [e, hm0]; exact hown
  · obtain ⟨b, off, z, rfl, _, _, _⟩ := hS.at' (i := 0) (by omega)
    refine wpList_append_own w hg s x 27 hop base 3 iI (.int .i64 0) 1 8 Tryd.underlying27 hiI zI0 zI1 zI2 rfl (by decide) _ _ _ hs hown _ _ _ (zs.map fun x : Int => Value.int .i64 x) hx (by rw [List.length_map, hxl, Nat.mul_one]) (seenI_cells hS) (by intro u hu; obtain ⟨z, _, rfl⟩ := List.mem_map.1 hu; rfl) (by unfold maxLen; omega) (by omega) hb ?_
    intro v2 w2 hown2 hgrow2 _
    rw [Nat.zero_add] at hown2
    exact hK v2 w2 hown2 ((Below.refl base w).grown hgrow2 hb (fun k e => (hown.lt k e).1))

set_option maxRecDepth 100000 in
set_option maxHeartbeats 2000000 in
theorem bitsL_any (n k : Int) (hn : n ≤ 100 ∨ 16777216 < n) (a : Option Addr) (m cap : Nat) (zs : List Int) (hm : zs.length = m) (hm5 : m ≤ 100000) (w : World) (hS : SeenI w w.heap.size a zs) :
    Calls Tryd.prog 18 #[.int .i64 n, .int .i64 k, .slice a m cap] w fun e w' => e = .returned (.bool true) ∧ Below w.heap.size w w' := by
  obtain ⟨x, f, hB, hf0, hf5⟩ := outB_ex n k hn
  obtain ⟨d, g, hD, hg0, hg5⟩ := outD_ex n zs hn
  have hwf : IntKind.i64.wrap f = f := by rw [IntKind.wrap_i64]; omega
  have hwg : IntKind.i64.wrap g = g := by rw [IntKind.wrap_i64]; omega
  have HOB : Hid (OutB n k x f) := hB
  have HOD : Hid (OutD n zs d g) := hD
  have HM := Lib.hid hm
  have HM5 := Lib.hid hm5
  have hmi : (m : Int) ≤ 100000 := by omega
  have HS : Hid (SeenI w w.heap.size a zs) := hS
  clear hB hD hm hm5 hS hn
  go_enter Tryd.func18, Tryd.ntmps18
  go_wp2_with (first
    | (go_at_call 23; ((with_reducible refine (bit_out n k x f HOB.out w).mono ?_); rintro e w1 ⟨rfl, hb1⟩; have HB1 := Lib.hid hb1; clear hb1))
    | (go_at_call 42; ((with_reducible refine (rbit_out n k x f HOB.out w1).mono ?_); rintro e w2 ⟨rfl, hb2⟩; have HB2 := Lib.hid (HB1.out.trans (hb2.mono HB1.out.size)); have HO2 := Lib.hid (own_emptyI w2); have HA2 : Hid (Below w2.heap.size w2 (w2.alloc (.cells #[] 3))) := (Below.refl _ w2).alloc (Nat.le_refl _) _; clear hb2))
    | (at_builtin; refine app_ints _ rfl _ _ rfl w2.heap.size _ rfl HO2.out _ _ _ zs HM.out rfl w.heap.size (HS.out.below (HB2.out.trans (HA2.out.mono HB2.out.size))) HM5.out HA2.out.size ?_; intro v3 w3 hown3 hb3; have HB23 := Lib.hid (HA2.out.trans hb3); have HB3 := Lib.hid (HB2.out.trans (HB23.out.mono HB2.out.size)); obtain ⟨A3, c3, rfl, hS3⟩ := own_sliceI hown3; have HS3 : Hid (SeenI w3 w3.heap.size A3 zs) := hS3; clear hown3 hb3 hS3)
    | (go_at_call 25; ((with_reducible refine (damages_out n zs d g HOD.out A3 m _ HM.out HM5.out w3.heap.size w3 HS3.out (Nat.le_refl _)).mono ?_); rintro e w4 ⟨rfl, hb4⟩; have HB34 := Lib.hid hb4; have HB4 := Lib.hid (HB3.out.trans (hb4.mono HB3.out.size)); clear hb4))
    | (go_at_call 43; ((with_reducible refine (rdamages_out n zs d g HOD.out a m _ HM.out HM5.out w.heap.size w4 (HS.out.below HB4.out) HB4.out.size).mono ?_); rintro e w5 ⟨rfl, hb5⟩; have HB35 := Lib.hid (HB34.out.trans (hb5.mono HB34.out.size)); have HB5 := Lib.hid (HB4.out.trans (hb5.mono HB4.out.size)); clear hb5)))
  go_loopw [64] (fun iv wr => ∃ j : Nat, j ≤ m ∧ iv = .int .i64 j ∧ Below w5.heap.size w5 wr) (fun i _ => m - (intOf i).toNat)
  case atStart => exact ⟨0, Nat.zero_le _, rfl, Below.refl _ _⟩
  case round =>
    obtain ⟨j, hj, rfl, hbel⟩ := hrel
    have HBE := Lib.hid hbel
    clear hbel
    by_cases hjm : j < m
    · have hjl : j < zs.length := by rw [HM.out]; exact hjm
      have hjmi : (j : Int) < (m : Int) := by omega
      obtain ⟨b, off, z, hab, hz, _, hcell⟩ := (HS.out.below (HB5.out.trans (HBE.out.mono HB5.out.size))).at' hjl
      obtain ⟨b', off', z', hab', hz', _, hcell'⟩ := (HS3.out.below (HB35.out.trans (HBE.out.mono HB35.out.size))).at' hjl
      subst hab hab'
      obtain rfl : z = z' := by rw [hz] at hz'; exact Option.some.inj hz'
      clear hz hz' hjl
      go_wp2
      go_quiet (fail)
      have HBN : Hid (Below w5.heap.size w5 (wr.drewN nq)) := below_drewN HBE.out _
      obtain ⟨W6, hW6⟩ : ∃ W6, wr.drewN nq = W6 := ⟨_, rfl⟩
      rw [hW6] at HBN ⊢
      clear hW6
      go_wp2
      exact ⟨⟨j + 1, hjm, rfl, HBN.out⟩, by simp [intOf]; omega⟩
    · obtain rfl : j = m := by omega
      go_wp2
      go_ret
      exact ⟨rfl, HB5.out.trans (HBE.out.mono HB5.out.size)⟩

theorem row_i64 {w : World} {a : Option Addr} {len cap : Nat} {zs : List Int} (h : IsRow .i64 w a len cap zs) :
    ∃ ys : List Int, ys.length = len ∧ SeenI w w.heap.size a ys ∧ len ≤ cap ∧ cap ≤ maxLen := by
  rcases h with ⟨rfl, rfl, rfl, rfl⟩ | ⟨x, rfl, hl, hm, hz, hcell, hwz⟩
  · exact ⟨[], rfl, fun i z hz => (by cases hz), Nat.le_refl _, by unfold maxLen; omega⟩
  · refine ⟨zs.take len, by rw [List.length_take]; omega, fun i y hy => ?_, hl, hm⟩
    have hi : i < len := by have := (List.getElem?_eq_some_iff.1 hy).1; rw [List.length_take] at this; omega
    rw [List.getElem?_take_of_lt hi] at hy
    have hc := hcell i (by omega)
    obtain ⟨b, off, spot⟩ := x
    have hs : spot = none := by simpa [Addr.add] using World.cell?_spot (hcell 0 (by omega))
    subst hs
    have e : ((⟨b, off, none⟩ : Addr).add i) = ⟨b, off + i, none⟩ := by
      unfold Addr.add; split
      · rename_i h0; subst h0; rfl
      · rfl
    rw [e] at hc
    refine ⟨b, off, rfl, ?_, ?_⟩
    · rcases Nat.lt_or_ge b w.heap.size with h | h
      · exact h
      · simp [World.cell?, Array.getElem?_eq_none h] at hc
    · rw [hc, List.getD_eq_getElem?_getD, hy]; rfl

set_option maxRecDepth 100000 in
set_option maxHeartbeats 1000000 in
theorem cbits_law (n k : Int) (a : Option Addr) (m cap : Nat) (zs : List Int) (hm : zs.length = m) (hmc : m ≤ cap) (hcm : cap ≤ maxLen) (w : World) (hS : SeenI w w.heap.size a zs) (hT : HT w) :
    Calls Tryd.prog 5 #[.int .i64 n, .int .i64 k, .slice a m cap] w fun e w' => e = .returned (.bool true) ∧ Below w.heap.size w w' := by
  unfold maxLen at hcm
  have HM := Lib.hid hm
  have HS : Hid (SeenI w w.heap.size a zs) := hS
  have HTT : Hid (HT w) := hT
  clear hm hS hT
  by_cases h1 : 100 < n
  · by_cases h2 : n ≤ 16777216
    · go_enter Tryd.func5, Tryd.ntmps5
      go_wp2_with (go_at_call 15; ((with_reducible refine (awake_any _ HTT.out).mono ?_); rintro e w1 ⟨rfl, hb1⟩))
      go_ret
      exact ⟨rfl, hb1⟩
    · have h2b : decide (n ≤ 16777216) = false := decide_eq_false h2
      by_cases h3 : 40 < (m : Int)
      · by_cases h4 : (m : Int) ≤ 4096
        · go_enter Tryd.func5, Tryd.ntmps5
          go_wp2_with (go_at_call 15; ((with_reducible refine (awake_any _ HTT.out).mono ?_); rintro e w1 ⟨rfl, hb1⟩))
          go_ret
          exact ⟨rfl, hb1⟩
        · have h4b : decide ((m : Int) ≤ 4096) = false := decide_eq_false h4
          by_cases h5 : 4200 < (m : Int)
          · go_enter Tryd.func5, Tryd.ntmps5
            go_wp2_with (go_at_call 15; ((with_reducible refine (awake_any _ HTT.out).mono ?_); rintro e w1 ⟨rfl, hb1⟩))
            go_ret
            exact ⟨rfl, hb1⟩
          · have h5b : decide (4200 < (m : Int)) = false := decide_eq_false h5
            have HNN : Hid (n ≤ 100 ∨ 16777216 < n) := by show _ ∨ _; omega
            have HM5 : Hid (m ≤ 100000) := by show _ ≤ _; omega
            go_enter Tryd.func5, Tryd.ntmps5
            go_wp2_with (first
              | (go_at_call 18; ((with_reducible refine (bitsL_any n k HNN.out a m cap zs HM.out HM5.out _ HS.out).mono ?_); rintro e w1 ⟨rfl, hb1⟩; have HB1 := Lib.hid hb1; clear hb1))
              | (go_at_call 15; ((with_reducible refine (awake_any _ (HTT.out.below HB1.out)).mono ?_); rintro e w2 ⟨rfl, hb2⟩)))
            go_ret
            exact ⟨rfl, HB1.out.trans (hb2.mono HB1.out.size)⟩
      · have h3b : decide (40 < (m : Int)) = false := decide_eq_false h3
        have h5 : ¬ 4200 < (m : Int) := by omega
        have h5b : decide (4200 < (m : Int)) = false := decide_eq_false h5
        have HNN : Hid (n ≤ 100 ∨ 16777216 < n) := by show _ ∨ _; omega
        have HM5 : Hid (m ≤ 100000) := by show _ ≤ _; omega
        go_enter Tryd.func5, Tryd.ntmps5
        go_wp2_with (first
          | (go_at_call 18; ((with_reducible refine (bitsL_any n k HNN.out a m cap zs HM.out HM5.out _ HS.out).mono ?_); rintro e w1 ⟨rfl, hb1⟩; have HB1 := Lib.hid hb1; clear hb1))
          | (go_at_call 15; ((with_reducible refine (awake_any _ (HTT.out.below HB1.out)).mono ?_); rintro e w2 ⟨rfl, hb2⟩)))
        go_ret
        exact ⟨rfl, HB1.out.trans (hb2.mono HB1.out.size)⟩
  · have h1b : decide (100 < n) = false := decide_eq_false h1
    by_cases h3 : 40 < (m : Int)
    · by_cases h4 : (m : Int) ≤ 4096
      · go_enter Tryd.func5, Tryd.ntmps5
        go_wp2_with (go_at_call 15; ((with_reducible refine (awake_any _ HTT.out).mono ?_); rintro e w1 ⟨rfl, hb1⟩))
        go_ret
        exact ⟨rfl, hb1⟩
      · have h4b : decide ((m : Int) ≤ 4096) = false := decide_eq_false h4
        by_cases h5 : 4200 < (m : Int)
        · go_enter Tryd.func5, Tryd.ntmps5
          go_wp2_with (go_at_call 15; ((with_reducible refine (awake_any _ HTT.out).mono ?_); rintro e w1 ⟨rfl, hb1⟩))
          go_ret
          exact ⟨rfl, hb1⟩
        · have h5b : decide (4200 < (m : Int)) = false := decide_eq_false h5
          have HNN : Hid (n ≤ 100 ∨ 16777216 < n) := by show _ ∨ _; omega
          have HM5 : Hid (m ≤ 100000) := by show _ ≤ _; omega
          go_enter Tryd.func5, Tryd.ntmps5
          go_wp2_with (first
            | (go_at_call 18; ((with_reducible refine (bitsL_any n k HNN.out a m cap zs HM.out HM5.out _ HS.out).mono ?_); rintro e w1 ⟨rfl, hb1⟩; have HB1 := Lib.hid hb1; clear hb1))
            | (go_at_call 15; ((with_reducible refine (awake_any _ (HTT.out.below HB1.out)).mono ?_); rintro e w2 ⟨rfl, hb2⟩)))
          go_ret
          exact ⟨rfl, HB1.out.trans (hb2.mono HB1.out.size)⟩
    · have h3b : decide (40 < (m : Int)) = false := decide_eq_false h3
      have h5 : ¬ 4200 < (m : Int) := by omega
      have h5b : decide (4200 < (m : Int)) = false := decide_eq_false h5
      have HNN : Hid (n ≤ 100 ∨ 16777216 < n) := by show _ ∨ _; omega
      have HM5 : Hid (m ≤ 100000) := by show _ ≤ _; omega
      go_enter Tryd.func5, Tryd.ntmps5
      go_wp2_with (first
        | (go_at_call 18; ((with_reducible refine (bitsL_any n k HNN.out a m cap zs HM.out HM5.out _ HS.out).mono ?_); rintro e w1 ⟨rfl, hb1⟩; have HB1 := Lib.hid hb1; clear hb1))
        | (go_at_call 15; ((with_reducible refine (awake_any _ (HTT.out.below HB1.out)).mono ?_); rintro e w2 ⟨rfl, hb2⟩)))
      go_ret
      exact ⟨rfl, HB1.out.trans (hb2.mono HB1.out.size)⟩

theorem cbits_walk (a0 a1 : Int) (a2 : Option Addr) (len2 cap2 : Nat) (z2 : List Int) (w : World) (w0 : (Lit.int .i64 a0).wf = true) (w1 : (Lit.int .i64 a1).wf = true) (w2 : IsRow .i64 w a2 len2 cap2 z2) (wx : HT w) :
    Calls Tryd.prog 5 #[.int .i64 a0, .int .i64 a1, .slice a2 len2 cap2] w fun e w' => e = .returned (.bool true) ∧ Below w.heap.size w w' := by
  obtain ⟨ys, h1, h2, h3, h4⟩ := row_i64 w2
  exact cbits_law a0 a1 a2 len2 cap2 ys h1 h3 h4 w h2 wx

end Go.Proofs.YtoecddkglenigaaDoor
