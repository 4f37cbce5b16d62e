/-
  Count, Select.
-/
import Derived.Test.YtkochcolmkgkgaaDoorRank
namespace Go.Proofs.YtkochcolmkgkgaaDoor
open Go.RowKit
set_option linter.unusedVariables false

/-- What Select returns. -/
def SelOut (V N : Nat) (k : Int) (m : Nat) (b : Bool) : Prop := (b = true ∧ 0 ≤ k ∧ (Bm.ml V N)[k.toNat]? = some m) ∨ (b = false ∧ m = 0 ∧ (k < 0 ∨ Bm.cnt V N ≤ k.toNat))
theorem selOut_ex (V N : Nat) (k : Int) : ∃ m b, SelOut V N k m b := by
  by_cases h : k < 0
  · exact ⟨0, false, .inr ⟨rfl, rfl, .inl h⟩⟩
  · by_cases h2 : k.toNat < Bm.cnt V N
    · rw [← Bm.ml_length] at h2
      exact ⟨_, true, .inl ⟨rfl, by omega, List.getElem?_eq_getElem h2⟩⟩
    · exact ⟨0, false, .inr ⟨rfl, rfl, .inr (by omega)⟩⟩
namespace Bm
theorem ml_in {V N k m : Nat} {xs : List Nat} (hR : Rt N xs) (hV : val xs = V) {t : Nat} (ht : t ≤ xs.length) (h : (ml V (64 * t))[k]? = some m) : (ml V N)[k]? = some m := by
  obtain ⟨h1, h2, h3⟩ := ml_at.1 h
  refine ml_at.2 ⟨?_, h2, h3⟩
  rcases Nat.lt_or_ge m N with hl | hl
  · exact hl
  · have := Nat.testBit_lt_two_pow (Nat.lt_of_lt_of_le hR.2.2.2 (Nat.pow_le_pow_right (by decide : 0 < 2) hl))
    rw [hV] at this
    rw [this] at h2; cases h2
theorem cnt_whole {N : Nat} {xs : List Nat} (hR : Rt N xs) : cnt (val xs) (64 * xs.length) = cnt (val xs) N := cnt_past hR.2.2.2 (by have := hR.2.1; omega)
theorem drop_wl {z w j : Nat} (hz : z < 2 ^ 64) (hw : w < 2 ^ 64) (h : ml w 64 = (ml z 64).drop j) (hj : j < cnt z 64) : w ≠ 0 ∧ ml (wl w) 64 = (ml z 64).drop (j + 1) ∧ (ml z 64)[j]? = some (Lib.ctz 64 w) := by
  have hl := ml_length z 64
  have h0 : w ≠ 0 := by
    intro h0
    rw [(ml_none w hw).2 h0] at h
    have := congrArg List.length h
    rw [List.length_drop, List.length_nil] at this
    omega
  have e := ml_least w h0 hw
  refine ⟨h0, ?_, ?_⟩
  · rw [e] at h
    have := congrArg (List.drop 1) h
    simpa [List.drop_drop, Nat.add_comm] using this
  · rw [e] at h
    have := congrArg (fun l : List Nat => l[0]?) h
    simpa using this.symm
end Bm

section
variable (N : Nat) (a : Option Addr) (n c : Nat) (xs : List Nat) (hn : xs.length = n) (hc : n ≤ c) (hcm : c ≤ maxLen) (hR : Bm.Rt N xs) (w : World) (B : Nat) (hS : Seen w B .u64 a xs) (hB : B ≤ w.heap.size)
include hn hc hcm hR hS hB

set_option maxRecDepth 100000 in
set_option maxHeartbeats 1000000 in
theorem count_any (r : Nat) (hr : Bm.cnt (Bm.val xs) N = r) :
    Calls Tryd.prog 21 #[.agg #[.int .i64 N, .slice a n c]] w fun e w' => e = .returned (.int .i64 r) ∧ Below w.heap.size w w' := by
  have HR : Hid (Bm.Rt N xs) := hR
  have HN := Lib.hid hn
  have HS : Hid (Seen w B .u64 a xs) := hS
  have HB := Lib.hid hB
  have HC := Lib.hid hc
  have HCM : Hid (c ≤ maxLen) := hcm
  have HRR : Hid (Bm.cnt (Bm.val xs) ((N : Int)).toNat = r) := by show _ = _; rw [Int.toNat_natCast]; exact hr
  clear hn hR hS hc hcm hr
  go_enter Tryd.func21, Tryd.ntmps21
  go_wp2_with (go_at_call 25; ((with_reducible refine (rank_any N a n c xs HN.out HC.out HCM.out HR.out _ B (HS.out.alloc HB.out _) (by simp; omega) (N : Int) r HRR.out).mono ?_); rintro e w1 ⟨rfl, hb1⟩; have HB1 := Lib.hid hb1; clear hb1))
  go_ret
  exact ⟨rfl, below_alloc HB1.out⟩

variable (hT : HT w) (hB0 : 0 < B)
include hT hB0
set_option maxRecDepth 100000 in
set_option maxHeartbeats 1000000 in
theorem select_any (k : Int) (hk : k ≤ 9223372036854775807) (m : Nat) (bb : Bool) (hO : SelOut (Bm.val xs) N k m bb) :
    Calls Tryd.prog 20 #[.agg #[.int .i64 N, .slice a n c], .int .i64 k] w fun e w' => e = .returned (.tuple #[.int .i64 m, .bool bb]) ∧ Below w.heap.size w w' := by
  have HR : Hid (Bm.Rt N xs) := hR
  have HN := Lib.hid hn
  have HS : Hid (Seen w B .u64 a xs) := hS
  have HB := Lib.hid hB
  have HB0 := Lib.hid hB0
  unfold maxLen at hcm
  have hN : (N : Int) ≤ 65536 := by have := hR.1; omega
  have hnb : (n : Int) ≤ 1024 := by have := hR.2.1; omega
  have HTT : Hid (HT w) := hT
  by_cases h0 : k < 0
  · have h1 : decide (k < 0) = true := by simp; omega
    obtain ⟨rfl, rfl⟩ : m = 0 ∧ bb = false := by
      rcases hO with ⟨_, h, _⟩ | ⟨h1, h2, _⟩
      · omega
      · exact ⟨h2, h1⟩
    clear hn hR hS hO hT
    go_enter Tryd.func20, Tryd.ntmps20
    go_wp2_with (go_at_call 34; ((with_reducible refine (right_yes N a n c xs HN.out HR.out _ B (HS.out.alloc HB.out _) (by simp; omega)).mono ?_); rintro e w1 ⟨rfl, hb1⟩; have HB1 := Lib.hid hb1; obtain ⟨hc1, hf1⟩ := bcell hb1; clear hb1))
    go_ret2
    exact ⟨rfl, below_alloc HB1.out⟩
  · obtain ⟨K, rfl⟩ : ∃ K : Nat, k = (K : Int) := ⟨k.toNat, by omega⟩
    have h1 : decide ((K : Int) < 0) = false := by simp
    have HO : Hid (SelOut (Bm.val xs) N K m bb) := hO
    clear hn hR hS hO hT h0
    go_enter Tryd.func20, Tryd.ntmps20
    go_wp2_with (go_at_call 34; ((with_reducible refine (right_yes N a n c xs HN.out HR.out _ B (HS.out.alloc HB.out _) (by simp; omega)).mono ?_); rintro e w1 ⟨rfl, hb1⟩; have HB1 := Lib.hid hb1; obtain ⟨hc1, hf1⟩ := bcell hb1; clear hb1))
    have HW1 : Hid (Below w.heap.size w w1) := below_alloc HB1.out
    have HS1 : Hid (Seen w1 B .u64 a xs) := HS.out.below (HW1.out.mono HB.out)
    have HT1 : Hid (HT w1) := HTT.out.below HW1.out (by have := HB.out; have := HB0.out; omega)
    have hsz : w.heap.size < w1.heap.size := by have := HB1.out.size; simp at this; omega
    have hx0 : w1.cell? ⟨w.heap.size, 0, none⟩ = some (.int .i64 N) := (hc1 _ _ (by simp)).trans (by simp [go_sem])
    have hx1 : w1.cell? ⟨w.heap.size, 1, none⟩ = some (.slice a n c) := (hc1 _ _ (by simp)).trans (by simp [go_sem])
    clear hc1 hf1 HB1
    go_loopw [6, 21] (fun rv iv wr => ∃ t s : Nat, t ≤ n ∧ iv = .int .i64 t ∧ rv = .int .i64 s ∧ Hid (Bm.cnt (Bm.val xs) (64 * t) + s = K) ∧ w1 = wr) (fun _ i _ => n - (intOf i).toNat)
    case atStart => exact ⟨0, K, Nat.zero_le _, rfl, rfl, Nat.zero_add _, rfl⟩
    case round =>
      obtain ⟨t, s, ht, rfl, rfl, HK, rfl⟩ := hrel
      have hsK : (s : Int) ≤ 9223372036854775807 := by have := HK.out; omega
      by_cases htn : t < n
      · have htl : t < xs.length := by rw [HN.out]; omega
        obtain ⟨b, off, rfl, hb, hcell⟩ := HS1.out.at htl
        obtain ⟨z, hz⟩ : ∃ z, xs[t] = z := ⟨_, rfl⟩
        rw [hz] at hcell
        have hz64 : z < 2 ^ 64 := by rw [← hz]; exact HR.out.2.2.1 _ (List.getElem_mem _)
        have HZ : Hid ((z : Int) ≤ 18446744073709551615) := by show _ ≤ _; omega
        have HZ64 := Lib.hid hz64
        obtain ⟨p, hp⟩ : ∃ p, Bm.cnt z 64 = p := ⟨_, rfl⟩
        have hpl : p ≤ 64 := by rw [← hp]; exact Bm.cnt_le _ _
        have HP := Lib.hid hp
        have hxz : xs[t]? = some z := by rw [List.getElem?_eq_getElem htl, hz]
        have HK1 : Hid (Bm.cnt (Bm.val xs) (64 * (t + 1)) = Bm.cnt (Bm.val xs) (64 * t) + p) := by
          show _ = _
          rw [Nat.mul_add, Nat.mul_one, Bm.cnt_word xs HR.out.2.2.1 t 64 (Nat.le_refl _) z hxz, hp]
        have HXZ := Lib.hid hxz
        clear hz hz64 hp htl hxz
        by_cases hsp : s < p
        · have HL : Hid (∃ o, (Bm.ml z 64)[s]? = some o ∧ o < 64 ∧ m = 64 * t + o ∧ bb = true) := by
            have hl := Bm.ml_length z 64
            obtain ⟨o, ho⟩ : ∃ o, (Bm.ml z 64)[s]? = some o := ⟨_, List.getElem?_eq_getElem (by have := HP.out; omega)⟩
            have hol := (Bm.ml_at.1 ho).1
            have h1 : (Bm.ml (Bm.val xs) (64 * (t + 1)))[K]? = some (64 * t + o) := by
              rw [Bm.ml_word xs HR.out.2.2.1 t z HXZ.out, List.getElem?_append_right (by rw [Bm.ml_length]; have := HK.out; omega), Bm.ml_length, show K - Bm.cnt (Bm.val xs) (64 * t) = s by have := HK.out; omega, List.getElem?_map, ho]; rfl
            have h2 := Bm.ml_in HR.out rfl (show t + 1 ≤ xs.length by rw [HN.out]; omega) h1
            refine ⟨o, ho, hol, ?_⟩
            rcases HO.out with ⟨h3, _, h4⟩ | ⟨_, _, h4⟩
            · rw [Int.toNat_natCast, h2] at h4
              exact ⟨(Option.some.inj h4).symm, h3⟩
            · exfalso
              have := (List.getElem?_eq_some_iff.1 h2).1
              rw [Bm.ml_length] at this
              rw [Int.toNat_natCast] at h4
              omega
          obtain ⟨o, h1, h2, h3, rfl⟩ := HL.out
          have HOO := Lib.hid h1
          have HM := Lib.hid h3
          have ho64 : (o : Int) < 64 := by omega
          clear HL h1 h2 h3
          go_wp2_with (go_at_call 57; ((with_reducible refine (ones_any z HZ.out _).mono ?_); rintro e w3 ⟨rfl, rfl⟩; rw [HP.out]))
          go_loopw [8, 32] (fun zv jv wq => ∃ j y : Nat, j ≤ s ∧ jv = .int .i64 j ∧ zv = .int .u64 y ∧ Hid (y < 2 ^ 64) ∧ Hid (Bm.ml y 64 = (Bm.ml z 64).drop j) ∧ w1 = wq) (fun _ j _ => s - (intOf j).toNat)
          case atStart => exact ⟨0, z, Nat.zero_le _, rfl, rfl, HZ64.out, rfl, rfl⟩
          case round =>
            obtain ⟨j, y, hj, rfl, rfl, HY, HD, rfl⟩ := hrel
            obtain ⟨hy0, hy1, hy2⟩ := Bm.drop_wl HZ64.out HY.out HD.out (by have := HP.out; omega)
            have HY0 := Lib.hid hy0
            by_cases hjs : j < s
            · obtain ⟨v, hv⟩ : ∃ v, Bm.wl y = v := ⟨_, rfl⟩
              have HV := Lib.hid hv
              have HVL : Hid (v < 2 ^ 64) := by show _ < _; rw [← hv]; exact Bm.wl_lt HY.out
              have HVD : Hid (Bm.ml v 64 = (Bm.ml z 64).drop (j + 1)) := by show _ = _; rw [← hv]; exact hy1
              clear hv hy0 hy1 hy2
              go_wp2_with (go_at_call 58; ((with_reducible refine (without_any y v HY.out HY0.out HV.out _).mono ?_); rintro e w3 ⟨rfl, rfl⟩))
              exact ⟨⟨j + 1, v, hjs, by go_num, rfl, HVL, HVD, trivial⟩, by simp [intOf]; omega⟩
            · obtain rfl : s = j := by omega
              have HC : Hid (Lib.ctz 64 y = o) := by show _ = _; have := HOO.out; rw [hy2] at this; exact Option.some.inj this
              clear hy0 hy1 hy2
              go_wp2_with (go_at_call 59; ((with_reducible refine (least_any y o HY.out HY0.out HC.out _ HT1.out).mono ?_); rintro e w3 ⟨rfl, rfl⟩))
              go_ret2
              exact ⟨by rw [HM.out]; simp [Int.mul_comm], HW1.out⟩
        · have hspi : ¬ (s : Int) < (p : Int) := by omega
          have hsb : decide ((s : Int) < (p : Int)) = false := by simp; omega
          obtain ⟨s', hs'⟩ : ∃ s', s = p + s' := ⟨s - p, by omega⟩
          have hsi : (s : Int) - (p : Int) = (s' : Int) := by omega
          have HK2 : Hid (Bm.cnt (Bm.val xs) (64 * (t + 1)) + s' = K) := by show _ = _; rw [HK1.out]; have := HK.out; omega
          have hs'K : (s' : Int) ≤ 9223372036854775807 := by omega
          clear hs' hsp
          go_wp2_with (go_at_call 57; ((with_reducible refine (ones_any z HZ.out _).mono ?_); rintro e w3 ⟨rfl, rfl⟩; rw [HP.out]))
          exact ⟨⟨t + 1, s', htn, by go_num, rfl, HK2, trivial⟩, by simp [intOf]; omega⟩
      · obtain rfl : n = t := by omega
        have HE : Hid (m = 0 ∧ bb = false) := by
          rcases HO.out with ⟨_, _, h4⟩ | ⟨h1, h2, _⟩
          · exfalso
            have h5 := (List.getElem?_eq_some_iff.1 h4).1
            rw [Bm.ml_length, Int.toNat_natCast, ← Bm.cnt_whole HR.out, HN.out] at h5
            have := HK.out
            omega
          · exact ⟨h2, h1⟩
        obtain ⟨rfl, rfl⟩ := HE.out
        clear htn
        go_wp2
        go_ret2
        exact ⟨rfl, HW1.out⟩
end
end Go.Proofs.YtkochcolmkgkgaaDoor
