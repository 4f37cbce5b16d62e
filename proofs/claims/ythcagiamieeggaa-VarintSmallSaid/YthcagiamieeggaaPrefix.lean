/-
  The walk of VarintPrefix.
-/
import Derived.Deep.RegionWith
import Derived.OpenShut
import Derived.Test.YthcagiamieeggaaAwake
import Derived.Test.YthcagiamieeggaaForms
import Derived.Test.YthcagiamieeggaaZigzag
namespace Go.Proofs.Ythcagiamieeggaa
open Go.RowKit
set_option linter.unusedVariables false

theorem seen_take {w : World} {B : Nat} {k : IntKind} {a : Option Addr} {xs : List Nat} (h : Seen w B k a xs) (n : Nat) : Seen w B k a (xs.take n) := fun i x hx => by
  rw [List.getElem?_take] at hx
  split at hx
  · exact h i x hx
  · simp at hx

theorem read_at (w : World) (a : Option Addr) (c : Nat) (bs : List Nat) (n : Nat) (r : Nat × Nat × Int) (hn : bs.length = n) (hr : Vi.read bs = r) (hbs : ∀ y ∈ bs, y < 256) (B : Nat) (hS : Seen w B .u8 a bs) (hB : B ≤ w.heap.size) (hlen : n ≤ maxLen) :
    Calls Try.prog 18 #[.slice a n c] w fun e w' => e = .returned (.tuple #[.int .u64 r.1, .int .i64 r.2.1, .int .i64 r.2.2]) ∧ Below w.heap.size w w' := by
  subst hn; subst hr
  exact read_any w a c bs hbs (hS.more hB) hlen
theorem same_at (a b : Option Addr) (c d : Nat) (xs ys : List Nat) (n m : Nat) (r : Bool) (hn : xs.length = n) (hm : ys.length = m) (hr : decide (xs = ys) = r) (B1 B2 : Nat) (w : World) (hx : Seen w B1 .u8 a xs) (hy : Seen w B2 .u8 b ys) (hxl : n ≤ maxLen) (hyl : m ≤ maxLen) :
    Calls Try.prog 19 #[.slice a n c, .slice b m d] w fun e w' => e = .returned (.bool r) ∧ Below w.heap.size w w' := by
  subst hn; subst hm; subst hr
  exact sameBytes_any a b c d xs ys (max B1 B2) w (hx.more (by omega)) (hy.more (by omega)) hxl hyl
theorem own_cap {w : World} {base size n g cap : Nat} {e : TypeId} {xs : List Value} (h : w.ownsRow base e size (.slice (some ⟨g, 0, none⟩) n cap) n xs) : n ≤ cap ∧ cap ≤ maxLen := by
  rcases h.2 with ⟨h1, _⟩ | ⟨g, cap', cur, hv, _, _, h1, h2, _⟩
  · cases h1
  · injection hv with _ _ e; subst e; exact ⟨h1, h2⟩

set_option maxRecDepth 100000 in
set_option maxHeartbeats 4000000 in
theorem prefix_law (x y : Nat) (hx : x < 2 ^ 64) (hy : y < 2 ^ 64) (w : World) :
    Calls Try.prog 9 #[.int .u64 x, .int .u64 y] w fun e w' => e = .returned (.bool true) ∧ Below w.heap.size w w' := by
  have la1 := Vi.form_len10 x hx
  have lb1 := Vi.form_len10 y hy
  have la0 := Vi.form_pos x
  have lb0 := Vi.form_pos y
  go_enter Try.func9, Try.ntmps9
  go_wp2_with (first
    | (go_at_call 13; refine (awake_any _).mono ?_; rintro e w1 ⟨rfl, hB1⟩)
    | (go_at_call_of 16 x; refine (write_any x hx _).mono ?_; rintro e w2 ⟨v, rfl, hown1, hB2⟩; obtain ⟨g1, c1, rfl⟩ := own_form hown1 la0)
    | (go_at_call_of 16 y; refine (write_any y hy _).mono ?_; rintro e w3 ⟨v, rfl, hown2, hB3⟩; obtain ⟨g2, c2, rfl⟩ := own_form hown2 lb0))
  have S1 := ((Seen.of_own (k := .u8) hown1).below hB3).more hB3.size
  have S2 := Seen.of_own (k := .u8) hown2
  have hBw := (hB1.trans (hB2.mono hB1.size)).trans (hB3.mono (Nat.le_trans hB1.size hB2.size))
  have hc1 := own_cap hown1
  have hc2 := own_cap hown2
  obtain ⟨la, hla⟩ : ∃ la, (Vi.form x).length = la := ⟨_, rfl⟩
  obtain ⟨lb, hlb⟩ : ∃ lb, (Vi.form y).length = lb := ⟨_, rfl⟩
  rw [hla] at la1 la0 hc1 ⊢
  rw [hlb] at lb1 lb0 hc2 ⊢
  have HLA := Lib.hid hla
  have HLB := Lib.hid hlb
  clear hown1 hown2 hB1 hB2 hB3 hla hlb
  have hm1 : c1 ≤ 9223372036854775807 := hc1.2
  have hm2 : c2 ≤ 9223372036854775807 := hc2.2
  have hn1 := hc1.1
  have hn2 := hc2.1
  clear hc1 hc2
  go_loopw [20] (fun i wr => ∃ k : Nat, k ≤ la ∧ i = .int .i64 k ∧ Below w3.heap.size w3 wr) (fun i _ => la - (intOf i).toNat)
  case atStart => exact ⟨0, by omega, rfl, Below.refl _ _⟩
  case round =>
    obtain ⟨k, hk, rfl, hB⟩ := hrel
    by_cases hlt : k < la
    · have hR : Vi.read ((Vi.form x).take k) = (0, 0, 10) := Vi.read_cut x k hx (by rw [HLA.out]; exact hlt)
      have HR := Lib.hid hR
      clear hR
      go_wp2_with (go_at_call 18; refine (read_at _ _ _ ((Vi.form x).take k) _ _ (by rw [List.length_take, HLA.out]; omega) HR.out (fun z hz => Vi.form_byte x z (List.mem_of_mem_take hz)) _ (seen_take (S1.below hB) k) hB.size (by unfold maxLen; omega)).mono ?_; rintro e w4 ⟨rfl, hB4⟩)
      exact ⟨⟨k + 1, by omega, by go_num, hB.trans (hB4.mono hB.size)⟩, by simp [intOf]; omega⟩
    · obtain rfl : k = la := by omega
      clear hlt
      rcases Nat.lt_trichotomy k lb with hc | hc | hc
      · have hxy : x < y := by
          rcases Nat.lt_or_ge x y with h | h
          · exact h
          · have := Vi.form_mono y x h; rw [HLA.out, HLB.out] at this; omega
        have HD : Hid (decide (Vi.form x = (Vi.form y).take k) = false) := by
          simp only [Hid, decide_eq_false_iff_not]; intro h; rw [← HLA.out] at h; exact absurd (Vi.form_prefix hx hy h) (by omega)
        go_wp2_with (go_at_call 19; refine (same_at _ _ _ _ (Vi.form x) ((Vi.form y).take k) _ _ false HLA.out (by rw [List.length_take, HLB.out]; omega) HD.out _ _ _ (S1.below hB) (seen_take (S2.below hB) k) (by unfold maxLen; omega) (by unfold maxLen; omega)).mono ?_; rintro e w5 ⟨rfl, hB5⟩)
        go_ret
        exact ⟨rfl, (hBw.trans (hB.mono hBw.size)).trans (hB5.mono (Nat.le_trans hBw.size hB.size))⟩
      · subst hc
        by_cases hxy : x = y
        focus
          have hxe : ((x : Int) != (y : Int)) = false := by simp; omega
          have HXY := Lib.hid hxy
          clear hxy
          go_wp2_with (fail)
          obtain ⟨wz, rfl⟩ : ∃ wz : World, wz = wr := ⟨_, rfl⟩
          have hBz := hB
          clear hB hxe HXY
        rotate_left
        focus
          have HD : Hid (decide (Vi.form x = (Vi.form y).take k) = false) := by
            simp only [Hid, decide_eq_false_iff_not]; intro h; rw [← HLA.out] at h; exact absurd (Vi.form_prefix hx hy h) (by omega)
          go_wp2_with (go_at_call 19; refine (same_at _ _ _ _ (Vi.form x) ((Vi.form y).take k) _ _ false HLA.out (by rw [List.length_take, HLB.out]; omega) HD.out _ _ _ (S1.below hB) (seen_take (S2.below hB) k) (by unfold maxLen; omega) (by unfold maxLen; omega)).mono ?_; rintro e wz ⟨rfl, hB5⟩)
          have hBz := hB.trans (hB5.mono hB.size)
          clear hB hxy HD hB5
        all_goals
          go_loopw [11] (fun i wr2 => ∃ j : Nat, j < k ∧ i = .int .i64 j ∧ Hid (∀ t, j < t → (Vi.form x)[t]? = (Vi.form y)[t]?) ∧ Below w3.heap.size w3 wr2) (fun i _ => (intOf i).toNat)
          case atStart =>
            refine ⟨k - 1, by omega, by rw [show ((k - 1 : Nat) : Int) = (k : Int) - 1 from by omega], fun t ht => ?_, hBz⟩
            rw [List.getElem?_eq_none (by have := HLA.out; omega), List.getElem?_eq_none (by have := HLB.out; omega)]
          case round =>
            obtain ⟨j, hj, rfl, HJ, hB2⟩ := hrel
            obtain ⟨u, hu⟩ : ∃ u, (Vi.form x)[j]? = some u := ⟨_, List.getElem?_eq_getElem (by have := HLA.out; omega)⟩
            obtain ⟨v, hv⟩ : ∃ v, (Vi.form y)[j]? = some v := ⟨_, List.getElem?_eq_getElem (by have := HLB.out; omega)⟩
            obtain ⟨b1, o1, he1, _, hcu⟩ := (S1.below hB2) j u hu
            obtain ⟨b2, o2, he2, _, hcv⟩ := (S2.below hB2) j v hv
            cases he1; cases he2
            rw [Nat.zero_add] at hcu hcv
            have hord : (j = 0 ∨ u ≠ v) → ((u < v) ↔ (x < y)) := fun h => Vi.form_order x y hx hy (by rw [HLA.out, HLB.out]) j u v hu hv h HJ.out
            have i1 : (j : Int) < (k : Int) := by omega
            have i0 : (0 : Int) ≤ (j : Int) := by omega
            have hBf := hBw.trans (hB2.mono hBw.size)
            have HU : Hid (u = v → ∀ t, j - 1 < t → (Vi.form x)[t]? = (Vi.form y)[t]?) := fun h t ht => by
              by_cases e : t = j
              · rw [e, hu, hv, h]
              · exact HJ.out t (by omega)
            by_cases hj0 : j = 0
            · have g0 : decide ((0 : Int) < (j : Int)) = false := by simp; omega
              have g0n : decide (0 < j) = false := by simp; omega
              have HO : Hid (decide (u < v) = decide (x < y)) := by
                have := hord (.inl hj0); simp only [Hid, decide_eq_decide]; exact this
              clear hord HJ hu hv hj0
              go_wp2
              go_quiet (fail)
              go_wp2
              go_quiet (fail)
              go_wp2
              go_ret
              exact ⟨ret_true (c := decide ((j : Int) < 0) || decide (u < v) == decide (x < y)) (by rw [HO.out]; simp), below_drewN (below_drewN hBf _) _⟩
            · have i2 : (0 : Int) < (j : Int) := by omega
              have i2n : 0 < j := by omega
              by_cases huv : u = v
              · have g1 : ((u : Int) == (v : Int)) = true := by simp; omega
                have HU2 := Lib.hid (HU.out huv)
                clear hord HJ hu hv hj0 huv HU
                go_wp2
                go_quiet (fail)
                go_wp2
                exact ⟨⟨j - 1, by omega, by rw [show ((j - 1 : Nat) : Int) = (j : Int) - 1 from by omega], HU2.out, below_drewN hB2 _⟩, by simp [intOf]; omega⟩
              · have g1 : ((u : Int) == (v : Int)) = false := by simp; omega
                have HO : Hid (decide (u < v) = decide (x < y)) := by
                  have := hord (.inr huv); simp only [Hid, decide_eq_decide]; exact this
                clear hord HJ hu hv hj0 huv HU
                go_wp2
                go_quiet (fail)
                go_wp2
                go_quiet (fail)
                go_wp2
                go_ret
                exact ⟨ret_true (c := decide ((j : Int) < 0) || decide (u < v) == decide (x < y)) (by rw [HO.out]; simp), below_drewN (below_drewN hBf _) _⟩
      · have hxy : y < x := by
          rcases Nat.lt_or_ge y x with h | h
          · exact h
          · have := Vi.form_mono x y h; rw [HLA.out, HLB.out] at this; omega
        go_wp2_with (fail)
        go_ret
        exact ⟨rfl, hBw.trans (hB.mono hBw.size)⟩

theorem prefix_walk (a0 : Int) (a1 : Int) (w0 : (Lit.int .u64 a0).wf = true) (w1 : (Lit.int .u64 a1).wf = true) (w : World) :
    Calls Try.prog 9 #[.int .u64 a0, .int .u64 a1] w fun e w' => e = .returned (.bool true) ∧ Below w.heap.size w w' := by
  have b0 := bounds_u64 w0
  have b1 := bounds_u64 w1
  obtain ⟨x, rfl⟩ := Int.eq_ofNat_of_zero_le b0.1
  obtain ⟨y, rfl⟩ := Int.eq_ofNat_of_zero_le b1.1
  exact prefix_law x y (by omega) (by omega) w

end Go.Proofs.Ythcagiamieeggaa
