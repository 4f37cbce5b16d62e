/-
  quantumkit.SameNums, Pick; sameRuns.
-/
import Derived.Test.YtkochcolmkgkgaaDoorRuns
import Derived.Test.YtkochcolmkgkgaaDoorPairEq
import Derived.Deep.QuietTactic
import Derived.BigQuiet
namespace Go.Proofs.YtkochcolmkgkgaaDoor
open Go.RowKit
set_option linter.unusedVariables false

theorem take_snoc (l : List Nat) (k : Nat) (h : k < l.length) : l.take (k + 1) = l.take k ++ [l[k]] := List.take_succ_eq_append_getElem h

/-- Are two slices of numbers the same? -/
theorem sameNums_any (a b : Option Addr) (c d : Nat) (xs ys : List Nat) (B : Nat) (w : World) (hx : Seen w B .u64 a xs) (hy : Seen w B .u64 b ys) (hxl : xs.length ≤ maxLen) (hyl : ys.length ≤ maxLen) :
    Calls Tryd.prog 33 #[.slice a xs.length c, .slice b ys.length d] w fun e w' => e = .returned (.bool (decide (xs = ys))) ∧ Below w.heap.size w w' := by
  unfold maxLen at hxl hyl
  by_cases hl : xs.length = ys.length
  · have el : ((xs.length : Int) != (ys.length : Int)) = false := by simp; omega
    have HL := Lib.hid hl
    clear hl
    go_enter Tryd.func33, Tryd.ntmps33
    go_wp2
    go_loopw [5] (fun i wr => ∃ k : Nat, k ≤ xs.length ∧ i = .int .i64 k ∧ Hid (xs.take k = ys.take k) ∧ ∃ q, wr = w.drewN q) (fun i _ => xs.length - (intOf i).toNat)
    case atStart => exact ⟨0, by omega, rfl, rfl, 0, rfl⟩
    case round =>
      obtain ⟨k, hk, rfl, HT, q, rfl⟩ := hrel
      by_cases hlt : k < xs.length
      · have hlt2 : k < ys.length := by have := HL.out; omega
        obtain ⟨b1, o1, rfl, _, hc1⟩ := hx.at hlt
        obtain ⟨b2, o2, rfl, _, hc2⟩ := hy.at hlt2
        obtain ⟨u, hu⟩ : ∃ u, xs[k] = u := ⟨_, rfl⟩
        obtain ⟨v, hv⟩ : ∃ v, ys[k] = v := ⟨_, rfl⟩
        rw [hu] at hc1
        rw [hv] at hc2
        have i1 : (k : Int) < (xs.length : Int) := by omega
        have i2 : (k : Int) < (ys.length : Int) := by omega
        have i0 : (0 : Int) ≤ (k : Int) := by omega
        by_cases huv : u = v
        · have HN : Hid (xs.take (k + 1) = ys.take (k + 1)) := by rw [take_snoc xs k hlt, take_snoc ys k hlt2, hu, hv, huv, HT.out]; rfl
          have e1 : ((u : Int) != (v : Int)) = false := by simp; omega
          clear hu hv huv
          go_wp2
          go_quiet (fail)
          go_wp2
          exact ⟨⟨k + 1, by omega, by go_num, HN, q + nq, rfl⟩, by simp [intOf]; omega⟩
        · have HN : Hid (decide (xs = ys) = false) := by
            simp only [Hid, decide_eq_false_iff_not]; intro h; subst h; exact huv (hu.symm.trans hv)
          have e1 : ((u : Int) != (v : Int)) = true := by simp; omega
          clear hu hv huv
          go_wp2
          go_quiet (fail)
          go_wp2
          go_ret
          exact ⟨by rw [HN.out]; rfl, below_drewN (below_drewN (Below.refl _ _) q) nq⟩
      · obtain rfl : k = xs.length := by omega
        have HN : Hid (decide (xs = ys) = true) := by
          have := HT.out
          rw [List.take_length, HL.out, List.take_length] at this
          simpa [Hid] using this
        clear HT
        go_wp2
        go_ret
        exact ⟨by rw [HN.out]; rfl, below_drewN (Below.refl _ _) q⟩
  · have el : ((xs.length : Int) != (ys.length : Int)) = true := by simp; omega
    have hne : decide (xs = ys) = false := by simp; intro h; exact hl (by rw [h])
    rw [hne]
    clear hl
    go_enter Tryd.func33, Tryd.ntmps33
    go_wp2
    go_ret
    exact ⟨rfl, Below.refl _ _⟩

theorem sameNums_at (a b : Option Addr) (c d : Nat) (xs ys : List Nat) (n m : Nat) (r : Bool) (hn : xs.length = n) (hm : ys.length = m) (hr : decide (xs = ys) = r) (B1 B2 : Nat) (w : World) (hx : Seen w B1 .u64 a xs) (hy : Seen w B2 .u64 b ys) (hxl : n ≤ maxLen) (hyl : m ≤ maxLen) :
    Calls Tryd.prog 33 #[.slice a n c, .slice b m d] w fun e w' => e = .returned (.bool r) ∧ Below w.heap.size w w' := by
  subst hn; subst hm; subst hr
  exact sameNums_any a b c d xs ys (max B1 B2) w (hx.more (by omega)) (hy.more (by omega)) hxl hyl

theorem pick_any (i : Int) (n : Nat) (hn : 0 < n) (hn2 : n ≤ 1000000) (h1 : -9223372036854775808 ≤ i) (h2 : i ≤ 9223372036854775807) (w : World) :
    Calls Tryd.prog 29 #[.int .i64 i, .int .i64 n] w fun e w' => (∃ k : Nat, k < n ∧ e = .returned (.int .i64 k)) ∧ w = w' := by
  obtain ⟨r, hr⟩ : ∃ r, i.tmod (n : Int) = r := ⟨_, rfl⟩
  have hb : -(n : Int) < r ∧ r < (n : Int) := by
    rw [← hr]
    have h1 := Int.tmod_lt_of_pos i (show (0 : Int) < n by omega)
    have h2 := Int.tmod_lt_of_pos (-i) (show (0 : Int) < n by omega)
    rw [Int.neg_tmod] at h2
    omega
  have hn0 : ¬ (n : Int) < 1 := by omega
  have hnb : decide ((n : Int) < 1) = false := by simp; omega
  have hne : ¬ (n : Int) = 0 := by omega
  have hnn : (n : Int) ≤ 1000000 := by omega
  by_cases hneg : r < 0
  · have e : IntKind.i64.wrap (r + (n : Int)) = r + (n : Int) := by rw [IntKind.wrap_i64]; omega
    have hrl : -1000000 ≤ r := by omega
    obtain ⟨k, hk⟩ : ∃ k : Nat, r + (n : Int) = (k : Int) := ⟨(r + (n : Int)).toNat, by omega⟩
    have HK : Hid (k < n) := by show _ < _; omega
    rcases Int.le_total 0 i with hi | hi
    · exfalso
      have := Int.tmod_nonneg (n : Int) hi
      omega
    · have hmod : i.tmod (n : Int) = r := hr
      clear hb hn hn2 hr
      go_enter Tryd.func29, Tryd.ntmps29
      go_wp2
      go_ret
      exact ⟨⟨k, HK.out, by first | rfl | (rw [hk]; rfl) | exact congrArg (fun z => Ending.returned (Value.int .i64 z)) hk⟩, rfl⟩
  · obtain ⟨k, rfl⟩ : ∃ k : Nat, r = (k : Int) := ⟨r.toNat, by omega⟩
    have HK : Hid (k < n) := by show _ < _; omega
    have hkl : (k : Int) ≤ 1000000 := by omega
    have hneg2 : decide ((k : Int) < 0) = false := by simp
    rcases Int.le_total 0 i with hi | hi
    · have hmod : i % (n : Int) = (k : Int) := by rw [← hr, Int.tmod_eq_emod_of_nonneg hi]
      have hmod2 : i.tmod (n : Int) = (k : Int) := hr
      clear hb hn hn2 hr
      go_enter Tryd.func29, Tryd.ntmps29
      go_wp2
      go_ret
      exact ⟨⟨k, HK.out, rfl⟩, rfl⟩
    · have hmod2 : i.tmod (n : Int) = (k : Int) := hr
      clear hb hn hn2 hr
      go_enter Tryd.func29, Tryd.ntmps29
      go_wp2
      go_ret
      exact ⟨⟨k, HK.out, rfl⟩, rfl⟩

/-- A slice of pairs. -/
def SeenP (w : World) (B : Nat) (a : Option Addr) (l : List (Nat × Nat)) : Prop :=
  ∀ (i : Nat) (p : Nat × Nat), l[i]? = some p → ∃ b off, a = some ⟨b, off, none⟩ ∧ b < B ∧ w.cell? ⟨b, off + i * 2, none⟩ = some (.int .i64 p.1) ∧ w.cell? ⟨b, off + i * 2 + 1, none⟩ = some (.int .i64 p.2)
theorem SeenP.below {w w' : World} {B : Nat} {a : Option Addr} {l : List (Nat × Nat)} (h : SeenP w B a l) (hb : Below B w w') : SeenP w' B a l := fun i p hp => by
  obtain ⟨b, off, h1, h2, h3, h4⟩ := h i p hp
  exact ⟨b, off, h1, h2, (hb.cell (p := ⟨b, off + i * 2, none⟩) h2).trans h3, (hb.cell (p := ⟨b, off + i * 2 + 1, none⟩) h2).trans h4⟩
theorem SeenP.more {w : World} {B B' : Nat} {a : Option Addr} {l : List (Nat × Nat)} (h : SeenP w B a l) (hB : B ≤ B') : SeenP w B' a l := fun i p hp => by
  obtain ⟨b, off, h1, h2, h3⟩ := h i p hp
  exact ⟨b, off, h1, by omega, h3⟩
theorem SeenP.of_own {w : World} {base n c : Nat} {a : Option Addr} {e : TypeId} {l : List (Nat × Nat)} (h : w.ownsRow base e 2 (.slice a n c) n (flat l)) : SeenP w w.heap.size a l := fun i p hp => by
  have hl : i < l.length := (List.getElem?_eq_some_iff.1 hp).1
  have hn : l.length * 2 = n * 2 := by rw [← flat_len]; exact h.1
  rcases h.2 with ⟨h0, h1⟩ | ⟨g, cap, cur, hv, _, hh, _⟩
  · omega
  · injection hv with hv1 _ hv2
    subst hv1
    subst hv2
    refine ⟨g, 0, rfl, (Array.getElem?_eq_some_iff.1 hh).1, ?_, ?_⟩
    · rw [Nat.zero_add, h.cellAt (i * 2) (by omega)]; exact flat_fst l i p hp
    · rw [Nat.zero_add, h.cellAt (i * 2 + 1) (by omega)]; exact flat_snd l i p hp
theorem own_slice2 {w : World} {base n : Nat} {e : TypeId} {v : Value} {l : List (Nat × Nat)} (h : w.ownsRow base e 2 v n (flat l)) : ∃ a c, v = .slice a n c ∧ SeenP w w.heap.size a l ∧ l.length = n ∧ n ≤ c ∧ c ≤ maxLen := by
  have hl : l.length = n := by have := h.1; rw [flat_len] at this; omega
  rcases h.2 with ⟨rfl, rfl⟩ | ⟨g, cap, cur, rfl, hg, hh, h1, h2, _⟩
  · exact ⟨none, 0, rfl, by rw [List.eq_nil_of_length_eq_zero hl]; exact fun i p hp => by simp at hp, hl, Nat.le_refl _, by unfold maxLen; omega⟩
  · exact ⟨_, cap, rfl, SeenP.of_own h, hl, h1, h2⟩
theorem own_slice {w : World} {base n : Nat} {k : IntKind} {e : TypeId} {v : Value} {xs : List Nat} (h : w.ownsRow base e 1 v n (xs.map fun x : Nat => Value.int k x)) :
    ∃ a c, v = .slice a n c ∧ Seen w w.heap.size k a xs ∧ xs.length = n ∧ n ≤ c ∧ c ≤ maxLen := by
  have hl : xs.length = n := by simpa using h.1
  rcases h.2 with ⟨rfl, rfl⟩ | ⟨g, cap, cur, rfl, hg, hh, h1, h2, _⟩
  · exact ⟨none, 0, rfl, by rw [List.eq_nil_of_length_eq_zero hl]; exact Seen.nil _ _ _ _, hl, Nat.le_refl _, by unfold maxLen; omega⟩
  · exact ⟨_, cap, rfl, Seen.of_own h, hl, h1, h2⟩

set_option maxRecDepth 100000 in
theorem sameRuns_any (a b : Option Addr) (n c d : Nat) (l : List (Nat × Nat)) (hn : l.length = n) (hn5 : n ≤ maxLen) (w : World) (B : Nat) (h1 : SeenP w B a l) (h2 : SeenP w B b l) (hB : B ≤ w.heap.size) :
    Calls Tryd.prog 47 #[.slice a n c, .slice b n d] w fun e w' => e = .returned (.bool true) ∧ Below w.heap.size w w' := by
  have HN := Lib.hid hn
  have H1 : Hid (SeenP w B a l) := h1
  have H2 : Hid (SeenP w B b l) := h2
  unfold maxLen at hn5
  clear hn h1 h2
  go_enter Tryd.func47, Tryd.ntmps47
  go_wp2
  go_loopw [13] (fun i wr => ∃ k : Nat, k ≤ n ∧ i = .int .i64 k ∧ ∃ q, wr = w.drewN q) (fun i _ => n - (intOf i).toNat)
  case atStart => exact ⟨0, by omega, rfl, 0, rfl⟩
  case round =>
    obtain ⟨k, hk, rfl, q, rfl⟩ := hrel
    by_cases hkn : k < n
    · obtain ⟨p, hp⟩ : ∃ p, l[k]? = some p := ⟨_, List.getElem?_eq_getElem (by rw [HN.out]; exact hkn)⟩
      obtain ⟨b1, o1, rfl, hb1, c1, c2⟩ := H1.out k p hp
      obtain ⟨b2, o2, rfl, hb2, c3, c4⟩ := H2.out k p hp
      obtain ⟨p1, hp1⟩ : ∃ x, p.1 = x := ⟨_, rfl⟩
      obtain ⟨p2, hp2⟩ : ∃ x, p.2 = x := ⟨_, rfl⟩
      rw [hp1] at c1 c3
      rw [hp2] at c2 c4
      clear hp hp1 hp2
      have heq : ∀ u : World, (Op.equalIn 10000 50 (.agg #[.int .i64 (p1 : Int), .int .i64 (p2 : Int)]) (.agg #[.int .i64 (p1 : Int), .int .i64 (p2 : Int)])).run Tryd.prog u = .ok true u := fun u => run_equal_pair u _ _
      go_wp2
      go_quiet (fail)
      go_wp2
      exact ⟨⟨k + 1, hkn, rfl, q + nq, rfl⟩, by simp [intOf]; omega⟩
    · obtain rfl : n = k := by omega
      clear hkn
      go_wp2
      go_ret
      exact ⟨rfl, below_drewN (Below.refl _ _) q⟩
end Go.Proofs.YtkochcolmkgkgaaDoor
