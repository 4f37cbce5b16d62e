/-
  quantumkit.SameNums, and contracts of lists of numbers in the forms in which laws use them.
-/
import Derived.Test.YthcagiamieeggaaReadAll
namespace Go.Proofs.Ythcagiamieeggaa
open Go.RowKit
set_option linter.unusedVariables false

/-- Are two slices of numbers the same? -/
theorem sameNums_any (a b : Option Addr) (c d : Nat) (xs ys : List Nat) (B : Nat) (w : World) (hx : Seen w B .u64 a xs) (hy : Seen w B .u64 b ys) (hxl : xs.length ≤ maxLen) (hyl : ys.length ≤ maxLen) :
    Calls Try.prog 22 #[.slice a xs.length c, .slice b ys.length d] w fun e w' => e = .returned (.bool (decide (xs = ys))) ∧ Below w.heap.size w w' := by
  unfold maxLen at hxl hyl
  by_cases hl : xs.length = ys.length
  · have el : ((xs.length : Int) != (ys.length : Int)) = false := by simp; omega
    have HL := Lib.hid hl
    clear hl
    go_enter Try.func22, Try.ntmps22
    go_wp2
    go_loopw [5] (fun i wr => ∃ k : Nat, k ≤ xs.length ∧ i = .int .i64 k ∧ Hid (xs.take k = ys.take k) ∧ ∃ q, wr = w.drewN q) (fun i _ => xs.length - (intOf i).toNat)
    case atStart => exact ⟨0, by omega, rfl, rfl, 0, rfl⟩
    case round =>
      obtain ⟨k, hk, rfl, HT, q, rfl⟩ := hrel
      by_cases hlt : k < xs.length
      · have hlt2 : k < ys.length := by have := HL.out; omega
        obtain ⟨b1, o1, rfl, _, hc1⟩ := hx.at hlt
        obtain ⟨b2, o2, rfl, _, hc2⟩ := hy.at hlt2
        obtain ⟨u, hu⟩ : ∃ u, xs[k] = u := ⟨_, rfl⟩
        obtain ⟨v, hv⟩ : ∃ v, ys[k] = v := ⟨_, rfl⟩
        rw [hu] at hc1
        rw [hv] at hc2
        have i1 : (k : Int) < (xs.length : Int) := by omega
        have i2 : (k : Int) < (ys.length : Int) := by omega
        have i0 : (0 : Int) ≤ (k : Int) := by omega
        by_cases huv : u = v
        · have HN : Hid (xs.take (k + 1) = ys.take (k + 1)) := by rw [Vi.take_snoc xs k hlt, Vi.take_snoc ys k hlt2, hu, hv, huv, HT.out]; rfl
          have e1 : ((u : Int) != (v : Int)) = false := by simp; omega
          clear hu hv huv
          go_wp2
          go_quiet (fail)
          go_wp2
          exact ⟨⟨k + 1, by omega, by go_num, HN, q + nq, rfl⟩, by simp [intOf]; omega⟩
        · have HN : Hid (decide (xs = ys) = false) := by
            simp only [Hid, decide_eq_false_iff_not]; intro h; subst h; exact huv (hu.symm.trans hv)
          have e1 : ((u : Int) != (v : Int)) = true := by simp; omega
          clear hu hv huv
          go_wp2
          go_quiet (fail)
          go_wp2
          go_ret
          exact ⟨by rw [HN.out]; rfl, below_drewN (below_drewN (Below.refl _ _) q) nq⟩
      · obtain rfl : k = xs.length := by omega
        have HN : Hid (decide (xs = ys) = true) := by
          have := HT.out
          rw [List.take_length, HL.out, List.take_length] at this
          simpa [Hid] using this
        clear HT
        go_wp2
        go_ret
        exact ⟨by rw [HN.out]; rfl, below_drewN (Below.refl _ _) q⟩
  · have el : ((xs.length : Int) != (ys.length : Int)) = true := by simp; omega
    have hne : decide (xs = ys) = false := by simp; intro h; exact hl (by rw [h])
    rw [hne]
    clear hl
    go_enter Try.func22, Try.ntmps22
    go_wp2
    go_ret
    exact ⟨rfl, Below.refl _ _⟩

theorem sameNums_at (a b : Option Addr) (c d : Nat) (xs ys : List Nat) (n m : Nat) (r : Bool) (hn : xs.length = n) (hm : ys.length = m) (hr : decide (xs = ys) = r) (B1 B2 : Nat) (w : World) (hx : Seen w B1 .u64 a xs) (hy : Seen w B2 .u64 b ys) (hxl : n ≤ maxLen) (hyl : m ≤ maxLen) :
    Calls Try.prog 22 #[.slice a n c, .slice b m d] w fun e w' => e = .returned (.bool r) ∧ Below w.heap.size w w' := by
  subst hn; subst hm; subst hr
  exact sameNums_any a b c d xs ys (max B1 B2) w (hx.more (by omega)) (hy.more (by omega)) hxl hyl
theorem writeAll_at (a : Option Addr) (c : Nat) (xs : List Nat) (n : Nat) (hn : xs.length = n) (bs : List Nat) (m : Nat) (hb : Vi.forms xs = bs) (hm : bs.length = m) (hx : ∀ x ∈ xs, x < 2 ^ 64) (hxl : n ≤ 100000) (B : Nat) (w : World) (hS : Seen w B .u64 a xs) (hBw : B ≤ w.heap.size) :
    Calls Try.prog 20 #[.slice a n c] w fun e w' => ∃ a' c', e = .returned (.slice a' m c') ∧ w'.ownsRow w.heap.size 5 1 (.slice a' m c') m (bs.map fun x : Nat => Value.int .u8 x) ∧ Seen w' w'.heap.size .u8 a' bs ∧ m ≤ c' ∧ c' ≤ maxLen ∧ Below w.heap.size w w' := by
  subst hn; subst hm; subst hb
  refine (writeAll_any a c xs hx hxl w (hS.more hBw)).mono ?_
  rintro e w' ⟨v, rfl, hown, hB⟩
  obtain ⟨a', c', rfl, h1, h2⟩ := own_slice hown
  exact ⟨a', c', rfl, hown, Seen.of_own (k := .u8) hown, h1, h2, hB⟩
theorem readAll_at (a : Option Addr) (n c : Nat) (bs : List Nat) (hn : bs.length = n) (ks : List Nat) (m : Nat) (er : Int) (hr : Vi.readAll bs = (ks, er)) (hm : ks.length = m) (hbs : ∀ y ∈ bs, y < 256) (hnc : n ≤ c) (hcm : c ≤ maxLen) (hn5 : n ≤ 100000) (B : Nat) (w : World) (hS : Seen w B .u8 a bs) (hBw : B ≤ w.heap.size) :
    Calls Try.prog 21 #[.slice a n c] w fun e w' => ∃ a' c', e = .returned (.tuple #[.slice a' m c', .int .i64 er]) ∧ Seen w' w'.heap.size .u64 a' ks ∧ m ≤ c' ∧ c' ≤ maxLen ∧ Below w.heap.size w w' := by
  refine (readAll_any a n c bs hn hbs hnc hcm hn5 B w hS hBw).mono ?_
  rintro e w' ⟨v, rfl, hown, hB⟩
  rw [hr] at hown ⊢
  simp only [hm] at hown
  obtain ⟨a', c', rfl, h1, h2⟩ := own_slice hown
  exact ⟨a', c', rfl, Seen.of_own (k := .u64) hown, h1, h2, hB⟩

end Go.Proofs.Ythcagiamieeggaa
