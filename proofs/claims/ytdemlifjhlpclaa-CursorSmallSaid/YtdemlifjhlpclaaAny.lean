/-
  The contracts of the small functions, outside of every fence (a seat without the zigzag functions).
-/
import Derived.LoopTactic
import Derived.Lib.Hide
import Derived.WalkLawsBesides
import Derived.WalkSpells
import Derived.WalkKit
import Derived.Deep.QuietTactic
import Derived.BigQuiet
import Derived.Outline
import Derived.Laws.BitsAllLaws
import Derived.Laws.DeepNot64
import Derived.Test.YtdemlifjhlpclaaWrite
namespace Go.Proofs.Ytdemlifjhlpclaa
open Go.RowKit
set_option linter.unusedVariables false

theorem size_any (x : Nat) (hx : x < 2 ^ 64) (w : World) : Calls Try.prog 45 #[.int .u64 x] w fun e w' => e = .returned (.int .i64 (Vi.grp x).length) ∧ Below w.heap.size w w' :=
  (callsIn_wide (n := 9)).1 (size_in Fence.wide 9 trivial trivial trivial rfl (by decide) x hx w)
theorem write_any (x : Nat) (hx : x < 2 ^ 64) (w : World) : Calls Try.prog 24 #[.int .u64 x] w fun e w' => ∃ v, e = .returned v ∧ w'.ownsRow w.heap.size 5 1 v (Vi.form x).length ((Vi.form x).map fun x : Nat => Value.int .u8 x) ∧ Below w.heap.size w w' :=
  (callsIn_wide (n := 9)).1 (write_in Fence.wide 9 trivial trivial trivial trivial trivial rfl (by decide) x hx w)
theorem writeAll_any (a : Option Addr) (c : Nat) (xs : List Nat) (hx : ∀ x ∈ xs, x < 2 ^ 64) (hxl : xs.length ≤ 100000) (w : World) (hS : Seen w w.heap.size .u64 a xs) :
    Calls Try.prog 50 #[.slice a xs.length c] w fun e w' => ∃ v, e = .returned v ∧ w'.ownsRow w.heap.size 5 1 v (Vi.forms xs).length ((Vi.forms xs).map fun x : Nat => Value.int .u8 x) ∧ Below w.heap.size w w' :=
  (callsIn_wide (n := 9)).1 (writeAll_in Fence.wide 9 trivial trivial trivial trivial rfl (by decide) a c xs hx hxl w hS)

theorem ret_int' {k : IntKind} {a b : Int} (h : a = b) : Ending.returned (.int k a) = .returned (.int k b) := by rw [h]
/-- Are two slices of bytes the same? -/
theorem sameBytes_any (a b : Option Addr) (c d : Nat) (xs ys : List Nat) (B : Nat) (w : World) (hx : Seen w B .u8 a xs) (hy : Seen w B .u8 b ys) (hxl : xs.length ≤ maxLen) (hyl : ys.length ≤ maxLen) :
    Calls Try.prog 33 #[.slice a xs.length c, .slice b ys.length d] w fun e w' => e = .returned (.bool (decide (xs = ys))) ∧ Below w.heap.size w w' := by
  unfold maxLen at hxl hyl
  by_cases hl : xs.length = ys.length
  · have el : ((xs.length : Int) != (ys.length : Int)) = false := by simp; omega
    have HL := Lib.hid hl
    clear hl
    go_enter Try.func33, Try.ntmps33
    go_wp2
    go_loopw [5] (fun i wr => ∃ k : Nat, k ≤ xs.length ∧ i = .int .i64 k ∧ Hid (xs.take k = ys.take k) ∧ ∃ q, wr = w.drewN q) (fun i _ => xs.length - (intOf i).toNat)
    case atStart => exact ⟨0, by omega, rfl, rfl, 0, rfl⟩
    case round =>
      obtain ⟨k, hk, rfl, HT, q, rfl⟩ := hrel
      by_cases hlt : k < xs.length
      · have hlt2 : k < ys.length := by have := HL.out; omega
        obtain ⟨b1, o1, rfl, _, hc1⟩ := hx.at hlt
        obtain ⟨b2, o2, rfl, _, hc2⟩ := hy.at hlt2
        obtain ⟨u, hu⟩ : ∃ u, xs[k] = u := ⟨_, rfl⟩
        obtain ⟨v, hv⟩ : ∃ v, ys[k] = v := ⟨_, rfl⟩
        rw [hu] at hc1
        rw [hv] at hc2
        have i1 : (k : Int) < (xs.length : Int) := by omega
        have i2 : (k : Int) < (ys.length : Int) := by omega
        have i0 : (0 : Int) ≤ (k : Int) := by omega
        by_cases huv : u = v
        · have HN : Hid (xs.take (k + 1) = ys.take (k + 1)) := by rw [Vi.take_snoc xs k hlt, Vi.take_snoc ys k hlt2, hu, hv, huv, HT.out]; rfl
          have e1 : ((u : Int) != (v : Int)) = false := by simp; omega
          clear hu hv huv
          go_wp2
          go_quiet (fail)
          go_wp2
          exact ⟨⟨k + 1, by omega, by go_num, HN, q + nq, rfl⟩, by simp [intOf]; omega⟩
        · have HN : Hid (decide (xs = ys) = false) := by
            simp only [Hid, decide_eq_false_iff_not]; intro h; subst h; exact huv (hu.symm.trans hv)
          have e1 : ((u : Int) != (v : Int)) = true := by simp; omega
          clear hu hv huv
          go_wp2
          go_quiet (fail)
          go_wp2
          go_ret
          exact ⟨by rw [HN.out]; rfl, below_drewN (below_drewN (Below.refl _ _) q) nq⟩
      · obtain rfl : k = xs.length := by omega
        have HN : Hid (decide (xs = ys) = true) := by
          have := HT.out
          rw [List.take_length, HL.out, List.take_length] at this
          simpa [Hid] using this
        clear HT
        go_wp2
        go_ret
        exact ⟨by rw [HN.out]; rfl, below_drewN (Below.refl _ _) q⟩
  · have el : ((xs.length : Int) != (ys.length : Int)) = true := by simp; omega
    have hne : decide (xs = ys) = false := by simp; intro h; exact hl (by rw [h])
    rw [hne]
    clear hl
    go_enter Try.func33, Try.ntmps33
    go_wp2
    go_ret
    exact ⟨rfl, Below.refl _ _⟩

end Go.Proofs.Ytdemlifjhlpclaa
