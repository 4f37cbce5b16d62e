/-
  varint.ReadAll: its contract.
-/
import Derived.Test.YthcagiamieeggaaAllSpec
import Derived.Test.YthcagiamieeggaaMore
import Derived.Deep.RegionHeld3
namespace Go.Proofs.Ythcagiamieeggaa
open Go.RowKit
set_option linter.unusedVariables false

theorem infoNum : (Try.prog.info? 22).map (fun i => (i.zero, i.size, i.bytes)) = some (some (.int .u64 0), 1, 8) := by kernel_rfl
theorem seen_drop {w : World} {B b off : Nat} {k : IntKind} {xs : List Nat} (h : Seen w B k (some ⟨b, off, none⟩) xs) (p : Nat) : Seen w B k (some ⟨b, off + p, none⟩) (xs.drop p) := fun i x hx => by
  rw [List.getElem?_drop] at hx
  obtain ⟨b', off', e, hb, hc⟩ := h (p + i) x hx
  cases e
  exact ⟨b, off + p, rfl, hb, by rw [Nat.add_assoc]; exact hc⟩

theorem own_below {W W' : World} {base : Nat} {e : TypeId} {size : Nat} {v : Value} {k : Nat} {xs : List Value} (h : W.ownsRow base e size v k xs) (hB : Below W.heap.size W W') : W'.ownsRow base e size v k xs := by
  refine ⟨h.1, ?_⟩
  rcases h.2 with h2 | ⟨g, cap, cur, hv, hg, hh, h3⟩
  · exact .inl h2
  · exact .inr ⟨g, cap, cur, hv, hg, (hB.block g (Array.getElem?_eq_some_iff.1 hh).1).trans hh, h3⟩

set_option maxRecDepth 100000 in
set_option maxHeartbeats 2000000 in
theorem readAll_any (a : Option Addr) (n c : Nat) (bs : List Nat) (hn : bs.length = n) (hbs : ∀ y ∈ bs, y < 256) (hnc : n ≤ c) (hcm : c ≤ maxLen) (hn5 : n ≤ 100000) (B : Nat) (w : World) (hS : Seen w B .u8 a bs) (hBw : B ≤ w.heap.size) :
    Calls Try.prog 21 #[.slice a n c] w fun e w' => ∃ v, e = .returned (.tuple #[v, .int .i64 (Vi.readAll bs).2]) ∧ w'.ownsRow w.heap.size 22 1 v (Vi.readAll bs).1.length ((Vi.readAll bs).1.map fun x : Nat => Value.int .u64 x) ∧ Below w.heap.size w w' := by
  unfold maxLen at hcm
  have HN := Lib.hid hn
  clear hn
  obtain ⟨i0, hi, hz0, hz1, hz2⟩ := info_parts infoNum
  go_enter Try.func21, Try.ntmps21
  go_wp2
  go_loopw [4, 5] (fun v i wr => ∃ (p f : Nat) (acc : List Nat), p ≤ n ∧ i = .int .i64 p ∧ acc.length ≤ p ∧ Hid (n - p ≤ f ∧ Vi.readAll bs = Vi.comb acc (Vi.ra f (bs.drop p))) ∧ wr.ownsRow w.heap.size 22 1 v acc.length (acc.map fun x : Nat => Value.int .u64 x) ∧ Below w.heap.size w wr) (fun _ i _ => n - (intOf i).toNat)
  case atStart => exact ⟨0, n, [], by omega, rfl, by simp, ⟨by omega, by rw [List.drop_zero, Vi.comb_nil (Vi.ra_err _ _), Vi.readAll, HN.out]⟩, World.ownsRow_nil _ _ _ _, Below.refl _ _⟩
  case round =>
    obtain ⟨p, f, acc, hp, rfl, hap, HR, hrow, hB⟩ := hrel
    have hbs2 := hB.size
    by_cases hlt : p < n
    · obtain ⟨b, off, rfl, _, _⟩ := hS.at (i := 0) (by have := HN.out; omega)
      have hS2 := seen_drop (hS.below (hB.mono hBw)) p
      have hl2 : Hid ((bs.drop p).length = n - p) := by show _ = _; rw [List.length_drop, HN.out]
      have h02 : Hid (bs.drop p ≠ []) := by intro h; have := hl2.out; rw [h] at this; simp at this; omega
      have hb2 : ∀ y ∈ bs.drop p, y < 256 := fun y hy => hbs y (List.mem_of_mem_drop hy)
      have hcp : Hid (¬ c = p) := by show ¬ _; omega
      have hpc : p < c := by omega
      obtain ⟨r, hr⟩ : ∃ r, Vi.read (bs.drop p) = r := ⟨_, rfl⟩
      obtain ⟨z, m, er⟩ := r
      have HR2 := Lib.hid hr
      by_cases her : er = 0
      · subst her
        obtain ⟨hz64, hf, hm0, hml⟩ := Vi.read_back hb2 hr
        rw [hl2.out] at hml
        have HN2 : Hid (n - (p + m) ≤ f - 1 ∧ Vi.readAll bs = Vi.comb (acc ++ [z]) (Vi.ra (f - 1) (bs.drop (p + m)))) := by
          have h1 := HR.out
          refine ⟨by omega, ?_⟩
          rw [h1.2, Vi.ra_good acc (by rw [hl2.out]; exact h1.1) h02.out hr, List.drop_drop]
        clear hr hf HR
        go_wp2_with (first
          | (go_at_call 18; refine (read_at _ _ _ (bs.drop p) _ _ hl2.out HR2.out hb2 _ hS2 (Nat.le_trans hBw hbs2) (by unfold maxLen; omega)).mono ?_; rintro e w4 ⟨rfl, hB4⟩; have hrow4 := own_below hrow hB4)
          | (at_builtin; refine wpList_append_own _ rfl _ _ 27 rfl w.heap.size 22 i0 (.int .u64 0) 1 8 Try.underlying27 hi hz0 hz1 hz2 rfl (by decide) _ _ _ rfl (hrow4.alloc _) ⟨w4.heap.size, 0, none⟩ 1 1 [.int .u64 (z : Int)] rfl rfl (cell_one_new _ _ _) (by simp [Value.oneCell']) (by unfold maxLen; omega) (by omega) (by have := hB4.size; simp; omega) ?_; intro v2 w1 hown' hgrow _; obtain ⟨g', cap', rfl⟩ := ownsRow_succ hown'))
        have hBz : Below w.heap.size w w1 := ((hB.trans (hB4.mono hbs2)).alloc (Nat.le_trans hbs2 hB4.size) _).grown hgrow (by have := hB4.size; simp; omega) (fun k ek => (hrow4.lt k ek).1)
        refine ⟨⟨p + m, f - 1, acc ++ [z], by omega, by go_num, by simp; omega, HN2, by simpa using hown', hBz⟩, by simp [intOf]; omega⟩
      · have HF : Hid (Vi.readAll bs = ([], er)) := by
          have h1 := HR.out
          rw [h1.2, Vi.ra_bad (by rw [hl2.out]; exact h1.1) h02.out hr her]; simp [Vi.comb, her, Hid]
        have hne : ((er : Int) != 0) = true := by simp [her]
        clear hr her HR
        go_wp2_with (go_at_call 18; refine (read_at _ _ _ (bs.drop p) _ _ hl2.out HR2.out hb2 _ hS2 (Nat.le_trans hBw hbs2) (by unfold maxLen; omega)).mono ?_; rintro e w4 ⟨rfl, hB4⟩; have hrow4 := own_below hrow hB4)
        go_ret2
        exact ⟨.slice none 0 0, by rw [HF.out]; rfl, by rw [HF.out]; exact World.ownsRow_nil _ _ _ _, hB.trans (hB4.mono hbs2)⟩
    · obtain rfl : p = n := by omega
      have HF : Hid (Vi.readAll bs = (acc, 0)) := by
        have h1 := HR.out
        rw [h1.2, List.drop_of_length_le (by have := HN.out; omega), Vi.ra_nil]; simp [Vi.comb, Hid]
      clear HR
      go_wp2
      go_ret2
      exact ⟨_, by rw [HF.out]; rfl, by rw [HF.out]; exact hrow, hB⟩

theorem own_slice {W : World} {base : Nat} {e : TypeId} {v : Value} {n : Nat} {xs : List Value} (h : W.ownsRow base e 1 v n xs) : ∃ a c, v = .slice a n c ∧ n ≤ c ∧ c ≤ maxLen := by
  rcases h.2 with ⟨rfl, rfl⟩ | ⟨g, cap, cur, hv, hg, hh, h1, h2, h3⟩
  · exact ⟨none, 0, rfl, Nat.le_refl _, by unfold maxLen; omega⟩
  · exact ⟨_, cap, hv, h1, h2⟩

end Go.Proofs.Ythcagiamieeggaa
