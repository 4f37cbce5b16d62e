/-
  Seal.
-/
import Derived.Test.YtoecddkglenigaaDoorCrc
import Derived.Test.YtoecddkglenigaaDoorAppend
import Derived.Test.YtoecddkglenigaaDoorHeap
import Derived.IntWalk
import Derived.Maps.AppendAt
namespace Go.Proofs.YtoecddkglenigaaDoor
open Go.RowKit
set_option linter.unusedVariables false

theorem infoB : (Tryd.prog.info? 5).map (fun i => (i.zero, i.size, i.bytes)) = some (some (.int .u8 0), 1, 1) := by kernel_rfl
theorem info_parts {o : Option TypeInfo} {z : Option Value} {s b : Nat} (h : o.map (fun i => (i.zero, i.size, i.bytes)) = some (z, s, b)) : ∃ i0, o = some i0 ∧ i0.zero = z ∧ i0.size = s ∧ i0.bytes = b := by
  obtain ⟨i, hi, he⟩ := Option.map_eq_some_iff.1 h
  injection he with h1 h2
  injection h2 with h2 h3
  exact ⟨i, hi, h1, h2, h3⟩
theorem own_cap {w : World} {base size n g cap : Nat} {e : TypeId} {xs : List Value} (h : w.ownsRow base e size (.slice (some ⟨g, 0, none⟩) n cap) n xs) : n ≤ cap ∧ cap ≤ maxLen := by
  rcases h.2 with ⟨h0, _⟩ | ⟨g', cap', cur, hv, _, _, h1, h2, _⟩
  · cases h0
  · injection hv with _ _ hc
    subst hc
    exact ⟨h1, h2⟩
theorem seen_cells {w : World} {B : Nat} {k : IntKind} {ad : Addr} {xs : List Nat} (h : Seen w B k (some ad) xs) : ∀ j u, (xs.map fun x : Nat => Value.int k x)[j]? = some u → w.cell? (ad.add j) = some u := by
  intro j u hu
  rw [List.getElem?_map] at hu
  cases hx : xs[j]? with
  | none => rw [hx] at hu; simp at hu
  | some x =>
    rw [hx] at hu
    simp at hu
    obtain ⟨b, off, e, _, hc⟩ := h j x hx
    cases e
    rw [← hu]
    by_cases h0 : j = 0
    · subst h0; simpa [Addr.add] using hc
    · simpa [Addr.add, h0] using hc

/-- The bytes of a checksum. -/
def lb (c i : Nat) : Nat := c / 2 ^ (8 * i) % 256
def lbs (c k : Nat) : List Nat := (List.range k).map (lb c)
theorem lbs_succ (c k : Nat) : lbs c (k + 1) = lbs c k ++ [lb c k] := by simp [lbs, List.range_succ]
theorem lbs_four (c : Nat) (h : c < 2 ^ 32) : lbs c 4 = Crc.le4 c := by
  simp [lbs, List.range_succ, lb, Crc.le4]
  omega
theorem lb_lt (c i : Nat) : lb c i < 256 := Nat.mod_lt _ (by decide)
theorem lb_eq (c i : Nat) : (c : Int) / (2 : Int) ^ (8 * i) % 256 = (lb c i : Int) := by
  unfold lb
  rw [Int.natCast_emod, Int.natCast_ediv]
  simp

set_option maxRecDepth 100000 in
set_option maxHeartbeats 2000000 in
theorem seal_any (a : Option Addr) (n c : Nat) (bs : List Nat) (hbs : ∀ y ∈ bs, y < 256) (hn : bs.length = n) (hn5 : n ≤ 16777216) (B : Nat) (w : World) (hS : Seen w B .u8 a bs) (hBw : B ≤ w.heap.size) (hT : HT w) :
    Calls Tryd.prog 24 #[.slice a n c] w fun e w' => ∃ v, e = .returned (.tuple #[v, .int .i64 0]) ∧ w'.ownsRow w.heap.size 5 1 v (n + 4) ((bs ++ Crc.le4 (Crc.upd 0 bs)).map fun x : Nat => Value.int .u8 x) ∧ Below w.heap.size w w' := by
  obtain ⟨s, hs⟩ : ∃ s, Crc.upd 0 bs = s := ⟨_, rfl⟩
  rw [hs]
  have HSM := Lib.hid hs
  have hsl : s < 2 ^ 32 := by rw [← hs]; exact Crc.upd_lt hbs (by decide)
  rw [← lbs_four s hsl]
  have HN := Lib.hid hn
  have HBS : Hid (∀ y ∈ bs, y < 256) := hbs
  clear hn hbs hs hsl
  obtain ⟨i0, hi, hz0, hz1, hz2⟩ := info_parts infoB
  have en : ((n + 4 : Nat) : Int) = (n : Int) + 4 := by omega
  have h16 : ¬ (16777216 : Int) < (n : Int) := by omega
  have h16b : decide ((16777216 : Int) < (n : Int)) = false := by simp; omega
  have HLEN : Hid (n ≤ maxLen) := by show n ≤ maxLen; unfold maxLen; omega
  by_cases hn0 : n = 0
  focus
    have hb0 : Hid (bs = []) := List.eq_nil_of_length_eq_zero (HN.out.trans hn0)
    have H0 := Lib.hid hn0
    clear hn0
    go_enter Tryd.func24, Tryd.ntmps24
    go_wp2_with (first
      | (at_make; refine wpList_make_own _ rfl _ _ 22 rfl w.heap.size 5 i0 (.int .u8 0) 1 Tryd.underlying22 hi hz0 hz1 .i64 .i64 _ (n + 4) rfl rfl en.symm (by rw [hz2]; omega) (by unfold maxLen; omega) (Nat.le_refl _) ?_; intro w1 hown1 hgrow1)
      | (at_builtin; refine wpList_append_nothing _ rfl _ _ 22 rfl 5 i0 Tryd.underlying22 hi _ _ _ rfl (Nat.zero_le _) _ _ _ H0.out rfl ?_)
      | (go_at_call 32; ((with_reducible refine (sum_any a n c bs HBS.out HN.out HLEN.out _ B (hS.below (((Below.refl _ w).grown hgrow1 (Nat.le_refl _) (fun k e => by cases e)).mono hBw)) (hT.below ((Below.refl _ w).grown hgrow1 (Nat.le_refl _) (fun k e => by cases e))) s HSM.out).mono ?_); rintro e w3 ⟨rfl, rfl⟩)))
    have hown2 : w1.ownsRow w.heap.size 5 1 (.slice (some ⟨w.heap.size, 0, none⟩) 0 (n + 4)) (n + 0) ((bs ++ lbs s 0).map fun x : Nat => Value.int .u8 x) := by
      have e : n + 0 = 0 := by have := H0.out; omega
      rw [e, hb0.out]; exact hown1
    have hB1 : Below w.heap.size w w1 := (Below.refl _ w).grown hgrow1 (Nat.le_refl _) (fun k e => by cases e)
    obtain ⟨w2, rfl⟩ : ∃ w2 : World, w2 = w1 := ⟨_, rfl⟩
    clear hown1 hgrow1 en hb0
  rotate_left
  focus
    obtain ⟨b, off, rfl, _, _⟩ := hS.at (i := 0) (by have := HN.out; omega)
    go_enter Tryd.func24, Tryd.ntmps24
    go_wp2_with (first
      | (at_make; refine wpList_make_own _ rfl _ _ 22 rfl w.heap.size 5 i0 (.int .u8 0) 1 Tryd.underlying22 hi hz0 hz1 .i64 .i64 _ (n + 4) rfl rfl en.symm (by rw [hz2]; omega) (by unfold maxLen; omega) (Nat.le_refl _) ?_; intro w1 hown1 hgrow1; have hB1 : Below w.heap.size w w1 := (Below.refl _ w).grown hgrow1 (Nat.le_refl _) (fun k e => by cases e))
      | (at_builtin; refine wpList_append_own _ rfl _ _ 22 rfl w.heap.size 5 i0 (.int .u8 0) 1 1 Tryd.underlying22 hi hz0 hz1 hz2 rfl (by decide) _ _ _ rfl hown1 _ _ _ (bs.map fun x : Nat => Value.int .u8 x) rfl (by rw [List.length_map, HN.out, Nat.mul_one]) (seen_cells (hS.below (hB1.mono hBw))) (by intro u hu; obtain ⟨z, _, rfl⟩ := List.mem_map.1 hu; rfl) (by unfold maxLen; omega) (by omega) hB1.size ?_; intro v2 w2 hown2' hgrow2 _; obtain ⟨g2, c2, rfl⟩ := own_form hown2' (by omega); have hB2 := Lib.hid (hB1.grown hgrow2 hB1.size (fun k e => (hown1.lt k e).1)))
      | (go_at_call 32; ((with_reducible refine (sum_any _ n c bs HBS.out HN.out HLEN.out _ B (hS.below (hB2.out.mono hBw)) (hT.below hB2.out) s HSM.out).mono ?_); rintro e w3 ⟨rfl, rfl⟩)))
    have hown2 : w2.ownsRow w.heap.size 5 1 (.slice (some ⟨g2, 0, none⟩) (0 + n) c2) (n + 0) ((bs ++ lbs s 0).map fun x : Nat => Value.int .u8 x) := by
      have := hown2'
      rw [Nat.zero_add] at this ⊢
      simpa [lbs] using this
    have hB1' : Below w.heap.size w w2 := hB2.out
    clear hB1
    have hB1 := hB1'
    clear hown1 hgrow1 hown2' hgrow2 hB1' en
  all_goals
    go_loopw [4, 19] (fun v i wr => ∃ k : Nat, k ≤ 4 ∧ i = .int .i64 k ∧ wr.ownsRow w.heap.size 5 1 v (n + k) ((bs ++ lbs s k).map fun x : Nat => Value.int .u8 x) ∧ Below w.heap.size w wr) (fun _ i _ => 4 - (intOf i).toNat)
    case atStart => exact ⟨0, by omega, rfl, by simpa using hown2, hB1⟩
    case round =>
      obtain ⟨k, hk, rfl, hrow, hB⟩ := hrel
      have hbs := hB.size
      by_cases hlt : k < 4
      · have HM := Lib.hid (lbs_succ s k)
        have hle := lb_eq s k
        go_wp2_with (at_builtin; go_loud (refine wpList_append_own _ rfl _ _ 22 rfl w.heap.size 5 i0 (.int .u8 0) 1 1 Tryd.underlying22 hi hz0 hz1 hz2 rfl (by decide) _ _ _ rfl (hrow.alloc _) ⟨wr.heap.size, 0, none⟩ 1 1 [.int .u8 (lb s k : Nat)] rfl rfl (cell_one_new _ _ _) (by simp [Value.oneCell']) (by unfold maxLen; omega) (by omega) (by simp; omega) ?_); intro v5 w5 hown5 hgrow5 _)
        have hB5 : Below w.heap.size w w5 := (hB.alloc hbs _).grown hgrow5 (by simp; omega) (fun j ej => (hrow.lt j ej).1)
        exact ⟨⟨k + 1, by omega, by go_num, by rw [HM.out, ← List.append_assoc, List.map_append]; exact hown5, hB5⟩, by simp [intOf]; omega⟩
      · obtain rfl : k = 4 := by omega
        clear hown2 hB1 hlt
        go_wp2
        go_ret2
        exact ⟨_, rfl, hrow, hB⟩
end Go.Proofs.YtoecddkglenigaaDoor
