/-
  Two lists of words, put together word by word.
-/
import Derived.Test.YtkochcolmkgkgaaDoorNew
import Derived.Deep.RegionWith
namespace Go.Proofs.YtkochcolmkgkgaaDoor
open Go.RowKit
set_option linter.unusedVariables false
namespace Bm
def orW (x y : Nat) : Nat := x ||| y
def andW (x y : Nat) : Nat := x &&& y
def minusW (x y : Nat) : Nat := x &&& (18446744073709551615 - y)
theorem orW_lt {x y : Nat} (hx : x < 2 ^ 64) (hy : y < 2 ^ 64) : orW x y < 2 ^ 64 := Nat.or_lt_two_pow hx hy
theorem andW_lt {x y : Nat} (hx : x < 2 ^ 64) (hy : y < 2 ^ 64) : andW x y < 2 ^ 64 := Nat.and_lt_two_pow _ hy
theorem minusW_lt {x y : Nat} (hx : x < 2 ^ 64) (hy : y < 2 ^ 64) : minusW x y < 2 ^ 64 := Nat.and_lt_two_pow _ (by omega)
end Bm

theorem or1_any (x y r : Nat) (hx : x < 2 ^ 64) (hy : y < 2 ^ 64) (hr : Bm.orW x y = r) (w : World) :
    Calls Tryd.prog 62 #[.int .u64 x, .int .u64 y] w fun e w' => e = .returned (.int .u64 r) ∧ w = w' := by
  have e : bits .or .u64 (x : Int) (y : Int) = (r : Int) := by rw [u64_or_nat x y hx hy, ← hr]; rfl
  clear hr hx hy
  go_enter Tryd.func62, Tryd.ntmps62
  go_wp2
  go_ret
  first | exact ⟨rfl, rfl⟩ | exact ⟨ret_int e, rfl⟩
theorem and1_any (x y r : Nat) (hx : x < 2 ^ 64) (hy : y < 2 ^ 64) (hr : Bm.andW x y = r) (w : World) :
    Calls Tryd.prog 63 #[.int .u64 x, .int .u64 y] w fun e w' => e = .returned (.int .u64 r) ∧ w = w' := by
  have e : bits .and .u64 (x : Int) (y : Int) = (r : Int) := by rw [bits_and_u64_nat x y hx hy, ← hr]; rfl
  clear hr hx hy
  go_enter Tryd.func63, Tryd.ntmps63
  go_wp2
  go_ret
  first | exact ⟨rfl, rfl⟩ | exact ⟨ret_int e, rfl⟩
theorem minus1_any (x y r : Nat) (hx : x < 2 ^ 64) (hy : y < 2 ^ 64) (hr : Bm.minusW x y = r) (w : World) :
    Calls Tryd.prog 64 #[.int .u64 x, .int .u64 y] w fun e w' => e = .returned (.int .u64 r) ∧ w = w' := by
  have e : bits .andNot .u64 (x : Int) (y : Int) = (r : Int) := by rw [u64_andNot_nat x y hx hy, ← hr]; rfl
  clear hr hx hy
  go_enter Tryd.func64, Tryd.ntmps64
  go_wp2
  go_ret
  first | exact ⟨rfl, rfl⟩ | exact ⟨ret_int e, rfl⟩

set_option maxRecDepth 100000 in
set_option maxHeartbeats 2000000 in
theorem togor_any (a b : Option Addr) (n c d : Nat) (xs ys : List Nat) (hn : xs.length = n) (hm : ys.length = n) (hx : ∀ x ∈ xs, x < 2 ^ 64) (hy : ∀ y ∈ ys, y < 2 ^ 64) (hn5 : n ≤ 1024) (w : World) (B : Nat) (hS : Seen w B .u64 a xs) (hS' : Seen w B .u64 b ys) (hB : B ≤ w.heap.size) :
    Calls Tryd.prog 72 #[.slice a n c, .slice b n d, .func (.func 62) #[] #[]] w fun e w' => ∃ g, e = .returned (.slice (some ⟨g, 0, none⟩) n n) ∧ OwnW w' w.heap.size g n (List.zipWith Bm.orW xs ys) ∧ Below w.heap.size w w' := by
  obtain ⟨i0, hi, hz0, hz1, hz2⟩ := info_parts infoW
  have HN := Lib.hid hn
  have HM := Lib.hid hm
  have HX : Hid (∀ y ∈ xs, y < 2 ^ 64) := hx
  have HY : Hid (∀ y ∈ ys, y < 2 ^ 64) := hy
  have HS : Hid (Seen w B .u64 a xs) := hS
  have HS2 : Hid (Seen w B .u64 b ys) := hS'
  have HB := Lib.hid hB
  clear hn hm hx hy hS hS'
  go_enter Tryd.func72, Tryd.ntmps72
  go_wp2_with (at_make; refine wpList_make_full _ rfl _ _ 22 rfl w.heap.size 30 i0 (.int .u64 0) 1 Tryd.underlying22 hi hz0 hz1 .i64 .i64 _ _ n rfl rfl rfl rfl (by rw [hz2]; omega) (by unfold maxLen; omega) (by simp) ?_; intro w2 hown2 hgrow2; have HB2 := Lib.hid (below_own hgrow2 (fun g e => by cases e) (Nat.le_refl _)); have HOWN : Hid (OwnW w2 w.heap.size w.heap.size n (List.replicate n 0)) := zeros_w hown2; clear hown2 hgrow2)
  go_loopw [14] (fun iv wr => ∃ (k : Nat) (zs : List Nat), k ≤ n ∧ iv = .int .i64 k ∧ Hid (zs.length = n ∧ (∀ j, j < k → zs[j]? = (List.zipWith Bm.orW xs ys)[j]?)) ∧ Hid (OwnW wr w.heap.size w.heap.size n zs) ∧ Hid (Below w.heap.size w wr)) (fun i _ => n - (intOf i).toNat)
  case atStart => exact ⟨0, _, Nat.zero_le _, rfl, ⟨by simp, fun j hj => absurd hj (Nat.not_lt_zero _)⟩, HOWN, HB2⟩
  case round =>
    obtain ⟨k, zs, hk, rfl, HZ, HO, HBE⟩ := hrel
    by_cases hkn : k < n
    · have hkl : k < xs.length := by rw [HN.out]; omega
      have hkm : k < ys.length := by rw [HM.out]; omega
      obtain ⟨b1, off, rfl, hb, hcell⟩ := (HS.out.below (HBE.out.mono HB.out)).at hkl
      obtain ⟨b2, off2, rfl, hb2, hcell2⟩ := (HS2.out.below (HBE.out.mono HB.out)).at hkm
      obtain ⟨x, hxx⟩ : ∃ x, xs[k] = x := ⟨_, rfl⟩
      obtain ⟨y, hyy⟩ : ∃ y, ys[k] = y := ⟨_, rfl⟩
      rw [hxx] at hcell
      rw [hyy] at hcell2
      have HXL : Hid (x < 2 ^ 64) := by show _ < _; rw [← hxx]; exact HX.out _ (List.getElem_mem _)
      have HYL : Hid (y < 2 ^ 64) := by show _ < _; rw [← hyy]; exact HY.out _ (List.getElem_mem _)
      obtain ⟨r, hr⟩ : ∃ r, Bm.orW x y = r := ⟨_, rfl⟩
      have HR := Lib.hid hr
      have hfr : wr.frozen? ⟨w.heap.size, k, none⟩ = false := by have := HO.out.frozenAt k; simpa using this
      have hzk : k < zs.length := by rw [HZ.out.1]; exact hkn
      have hcl : wr.cell? ⟨w.heap.size, k, none⟩ = some (.int .u64 (zs[k] : Nat)) := by rw [HO.out.cellAt k (by omega), List.getElem?_map, List.getElem?_eq_getElem hzk]; rfl
      obtain ⟨z0, hz0'⟩ : ∃ z0, zs[k] = z0 := ⟨_, rfl⟩
      rw [hz0'] at hcl
      have HZ1 : Hid ((zs.set k r).length = n ∧ (∀ j, j < k + 1 → (zs.set k r)[j]? = (List.zipWith Bm.orW xs ys)[j]?)) := by
        refine ⟨by rw [List.length_set]; exact HZ.out.1, fun j hj => ?_⟩
        by_cases e : j = k
        · subst e
          rw [List.getElem?_set_self hzk, List.getElem?_zipWith, List.getElem?_eq_getElem hkl, List.getElem?_eq_getElem hkm, hxx, hyy, ← hr]
        · rw [List.getElem?_set_ne (by omega)]; exact HZ.out.2 j (by omega)
      have HST : Hid (OwnW (wr.setCell ⟨w.heap.size, k, none⟩ (.int .u64 r)) w.heap.size w.heap.size n (zs.set k r)) := by
        show World.ownsRow _ _ _ _ _ _ _
        rw [List.map_set]
        exact (HO.out.stored k _).1
      clear hxx hyy hr hz0' hkl hkm hzk
      go_wp2
      go_region_with (first
        | (go_at_call 62; ((with_reducible refine (or1_any x y r HXL.out HYL.out HR.out _).mono ?_); rintro e w3 ⟨rfl, rfl⟩)))
      all_goals
        rename_i hcont
        refine hcont _ _ ?_
        go_wp2
        exact ⟨⟨k + 1, _, hkn, rfl, HZ1, HST.out.drew, (HBE.out.setCell (Nat.le_refl _) _).drew⟩, by simp [intOf]; omega⟩
    · obtain rfl : n = k := by omega
      have HE : Hid (zs = List.zipWith Bm.orW xs ys) := by
        refine List.ext_getElem? fun j => ?_
        by_cases hj : j < n
        · exact HZ.out.2 j hj
        · rw [List.getElem?_eq_none (by rw [HZ.out.1]; omega), List.getElem?_eq_none (by rw [List.length_zipWith, HN.out, HM.out]; omega)]
      clear hkn
      go_wp2
      go_ret
      exact ⟨_, rfl, by rw [← HE.out]; exact HO.out, HBE.out⟩

set_option maxRecDepth 100000 in
set_option maxHeartbeats 2000000 in
theorem togand_any (a b : Option Addr) (n c d : Nat) (xs ys : List Nat) (hn : xs.length = n) (hm : ys.length = n) (hx : ∀ x ∈ xs, x < 2 ^ 64) (hy : ∀ y ∈ ys, y < 2 ^ 64) (hn5 : n ≤ 1024) (w : World) (B : Nat) (hS : Seen w B .u64 a xs) (hS' : Seen w B .u64 b ys) (hB : B ≤ w.heap.size) :
    Calls Tryd.prog 72 #[.slice a n c, .slice b n d, .func (.func 63) #[] #[]] w fun e w' => ∃ g, e = .returned (.slice (some ⟨g, 0, none⟩) n n) ∧ OwnW w' w.heap.size g n (List.zipWith Bm.andW xs ys) ∧ Below w.heap.size w w' := by
  obtain ⟨i0, hi, hz0, hz1, hz2⟩ := info_parts infoW
  have HN := Lib.hid hn
  have HM := Lib.hid hm
  have HX : Hid (∀ y ∈ xs, y < 2 ^ 64) := hx
  have HY : Hid (∀ y ∈ ys, y < 2 ^ 64) := hy
  have HS : Hid (Seen w B .u64 a xs) := hS
  have HS2 : Hid (Seen w B .u64 b ys) := hS'
  have HB := Lib.hid hB
  clear hn hm hx hy hS hS'
  go_enter Tryd.func72, Tryd.ntmps72
  go_wp2_with (at_make; refine wpList_make_full _ rfl _ _ 22 rfl w.heap.size 30 i0 (.int .u64 0) 1 Tryd.underlying22 hi hz0 hz1 .i64 .i64 _ _ n rfl rfl rfl rfl (by rw [hz2]; omega) (by unfold maxLen; omega) (by simp) ?_; intro w2 hown2 hgrow2; have HB2 := Lib.hid (below_own hgrow2 (fun g e => by cases e) (Nat.le_refl _)); have HOWN : Hid (OwnW w2 w.heap.size w.heap.size n (List.replicate n 0)) := zeros_w hown2; clear hown2 hgrow2)
  go_loopw [14] (fun iv wr => ∃ (k : Nat) (zs : List Nat), k ≤ n ∧ iv = .int .i64 k ∧ Hid (zs.length = n ∧ (∀ j, j < k → zs[j]? = (List.zipWith Bm.andW xs ys)[j]?)) ∧ Hid (OwnW wr w.heap.size w.heap.size n zs) ∧ Hid (Below w.heap.size w wr)) (fun i _ => n - (intOf i).toNat)
  case atStart => exact ⟨0, _, Nat.zero_le _, rfl, ⟨by simp, fun j hj => absurd hj (Nat.not_lt_zero _)⟩, HOWN, HB2⟩
  case round =>
    obtain ⟨k, zs, hk, rfl, HZ, HO, HBE⟩ := hrel
    by_cases hkn : k < n
    · have hkl : k < xs.length := by rw [HN.out]; omega
      have hkm : k < ys.length := by rw [HM.out]; omega
      obtain ⟨b1, off, rfl, hb, hcell⟩ := (HS.out.below (HBE.out.mono HB.out)).at hkl
      obtain ⟨b2, off2, rfl, hb2, hcell2⟩ := (HS2.out.below (HBE.out.mono HB.out)).at hkm
      obtain ⟨x, hxx⟩ : ∃ x, xs[k] = x := ⟨_, rfl⟩
      obtain ⟨y, hyy⟩ : ∃ y, ys[k] = y := ⟨_, rfl⟩
      rw [hxx] at hcell
      rw [hyy] at hcell2
      have HXL : Hid (x < 2 ^ 64) := by show _ < _; rw [← hxx]; exact HX.out _ (List.getElem_mem _)
      have HYL : Hid (y < 2 ^ 64) := by show _ < _; rw [← hyy]; exact HY.out _ (List.getElem_mem _)
      obtain ⟨r, hr⟩ : ∃ r, Bm.andW x y = r := ⟨_, rfl⟩
      have HR := Lib.hid hr
      have hfr : wr.frozen? ⟨w.heap.size, k, none⟩ = false := by have := HO.out.frozenAt k; simpa using this
      have hzk : k < zs.length := by rw [HZ.out.1]; exact hkn
      have hcl : wr.cell? ⟨w.heap.size, k, none⟩ = some (.int .u64 (zs[k] : Nat)) := by rw [HO.out.cellAt k (by omega), List.getElem?_map, List.getElem?_eq_getElem hzk]; rfl
      obtain ⟨z0, hz0'⟩ : ∃ z0, zs[k] = z0 := ⟨_, rfl⟩
      rw [hz0'] at hcl
      have HZ1 : Hid ((zs.set k r).length = n ∧ (∀ j, j < k + 1 → (zs.set k r)[j]? = (List.zipWith Bm.andW xs ys)[j]?)) := by
        refine ⟨by rw [List.length_set]; exact HZ.out.1, fun j hj => ?_⟩
        by_cases e : j = k
        · subst e
          rw [List.getElem?_set_self hzk, List.getElem?_zipWith, List.getElem?_eq_getElem hkl, List.getElem?_eq_getElem hkm, hxx, hyy, ← hr]
        · rw [List.getElem?_set_ne (by omega)]; exact HZ.out.2 j (by omega)
      have HST : Hid (OwnW (wr.setCell ⟨w.heap.size, k, none⟩ (.int .u64 r)) w.heap.size w.heap.size n (zs.set k r)) := by
        show World.ownsRow _ _ _ _ _ _ _
        rw [List.map_set]
        exact (HO.out.stored k _).1
      clear hxx hyy hr hz0' hkl hkm hzk
      go_wp2
      go_region_with (first
        | (go_at_call 63; ((with_reducible refine (and1_any x y r HXL.out HYL.out HR.out _).mono ?_); rintro e w3 ⟨rfl, rfl⟩)))
      all_goals
        rename_i hcont
        refine hcont _ _ ?_
        go_wp2
        exact ⟨⟨k + 1, _, hkn, rfl, HZ1, HST.out.drew, (HBE.out.setCell (Nat.le_refl _) _).drew⟩, by simp [intOf]; omega⟩
    · obtain rfl : n = k := by omega
      have HE : Hid (zs = List.zipWith Bm.andW xs ys) := by
        refine List.ext_getElem? fun j => ?_
        by_cases hj : j < n
        · exact HZ.out.2 j hj
        · rw [List.getElem?_eq_none (by rw [HZ.out.1]; omega), List.getElem?_eq_none (by rw [List.length_zipWith, HN.out, HM.out]; omega)]
      clear hkn
      go_wp2
      go_ret
      exact ⟨_, rfl, by rw [← HE.out]; exact HO.out, HBE.out⟩

set_option maxRecDepth 100000 in
set_option maxHeartbeats 2000000 in
theorem togminus_any (a b : Option Addr) (n c d : Nat) (xs ys : List Nat) (hn : xs.length = n) (hm : ys.length = n) (hx : ∀ x ∈ xs, x < 2 ^ 64) (hy : ∀ y ∈ ys, y < 2 ^ 64) (hn5 : n ≤ 1024) (w : World) (B : Nat) (hS : Seen w B .u64 a xs) (hS' : Seen w B .u64 b ys) (hB : B ≤ w.heap.size) :
    Calls Tryd.prog 72 #[.slice a n c, .slice b n d, .func (.func 64) #[] #[]] w fun e w' => ∃ g, e = .returned (.slice (some ⟨g, 0, none⟩) n n) ∧ OwnW w' w.heap.size g n (List.zipWith Bm.minusW xs ys) ∧ Below w.heap.size w w' := by
  obtain ⟨i0, hi, hz0, hz1, hz2⟩ := info_parts infoW
  have HN := Lib.hid hn
  have HM := Lib.hid hm
  have HX : Hid (∀ y ∈ xs, y < 2 ^ 64) := hx
  have HY : Hid (∀ y ∈ ys, y < 2 ^ 64) := hy
  have HS : Hid (Seen w B .u64 a xs) := hS
  have HS2 : Hid (Seen w B .u64 b ys) := hS'
  have HB := Lib.hid hB
  clear hn hm hx hy hS hS'
  go_enter Tryd.func72, Tryd.ntmps72
  go_wp2_with (at_make; refine wpList_make_full _ rfl _ _ 22 rfl w.heap.size 30 i0 (.int .u64 0) 1 Tryd.underlying22 hi hz0 hz1 .i64 .i64 _ _ n rfl rfl rfl rfl (by rw [hz2]; omega) (by unfold maxLen; omega) (by simp) ?_; intro w2 hown2 hgrow2; have HB2 := Lib.hid (below_own hgrow2 (fun g e => by cases e) (Nat.le_refl _)); have HOWN : Hid (OwnW w2 w.heap.size w.heap.size n (List.replicate n 0)) := zeros_w hown2; clear hown2 hgrow2)
  go_loopw [14] (fun iv wr => ∃ (k : Nat) (zs : List Nat), k ≤ n ∧ iv = .int .i64 k ∧ Hid (zs.length = n ∧ (∀ j, j < k → zs[j]? = (List.zipWith Bm.minusW xs ys)[j]?)) ∧ Hid (OwnW wr w.heap.size w.heap.size n zs) ∧ Hid (Below w.heap.size w wr)) (fun i _ => n - (intOf i).toNat)
  case atStart => exact ⟨0, _, Nat.zero_le _, rfl, ⟨by simp, fun j hj => absurd hj (Nat.not_lt_zero _)⟩, HOWN, HB2⟩
  case round =>
    obtain ⟨k, zs, hk, rfl, HZ, HO, HBE⟩ := hrel
    by_cases hkn : k < n
    · have hkl : k < xs.length := by rw [HN.out]; omega
      have hkm : k < ys.length := by rw [HM.out]; omega
      obtain ⟨b1, off, rfl, hb, hcell⟩ := (HS.out.below (HBE.out.mono HB.out)).at hkl
      obtain ⟨b2, off2, rfl, hb2, hcell2⟩ := (HS2.out.below (HBE.out.mono HB.out)).at hkm
      obtain ⟨x, hxx⟩ : ∃ x, xs[k] = x := ⟨_, rfl⟩
      obtain ⟨y, hyy⟩ : ∃ y, ys[k] = y := ⟨_, rfl⟩
      rw [hxx] at hcell
      rw [hyy] at hcell2
      have HXL : Hid (x < 2 ^ 64) := by show _ < _; rw [← hxx]; exact HX.out _ (List.getElem_mem _)
      have HYL : Hid (y < 2 ^ 64) := by show _ < _; rw [← hyy]; exact HY.out _ (List.getElem_mem _)
      obtain ⟨r, hr⟩ : ∃ r, Bm.minusW x y = r := ⟨_, rfl⟩
      have HR := Lib.hid hr
      have hfr : wr.frozen? ⟨w.heap.size, k, none⟩ = false := by have := HO.out.frozenAt k; simpa using this
      have hzk : k < zs.length := by rw [HZ.out.1]; exact hkn
      have hcl : wr.cell? ⟨w.heap.size, k, none⟩ = some (.int .u64 (zs[k] : Nat)) := by rw [HO.out.cellAt k (by omega), List.getElem?_map, List.getElem?_eq_getElem hzk]; rfl
      obtain ⟨z0, hz0'⟩ : ∃ z0, zs[k] = z0 := ⟨_, rfl⟩
      rw [hz0'] at hcl
      have HZ1 : Hid ((zs.set k r).length = n ∧ (∀ j, j < k + 1 → (zs.set k r)[j]? = (List.zipWith Bm.minusW xs ys)[j]?)) := by
        refine ⟨by rw [List.length_set]; exact HZ.out.1, fun j hj => ?_⟩
        by_cases e : j = k
        · subst e
          rw [List.getElem?_set_self hzk, List.getElem?_zipWith, List.getElem?_eq_getElem hkl, List.getElem?_eq_getElem hkm, hxx, hyy, ← hr]
        · rw [List.getElem?_set_ne (by omega)]; exact HZ.out.2 j (by omega)
      have HST : Hid (OwnW (wr.setCell ⟨w.heap.size, k, none⟩ (.int .u64 r)) w.heap.size w.heap.size n (zs.set k r)) := by
        show World.ownsRow _ _ _ _ _ _ _
        rw [List.map_set]
        exact (HO.out.stored k _).1
      clear hxx hyy hr hz0' hkl hkm hzk
      go_wp2
      go_region_with (first
        | (go_at_call 64; ((with_reducible refine (minus1_any x y r HXL.out HYL.out HR.out _).mono ?_); rintro e w3 ⟨rfl, rfl⟩)))
      all_goals
        rename_i hcont
        refine hcont _ _ ?_
        go_wp2
        exact ⟨⟨k + 1, _, hkn, rfl, HZ1, HST.out.drew, (HBE.out.setCell (Nat.le_refl _) _).drew⟩, by simp [intOf]; omega⟩
    · obtain rfl : n = k := by omega
      have HE : Hid (zs = List.zipWith Bm.minusW xs ys) := by
        refine List.ext_getElem? fun j => ?_
        by_cases hj : j < n
        · exact HZ.out.2 j hj
        · rw [List.getElem?_eq_none (by rw [HZ.out.1]; omega), List.getElem?_eq_none (by rw [List.length_zipWith, HN.out, HM.out]; omega)]
      clear hkn
      go_wp2
      go_ret
      exact ⟨_, rfl, by rw [← HE.out]; exact HO.out, HBE.out⟩

end Go.Proofs.YtkochcolmkgkgaaDoor
