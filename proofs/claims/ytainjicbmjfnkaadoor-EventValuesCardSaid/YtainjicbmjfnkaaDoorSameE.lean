/-
  SameNums, SameTexts, Fields.
-/
import Derived.Test.YtainjicbmjfnkaaDoorReadS
namespace Go.Proofs.YtainjicbmjfnkaaDoor
open Go.RowKit
set_option linter.unusedVariables false
namespace Vi
theorem take_snoc {α : Type} (l : List α) (k : Nat) (h : k < l.length) : l.take (k + 1) = l.take k ++ [l[k]] := by
  rw [List.take_add_one, List.getElem?_eq_getElem h]; rfl
end Vi
/-- Are two slices of numbers the same? -/
theorem sameNums_any (a b : Option Addr) (c d : Nat) (xs ys : List Nat) (B : Nat) (w : World) (hx : Seen w B .u64 a xs) (hy : Seen w B .u64 b ys) (hxl : xs.length ≤ maxLen) (hyl : ys.length ≤ maxLen) :
    Calls Tryd.prog 30 #[.slice a xs.length c, .slice b ys.length d] w fun e w' => e = .returned (.bool (decide (xs = ys))) ∧ Below w.heap.size w w' := by
  unfold maxLen at hxl hyl
  by_cases hl : xs.length = ys.length
  · have el : ((xs.length : Int) != (ys.length : Int)) = false := by simp; omega
    have HL := Lib.hid hl
    clear hl
    go_enter Tryd.func30, Tryd.ntmps30
    go_wp2
    go_loopw [5] (fun i wr => ∃ k : Nat, k ≤ xs.length ∧ i = .int .i64 k ∧ Hid (xs.take k = ys.take k) ∧ ∃ q, wr = w.drewN q) (fun i _ => xs.length - (intOf i).toNat)
    case atStart => exact ⟨0, by omega, rfl, rfl, 0, rfl⟩
    case round =>
      obtain ⟨k, hk, rfl, HT, q, rfl⟩ := hrel
      by_cases hlt : k < xs.length
      · have hlt2 : k < ys.length := by have := HL.out; omega
        obtain ⟨b1, o1, rfl, _, hc1⟩ := hx.at hlt
        obtain ⟨b2, o2, rfl, _, hc2⟩ := hy.at hlt2
        obtain ⟨u, hu⟩ : ∃ u, xs[k] = u := ⟨_, rfl⟩
        obtain ⟨v, hv⟩ : ∃ v, ys[k] = v := ⟨_, rfl⟩
        rw [hu] at hc1
        rw [hv] at hc2
        have i1 : (k : Int) < (xs.length : Int) := by omega
        have i2 : (k : Int) < (ys.length : Int) := by omega
        have i0 : (0 : Int) ≤ (k : Int) := by omega
        by_cases huv : u = v
        · have HN : Hid (xs.take (k + 1) = ys.take (k + 1)) := by rw [Vi.take_snoc xs k hlt, Vi.take_snoc ys k hlt2, hu, hv, huv, HT.out]; rfl
          have e1 : ((u : Int) != (v : Int)) = false := by simp; omega
          clear hu hv huv
          go_wp2
          go_quiet (fail)
          go_wp2
          exact ⟨⟨k + 1, by omega, by go_num, HN, q + nq, rfl⟩, by simp [intOf]; omega⟩
        · have HN : Hid (decide (xs = ys) = false) := by
            simp only [Hid, decide_eq_false_iff_not]; intro h; subst h; exact huv (hu.symm.trans hv)
          have e1 : ((u : Int) != (v : Int)) = true := by simp; omega
          clear hu hv huv
          go_wp2
          go_quiet (fail)
          go_wp2
          go_ret
          exact ⟨by rw [HN.out]; rfl, below_drewN (below_drewN (Below.refl _ _) q) nq⟩
      · obtain rfl : k = xs.length := by omega
        have HN : Hid (decide (xs = ys) = true) := by
          have := HT.out
          rw [List.take_length, HL.out, List.take_length] at this
          simpa [Hid] using this
        clear HT
        go_wp2
        go_ret
        exact ⟨by rw [HN.out]; rfl, below_drewN (Below.refl _ _) q⟩
  · have el : ((xs.length : Int) != (ys.length : Int)) = true := by simp; omega
    have hne : decide (xs = ys) = false := by simp; intro h; exact hl (by rw [h])
    rw [hne]
    clear hl
    go_enter Tryd.func30, Tryd.ntmps30
    go_wp2
    go_ret
    exact ⟨rfl, Below.refl _ _⟩

theorem sameNums_at (a b : Option Addr) (c d : Nat) (xs ys : List Nat) (n m : Nat) (r : Bool) (hn : xs.length = n) (hm : ys.length = m) (hr : decide (xs = ys) = r) (B1 B2 : Nat) (w : World) (hx : Seen w B1 .u64 a xs) (hy : Seen w B2 .u64 b ys) (hxl : n ≤ maxLen) (hyl : m ≤ maxLen) :
    Calls Tryd.prog 30 #[.slice a n c, .slice b m d] w fun e w' => e = .returned (.bool r) ∧ Below w.heap.size w w' := by
  subst hn; subst hm; subst hr
  exact sameNums_any a b c d xs ys (max B1 B2) w (hx.more (by omega)) (hy.more (by omega)) hxl hyl
theorem SeenS.at {w : World} {B : Nat} {a : Option Addr} {ws : List (List UInt8)} (h : SeenS w B a ws) {i : Nat} (hi : i < ws.length) : ∃ b off, a = some ⟨b, off, none⟩ ∧ b < B ∧ w.cell? ⟨b, off + i, none⟩ = some (.string (Ev.str ws[i])) := h i _ (List.getElem?_eq_getElem hi)
theorem str_cmp (x y : List UInt8) : ((Ev.str x).toList == (Ev.str y).toList) = decide (x = y) := by
  rw [ByteArray.toList_eq, ByteArray.toList_eq]
  by_cases h : x = y
  · subst h; simp
  · rw [decide_eq_false h]; simpa [Ev.str] using h
set_option maxRecDepth 100000 in
set_option maxHeartbeats 1000000 in
/-- Are two slices of texts the same? -/
theorem sameTexts_any (a b : Option Addr) (c d : Nat) (xs ys : List (List UInt8)) (n m : Nat) (hn : xs.length = n) (hm : ys.length = m) (r : Bool) (hr : decide (xs = ys) = r) (B1 B2 : Nat) (w : World) (hx : SeenS w B1 a xs) (hy : SeenS w B2 b ys) (hn9 : n ≤ 1000) :
    Calls Tryd.prog 33 #[.slice a n c, .slice b m d] w fun e w' => e = .returned (.bool r) ∧ Below w.heap.size w w' := by
  have HN := Lib.hid hn
  have HM := Lib.hid hm
  have HRR := Lib.hid hr
  by_cases hl : n = m
  · subst hl
    have hn9i : (n : Int) ≤ 1000 := by omega
    clear hn hm hr hn9
    go_enter Tryd.func33, Tryd.ntmps33
    go_wp2
    go_loopw [5] (fun i wr => ∃ k : Nat, k ≤ n ∧ i = .int .i64 k ∧ Hid (xs.take k = ys.take k) ∧ ∃ q, wr = w.drewN q) (fun i _ => n - (intOf i).toNat)
    case atStart => exact ⟨0, by omega, rfl, rfl, 0, rfl⟩
    case round =>
      obtain ⟨k, hk, rfl, HT, q, rfl⟩ := hrel
      by_cases hlt : k < n
      · obtain ⟨u, hu⟩ : ∃ u, xs[k]? = some u := ⟨_, List.getElem?_eq_getElem (by rw [HN.out]; exact hlt)⟩
        obtain ⟨v, hv⟩ : ∃ v, ys[k]? = some v := ⟨_, List.getElem?_eq_getElem (by rw [HM.out]; exact hlt)⟩
        obtain ⟨b1, o1, rfl, _, hc1⟩ := hx k u hu
        obtain ⟨b2, o2, rfl, _, hc2⟩ := hy k v hv
        have i1 : (k : Int) < (n : Int) := by omega
        have i0 : (0 : Int) ≤ (k : Int) := by omega
        by_cases huv : u = v
        · have HN2 : Hid (xs.take (k + 1) = ys.take (k + 1)) := by show _ = _; rw [List.take_add_one, List.take_add_one, hu, hv, huv, HT.out]
          have e1 : ((Ev.str u).toList == (Ev.str v).toList) = true := by rw [str_cmp, huv]; simp
          clear hu hv huv
          go_wp2
          go_quiet (fail)
          go_wp2
          exact ⟨⟨k + 1, by omega, by go_num, HN2, q + nq, rfl⟩, by simp [intOf]; omega⟩
        · have HF : Hid (r = false) := by
            show _ = _
            rw [← HRR.out, decide_eq_false_iff_not]; intro h; subst h; exact huv (Option.some.inj (hu.symm.trans hv))
          obtain rfl : false = r := HF.out.symm
          have e1 : ((Ev.str u).toList == (Ev.str v).toList) = false := by rw [str_cmp, decide_eq_false huv]
          clear hu hv huv
          go_wp2
          go_quiet (fail)
          go_wp2
          go_ret
          exact ⟨rfl, below_drewN (below_drewN (Below.refl _ _) q) nq⟩
      · obtain rfl : n = k := by omega
        obtain rfl : true = r := by
          have h := HT.out
          rw [show xs.take n = xs by rw [← HN.out, List.take_length], show ys.take n = ys by rw [← HM.out, List.take_length]] at h
          rw [← HRR.out, h]; simp
        clear HT
        go_wp2
        go_ret
        exact ⟨rfl, below_drewN (Below.refl _ _) q⟩
  · have el : ((n : Int) != (m : Int)) = true := by simp; omega
    have el2 : ((n : Int) == (m : Int)) = false := by simp; omega
    have el3 : (n == m) = false := by simp; omega
    obtain rfl : false = r := by
      rw [← hr]; symm; rw [decide_eq_false_iff_not]; intro h; exact hl (by rw [← hn, ← hm, h])
    clear hl hn hm hr
    go_enter Tryd.func33, Tryd.ntmps33
    go_wp2
    go_ret
    exact ⟨rfl, Below.refl _ _⟩
namespace Ev
/-- The names of a kind's fields. -/
def fnames (k : Nat) : List (List UInt8) := (kfs k).map fun f => names.getD f []
theorem HE.fname {w : World} (h : HE w) {f : Nat} (hf : f < 7) : w.cell? ⟨1, f, none⟩ = some (.string (str (names.getD f []))) := by
  refine h.2.2 f _ ?_
  rw [List.getD_eq_getElem?_getD, List.getElem?_eq_getElem (show f < names.length from hf)]; rfl
end Ev
theorem fields_no (k : Nat) (hk : k < 256) (hn : ¬ (1 ≤ k ∧ k ≤ 10)) (w : World) : Calls Tryd.prog 20 #[.int .u8 k] w fun e w' => e = .returned (.slice none 0 0) ∧ Below w.heap.size w w' := by
  have HR : Hid (decide (1 ≤ k ∧ k ≤ 10) = false) := by show _ = _; rw [decide_eq_false_iff_not]; exact hn
  have HKB := Lib.hid hk
  clear hk hn
  go_enter Tryd.func20, Tryd.ntmps20
  go_wp2_with (go_at_call 43; ((with_reducible refine (known_any k HKB.out false HR.out w).mono ?_); rintro e w' ⟨rfl, rfl⟩))
  go_ret
  exact ⟨rfl, Below.refl _ _⟩
set_option maxRecDepth 100000 in
set_option maxHeartbeats 1000000 in
theorem fields_yes (k : Nat) (hk1 : 1 ≤ k) (hk2 : k ≤ 10) (ns : List (List UInt8)) (hns : Ev.fnames k = ns) (n : Nat) (hn : ns.length = n) (w : World) (hE : Ev.HE w) : Calls Tryd.prog 20 #[.int .u8 k] w fun e w' => ∃ a c, e = .returned (.slice a n c) ∧ w'.ownsRow w.heap.size 9 1 (.slice a n c) n (ns.map strV) ∧ Below w.heap.size w w' := by
  have HR : Hid (decide (1 ≤ k ∧ k ≤ 10) = true) := by show _ = _; rw [decide_eq_true_eq]; exact ⟨hk1, hk2⟩
  have HKB : Hid (k < 256) := by show _ < _; omega
  have HEW := Lib.hid hE
  have HK1 := Lib.hid hk1
  have HK2 := Lib.hid hk2
  obtain ⟨fs, hfs⟩ : ∃ fs, Ev.kfs k = fs := ⟨_, rfl⟩
  have HNS : Hid (fs.map (fun f => Ev.names.getD f []) = ns) := by show _ = _; rw [← hns, ← hfs]; rfl
  have hn2 : fs.length = n := by rw [← hn, ← HNS.out, List.length_map]
  have HFL : Hid (∀ f ∈ fs, f < 7) := by rw [← hfs]; exact Ev.kfs_lt ⟨k, by omega⟩
  have hn4 : (n : Int) ≤ 4 := by have h := Ev.kfs_len ⟨k, by omega⟩; simp only [hfs, hn2] at h; omega
  have hkd : (k : Int) < 11 := by omega
  have HN := Lib.hid hn2
  have HNV := Lib.hid hn
  obtain ⟨_, fa, fc, hf1, hf2, hf3, hf4⟩ := hE.kind hk1 hk2
  rw [hfs] at hf1 hf2
  rw [hn2] at hf1
  have HFS : Hid (Seen w w.heap.size .u8 fa fs) := hf2
  have c1 : w.cell? ⟨0, k * 2 + 1, none⟩ = some (.slice fa n fc) := by rw [Nat.mul_comm]; exact hf1
  have HZ : Hid (Below w.heap.size w w) := Below.refl _ _
  have HR0 : Hid (w.ownsRow w.heap.size 9 1 (.slice none 0 0) 0 ((ns.take 0).map strV)) := World.ownsRow_nil _ _ _ _
  clear hf1 hf2 hf3 hf4 hfs hn hn2 hns hE hk1 hk2
  go_enter Tryd.func20, Tryd.ntmps20
  go_wp2_with (go_at_call 43; ((with_reducible refine (known_any k HKB.out true HR.out w).mono ?_); rintro e w2 ⟨rfl, hw2⟩; obtain rfl : w = w2 := hw2.symm))
  go_loopw [3, 14] (fun s3 iv wr => ∃ (i : Nat) (a : Option Addr) (c : Nat), i ≤ n ∧ s3 = .slice a i c ∧ iv = .int .i64 i ∧ Hid (wr.ownsRow w.heap.size 9 1 (.slice a i c) i ((ns.take i).map strV)) ∧ Hid (Below w.heap.size w wr)) (fun _ i _ => n - (intOf i).toNat)
  case atStart => exact ⟨0, none, 0, Nat.zero_le _, rfl, rfl, HR0, HZ⟩
  case round =>
    obtain ⟨i, a, c, hi, rfl, rfl, HRO, HBK⟩ := hrel
    clear c1
    by_cases hin : i < n
    · obtain ⟨f, hf⟩ : ∃ f, fs[i]? = some f := ⟨_, List.getElem?_eq_getElem (by rw [HN.out]; exact hin)⟩
      have HF7 : Hid (f < 7) := HFL.out f (List.mem_of_getElem? hf)
      obtain ⟨bf, of_, rfl, hbf, hcf⟩ := (HFS.out.below HBK.out) i f hf
      have hii : (i : Int) < (n : Int) := by omega
      have hf7 : (f : Int) < 7 := by have := HF7.out; omega
      have hnm := (HEW.out.below HBK.out).fname HF7.out
      obtain ⟨x, hx⟩ : ∃ x, Ev.names.getD f [] = x := ⟨_, rfl⟩
      rw [hx] at hnm
      have HT : Hid (ns.take (i + 1) = ns.take i ++ [x]) := by
        show _ = _
        rw [List.take_add_one, ← HNS.out, List.getElem?_map, hf, ← hx]; rfl
      have HK6 : Hid (i ≤ 4) := by show _ ≤ _; omega
      clear hf hbf hx hi
      go_wp2_with (at_builtin; refine app_str _ rfl _ _ rfl w.heap.size i _ (ns.take i) rfl (own_belowI HRO.out ((Below.refl _ _).alloc (Nat.le_refl _) _)) ⟨_, 0, none⟩ x rfl (cell_one_new _ _ _) (by have := HK6.out; omega) (HBK.out.alloc HBK.out.size _).size ?_; intro v5 w5 ho5 hb5; rw [← HT.out] at ho5; obtain ⟨a5, c5, rfl, ho5'⟩ := own_sliceS ho5; have HO5 := Lib.hid ho5'; have HB5 : Hid (Below w.heap.size w w5) := (HBK.out.alloc HBK.out.size _).trans (hb5.mono (Nat.le_refl _)); clear ho5 ho5' hb5)
      exact ⟨⟨i + 1, a5, c5, hin, rfl, rfl, HO5, HB5⟩, by simp [intOf]; omega⟩
    · obtain rfl : n = i := by omega
      have HT : Hid (ns.take n = ns) := by show _ = _; rw [← HNV.out, List.take_length]
      clear hi hin
      go_wp2_with fail
      go_ret
      exact ⟨a, c, rfl, by have h := HRO.out; rw [HT.out] at h; exact h, HBK.out⟩
/-- The texts of an owned row. -/
theorem SeenS.of_own {w : World} {base n : Nat} {a : Option Addr} {c : Nat} {xs : List (List UInt8)} (h : w.ownsRow base 9 1 (.slice a n c) n (xs.map strV)) : SeenS w w.heap.size a xs := by
  intro i x hx
  have hl : xs.length = n := by simpa using h.1
  have hli : i < xs.length := (List.getElem?_eq_some_iff.1 hx).1
  rcases h.2 with ⟨_, h0⟩ | ⟨g, cap, cur, hv, _, hh, _, _, _, ht⟩
  · omega
  · have ha : a = some ⟨g, 0, none⟩ := by injection hv
    subst ha
    refine ⟨g, 0, rfl, (Array.getElem?_eq_some_iff.1 hh).1, ?_⟩
    have hc : cur.toList[i]? = some (strV x) := by
      have h2 : (cur.toList.take (n * 1))[i]? = some (strV x) := by rw [ht]; simp [hx]
      rwa [List.getElem?_take_of_lt (by omega)] at h2
    simpa [World.cell?, hh, strV] using hc
end Go.Proofs.YtainjicbmjfnkaaDoor
