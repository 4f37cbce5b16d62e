/-
  The walk of CursorCounts.
-/
import Derived.Test.YtdemlifjhlpclaaFix
import Derived.Test.YtdemlifjhlpclaaZeros
namespace Go.Proofs.Ytdemlifjhlpclaa
open Go.RowKit
set_option linter.unusedVariables false

theorem rdCount_form (M S : Int) (x la : Nat) (ys : List Nat) (hx : x < 2 ^ 64) (hla : (Vi.form x).length = la) (hM : 0 ≤ M) (hS : 1 ≤ S) :
    Cu.rdCount M S 0 (Vi.form x ++ ys) = if M.toNat < x then (0, 21, 0) else if ys.length / S.toNat < x then (0, 20, 0) else (x, 0, la) := by
  have h := Vi.read_form x hx ys
  rw [hla] at h
  unfold Cu.rdCount
  rw [List.drop_zero, h, if_neg (by omega), if_neg (by simp)]
  simp only [Nat.zero_add]
  rw [List.length_append, hla, Nat.add_sub_cancel_left]
theorem rdBytes_in (n p : Nat) (xs : List Nat) (h : p + n ≤ xs.length) : Cu.rdBytes n p xs = ((xs.drop p).take n, 0, p + n) := by
  unfold Cu.rdBytes
  rw [if_neg (by omega), Int.toNat_natCast, if_neg (by omega)]
theorem info_u8 : ∃ i0, Try.prog.info? 5 = some i0 ∧ i0.zero = some (.int .u8 0) ∧ i0.size = 1 ∧ i0.bytes = 1 := info_parts infoB

set_option maxRecDepth 100000 in
set_option maxHeartbeats 4000000 in
theorem cnt_pos (x : Nat) (size : Int) (t s : Nat) (hx : x < 2 ^ 64) (hs1 : size ≤ 9223372036854775807) (ht : t < 65536) (hs : 1 ≤ s) (hss : size = (s : Int)) (w : World) :
    Calls Try.prog 7 #[.int .u64 x, .int .i64 size, .int .u16 t] w fun e w' => e = .returned (.bool true) ∧ Below w.heap.size w w' := by
  subst hss
  have hsI : (1 : Int) ≤ (s : Int) := by omega
  have hs63 : s ≤ 9223372036854775807 := by omega
  obtain ⟨i0, hi, hz0, hz1, hz2⟩ := info_u8
  have la1 := Vi.form_len10 x hx
  have la0 := Vi.form_pos x
  obtain ⟨la, hla⟩ : ∃ la, (Vi.form x).length = la := ⟨_, rfl⟩
  rw [hla] at la1 la0
  have HLA := Lib.hid hla
  obtain ⟨l, hl⟩ : ∃ l, t % 401 = l := ⟨_, rfl⟩
  have hlI : (t : Int) % 401 = (l : Int) := by omega
  have hl4 : l ≤ 400 := by omega
  have hbig : (9223372036854775807 : Int) ≤ 9223372036854775807 := Int.le_refl _
  have HLL : Hid ((Vi.form x ++ List.replicate l 0).length = la + l) := by rw [List.length_append, HLA.out, List.length_replicate]; rfl
  have HLM : Hid ((Vi.form x ++ List.replicate l 0).length ≤ 1000000000) := by rw [HLL.out]; show _ ≤ _; omega
  have HX : Hid (∀ y ∈ Vi.form x ++ List.replicate l 0, y < 256) := fun y h => by
    rcases List.mem_append.1 h with h | h
    · exact Vi.form_byte x y h
    · rw [List.eq_of_mem_replicate h]; decide
  have hC := rdCount_form 9223372036854775807 (s : Int) x la (List.replicate l 0) hx hla (by decide) (by omega)
  rw [List.length_replicate, show (9223372036854775807 : Int).toNat = 9223372036854775807 from rfl] at hC
  obtain ⟨d, hd⟩ : ∃ d, l / s = d := ⟨_, rfl⟩
  have hd4 : d ≤ 400 := by rw [← hd]; exact Nat.le_trans (Nat.div_le_self _ _) hl4
  have e1 : ((l : Int) / (s : Int)) = (d : Int) := by rw [← hd]; exact (Int.natCast_ediv _ _).symm
  have ed : IntKind.u64.wrap (d : Int) = (d : Int) := by rw [IntKind.wrap_u64]; exact Int.emod_eq_of_lt (by omega) (by omega)
  have ed6 : IntKind.i64.wrap (d : Int) = (d : Int) := IntWalk.i64_in _ (by omega)
  have hdd : l / ((s : Int) : Int).toNat = d := by rw [← hd]; rfl
  rw [hdd] at hC
  have HD := Lib.hid hd
  clear hla hl hd hdd
  by_cases hbigx : 9223372036854775807 < x
  · rw [if_pos hbigx] at hC
    have HC := Lib.hid hC
    have hbx : (9223372036854775807 : Int) < (x : Int) := by omega
    clear hC hbigx
    go_enter Try.func7, Try.ntmps7
    go_wp2_with (first
      | (go_at_call 12; ((with_reducible refine (awake_any _).mono ?_); rintro e w1 ⟨rfl, hB1⟩))
      | (go_at_call 24; ((with_reducible refine (write_n x la hx HLA.out _).mono ?_); rintro e w2 ⟨g1, c1, rfl, hown1, S1, hn1, hm1, hB2⟩; have h2 := Nat.le_trans hB1.size hB2.size; have hb2 := hB1.trans (hB2.mono hB1.size)))
      | (at_builtin; refine wpList_append_zeros _ rfl _ _ 22 3 rfl w.heap.size 5 i0 .i64 .i64 Try.underlying22 Try.underlying3 hi hz0 hz1 hz2 g1 la c1 l _ rfl rfl (rebase hown1 hB1.size) h2 (by omega) ?_; intro v3 w3 hown3' hgrow3; have hown3 : w3.ownsRow w.heap.size 5 1 v3 (la + l) ((Vi.form x ++ List.replicate l 0).map fun x : Nat => Value.int .u8 x) := (by rw [List.map_append, List.map_replicate]; exact hown3'); clear hown3'; obtain ⟨g3, c3, rfl⟩ := own_form hown3 (by omega); obtain ⟨hc3a, hc3b⟩ := own_cap hown3; unfold maxLen at hc3b; have hb3 := hb2.grown hgrow3 h2 (fun q e => by cases e; exact Nat.le_trans hB1.size (hown1.lt g1 rfl).1); have h3 := Nat.le_trans h2 hgrow3.size; have S3 := Seen.of_own (k := .u8) hown3)
      | (go_at_call 19; ((with_reducible refine (newReader_any _ _ (la + l) c3 _ HLL.out HX.out hc3a (by unfold maxLen; omega) (by simp) (by omega) _ S3 (Nat.le_refl _)).mono ?_); rintro e w4 ⟨R, rfl, hRR, hR4, hB4⟩; have hRw : w.heap.size ≤ R := Nat.le_trans h3 hRR; have h4 := Nat.le_trans h3 hB4.size; have hb4 := hb3.trans (hB4.mono h3)))
      | (go_at_call 25; ((with_reducible refine (count_at _ R 0 _ 9223372036854775807 (s : Int) 0 21 0 HC.out hbig (by omega) HLM.out hR4).mono ?_); rintro e w5 ⟨rfl, hR5, hK5⟩; have hb5 := hb4.trans (hK5.below (B := w.heap.size) (by intro q e; omega) h4); have h5 := Nat.le_trans h4 hK5.size))
      | (go_at_call 21; ((with_reducible refine (at_any _ R 0 _ hR5).mono ?_); rintro e w6 ⟨rfl, rfl⟩))
      )
    go_ret
    exact ⟨rfl, hb5⟩
  · rw [if_neg hbigx] at hC
    have hbx : (x : Int) ≤ (9223372036854775807 : Int) := by omega
    by_cases hdx : d < x
    · rw [if_pos hdx] at hC
      have HC := Lib.hid hC
      have hbd : (d : Int) < (x : Int) := by omega
      clear hC hbigx hdx
      go_enter Try.func7, Try.ntmps7
      go_wp2_with (first
      | (go_at_call 12; ((with_reducible refine (awake_any _).mono ?_); rintro e w1 ⟨rfl, hB1⟩))
      | (go_at_call 24; ((with_reducible refine (write_n x la hx HLA.out _).mono ?_); rintro e w2 ⟨g1, c1, rfl, hown1, S1, hn1, hm1, hB2⟩; have h2 := Nat.le_trans hB1.size hB2.size; have hb2 := hB1.trans (hB2.mono hB1.size)))
      | (at_builtin; refine wpList_append_zeros _ rfl _ _ 22 3 rfl w.heap.size 5 i0 .i64 .i64 Try.underlying22 Try.underlying3 hi hz0 hz1 hz2 g1 la c1 l _ rfl rfl (rebase hown1 hB1.size) h2 (by omega) ?_; intro v3 w3 hown3' hgrow3; have hown3 : w3.ownsRow w.heap.size 5 1 v3 (la + l) ((Vi.form x ++ List.replicate l 0).map fun x : Nat => Value.int .u8 x) := (by rw [List.map_append, List.map_replicate]; exact hown3'); clear hown3'; obtain ⟨g3, c3, rfl⟩ := own_form hown3 (by omega); obtain ⟨hc3a, hc3b⟩ := own_cap hown3; unfold maxLen at hc3b; have hb3 := hb2.grown hgrow3 h2 (fun q e => by cases e; exact Nat.le_trans hB1.size (hown1.lt g1 rfl).1); have h3 := Nat.le_trans h2 hgrow3.size; have S3 := Seen.of_own (k := .u8) hown3)
      | (go_at_call 19; ((with_reducible refine (newReader_any _ _ (la + l) c3 _ HLL.out HX.out hc3a (by unfold maxLen; omega) (by simp) (by omega) _ S3 (Nat.le_refl _)).mono ?_); rintro e w4 ⟨R, rfl, hRR, hR4, hB4⟩; have hRw : w.heap.size ≤ R := Nat.le_trans h3 hRR; have h4 := Nat.le_trans h3 hB4.size; have hb4 := hb3.trans (hB4.mono h3)))
      | (go_at_call 25; ((with_reducible refine (count_at _ R 0 _ 9223372036854775807 (s : Int) 0 20 0 HC.out hbig (by omega) HLM.out hR4).mono ?_); rintro e w5 ⟨rfl, hR5, hK5⟩; have hb5 := hb4.trans (hK5.below (B := w.heap.size) (by intro q e; omega) h4); have h5 := Nat.le_trans h4 hK5.size))
      | (go_at_call 21; ((with_reducible refine (at_any _ R 0 _ hR5).mono ?_); rintro e w6 ⟨rfl, rfl⟩))
        )
      go_ret
      exact ⟨rfl, hb5⟩
    · rw [if_neg hdx] at hC
      have HC := Lib.hid hC
      have hbd : (x : Int) ≤ (d : Int) := by omega
      have hx4 : x ≤ 400 := by omega
      have hxs : Hid (x * s ≤ l) := by
        have := (Nat.le_div_iff_mul_le (k := s) (by omega) (x := x) (y := l)).1 (by rw [HD.out]; omega)
        exact this
      have ew : IntKind.i64.wrap (x : Int) = (x : Int) := IntWalk.i64_in _ (by omega)
      clear hC hbigx hdx
      go_enter Try.func7, Try.ntmps7
      go_wp2_with (first
      | (go_at_call 12; ((with_reducible refine (awake_any _).mono ?_); rintro e w1 ⟨rfl, hB1⟩))
      | (go_at_call 24; ((with_reducible refine (write_n x la hx HLA.out _).mono ?_); rintro e w2 ⟨g1, c1, rfl, hown1, S1, hn1, hm1, hB2⟩; have h2 := Nat.le_trans hB1.size hB2.size; have hb2 := hB1.trans (hB2.mono hB1.size)))
      | (at_builtin; refine wpList_append_zeros _ rfl _ _ 22 3 rfl w.heap.size 5 i0 .i64 .i64 Try.underlying22 Try.underlying3 hi hz0 hz1 hz2 g1 la c1 l _ rfl rfl (rebase hown1 hB1.size) h2 (by omega) ?_; intro v3 w3 hown3' hgrow3; have hown3 : w3.ownsRow w.heap.size 5 1 v3 (la + l) ((Vi.form x ++ List.replicate l 0).map fun x : Nat => Value.int .u8 x) := (by rw [List.map_append, List.map_replicate]; exact hown3'); clear hown3'; obtain ⟨g3, c3, rfl⟩ := own_form hown3 (by omega); obtain ⟨hc3a, hc3b⟩ := own_cap hown3; unfold maxLen at hc3b; have hb3 := hb2.grown hgrow3 h2 (fun q e => by cases e; exact Nat.le_trans hB1.size (hown1.lt g1 rfl).1); have h3 := Nat.le_trans h2 hgrow3.size; have S3 := Seen.of_own (k := .u8) hown3)
      | (go_at_call 19; ((with_reducible refine (newReader_any _ _ (la + l) c3 _ HLL.out HX.out hc3a (by unfold maxLen; omega) (by simp) (by omega) _ S3 (Nat.le_refl _)).mono ?_); rintro e w4 ⟨R, rfl, hRR, hR4, hB4⟩; have hRw : w.heap.size ≤ R := Nat.le_trans h3 hRR; have h4 := Nat.le_trans h3 hB4.size; have hb4 := hb3.trans (hB4.mono h3)))
      | (go_at_call 25; ((with_reducible refine (count_at _ R 0 _ 9223372036854775807 (s : Int) x 0 la HC.out hbig (by omega) HLM.out hR4).mono ?_); rintro e w5 ⟨rfl, hR5, hK5⟩; have hb5 := hb4.trans (hK5.below (B := w.heap.size) (by intro q e; omega) h4); have h5 := Nat.le_trans h4 hK5.size))
        | (go_at_call 22; ((with_reducible refine (left_rd _ R la _ (la + l) HLL.out hR5).mono ?_); rintro e w6 ⟨rfl, q6, rfl⟩; have hb6 := below_drewN hb5 q6; have S6 : Seen (w5.drewN q6) (w5.drewN q6).heap.size .u8 (some ⟨g3, 0, none⟩) (Vi.form x ++ List.replicate l 0) := ((hR4.past hK5 (S3.below hB4)).more (Nat.le_trans hB4.size hK5.size)); have hR6 : Rdr (w5.drewN q6) R la (Vi.form x ++ List.replicate l 0) := hR5)))
      go_loopw [80] (fun i wr => ∃ j : Nat, j ≤ x ∧ i = .int .i64 j ∧ Rdr wr R (la + j * s) (Vi.form x ++ List.replicate l 0) ∧ Seen wr wr.heap.size .u8 (some ⟨g3, 0, none⟩) (Vi.form x ++ List.replicate l 0) ∧ Below w.heap.size w wr) (fun i _ => x - (intOf i).toNat)
      case atStart => exact ⟨0, Nat.zero_le _, rfl, by rw [Nat.zero_mul, Nat.add_zero]; exact hR6, S6, hb6⟩
      case round =>
        obtain ⟨j, hj, rfl, hR, hSj, hB⟩ := hrel
        by_cases hlt : j < x
        · have hle : j * s + s ≤ l := by
            have h1 : (j + 1) * s ≤ x * s := Nat.mul_le_mul_right _ hlt
            rw [Nat.succ_mul] at h1
            exact Nat.le_trans h1 hxs.out
          have HL : Hid ((((Vi.form x ++ List.replicate l 0).drop (la + j * s)).take s).length = s) := by rw [List.length_take, List.length_drop, HLL.out]; show _ = _; omega
          have HRB : Hid (Cu.rdBytes (s : Int) (la + j * s) (Vi.form x ++ List.replicate l 0) = (((Vi.form x ++ List.replicate l 0).drop (la + j * s)).take s, 0, la + (j + 1) * s)) := by
            rw [Nat.succ_mul, ← Nat.add_assoc]
            exact rdBytes_in s (la + j * s) _ (by rw [HLL.out]; omega)
          have i1 : (j : Int) < (x : Int) := by omega
          go_wp2_with (go_at_call 26; ((with_reducible refine (bytes_at _ R _ _ (s : Int) (by omega) HLM.out _ 0 _ HRB.out s HL.out hR).mono ?_); rintro e w9 ⟨a9, c9, rfl, _, _, _, _, hR9, hK9⟩; have S9 := (hR.past hK9 hSj).more hK9.size; have hB9 := hB.trans (hK9.below (B := w.heap.size) (by intro q e; omega) hB.size)))
          go_roundw
          case rel =>
            repeat apply Exists.intro
            refine ⟨⟨j + 1, by omega, rfl, hR9, S9, hB9⟩, ?_⟩
            simp
            repeat' (first | exact rfl | omega | apply And.intro)
          case measure => simp [intOf]; omega
        · obtain ⟨rfl⟩ : j = x := by omega
          have hbm : ((x : Int) - 1) ≤ 9223372036854775807 := by omega
          by_cases hx0 : x = 0
          · have HC2 : Hid (Cu.rdCount ((x : Int) - 1) (s : Int) 0 (Vi.form x ++ List.replicate l 0) = (0, 2, 0)) := by unfold Cu.rdCount; rw [if_pos (by omega)]; rfl
            have e0 : ((x : Int) == 0) = true := by simp; omega
            have e0b : (x : Int) ≤ 0 := by omega
            clear hx0
            go_wp2_with (first
              | (go_at_call 19; ((with_reducible refine (newReader_any _ _ (la + l) c3 _ HLL.out HX.out hc3a (by unfold maxLen; omega) (by simp) (by omega) _ hSj (Nat.le_refl _)).mono ?_); rintro e w10 ⟨R2, rfl, hRR2, hR10, hB10⟩; have h10 := Nat.le_trans hB.size hB10.size; have hb10 := hB.trans (hB10.mono hB.size)))
              | (go_at_call 25; ((with_reducible refine (count_at _ R2 0 _ _ (s : Int) 0 2 0 HC2.out hbm (by omega) HLM.out hR10).mono ?_); rintro e w11 ⟨rfl, hR11, hK11⟩; have hb11 := hb10.trans (hK11.below (B := w.heap.size) (by intro q e; have := hB.size; omega) h10)))
              | (go_at_call 21; ((with_reducible refine (at_any _ R2 0 _ hR11).mono ?_); rintro e w12 ⟨rfl, rfl⟩)))
            go_ret
            exact ⟨rfl, hb11⟩
          · have HC2 : Hid (Cu.rdCount ((x : Int) - 1) (s : Int) 0 (Vi.form x ++ List.replicate l 0) = (0, 21, 0)) := by
              rw [rdCount_form ((x : Int) - 1) (s : Int) x la _ hx HLA.out (by omega) (by omega), if_pos (by omega)]; rfl
            have e0 : ((x : Int) == 0) = false := by simp; omega
            have e0b : (0 : Int) < (x : Int) := by omega
            clear hx0
            go_wp2_with (first
              | (go_at_call 19; ((with_reducible refine (newReader_any _ _ (la + l) c3 _ HLL.out HX.out hc3a (by unfold maxLen; omega) (by simp) (by omega) _ hSj (Nat.le_refl _)).mono ?_); rintro e w10 ⟨R2, rfl, hRR2, hR10, hB10⟩; have h10 := Nat.le_trans hB.size hB10.size; have hb10 := hB.trans (hB10.mono hB.size)))
              | (go_at_call 25; ((with_reducible refine (count_at _ R2 0 _ _ (s : Int) 0 21 0 HC2.out hbm (by omega) HLM.out hR10).mono ?_); rintro e w11 ⟨rfl, hR11, hK11⟩; have hb11 := hb10.trans (hK11.below (B := w.heap.size) (by intro q e; have := hB.size; omega) h10)))
              | (go_at_call 21; ((with_reducible refine (at_any _ R2 0 _ hR11).mono ?_); rintro e w12 ⟨rfl, rfl⟩)))
            go_ret
            exact ⟨rfl, hb11⟩

set_option maxRecDepth 100000 in
set_option maxHeartbeats 4000000 in
theorem cnt_neg (x : Nat) (size : Int) (t s : Nat) (hx : x < 2 ^ 64) (hs1 : size ≤ 9223372036854775807) (ht : t < 65536) (hs : size < 1) (w : World) :
    Calls Try.prog 7 #[.int .u64 x, .int .i64 size, .int .u16 t] w fun e w' => e = .returned (.bool true) ∧ Below w.heap.size w w' := by
  obtain ⟨i0, hi, hz0, hz1, hz2⟩ := info_u8
  have la1 := Vi.form_len10 x hx
  have la0 := Vi.form_pos x
  obtain ⟨la, hla⟩ : ∃ la, (Vi.form x).length = la := ⟨_, rfl⟩
  rw [hla] at la1 la0
  have HLA := Lib.hid hla
  obtain ⟨l, hl⟩ : ∃ l, t % 401 = l := ⟨_, rfl⟩
  have hlI : (t : Int) % 401 = (l : Int) := by omega
  have hl4 : l ≤ 400 := by omega
  have hbig : (9223372036854775807 : Int) ≤ 9223372036854775807 := Int.le_refl _
  have HLL : Hid ((Vi.form x ++ List.replicate l 0).length = la + l) := by rw [List.length_append, HLA.out, List.length_replicate]; rfl
  have HLM : Hid ((Vi.form x ++ List.replicate l 0).length ≤ 1000000000) := by rw [HLL.out]; show _ ≤ _; omega
  have HX : Hid (∀ y ∈ Vi.form x ++ List.replicate l 0, y < 256) := fun y h => by
    rcases List.mem_append.1 h with h | h
    · exact Vi.form_byte x y h
    · rw [List.eq_of_mem_replicate h]; decide
  have hC := rdCount_form 9223372036854775807 1 x la (List.replicate l 0) hx hla (by decide) (by omega)
  rw [List.length_replicate, show (9223372036854775807 : Int).toNat = 9223372036854775807 from rfl] at hC
  obtain ⟨d, hd⟩ : ∃ d, l / 1 = d := ⟨_, rfl⟩
  have hd4 : d ≤ 400 := by rw [← hd]; exact Nat.le_trans (Nat.div_le_self _ _) hl4
  have e1 : ((l : Int) / 1) = (d : Int) := by rw [← hd]; exact (Int.natCast_ediv _ _).symm
  have ed : IntKind.u64.wrap (d : Int) = (d : Int) := by rw [IntKind.wrap_u64]; exact Int.emod_eq_of_lt (by omega) (by omega)
  have ed6 : IntKind.i64.wrap (d : Int) = (d : Int) := IntWalk.i64_in _ (by omega)
  have hdd : l / (1 : Int).toNat = d := by rw [← hd]; rfl
  rw [hdd] at hC
  have HD := Lib.hid hd
  clear hla hl hd hdd
  by_cases hbigx : 9223372036854775807 < x
  · rw [if_pos hbigx] at hC
    have HC := Lib.hid hC
    have hbx : (9223372036854775807 : Int) < (x : Int) := by omega
    clear hC hbigx
    go_enter Try.func7, Try.ntmps7
    go_wp2_with (first
      | (go_at_call 12; ((with_reducible refine (awake_any _).mono ?_); rintro e w1 ⟨rfl, hB1⟩))
      | (go_at_call 24; ((with_reducible refine (write_n x la hx HLA.out _).mono ?_); rintro e w2 ⟨g1, c1, rfl, hown1, S1, hn1, hm1, hB2⟩; have h2 := Nat.le_trans hB1.size hB2.size; have hb2 := hB1.trans (hB2.mono hB1.size)))
      | (at_builtin; refine wpList_append_zeros _ rfl _ _ 22 3 rfl w.heap.size 5 i0 .i64 .i64 Try.underlying22 Try.underlying3 hi hz0 hz1 hz2 g1 la c1 l _ rfl rfl (rebase hown1 hB1.size) h2 (by omega) ?_; intro v3 w3 hown3' hgrow3; have hown3 : w3.ownsRow w.heap.size 5 1 v3 (la + l) ((Vi.form x ++ List.replicate l 0).map fun x : Nat => Value.int .u8 x) := (by rw [List.map_append, List.map_replicate]; exact hown3'); clear hown3'; obtain ⟨g3, c3, rfl⟩ := own_form hown3 (by omega); obtain ⟨hc3a, hc3b⟩ := own_cap hown3; unfold maxLen at hc3b; have hb3 := hb2.grown hgrow3 h2 (fun q e => by cases e; exact Nat.le_trans hB1.size (hown1.lt g1 rfl).1); have h3 := Nat.le_trans h2 hgrow3.size; have S3 := Seen.of_own (k := .u8) hown3)
      | (go_at_call 19; ((with_reducible refine (newReader_any _ _ (la + l) c3 _ HLL.out HX.out hc3a (by unfold maxLen; omega) (by simp) (by omega) _ S3 (Nat.le_refl _)).mono ?_); rintro e w4 ⟨R, rfl, hRR, hR4, hB4⟩; have hRw : w.heap.size ≤ R := Nat.le_trans h3 hRR; have h4 := Nat.le_trans h3 hB4.size; have hb4 := hb3.trans (hB4.mono h3)))
      | (go_at_call 25; ((with_reducible refine (count_at _ R 0 _ 9223372036854775807 1 0 21 0 HC.out hbig (by omega) HLM.out hR4).mono ?_); rintro e w5 ⟨rfl, hR5, hK5⟩; have hb5 := hb4.trans (hK5.below (B := w.heap.size) (by intro q e; omega) h4); have h5 := Nat.le_trans h4 hK5.size))
      | (go_at_call 21; ((with_reducible refine (at_any _ R 0 _ hR5).mono ?_); rintro e w6 ⟨rfl, rfl⟩))
      )
    go_ret
    exact ⟨rfl, hb5⟩
  · rw [if_neg hbigx] at hC
    have hbx : (x : Int) ≤ (9223372036854775807 : Int) := by omega
    by_cases hdx : d < x
    · rw [if_pos hdx] at hC
      have HC := Lib.hid hC
      have hbd : (d : Int) < (x : Int) := by omega
      clear hC hbigx hdx
      go_enter Try.func7, Try.ntmps7
      go_wp2_with (first
      | (go_at_call 12; ((with_reducible refine (awake_any _).mono ?_); rintro e w1 ⟨rfl, hB1⟩))
      | (go_at_call 24; ((with_reducible refine (write_n x la hx HLA.out _).mono ?_); rintro e w2 ⟨g1, c1, rfl, hown1, S1, hn1, hm1, hB2⟩; have h2 := Nat.le_trans hB1.size hB2.size; have hb2 := hB1.trans (hB2.mono hB1.size)))
      | (at_builtin; refine wpList_append_zeros _ rfl _ _ 22 3 rfl w.heap.size 5 i0 .i64 .i64 Try.underlying22 Try.underlying3 hi hz0 hz1 hz2 g1 la c1 l _ rfl rfl (rebase hown1 hB1.size) h2 (by omega) ?_; intro v3 w3 hown3' hgrow3; have hown3 : w3.ownsRow w.heap.size 5 1 v3 (la + l) ((Vi.form x ++ List.replicate l 0).map fun x : Nat => Value.int .u8 x) := (by rw [List.map_append, List.map_replicate]; exact hown3'); clear hown3'; obtain ⟨g3, c3, rfl⟩ := own_form hown3 (by omega); obtain ⟨hc3a, hc3b⟩ := own_cap hown3; unfold maxLen at hc3b; have hb3 := hb2.grown hgrow3 h2 (fun q e => by cases e; exact Nat.le_trans hB1.size (hown1.lt g1 rfl).1); have h3 := Nat.le_trans h2 hgrow3.size; have S3 := Seen.of_own (k := .u8) hown3)
      | (go_at_call 19; ((with_reducible refine (newReader_any _ _ (la + l) c3 _ HLL.out HX.out hc3a (by unfold maxLen; omega) (by simp) (by omega) _ S3 (Nat.le_refl _)).mono ?_); rintro e w4 ⟨R, rfl, hRR, hR4, hB4⟩; have hRw : w.heap.size ≤ R := Nat.le_trans h3 hRR; have h4 := Nat.le_trans h3 hB4.size; have hb4 := hb3.trans (hB4.mono h3)))
      | (go_at_call 25; ((with_reducible refine (count_at _ R 0 _ 9223372036854775807 1 0 20 0 HC.out hbig (by omega) HLM.out hR4).mono ?_); rintro e w5 ⟨rfl, hR5, hK5⟩; have hb5 := hb4.trans (hK5.below (B := w.heap.size) (by intro q e; omega) h4); have h5 := Nat.le_trans h4 hK5.size))
      | (go_at_call 21; ((with_reducible refine (at_any _ R 0 _ hR5).mono ?_); rintro e w6 ⟨rfl, rfl⟩))
        )
      go_ret
      exact ⟨rfl, hb5⟩
    · rw [if_neg hdx] at hC
      have HC := Lib.hid hC
      have hbd : (x : Int) ≤ (d : Int) := by omega
      have hx4 : x ≤ 400 := by omega
      have hxs : Hid (x * 1 ≤ l) := by
        have := (Nat.le_div_iff_mul_le (k := 1) (by omega) (x := x) (y := l)).1 (by rw [HD.out]; omega)
        exact this
      have ew : IntKind.i64.wrap (x : Int) = (x : Int) := IntWalk.i64_in _ (by omega)
      clear hC hbigx hdx
      go_enter Try.func7, Try.ntmps7
      go_wp2_with (first
      | (go_at_call 12; ((with_reducible refine (awake_any _).mono ?_); rintro e w1 ⟨rfl, hB1⟩))
      | (go_at_call 24; ((with_reducible refine (write_n x la hx HLA.out _).mono ?_); rintro e w2 ⟨g1, c1, rfl, hown1, S1, hn1, hm1, hB2⟩; have h2 := Nat.le_trans hB1.size hB2.size; have hb2 := hB1.trans (hB2.mono hB1.size)))
      | (at_builtin; refine wpList_append_zeros _ rfl _ _ 22 3 rfl w.heap.size 5 i0 .i64 .i64 Try.underlying22 Try.underlying3 hi hz0 hz1 hz2 g1 la c1 l _ rfl rfl (rebase hown1 hB1.size) h2 (by omega) ?_; intro v3 w3 hown3' hgrow3; have hown3 : w3.ownsRow w.heap.size 5 1 v3 (la + l) ((Vi.form x ++ List.replicate l 0).map fun x : Nat => Value.int .u8 x) := (by rw [List.map_append, List.map_replicate]; exact hown3'); clear hown3'; obtain ⟨g3, c3, rfl⟩ := own_form hown3 (by omega); obtain ⟨hc3a, hc3b⟩ := own_cap hown3; unfold maxLen at hc3b; have hb3 := hb2.grown hgrow3 h2 (fun q e => by cases e; exact Nat.le_trans hB1.size (hown1.lt g1 rfl).1); have h3 := Nat.le_trans h2 hgrow3.size; have S3 := Seen.of_own (k := .u8) hown3)
      | (go_at_call 19; ((with_reducible refine (newReader_any _ _ (la + l) c3 _ HLL.out HX.out hc3a (by unfold maxLen; omega) (by simp) (by omega) _ S3 (Nat.le_refl _)).mono ?_); rintro e w4 ⟨R, rfl, hRR, hR4, hB4⟩; have hRw : w.heap.size ≤ R := Nat.le_trans h3 hRR; have h4 := Nat.le_trans h3 hB4.size; have hb4 := hb3.trans (hB4.mono h3)))
      | (go_at_call 25; ((with_reducible refine (count_at _ R 0 _ 9223372036854775807 1 x 0 la HC.out hbig (by omega) HLM.out hR4).mono ?_); rintro e w5 ⟨rfl, hR5, hK5⟩; have hb5 := hb4.trans (hK5.below (B := w.heap.size) (by intro q e; omega) h4); have h5 := Nat.le_trans h4 hK5.size))
        | (go_at_call 22; ((with_reducible refine (left_rd _ R la _ (la + l) HLL.out hR5).mono ?_); rintro e w6 ⟨rfl, q6, rfl⟩; have hb6 := below_drewN hb5 q6; have S6 : Seen (w5.drewN q6) (w5.drewN q6).heap.size .u8 (some ⟨g3, 0, none⟩) (Vi.form x ++ List.replicate l 0) := ((hR4.past hK5 (S3.below hB4)).more (Nat.le_trans hB4.size hK5.size)); have hR6 : Rdr (w5.drewN q6) R la (Vi.form x ++ List.replicate l 0) := hR5)))
      go_loopw [80] (fun i wr => ∃ j : Nat, j ≤ x ∧ i = .int .i64 j ∧ Rdr wr R (la + j * 1) (Vi.form x ++ List.replicate l 0) ∧ Seen wr wr.heap.size .u8 (some ⟨g3, 0, none⟩) (Vi.form x ++ List.replicate l 0) ∧ Below w.heap.size w wr) (fun i _ => x - (intOf i).toNat)
      case atStart => exact ⟨0, Nat.zero_le _, rfl, by rw [Nat.zero_mul, Nat.add_zero]; exact hR6, S6, hb6⟩
      case round =>
        obtain ⟨j, hj, rfl, hR, hSj, hB⟩ := hrel
        by_cases hlt : j < x
        · have hle : j * 1 + 1 ≤ l := by
            have h1 : (j + 1) * 1 ≤ x * 1 := Nat.mul_le_mul_right _ hlt
            rw [Nat.succ_mul] at h1
            exact Nat.le_trans h1 hxs.out
          have HL : Hid ((((Vi.form x ++ List.replicate l 0).drop (la + j * 1)).take 1).length = 1) := by rw [List.length_take, List.length_drop, HLL.out]; show _ = _; omega
          have HRB : Hid (Cu.rdBytes 1 (la + j * 1) (Vi.form x ++ List.replicate l 0) = (((Vi.form x ++ List.replicate l 0).drop (la + j * 1)).take 1, 0, la + (j + 1) * 1)) := by
            rw [Nat.succ_mul, ← Nat.add_assoc]
            exact rdBytes_in 1 (la + j * 1) _ (by rw [HLL.out]; omega)
          have i1 : (j : Int) < (x : Int) := by omega
          go_wp2_with (go_at_call 26; ((with_reducible refine (bytes_at _ R _ _ 1 (by omega) HLM.out _ 0 _ HRB.out 1 HL.out hR).mono ?_); rintro e w9 ⟨a9, c9, rfl, _, _, _, _, hR9, hK9⟩; have S9 := (hR.past hK9 hSj).more hK9.size; have hB9 := hB.trans (hK9.below (B := w.heap.size) (by intro q e; omega) hB.size)))
          go_roundw
          case rel =>
            repeat apply Exists.intro
            refine ⟨⟨j + 1, by omega, rfl, hR9, S9, hB9⟩, ?_⟩
            simp
            repeat' (first | exact rfl | omega | apply And.intro)
          case measure => simp [intOf]; omega
        · obtain ⟨rfl⟩ : j = x := by omega
          have hbm : ((x : Int) - 1) ≤ 9223372036854775807 := by omega
          by_cases hx0 : x = 0
          · have HC2 : Hid (Cu.rdCount ((x : Int) - 1) 1 0 (Vi.form x ++ List.replicate l 0) = (0, 2, 0)) := by unfold Cu.rdCount; rw [if_pos (by omega)]; rfl
            have e0 : ((x : Int) == 0) = true := by simp; omega
            have e0b : (x : Int) ≤ 0 := by omega
            clear hx0
            go_wp2_with (first
              | (go_at_call 19; ((with_reducible refine (newReader_any _ _ (la + l) c3 _ HLL.out HX.out hc3a (by unfold maxLen; omega) (by simp) (by omega) _ hSj (Nat.le_refl _)).mono ?_); rintro e w10 ⟨R2, rfl, hRR2, hR10, hB10⟩; have h10 := Nat.le_trans hB.size hB10.size; have hb10 := hB.trans (hB10.mono hB.size)))
              | (go_at_call 25; ((with_reducible refine (count_at _ R2 0 _ _ 1 0 2 0 HC2.out hbm (by omega) HLM.out hR10).mono ?_); rintro e w11 ⟨rfl, hR11, hK11⟩; have hb11 := hb10.trans (hK11.below (B := w.heap.size) (by intro q e; have := hB.size; omega) h10)))
              | (go_at_call 21; ((with_reducible refine (at_any _ R2 0 _ hR11).mono ?_); rintro e w12 ⟨rfl, rfl⟩)))
            go_ret
            exact ⟨rfl, hb11⟩
          · have HC2 : Hid (Cu.rdCount ((x : Int) - 1) 1 0 (Vi.form x ++ List.replicate l 0) = (0, 21, 0)) := by
              rw [rdCount_form ((x : Int) - 1) 1 x la _ hx HLA.out (by omega) (by omega), if_pos (by omega)]; rfl
            have e0 : ((x : Int) == 0) = false := by simp; omega
            have e0b : (0 : Int) < (x : Int) := by omega
            clear hx0
            go_wp2_with (first
              | (go_at_call 19; ((with_reducible refine (newReader_any _ _ (la + l) c3 _ HLL.out HX.out hc3a (by unfold maxLen; omega) (by simp) (by omega) _ hSj (Nat.le_refl _)).mono ?_); rintro e w10 ⟨R2, rfl, hRR2, hR10, hB10⟩; have h10 := Nat.le_trans hB.size hB10.size; have hb10 := hB.trans (hB10.mono hB.size)))
              | (go_at_call 25; ((with_reducible refine (count_at _ R2 0 _ _ 1 0 21 0 HC2.out hbm (by omega) HLM.out hR10).mono ?_); rintro e w11 ⟨rfl, hR11, hK11⟩; have hb11 := hb10.trans (hK11.below (B := w.heap.size) (by intro q e; have := hB.size; omega) h10)))
              | (go_at_call 21; ((with_reducible refine (at_any _ R2 0 _ hR11).mono ?_); rintro e w12 ⟨rfl, rfl⟩)))
            go_ret
            exact ⟨rfl, hb11⟩

theorem counts_walk (a0 : Int) (a1 : Int) (a2 : Int) (w0 : (Lit.int .u64 a0).wf = true) (w1 : (Lit.int .i64 a1).wf = true) (w2 : (Lit.int .u16 a2).wf = true) (w : World) :
    Calls Try.prog 7 #[.int .u64 a0, .int .i64 a1, .int .u16 a2] w fun e w' => e = .returned (.bool true) ∧ Below w.heap.size w w' := by
  have b0 := bounds_u64 w0
  have b1 := bounds_i64 w1
  have b2 := bounds_u16 w2
  obtain ⟨x, rfl⟩ := Int.eq_ofNat_of_zero_le b0.1
  obtain ⟨t, rfl⟩ := Int.eq_ofNat_of_zero_le b2.1
  by_cases h : a1 < 1
  · exact cnt_neg x a1 t 0 (by omega) b1.2 (by omega) h w
  · obtain ⟨s, rfl⟩ := Int.eq_ofNat_of_zero_le (a := a1) (by omega)
    exact cnt_pos x s t s (by omega) b1.2 (by omega) (by omega) rfl w

end Go.Proofs.Ytdemlifjhlpclaa
