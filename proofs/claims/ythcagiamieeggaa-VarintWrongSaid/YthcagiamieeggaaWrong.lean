/-
  The walk of VarintWrong.
-/
import Derived.Test.YthcagiamieeggaaSameNums
import Derived.Test.YthcagiamieeggaaWrongSpec
namespace Go.Proofs.Ythcagiamieeggaa
open Go.RowKit
set_option linter.unusedVariables false

theorem or_u8 (c : Nat) (h : c < 256) : bits .or .u8 (c : Int) 128 = ((c ||| 128 : Nat) : Int) := u8_or_nat c 128 h (by decide)
theorem or_u8' (c : Nat) (h : c < 256) : bits .or .u8 128 (c : Int) = ((128 ||| c : Nat) : Int) := u8_or_nat 128 c (by decide) h

theorem seen_world {W : World} {B : Nat} {k : IntKind} {a : Option Addr} {xs : List Nat} (_ : Seen W B k a xs) : ∃ W0, W = W0 := ⟨_, rfl⟩

set_option maxRecDepth 100000 in
set_option maxHeartbeats 8000000 in
theorem wrong_law (x : Nat) (hx : x < 2 ^ 64) (a : Option Addr) (n c : Nat) (xs : List Nat) (hn : xs.length = n) (hxs : ∀ y ∈ xs, y < 2 ^ 64) (hnc : n ≤ c) (hcm : c ≤ maxLen) (way q : Nat) (hway : way < 256) (hq : q < 256) (w : World)
    (hS : Seen w w.heap.size .u64 a xs) :
    Calls Try.prog 11 #[.int .u64 x, .slice a n c, .int .u8 way, .int .u8 q] w fun e w' => e = .returned (.bool true) ∧ Below w.heap.size w w' := by
  have hcm' := hcm
  unfold maxLen at hcm'
  obtain ⟨n1, hn1⟩ : ∃ n1 : Nat, min n 20 = n1 := ⟨_, rfl⟩
  have b1 : n1 ≤ 20 := by omega
  have HX : Hid ((xs.take n1).length = n1) := by show _ = _; rw [List.length_take, hn]; omega
  have hSm := seen_take hS n1
  have hx1 : ∀ y ∈ xs.take n1, y < 2 ^ 64 := fun y hy => hxs y (List.mem_of_mem_take hy)
  obtain ⟨l, hl⟩ : ∃ l, xs.take n1 = l := ⟨_, rfl⟩
  rw [hl] at HX hSm hx1
  have hlen1 : n1 ≤ 100000 := by omega
  obtain ⟨t1, ht1⟩ : ∃ t, (Vi.forms l).length = t := ⟨_, rfl⟩
  have ht2 : t1 ≤ 200 := by have := Vi.sizes_le l hx1; rw [Vi.forms_len] at ht1; have := HX.out; omega
  have HT1 := Lib.hid ht1
  have hfl := Vi.forms_byte l
  obtain ⟨i0, hi, hz0, hz1, hz2⟩ := info_parts infoB
  have la1 := Vi.form_len10 x hx
  have la0 := Vi.form_pos x
  obtain ⟨la, hla⟩ : ∃ la, (Vi.form x).length = la := ⟨_, rfl⟩
  rw [hla] at la1 la0
  have HLA := Lib.hid hla
  have hbf := Vi.form_byte x
  rcases (by omega : (n1 = n ∧ n ≤ 20) ∨ (n1 = 20 ∧ 20 < n)) with ⟨rfl, h1⟩ | ⟨rfl, h1⟩
  all_goals
    clear hl hS hn hn1 hxs ht1 hla
    rcases (by omega : way % 4 = 0 ∨ way % 4 = 1 ∨ way % 4 = 2 ∨ way % 4 = 3) with hw | hw | hw | hw
    -- the form is cut
    focus
      have t0 : ((way : Int) % 4 == 0) = true := by simp; omega
      have tm : (q : Int) % (la : Int) = ((q % la : Nat) : Int) := by omega
      obtain ⟨k, hk⟩ : ∃ k, q % la = k := ⟨_, rfl⟩
      have hkl : k < la := by rw [← hk]; exact Nat.mod_lt _ la0
      rw [hk] at tm
      clear hw hk
      by_cases hk0 : k = 0
      focus
        subst hk0
        have HO := Lib.hid (or_u8' q hq)
        have hoq := Vi.or128' q hq
        go_enter Try.func11, Try.ntmps11
        go_wp2_with (first
          | (go_at_call 13; refine (awake_any _).mono ?_; rintro e w1 ⟨rfl, hB1⟩)
          | (go_at_call_of 16 x; refine (write_n x la hx HLA.out _).mono ?_; rintro e w2 ⟨g1, c1, rfl, hown1, S1, hn1, hm1, hB2⟩))
        have hw2 := hB1.trans (hB2.mono hB1.size)
        obtain ⟨fb, hfbe⟩ : ∃ fb, [128 ||| q] = fb := ⟨_, rfl⟩
        have S9 := (Seen.of_block (k := .u8) (off := 0) (xs := [128 ||| q]) (World.alloc_heap_new w2 (.cells #[.int .u8 (bits .or .u8 128 (q : Int))] 5)) (fun i y hy => by match i, hy with | 0, hy => (simp at hy; subst hy; rw [HO.out]; rfl)))
        have hB9 := hw2.alloc hw2.size (.cells #[.int .u8 (bits .or .u8 128 (q : Int))] 5)
        rw [hfbe] at S9
        have HF9 : Hid (fb.length = 1) := by rw [← hfbe]; rfl
        have HR9 : Hid (Vi.read fb = (0, 0, 10)) := by rw [← hfbe]; exact Vi.read_run _ (by simpa using hoq.1) (by simp)
        have hfb : ∀ y ∈ fb, y < 256 := by rw [← hfbe]; simpa using hoq.2
        obtain ⟨W9, hW9⟩ := name_world hB9
        rw [hW9] at hB9 S9 ⊢
        clear hfbe hW9 hw2 hB1 hB2 hown1 S1
        have HRW : Hid (Vi.readAll (Vi.forms l ++ fb) = ([], 10)) := Vi.readAll_wrong l fb hx1 (by intro h; have := HF9.out; rw [h] at this; simp at this; try omega) HR9.out (by decide)
        have hn9 : 0 < fb.length ∧ fb.length ≤ 11 := by rw [HF9.out]; omega
      rotate_left
      focus
        go_enter Try.func11, Try.ntmps11
        go_wp2_with (first
          | (go_at_call 13; refine (awake_any _).mono ?_; rintro e w1 ⟨rfl, hB1⟩)
          | (go_at_call_of 16 x; refine (write_n x la hx HLA.out _).mono ?_; rintro e w2 ⟨g1, c1, rfl, hown1, S1, hn1, hm1, hB2⟩))
        have hw2 := hB1.trans (hB2.mono hB1.size)
        obtain ⟨fb, hfbe⟩ : ∃ fb, (Vi.form x).take k = fb := ⟨_, rfl⟩
        have S9 := seen_take S1 k
        have hB9 := hw2
        rw [hfbe] at S9
        have HF9 : Hid (fb.length = k) := by rw [← hfbe]; show _ = _; rw [List.length_take, HLA.out]; omega
        have HR9 : Hid (Vi.read fb = (0, 0, 10)) := by rw [← hfbe]; exact Vi.read_cut x k hx (by rw [HLA.out]; exact hkl)
        have hfb : ∀ y ∈ fb, y < 256 := by rw [← hfbe]; exact fun y hy => hbf y (List.mem_of_mem_take hy)
        obtain ⟨W9, hW9⟩ := name_world hB9
        rw [hW9] at hB9 S9 ⊢
        clear hfbe hW9 hw2 hB1 hB2 hown1 S1
        have HRW : Hid (Vi.readAll (Vi.forms l ++ fb) = ([], 10)) := Vi.readAll_wrong l fb hx1 (by intro h; have := HF9.out; rw [h] at this; simp at this; try omega) HR9.out (by decide)
        have hn9 : 0 < fb.length ∧ fb.length ≤ 11 := by rw [HF9.out]; omega
    rotate_left 2
    -- each byte says that another one follows
    focus
      have t0 : ((way : Int) % 4 == 0) = false := by simp; omega
      have t1' : ((way : Int) % 4 == 1) = true := by simp; omega
      clear hw
      go_enter Try.func11, Try.ntmps11
      go_wp2_with (first
        | (go_at_call 13; refine (awake_any _).mono ?_; rintro e w1 ⟨rfl, hB1⟩)
        | (go_at_call_of 16 x; refine (write_n x la hx HLA.out _).mono ?_; rintro e w2 ⟨g1, c1, rfl, hown1, S1, hn1, hm1, hB2⟩))
      have hw2 := hB1.trans (hB2.mono hB1.size)
      go_loopw [47] (fun i wr => ∃ (k : Nat) (ys : List Nat), k ≤ la ∧ i = .int .i64 k ∧ wr.ownsRow w1.heap.size 5 1 (.slice (some ⟨g1, 0, none⟩) la c1) la (ys.map fun x : Nat => Value.int .u8 x) ∧ Hid (ys.length = la ∧ ∀ j y, ys[j]? = some y → y < 256 ∧ (j < k → 128 ≤ y)) ∧ Below w.heap.size w wr) (fun i _ => la - (intOf i).toNat)
      case atStart => exact ⟨0, Vi.form x, by omega, rfl, hown1, ⟨HLA.out, fun j y hy => ⟨hbf y (List.mem_of_getElem? hy), fun h => absurd h (by omega)⟩⟩, hw2⟩
      case round =>
        obtain ⟨k, ys, hk, rfl, hrow, HY, hB⟩ := hrel
        by_cases hlt : k < la
        · obtain ⟨y, hy⟩ : ∃ y, ys[k]? = some y := ⟨_, List.getElem?_eq_getElem (by have := HY.out.1; omega)⟩
          have hy2 := (HY.out.2 k y hy).1
          have hcell : wr.cell? ⟨g1, k, none⟩ = some (.int .u8 y) := by rw [hrow.cellAt k (by omega)]; simp [hy]
          have hfroz := hrow.frozenAt k
          have HO := Lib.hid (or_u8 y hy2)
          have ho := Vi.or128 y hy2
          have hst := hrow.stored k (.int .u8 (bits .or .u8 (y : Int) 128))
          have hgb : w.heap.size ≤ g1 := Nat.le_trans hB1.size (hrow.lt g1 rfl).1
          have hB' := hB.setCell (p := ⟨g1, k, none⟩) hgb (.int .u8 (bits .or .u8 (y : Int) 128))
          have HY2 : Hid ((ys.set k (y ||| 128)).length = la ∧ ∀ j z, (ys.set k (y ||| 128))[j]? = some z → z < 256 ∧ (j < k + 1 → 128 ≤ z)) := by
            refine ⟨by rw [List.length_set]; exact HY.out.1, fun j z hz => ?_⟩
            by_cases hjk : j = k
            · subst hjk
              rw [List.getElem?_set_self (by have := HY.out.1; omega)] at hz
              simp at hz; subst hz; exact ⟨ho.2, fun _ => ho.1⟩
            · rw [List.getElem?_set_ne (by omega)] at hz
              exact ⟨(HY.out.2 j z hz).1, fun h => (HY.out.2 j z hz).2 (by omega)⟩
          have hst1 : (wr.setCell ⟨g1, k, none⟩ (.int .u8 (bits .or .u8 (y : Int) 128))).ownsRow w1.heap.size 5 1 (.slice (some ⟨g1, 0, none⟩) la c1) la ((ys.set k (y ||| 128)).map fun x : Nat => Value.int .u8 x) := by
            rw [List.map_set]; have := hst.1; rw [HO.out] at this ⊢; exact this
          clear hy hst HO ho
          go_wp2_with (fail)
          exact ⟨⟨k + 1, ys.set k (y ||| 128), by omega, by go_num, hst1, HY2, hB'⟩, by simp [intOf]; omega⟩
        · obtain rfl : k = la := by omega
          have S9 := Seen.of_own (k := .u8) hrow
          have hB9 := hB
          have HF9 := Lib.hid HY.out.1
          have hall : ∀ c ∈ ys, 128 ≤ c := fun c hc => by
            obtain ⟨j, hj, rfl⟩ := List.getElem_of_mem hc
            exact (HY.out.2 j _ (List.getElem?_eq_getElem hj)).2 (by have := HY.out.1; omega)
          have hfb : ∀ c ∈ ys, c < 256 := fun c hc => by
            obtain ⟨j, hj, rfl⟩ := List.getElem_of_mem hc
            exact (HY.out.2 j _ (List.getElem?_eq_getElem hj)).1
          obtain ⟨fb, rfl⟩ : ∃ fb, fb = ys := ⟨_, rfl⟩
          have hn9 : 0 < fb.length ∧ fb.length ≤ 11 := by rw [HF9.out]; omega
          have h09 : fb ≠ [] := by intro h; rw [h] at hn9; simp at hn9
          by_cases hten : k = 10
          focus
            have HR9 : Hid (Vi.read fb = (0, 0, 11)) := Vi.read_run10 fb hall (HF9.out.trans hten)
            have HRW : Hid (Vi.readAll (Vi.forms l ++ fb) = ([], 11)) := Vi.readAll_wrong l fb hx1 h09 HR9.out (by decide)
            have i10 : ((k : Int) == 10) = true := by simp; omega
            clear hten hlt h09 hB1 hB2 hown1 S1 hw2 HY hrow hall
            go_wp2_with (fail)
            obtain ⟨W9, rfl⟩ : ∃ W9 : World, W9 = wr := ⟨_, rfl⟩
          rotate_left
          focus
            have HR9 : Hid (Vi.read fb = (0, 0, 10)) := Vi.read_run fb hall (by rw [HF9.out]; omega)
            have HRW : Hid (Vi.readAll (Vi.forms l ++ fb) = ([], 10)) := Vi.readAll_wrong l fb hx1 h09 HR9.out (by decide)
            have i10 : ((k : Int) == 10) = false := by simp; omega
            clear hten hlt h09 hB1 hB2 hown1 S1 hw2 HY hrow hall
            go_wp2_with (fail)
            obtain ⟨W9, rfl⟩ : ∃ W9 : World, W9 = wr := ⟨_, rfl⟩
          all_goals
            rw [HF9.out] at hn9
            have hB9s := hB9.size
            go_wp2_with (first
              | (go_at_call 18; refine (read_at _ _ _ fb _ _ HF9.out HR9.out hfb _ S9 (Nat.le_refl _) (by unfold maxLen; omega)).mono ?_; rintro e w10 ⟨rfl, hB10⟩; have q10 := hB9.trans (hB10.mono hB9.size))
              | (go_at_call 20; refine (writeAll_at _ _ l _ HX.out _ t1 rfl HT1.out hx1 hlen1 _ _ (hSm.below q10) q10.size).mono ?_; rintro e w11 ⟨a11, c11, rfl, hown11, S11, hc11, hd11, hB11⟩; have q11 := q10.trans (hB11.mono q10.size); have S9b := (S9.below hB10).below (hB11.mono hB10.size))
              | (at_builtin; refine wpList_append_own _ rfl _ _ 25 rfl w10.heap.size 5 i0 (.int .u8 0) 1 1 Try.underlying25 hi hz0 hz1 hz2 rfl (by decide) _ _ _ rfl hown11 _ _ _ (fb.map fun x : Nat => Value.int .u8 x) rfl (by rw [List.length_map, HF9.out, Nat.mul_one]) (seen_cells S9b) (by intro u hu; obtain ⟨z, _, rfl⟩ := List.mem_map.1 hu; rfl) (by unfold maxLen; omega) (by omega) hB11.size ?_; intro v12 w12 hown12 hgrow12 _; obtain ⟨g12, c12, rfl⟩ := own_form hown12 (by omega); have hc12 := own_cap hown12; have S12 := Seen.of_own (k := .u8) (xs := Vi.forms l ++ fb) (by rw [List.map_append]; exact hown12); have q12 := q11.grown hgrow12 q11.size (fun k e => Nat.le_trans q10.size (hown11.lt k e).1))
              | (go_at_call 21; refine (readAll_at _ _ _ (Vi.forms l ++ fb) (by rw [List.length_append, HT1.out, HF9.out]) [] 0 _ HRW.out rfl (fun z hz => by rcases List.mem_append.1 hz with h | h; exact hfl z h; exact hfb z h) hc12.1 hc12.2 (by omega) _ _ S12 (Nat.le_refl _)).mono ?_; rintro e w13 ⟨a13, c13, rfl, S13, hc13, hd13, hB13⟩))
            go_ret
            exact ⟨rfl, q12.trans (hB13.mono q12.size)⟩
    focus
      have t0 : ((way : Int) % 4 == 0) = false := by simp; omega
      have t1' : ((way : Int) % 4 == 1) = false := by simp; omega
      have t2' : ((way : Int) % 4 == 2) = true := by simp; omega
      clear hw
      obtain ⟨p, rfl⟩ : ∃ p, la = p + 1 := ⟨la - 1, by omega⟩
      obtain ⟨y, hy⟩ : ∃ y, (Vi.form x)[p]? = some y := ⟨_, List.getElem?_eq_getElem (by have := HLA.out; omega)⟩
      have hy2 := hbf y (List.mem_of_getElem? hy)
      have HO := Lib.hid (or_u8 y hy2)
      have ho := Vi.or128 y hy2
      have hall : ∀ c ∈ (Vi.form x).set p (y ||| 128), 128 ≤ c := fun c hc => by
        obtain ⟨j, hj, rfl⟩ := List.getElem_of_mem hc
        rw [List.length_set] at hj
        by_cases hjp : p = j
        · subst hjp; rw [List.getElem_set_self]; exact ho.1
        · rw [List.getElem_set_ne hjp]; exact Vi.form_more x j _ (List.getElem?_eq_getElem hj) (by have := HLA.out; omega)
      have hfb' : ∀ c ∈ (Vi.form x).set p (y ||| 128) ++ [0], c < 256 := fun c hc => by
        rcases List.mem_append.1 hc with h | h
        · rcases List.mem_or_eq_of_mem_set h with h | h
          · exact hbf c h
          · rw [h]; exact ho.2
        · simp at h; omega
      have HF9' : Hid (((Vi.form x).set p (y ||| 128)).length = p + 1) := by show _ = _; rw [List.length_set]; exact HLA.out
      have HG : ∀ {wr : World} {B g c1 : Nat}, wr.ownsRow B 5 1 (.slice (some ⟨g, 0, none⟩) (p + 1) c1) (p + 1) ((Vi.form x).map fun x : Nat => Value.int .u8 x) → wr.cell? ⟨g, p, none⟩ = some (.int .u8 y) ∧ wr.frozen? ⟨g, p, none⟩ = false ∧
          (wr.setCell ⟨g, p, none⟩ (.int .u8 (bits .or .u8 (y : Int) 128))).ownsRow B 5 1 (.slice (some ⟨g, 0, none⟩) (p + 1) c1) (p + 1) (((Vi.form x).set p (y ||| 128)).map fun x : Nat => Value.int .u8 x) ∧ B ≤ g := fun h => by
        refine ⟨by rw [h.cellAt p (by omega)]; simp [hy], h.frozenAt p, ?_, (h.lt _ rfl).1⟩
        rw [List.map_set]; have := (h.stored p (.int .u8 (bits .or .u8 (y : Int) 128))).1; rw [HO.out] at this ⊢; exact this
      clear hy
      by_cases hten : p = 9
      · have i10 : ((p : Int) + 1 == 10) = true := by simp; omega
        clear hten
        go_enter Try.func11, Try.ntmps11
        go_wp2_with (first
          | (go_at_call 13; refine (awake_any _).mono ?_; rintro e w1 ⟨rfl, hB1⟩)
          | (go_at_call_of 16 x; refine (write_n x (p + 1) hx HLA.out _).mono ?_; rintro e w2 ⟨g1, c1, rfl, hown1, S1, hn1, hm1, hB2⟩; obtain ⟨hcell, hfroz, hst1, hgg⟩ := HG hown1))
        have hw2 := hB1.trans (hB2.mono hB1.size)
        go_ret
        exact ⟨rfl, hw2.setCell (p := ⟨g1, p, none⟩) (Nat.le_trans hB1.size hgg) _⟩
      have i10 : ((p : Int) + 1 == 10) = false := by simp; omega
      have HR9' : Hid (Vi.read ((Vi.form x).set p (y ||| 128) ++ [0]) = (0, 0, 12)) := Vi.read_zero _ hall (by rw [HF9'.out]; omega) (by rw [HF9'.out]; omega)
      clear hten hall
      go_enter Try.func11, Try.ntmps11
      go_wp2_with (first
        | (go_at_call 13; refine (awake_any _).mono ?_; rintro e w1 ⟨rfl, hB1⟩)
        | (go_at_call_of 16 x; refine (write_n x (p + 1) hx HLA.out _).mono ?_; rintro e w2 ⟨g1, c1, rfl, hown1, S1, hn1, hm1, hB2⟩; obtain ⟨hcell, hfroz, hst1, hgg⟩ := HG hown1)
        | (at_builtin; refine wpList_append_own _ rfl _ _ 25 rfl w1.heap.size 5 i0 (.int .u8 0) 1 1 Try.underlying25 hi hz0 hz1 hz2 rfl (by decide) _ _ _ rfl (hst1.alloc _) ⟨w2.heap.size, 0, none⟩ 1 1 [.int .u8 0] rfl rfl (by have := cell_one_new (w2.setCell ⟨g1, p, none⟩ (.int .u8 (bits .or .u8 (y : Int) 128))) (.int .u8 0) 5; rw [World.size_setCell] at this; exact this) (by simp [Value.oneCell']) (by unfold maxLen; omega) (by omega) (by have := hB2.size; simp; omega) ?_; intro v8 w8 hown8 hgrow8 _; obtain ⟨g8, c8, rfl⟩ := own_form hown8 (by omega)))
      have hw2 := hB1.trans (hB2.mono hB1.size)
      have S9 := Seen.of_own (k := .u8) (xs := (Vi.form x).set p (y ||| 128) ++ [0]) (by rw [List.map_append]; exact hown8)
      have hB9 : Below w.heap.size w w8 := ((hw2.setCell (p := ⟨g1, p, none⟩) (Nat.le_trans hB1.size hgg) _).alloc (by rw [World.size_setCell]; exact hw2.size) _).grown hgrow8 (by have := hw2.size; simp; omega) (fun k ek => Nat.le_trans hB1.size (hst1.lt k ek).1)
      obtain ⟨fb, hfbe⟩ : ∃ fb, (Vi.form x).set p (y ||| 128) ++ [0] = fb := ⟨_, rfl⟩
      have HF9 : Hid (fb.length = p + 1 + 1) := by rw [← hfbe, List.length_append, HF9'.out]; rfl
      have HR9 : Hid (Vi.read fb = (0, 0, 12)) := by rw [← hfbe]; exact HR9'.out
      rw [hfbe] at S9 hfb'
      have hfb := hfb'
      have HRW : Hid (Vi.readAll (Vi.forms l ++ fb) = ([], 12)) := Vi.readAll_wrong l fb hx1 (by rw [← hfbe]; simp) HR9.out (by decide)
      have hn9 : 0 < fb.length ∧ fb.length ≤ 11 := by rw [HF9.out]; omega
      obtain ⟨W9, rfl⟩ : ∃ W9 : World, W9 = w8 := ⟨_, rfl⟩
      clear hfbe hfb' hB1 hB2 hown1 S1 hw2 HG HR9' hown8 hgrow8 hst1 HF9' hcell hfroz
    rotate_left 1
    focus
      have t0 : ((way : Int) % 4 == 0) = false := by simp; omega
      have t1' : ((way : Int) % 4 == 1) = false := by simp; omega
      have t2' : ((way : Int) % 4 == 2) = false := by simp; omega
      clear hw
      have HO := Lib.hid (or_u8' q hq)
      have hoq := Vi.or128' q hq
      obtain ⟨z, hz⟩ : ∃ z, max q 2 = z := ⟨_, rfl⟩
      have hzz : 2 ≤ z := by omega
      have hz256 : z < 256 := by omega
      have HR9 : Hid (Vi.read ([128 ||| q, 255, 128, 128, 255, 129, 128, 128, 200] ++ z :: []) = (0, 0, 11)) := Vi.read_over _ _ z (by simpa using hoq.1) rfl (by omega)
      have hfb : ∀ c ∈ ([128 ||| q, 255, 128, 128, 255, 129, 128, 128, 200] ++ z :: [] : List Nat), c < 256 := by simp; exact ⟨hoq.2, hz256⟩
      have hmx : max (q : Int) 2 = (z : Int) := by omega
      have HW : ∀ (w2 : World) (v : Int), v = (z : Int) → Seen (w2.alloc (.cells #[.int .u8 (bits .or .u8 128 (q : Int)), .int .u8 255, .int .u8 128, .int .u8 128, .int .u8 255, .int .u8 129, .int .u8 128, .int .u8 128, .int .u8 200, .int .u8 v] 5)) (w2.alloc (.cells #[.int .u8 (bits .or .u8 128 (q : Int)), .int .u8 255, .int .u8 128, .int .u8 128, .int .u8 255, .int .u8 129, .int .u8 128, .int .u8 128, .int .u8 200, .int .u8 v] 5)).heap.size .u8 (some ⟨w2.heap.size, 0, none⟩) ([128 ||| q, 255, 128, 128, 255, 129, 128, 128, 200] ++ z :: []) := fun w2 v hv => by
        subst hv
        refine Seen.of_block (World.alloc_heap_new w2 _) (fun i y hy => ?_)
        match i, hy with
        | 0, hy => simp at hy; subst hy; rw [HO.out]; rfl
        | 1, hy | 2, hy | 3, hy | 4, hy | 5, hy | 6, hy | 7, hy | 8, hy | 9, hy => simp at hy; subst hy; rfl
      go_enter Try.func11, Try.ntmps11
      go_wp2_with (first
        | (go_at_call 13; refine (awake_any _).mono ?_; rintro e w1 ⟨rfl, hB1⟩)
        | (go_at_call_of 16 x; refine (write_n x la hx HLA.out _).mono ?_; rintro e w2 ⟨g1, c1, rfl, hown1, S1, hn1, hm1, hB2⟩))
      all_goals have hw2 := hB1.trans (hB2.mono hB1.size)
      all_goals
        first
          | (have S9 := HW w2 2 (by omega))
          | (have S9 := HW w2 (q : Int) (by omega))
        obtain ⟨W9, hW9⟩ := seen_world S9
        rw [hW9] at S9 ⊢
        have hB9 : Below w.heap.size w W9 := by rw [← hW9]; exact hw2.alloc hw2.size _
        obtain ⟨fb, hfbe⟩ : ∃ fb, [128 ||| q, 255, 128, 128, 255, 129, 128, 128, 200] ++ z :: [] = fb := ⟨_, rfl⟩
        have HF9 : Hid (fb.length = 10) := by rw [← hfbe]; rfl
        rw [hfbe] at S9 hfb HR9
        have HRW : Hid (Vi.readAll (Vi.forms l ++ fb) = ([], 11)) := Vi.readAll_wrong l fb hx1 (by rw [← hfbe]; simp) HR9.out (by decide)
        have hn9 : 0 < fb.length ∧ fb.length ≤ 11 := by rw [HF9.out]; omega
        clear hfbe hB1 hB2 hown1 S1 hw2 HW hW9 HO hmx
  all_goals
    have hn9' := HF9.out
    rw [HF9.out] at hn9
    clear hn9'
    have hB9s := hB9.size
    go_wp2_with (first
      | (go_at_call 18; refine (read_at _ _ _ fb _ _ HF9.out HR9.out hfb _ S9 (Nat.le_refl _) (by unfold maxLen; omega)).mono ?_; rintro e w10 ⟨rfl, hB10⟩; have q10 := hB9.trans (hB10.mono hB9.size))
      | (go_at_call 20; refine (writeAll_at _ _ l _ HX.out _ t1 rfl HT1.out hx1 hlen1 _ _ (hSm.below q10) q10.size).mono ?_; rintro e w11 ⟨a11, c11, rfl, hown11, S11, hc11, hd11, hB11⟩; have q11 := q10.trans (hB11.mono q10.size); have S9b := (S9.below hB10).below (hB11.mono hB10.size))
      | (at_builtin; refine wpList_append_own _ rfl _ _ 25 rfl w10.heap.size 5 i0 (.int .u8 0) 1 1 Try.underlying25 hi hz0 hz1 hz2 rfl (by decide) _ _ _ rfl hown11 _ _ _ (fb.map fun x : Nat => Value.int .u8 x) rfl (by rw [List.length_map, HF9.out, Nat.mul_one]) (seen_cells S9b) (by intro u hu; obtain ⟨z, _, rfl⟩ := List.mem_map.1 hu; rfl) (by unfold maxLen; omega) (by omega) hB11.size ?_; intro v12 w12 hown12 hgrow12 _; obtain ⟨g12, c12, rfl⟩ := own_form hown12 (by omega); have hc12 := own_cap hown12; have S12 := Seen.of_own (k := .u8) (xs := Vi.forms l ++ fb) (by rw [List.map_append]; exact hown12); have q12 := q11.grown hgrow12 q11.size (fun k e => Nat.le_trans q10.size (hown11.lt k e).1))
      | (go_at_call 21; refine (readAll_at _ _ _ (Vi.forms l ++ fb) (by rw [List.length_append, HT1.out, HF9.out]) [] 0 _ HRW.out rfl (fun z hz => by rcases List.mem_append.1 hz with h | h; exact hfl z h; exact hfb z h) hc12.1 hc12.2 (by omega) _ _ S12 (Nat.le_refl _)).mono ?_; rintro e w13 ⟨a13, c13, rfl, S13, hc13, hd13, hB13⟩))
    go_ret
    exact ⟨rfl, q12.trans (hB13.mono q12.size)⟩

theorem wrong_walk (a0 : Int) (a1 : Option Addr) (len1 cap1 : Nat) (z1 : List Int) (a2 : Int) (a3 : Int) (w : World) (w0 : (Lit.int .u64 a0).wf = true) (w1 : IsRow .u64 w a1 len1 cap1 z1) (w2 : (Lit.int .u8 a2).wf = true) (w3 : (Lit.int .u8 a3).wf = true) :
    Calls Try.prog 11 #[.int .u64 a0, .slice a1 len1 cap1, .int .u8 a2, .int .u8 a3] w fun e w' => e = .returned (.bool true) ∧ Below w.heap.size w w' := by
  have b0 := bounds_u64 w0
  have b2 := bounds_u8 w2
  have b3 := bounds_u8 w3
  obtain ⟨x, rfl⟩ := Int.eq_ofNat_of_zero_le b0.1
  obtain ⟨way, rfl⟩ := Int.eq_ofNat_of_zero_le b2.1
  obtain ⟨q, rfl⟩ := Int.eq_ofNat_of_zero_le b3.1
  obtain ⟨xs, h1, h2, h3, h4, h5⟩ := row_u64 w1
  exact wrong_law x (by omega) a1 len1 cap1 xs h1 h3 h4 h5 way q (by omega) (by omega) w h2

end Go.Proofs.Ythcagiamieeggaa
