/-
  The walk of CursorBack.
-/
import Derived.Test.YtdemlifjhlpclaaCBackA
namespace Go.Proofs.Ytdemlifjhlpclaa
open Go.RowKit
set_option linter.unusedVariables false

theorem four_cells {w : World} {b : Nat} {e : TypeId} {v0 v1 v2 v3 : Value} (h : w.heap[b]? = some (.cells #[v0, v1, v2, v3] e)) : ∀ j u, [v0, v1, v2, v3][j]? = some u → w.cell? ((⟨b, 0, none⟩ : Addr).add j) = some u := by
  intro j u hu
  match j with
  | 0 | 1 | 2 | 3 => cases hu; simp [World.cell?, h, Addr.add]
  | j + 4 => simp at hu
theorem cell_four_new (w : World) (e : TypeId) (v0 v1 v2 v3 : Value) : ∀ j u, [v0, v1, v2, v3][j]? = some u → (w.alloc (.cells #[v0, v1, v2, v3] e)).cell? ((⟨w.heap.size, 0, none⟩ : Addr).add j) = some u := four_cells (World.alloc_heap_new w _)
theorem keeps_start {w w2 : World} {B lim : Nat} (hW : Wtr w2 w.heap.size B lim (.slice none 0 0) []) (hB : Below w.heap.size w w2) (hB0 : w.heap.size ≤ B) : Keeps w (w2.alloc (.cells #[.int .i64 0] 3)) B lim [] (.slice none 0 0) (.slice none 0 0) (.slice (some ⟨w2.heap.size, 0, none⟩) 1 1) :=
  ⟨hW.below ((Below.refl _ _).alloc (Nat.le_refl _) _), World.ownsRow_nil _ _ _ _, ⟨rfl, .inr ⟨w2.heap.size, 1, #[.int .i64 0], rfl, hB.size, World.alloc_heap_new w2 _, Nat.le_refl _, by unfold maxLen; omega, rfl, by simp [places, Pc.pos, Pc.flat]⟩⟩, hB.alloc hB.size _, hB0⟩
theorem own_lit {w : World} {base n size : Nat} {e : TypeId} {v : Value} {xs : List Value} (h : w.ownsRow base e size v n xs) : ∃ a c, v = .slice a n c ∧ n ≤ c ∧ c ≤ maxLen := by
  rcases h.2 with ⟨rfl, rfl⟩ | ⟨g, cap, cur, rfl, hg, hh, h1, h2, _⟩
  · exact ⟨none, 0, rfl, Nat.le_refl _, by unfold maxLen; omega⟩
  · exact ⟨_, cap, rfl, h1, h2⟩
theorem keeps_grown {w w3 w5 w6 : World} {B lim N : Nat} {kl : List Pc} {t : Pc} {v' kv ev kv5 ev6 : Value} {n1 n2 : Nat} {xs1 xs2 : List Value} (hB0 : w.heap.size ≤ B) (hN : (Pc.flat kl).length + t.bytes.length = N)
    (hW4 : Wtr w3 w.heap.size B lim v' (Pc.flat (kl ++ [t]))) (hk4 : w3.ownsRow w.heap.size 39 4 kv n1 xs1) (he4 : w3.ownsRow w.heap.size 3 1 ev n2 xs2) (hB4 : Below w.heap.size w w3) (O1 O2 : Obj)
    (hk5 : w5.ownsRow w.heap.size 39 4 kv5 (kl.length + 1) (pcells kl ++ [.int .u8 t.kd, .int .u8 t.pn, .int .u64 t.X, .slice t.sa t.sn t.sc])) (hg5 : (w3.alloc O1).grownBy w5 kv.ownBlock)
    (he6 : w6.ownsRow w.heap.size 3 1 ev6 (kl.length + 1 + 1) (places kl ++ [.int .i64 (N : Int)])) (hg6 : (w5.alloc O2).grownBy w6 ev.ownBlock) : Keeps w w6 B lim (kl ++ [t]) v' kv5 ev6 := by
  have a3 : Below w3.heap.size w3 (w3.alloc O1) := (Below.refl _ _).alloc (Nat.le_refl _) _
  have a5 : Below w5.heap.size w5 (w5.alloc O2) := (Below.refl _ _).alloc (Nat.le_refl _) _
  have ek := own_below hk4 a3
  have ee := own_below he4 a3
  have ee5 := own_grown ek ee (by decide) hg5
  have ee5' := own_below ee5 a5
  have B5 := below_grown (hB4.trans (a3.mono hB4.size)) ek hg5
  have B5' := B5.trans (a5.mono B5.size)
  refine ⟨wtr_grown ((wtr_grown (hW4.below a3) ek (by decide) (by decide) hg5).below a5) ee5' (by decide) (by decide) hg6, ?_, ?_, below_grown B5' ee5' hg6, hB0⟩
  · rw [List.length_append, pcells_snoc]
    exact own_grown ee5' (own_below hk5 a5) (by decide) hg6
  · rw [List.length_append, places_snoc, hN]
    exact he6
theorem own_some {w : World} {base n c size : Nat} {e : TypeId} {a : Option Addr} {xs : List Value} (h : w.ownsRow base e size (.slice a n c) n xs) (hn : 0 < n) : ∃ g, a = some ⟨g, 0, none⟩ := by
  rcases h.2 with ⟨_, h0⟩ | ⟨g, cap, cur, hv, _⟩
  · omega
  · injection hv with h1 _ _; exact ⟨g, h1⟩
theorem own_nil {w : World} {base n c size : Nat} {e : TypeId} {a : Option Addr} {xs : List Value} (h : w.ownsRow base e size (.slice a n c) n xs) (ha : a = none) : c = 0 := by
  rcases h.2 with ⟨hv, h0⟩ | ⟨g, cap, cur, hv, _⟩
  · injection hv with _ _ h3
  · injection hv with h1 _ _; rw [ha] at h1; cases h1
theorem kept_cells {w : World} {base g c q : Nat} {kl : List Pc} {t : Pc} (h : w.ownsRow base 39 4 (.slice (some ⟨g, 0, none⟩) kl.length c) kl.length (pcells kl)) (hq : kl[q]? = some t) :
    w.cell? ⟨g, q * 4, none⟩ = some (.int .u8 t.kd) ∧ w.cell? ⟨g, q * 4 + 1, none⟩ = some (.int .u8 t.pn) ∧ w.cell? ⟨g, q * 4 + 2, none⟩ = some (.int .u64 t.X) ∧ w.cell? ⟨g, q * 4 + 3, none⟩ = some (.slice t.sa t.sn t.sc) := by
  have hi := (List.getElem?_eq_some_iff.1 hq).1
  obtain ⟨e0, e1, e2, e3⟩ := pcells_at hq
  exact ⟨(h.cellAt _ (by omega)).trans e0, (h.cellAt _ (by omega)).trans e1, (h.cellAt _ (by omega)).trans e2, (h.cellAt _ (by omega)).trans e3⟩
theorem place_cell {w : World} {base g c q p : Nat} {kl : List Pc} (h : w.ownsRow base 3 1 (.slice (some ⟨g, 0, none⟩) (kl.length + 1) c) (kl.length + 1) (places kl)) (hq : q ≤ kl.length) (hp : Pc.pos kl q = p) : w.cell? ⟨g, q, none⟩ = some (.int .i64 (p : Int)) := by
  rw [h.cellAt q (by omega), places_at kl hq, hp]
theorem flat_byte {kl : List Pc} {w : World} {Q : Nat} (h : ∀ t ∈ kl, t.ok w Q) : ∀ y ∈ Pc.flat kl, y < 256 := by
  intro y hy
  obtain ⟨t, ht, hy⟩ := List.mem_flatMap.1 hy
  have ho := h t ht
  exact t.bytes_byte ho.2.1 ho.2.2.2.2.2.2.1 y hy
theorem rdr_own {w w' : World} {base n R : Nat} {at_ en : Int} {u v : Value} {e : TypeId} {size : Nat} {xs : List Value} (ho : w.ownsRow base e size v n xs) (hb : w.heap[R]? = some (ob 83 at_ en u)) (he : 83 ≠ e) (hk : Chg (· = R) w w') : w'.ownsRow base e size v n xs :=
  own_chg ho hk fun g hg e' => ob_row hb ho he hg e'
theorem Rdr.obj {w : World} {B p : Nat} {xs : List Nat} (h : Rdr w B p xs) : ∃ at_ en u, w.heap[B]? = some (ob 83 at_ en u) := by
  obtain ⟨a, c, hb, _⟩ := h
  exact ⟨_, _, _, hb⟩

set_option maxRecDepth 100000 in
set_option maxHeartbeats 4000000 in
theorem cback_lo (w : World) (a : Option Addr) (n c : Nat) (l : List Pc) (hl : l.length = n) (hlo : ∀ t ∈ l, t.ok w w.heap.size) (hA : Pcs w w.heap.size a l) (hnc : n ≤ c) (hcm : c ≤ maxLen) (la ca : Nat) (hla : la < 65536) (hca : ca < 65536) (hM : n ≤ 60) :
    Calls Try.prog 6 #[.slice a n c, .int .u16 la, .int .u16 ca] w fun e w' => e = .returned (.bool true) ∧ Below w.heap.size w w' := by
  unfold maxLen at hcm
  obtain ⟨iP, hiP, zP0, zP1, zP2⟩ := info_parts infoP
  obtain ⟨iI, hiI, zI0, zI1, zI2⟩ := info_parts infoI
  obtain ⟨lim, hlim⟩ : ∃ lim, la % 2001 = lim := ⟨_, rfl⟩
  have hlim2 : lim ≤ 2000 := by omega
  have hlimI : (la : Int) % 2001 = (lim : Int) := by omega
  have HLM : Hid (lim ≤ 16777216) := by show _ ≤ _; omega
  have hMI : (n : Int) ≤ 60 := by omega
  have HL := Lib.hid hl
  have HLO := Lib.hid hlo
  have HAP := Lib.hid hA
  clear hl hlo hA hlim
  go_enter Try.func6, Try.ntmps6
  go_wp2_with (first
    | (go_at_call 12; ((with_reducible refine (awake_any _).mono ?_); rintro e w1 ⟨rfl, hB1⟩))
    | (go_at_call 15; ((with_reducible refine (newWriter_ok _ lim w.heap.size HLM.out).mono ?_); rintro e w2 ⟨B, rfl, hB0, hW2, hB2⟩)))
  have HK0 := Lib.hid (keeps_start hW2 (hB1.trans (hB2.mono hB1.size)) (Nat.le_trans hB1.size hB0))
  clear hW2 hB1 hB2 hB0
  go_loopw [9, 10, 11, 43] (fun kv ev sz i wr => ∃ (j : Nat) (kl : List Pc) (v : Value) (N : Nat), j ≤ n ∧ i = .int .i64 j ∧ sz = .int .i64 N ∧ Hid ((Pc.flat kl).length = N) ∧ Hid (Keeps w wr B lim kl v kv ev) ∧ Hid (kl.length ≤ j) ∧ Hid (∀ t ∈ kl, t.ok w w.heap.size)) (fun _ _ _ i _ => n - (intOf i).toNat)
  case atStart => exact ⟨0, [], _, 0, Nat.zero_le _, rfl, rfl, rfl, HK0, Nat.le_refl _, fun t ht => by cases ht⟩
  case round =>
    clear HK0
    obtain ⟨j, kl, v, N, hj, rfl, rfl, HN, HK, HKL, HKO⟩ := hrel
    obtain ⟨ka, kc, rfl, hkc1, hkc2⟩ := own_lit HK.out.2.1
    obtain ⟨ea, ec, rfl, hec1, hec2⟩ := own_lit HK.out.2.2.1
    have hN : N ≤ 2000 := by have h1 := HK.out.1.2.2.1; rw [HN.out] at h1; omega
    by_cases hlt : j < n
    · obtain ⟨t, ht⟩ : ∃ t, l[j]? = some t := ⟨_, List.getElem?_eq_getElem (by rw [HL.out]; omega)⟩
      have hto := HLO.out t (List.mem_of_getElem? ht)
      obtain ⟨ab, ao, rfl, hal, h0, h1, h2, h3⟩ := (HAP.out.below HK.out.2.2.2.1) j t ht
      have i1 : (j : Int) < (n : Int) := by omega
      have i0 : (0 : Int) ≤ (j : Int) := by omega
      have HT := Lib.hid hto
      clear ht hto
      have HKA := Lib.hid (HK.out.below ((Below.refl _ wr).alloc (Nat.le_refl _) (.cells #[.int .u8 t.kd, .int .u8 t.pn, .int .u64 t.X, .slice t.sa t.sn t.sc] 39)))
      have HWA := Lib.hid HKA.out.1
      have HBX : Hid ((wr.alloc (.cells #[.int .u8 t.kd, .int .u8 t.pn, .int .u64 t.X, .slice t.sa t.sn t.sc] 39)).heap[wr.heap.size]? = some (pcObj t)) := World.alloc_heap_new wr (pcObj t)
      have HBN : Hid (¬ WS B v wr.heap.size) := by
        intro h
        rcases h with h | h
        · have := HK.out.1.lt; omega
        · have := (HK.out.1.row_lt h).2; omega
      have HSA := Lib.hid HKA.out.2.2.2.1.size
      have HTA := Lib.hid (HT.out.below HKA.out.2.2.2.1)
      have hnb := Pc.bytes_len t HT.out.2.2.1
      have HNK : Hid (kl.length ≤ 60) := by have := HKL.out; show _ ≤ _; omega
      have hszr : w.heap.size ≤ wr.heap.size := HK.out.2.2.2.1.size
      have hBw0 : w.heap.size ≤ B := HK.out.2.2.2.2
      have HB0 := Lib.hid hBw0
      obtain ⟨N2, hN2⟩ : ∃ N2, N + t.bytes.length = N2 := ⟨_, rfl⟩
      have hN2I : (N : Int) + (t.bytes.length : Int) = (N2 : Int) := by omega
      have HE2 : Hid ((Pc.flat kl).length + t.bytes.length = N2) := by rw [HN.out]; exact hN2
      have hw2 : IntKind.i64.wrap (N2 : Int) = (N2 : Int) := IntWalk.i64_in _ (by omega)
      by_cases hfit : N2 ≤ lim
      · have hfitI : (N2 : Int) ≤ (lim : Int) := by omega
        have HR : Hid (wput lim (Pc.flat kl) t.bytes = (Pc.flat (kl ++ [t]), 0)) := by
          show _ = _
          unfold wput
          rw [if_pos (by rw [HE2.out]; exact hfit), Pc.flat_snoc]
        have HN2 : Hid ((Pc.flat (kl ++ [t])).length = N2) := by show _ = _; rw [Pc.flat_snoc, List.length_append, HE2.out]
        clear hfit hN2
        go_wp2_with (first
          | (go_at_call 16; go_loud ((with_reducible refine (pwrite_any _ w.heap.size B lim v (Pc.flat kl) HWA.out HSA.out t _ HTA.out HSA.out _ _ HR.out).mono ?_); rintro e w3 ⟨v', rfl, hW3, hK3, hM3⟩; obtain ⟨b0, b1, b2, b3⟩ := pc_cells (hK3.at_block HBX.out HBN.out); obtain ⟨hW4, hk4, he4, hB4⟩ := HKA.out.wrote (kl' := kl ++ [t]) hK3 hW3; have hz4 := hB4.size; clear hW3 hK3 hM3))
          | (at_builtin; (refine wpList_append_fresh _ rfl _ _ 32 rfl w.heap.size 39 iP _ 4 40 Try.underlying32 hiP zP0 zP1 zP2 rfl (by decide) (.slice ka kl.length kc) kl.length (pcells kl) rfl (own_below hk4 ((Below.refl _ _).alloc (Nat.le_refl _) _)) ⟨w3.heap.size, 0, none⟩ 1 1 [.int .u8 t.kd, .int .u8 t.pn, .int .u64 t.X, .slice t.sa t.sn t.sc] rfl rfl (cell_four_new _ _ _ _ _ _) (by simp [Value.oneCell']) (by decide) (by have := HNK.out; unfold maxLen; omega) (by have := HNK.out; omega) (by simp; omega) ?_; intro kv5 w5 hk5 hg5 _; have hz5 : w.heap.size ≤ w5.heap.size := Nat.le_trans (Nat.le_trans hz4 (by simp)) hg5.size))
          | (at_builtin; (refine wpList_append_fresh _ rfl _ _ 27 rfl w.heap.size 3 iI _ 1 8 Try.underlying27 hiI zI0 zI1 zI2 rfl (by decide) (.slice ea (kl.length + 1) ec) (kl.length + 1) (places kl) rfl (own_below (own_grown (own_below hk4 ((Below.refl _ _).alloc (Nat.le_refl _) _)) (own_below he4 ((Below.refl _ _).alloc (Nat.le_refl _) _)) (by decide) hg5) ((Below.refl _ _).alloc (Nat.le_refl _) _)) ⟨w5.heap.size, 0, none⟩ 1 1 [.int .i64 (N2 : Int)] rfl rfl (cell_one_new _ _ _) (by simp [Value.oneCell']) (by decide) (by have := HNK.out; unfold maxLen; omega) (by have := HNK.out; omega) (by simp; omega) ?_; intro ev6 w6 he6 hg6 _; have HK6 := Lib.hid (keeps_grown HB0.out HE2.out hW4 hk4 he4 hB4 _ _ hk5 hg5 he6 hg6); have HW6 := Lib.hid HK6.out.1; clear hW4 hk4 he4 hk5 hg5 he6 hg6 hB4))
          | (go_at_call 17; go_loud ((with_reducible refine (len_any _ w.heap.size B lim v' (Pc.flat (kl ++ [t])) N2 HN2.out HW6.out).mono ?_); rintro e w7 ⟨rfl, rfl⟩)))
        exact ⟨⟨j + 1, kl ++ [t], v', N2, by omega, by go_num, rfl, HN2, HK6, by have := HKL.out; show _ ≤ _; rw [List.length_append, List.length_singleton]; omega, fun u hu => by
          rcases List.mem_append.1 hu with h | h
          · exact HKO.out u h
          · have := List.mem_singleton.1 h; subst this; exact HT.out⟩, by simp [intOf]; omega⟩
      · have hfitI : (lim : Int) < (N2 : Int) := by omega
        have HR : Hid (wput lim (Pc.flat kl) t.bytes = (Pc.flat kl, 4)) := by
          show _ = _
          unfold wput
          rw [if_neg (by rw [HE2.out]; exact hfit)]
        clear hfit hN2
        go_wp2_with (first
          | (go_at_call 16; go_loud ((with_reducible refine (pwrite_any _ w.heap.size B lim v (Pc.flat kl) HWA.out HSA.out t _ HTA.out HSA.out _ _ HR.out).mono ?_); rintro e w3 ⟨v', rfl, hW3, hK3, hM3⟩; obtain ⟨hW4, hk4, he4, hB4⟩ := HKA.out.wrote (kl' := kl) hK3 hW3; have HK6 : Hid (Keeps w w3 B lim kl v' (.slice ka kl.length kc) (.slice ea (kl.length + 1) ec)) := ⟨hW4, hk4, he4, hB4, HB0.out⟩; have HW6 := Lib.hid HK6.out.1; clear hW3 hK3 hM3 hW4 hk4 he4 hB4))
          | (go_at_call 17; go_loud ((with_reducible refine (len_any _ w.heap.size B lim v' (Pc.flat kl) N HN.out HW6.out).mono ?_); rintro e w7 ⟨rfl, rfl⟩)))
        exact ⟨⟨j + 1, kl, v', N, by omega, by go_num, rfl, HN, HK6, by have := HKL.out; show _ ≤ _; omega, HKO⟩, by simp [intOf]; omega⟩
    · have HW := Lib.hid HK.out.1
      have HXB := Lib.hid (flat_byte HKO.out)
      have HBw := Lib.hid HK.out.2.2.2.1
      have hN9 : N ≤ 1000000000 := by omega
      have hcmI : (ca : Int) ≤ 65535 := by omega
      obtain ⟨kk, hkk⟩ : ∃ kk, ca % (N + 1) = kk := ⟨_, rfl⟩
      have hkkN : kk ≤ N := by have := Nat.mod_lt ca (show 0 < N + 1 by omega); omega
      have hkkI : (ca : Int) % ((N : Int) + 1) = (kk : Int) := by rw [← hkk]; push_cast; rfl
      have hwN1 : IntKind.i64.wrap ((N : Int) + 1) = (N : Int) + 1 := IntWalk.i64_in _ (by omega)
      have hnz : ¬ ((N : Int) + 1 = 0) := by omega
      have hkk0 : (0 : Int) ≤ (kk : Int) := by omega
      have hkk1 : (kk : Int) ≤ (N : Int) := by omega
      clear hkk
      go_wp2_with (first
        | (go_at_call 18; go_loud ((with_reducible refine (out_any _ w.heap.size B lim v (Pc.flat kl) N HN.out HW.out).mono ?_); rintro e w6 ⟨ov, rfl, hown6, hBe⟩; obtain ⟨oa, oc, rfl, So, ol, hoc, hom⟩ := own_slice hown6; have HOS := Lib.hid (own_nil hown6); have HK6 := Lib.hid (HK.out.below hBe); have HOW6 := Lib.hid hown6; have HSO := Lib.hid So; clear So hown6 hBe ol))
        | (go_at_call 19; go_loud ((with_reducible refine (newReader_any _ oa N oc (Pc.flat kl) HN.out HXB.out hoc hom HOS.out hN9 _ HSO.out (Nat.le_refl _)).mono ?_); rintro e w7 ⟨R, rfl, hRb, hR7, hB7⟩)))
      have hbe := HK6.out.2.2.2.1
      have HB7 := Lib.hid (hbe.trans (hB7.mono hbe.size))
      have HK7 := Lib.hid (own_below HK6.out.2.1 hB7)
      have HE7 := Lib.hid (own_below HK6.out.2.2.1 hB7)
      have HO7 := Lib.hid (own_below (rebase HOW6.out HBw.out.size) hB7)
      have HRW : Hid (w.heap.size ≤ R) := Nat.le_trans hbe.size hRb
      have HRO := Lib.hid hR7.obj
      have HR7 := Lib.hid hR7
      have HNM : Hid ((Pc.flat kl).length ≤ 1000000000) := by rw [HN.out]; exact hN9
      obtain ⟨ge, rfl⟩ := own_some HE7.out (by omega)
      clear hbe hB7 hR7 hRb
      go_loopw [95] (fun i wr => ∃ q p : Nat, q ≤ kl.length ∧ i = .int .i64 q ∧ Hid (Pc.pos kl q = p) ∧ Hid (Rdr wr R p (Pc.flat kl)) ∧ Hid (Chg (· = R) w7 wr)) (fun i _ => kl.length - (intOf i).toNat)
      case atStart => exact ⟨0, 0, Nat.zero_le _, rfl, Pc.pos_zero kl, HR7, Chg.refl _ _⟩
      case round =>
        obtain ⟨q, p, hq, rfl, HP, HR, HC⟩ := hrel
        have HBx := Lib.hid (HB7.out.trans (HC.out.below (B := w.heap.size) (by intro z e; have := HRW.out; omega) HB7.out.size))
        have HKx : Hid (wr.ownsRow w.heap.size 39 4 (.slice ka kl.length kc) kl.length (pcells kl)) := by
          obtain ⟨at_, en, u, ho⟩ := HRO.out
          exact rdr_own HK7.out ho (by decide) HC.out
        have HEx : Hid (wr.ownsRow w.heap.size 3 1 (.slice (some ⟨ge, 0, none⟩) (kl.length + 1) ec) (kl.length + 1) (places kl)) := by
          obtain ⟨at_, en, u, ho⟩ := HRO.out
          exact rdr_own HE7.out ho (by decide) HC.out
        have HOx : Hid (wr.ownsRow w.heap.size 5 1 (.slice oa N oc) N ((Pc.flat kl).map fun x : Nat => Value.int .u8 x)) := by
          obtain ⟨at_, en, u, ho⟩ := HRO.out
          exact rdr_own HO7.out ho (by decide) HC.out
        have hk60 : kl.length ≤ 60 := by have := HKL.out; omega
        have hq60 : q ≤ 60 := by omega
        have hpN : p ≤ N := by have := Pc.pos_le kl q; rw [HP.out, HN.out] at this; exact this
        by_cases hlt : q < kl.length
        · obtain ⟨t, ht⟩ : ∃ t, kl[q]? = some t := ⟨_, List.getElem?_eq_getElem hlt⟩
          obtain ⟨gk, rfl⟩ := own_some HKx.out (by omega)
          obtain ⟨p1, hp1⟩ : ∃ p1, Pc.pos kl (q + 1) = p1 := ⟨_, rfl⟩
          have HP1 := Lib.hid hp1
          have hp1N : p1 ≤ N := by have := Pc.pos_le kl (q + 1); rw [HP1.out, HN.out] at this; exact this
          have hto := HKO.out t (List.mem_of_getElem? ht)
          have HBK : Hid (t.back p (Pc.flat kl) = (true, p1)) := by have := Pc.back_at hto.2.2.1 ht; rw [HP.out, hp1] at this; exact this
          obtain ⟨c0, c1, c2, c3⟩ := kept_cells HKx.out ht
          have hec := place_cell HEx.out hlt hp1
          have i1 : (q : Int) < (kl.length : Int) := by omega
          have i0 : (0 : Int) ≤ (q : Int) := by omega
          have hA : Below wr.heap.size wr (wr.alloc (.cells #[.int .u8 t.kd, .int .u8 t.pn, .int .u64 t.X, .slice t.sa t.sn t.sc] 39)) := (Below.refl _ _).alloc (Nat.le_refl _) _
          have HRA := Lib.hid (HR.out.below hA)
          have HTA := Lib.hid (hto.below (HBx.out.trans (hA.mono HBx.out.size)))
          have HQA : Hid (w.heap.size ≤ (wr.alloc (.cells #[.int .u8 t.kd, .int .u8 t.pn, .int .u64 t.X, .slice t.sa t.sn t.sc] 39)).heap.size) := Nat.le_trans HBx.out.size hA.size
          have HCA := Lib.hid (HC.out.trans (Chg.of_below (· = R) hA))
          have hgel : ge < wr.heap.size := (HEx.out.lt ge rfl).2
          have hgeR : ge ≠ R := by
            obtain ⟨at_, en, u, ho⟩ := HR.out.obj
            exact ob_row ho HEx.out (by decide) rfl
          have hxR : wr.heap.size ≠ R := by have := HR.out.lt; omega
          have hbx : (wr.alloc (.cells #[.int .u8 t.kd, .int .u8 t.pn, .int .u64 t.X, .slice t.sa t.sn t.sc] 39)).heap[wr.heap.size]? = some (pcObj t) := World.alloc_heap_new wr (pcObj t)
          obtain ⟨b0, b1, b2, b3⟩ := pc_cells hbx
          have hea : (wr.alloc (.cells #[.int .u8 t.kd, .int .u8 t.pn, .int .u64 t.X, .slice t.sa t.sn t.sc] 39)).cell? ⟨ge, q + 1, none⟩ = some (.int .i64 (p1 : Int)) := (hA.cell (p := ⟨ge, q + 1, none⟩) hgel).trans hec
          have HBX := Lib.hid hbx
          have hgel2 : ge < (wr.alloc (.cells #[.int .u8 t.kd, .int .u8 t.pn, .int .u64 t.X, .slice t.sa t.sn t.sc] 39)).heap.size := Nat.lt_of_lt_of_le hgel hA.size
          have hw1 : IntKind.i64.wrap ((N : Int) - (p1 : Int)) = (N : Int) - (p1 : Int) := IntWalk.i64_in _ (by omega)
          have hw2 : (((N : Int) - (p1 : Int)) != ((N : Int) - (p1 : Int))) = false := by simp
          have hw3 : ((p1 : Int) != (p1 : Int)) = false := by simp
          have hq1 : IntKind.i64.wrap ((q : Int) + 1) = (q : Int) + 1 := IntWalk.i64_in _ (by have := HKL.out; omega)
          have hq2 : (0 : Int) ≤ (q : Int) + 1 := by omega
          have hq3 : ((q : Int) + 1).toNat = q + 1 := by omega
          clear ht hp1 hto hA hbx
          go_wp2
          go_region_held3 (fun W => W.cell? ⟨wr.heap.size, 0, none⟩ = some (.int .u8 t.kd) ∧ W.cell? ⟨wr.heap.size, 1, none⟩ = some (.int .u8 t.pn) ∧ W.cell? ⟨wr.heap.size, 2, none⟩ = some (.int .u64 t.X) ∧ W.cell? ⟨wr.heap.size, 3, none⟩ = some (.slice t.sa t.sn t.sc) ∧ W.cell? ⟨ge, q + 1, none⟩ = some (.int .i64 (p1 : Int))) (first | go_keep | exact ⟨b0, b1, b2, b3, hea⟩ | exact ⟨d0, d1, d2, d3, heb⟩) (first
            | (go_at_call 20; refine (pback_any _ R p (Pc.flat kl) (by exact HRA.out) HNM.out t w.heap.size (by exact HTA.out) (by exact HQA.out) true p1 HBK.out).mono ?_; rintro e w8 ⟨rfl, hR8, hK8⟩; obtain ⟨d0, d1, d2, d3⟩ := pc_cells (hK8.at_block (by exact HBX.out) hxR); have heb : w8.cell? ⟨ge, q + 1, none⟩ = some (.int .i64 (p1 : Int)) := (World.cell?_of_block (hK8.block ge (by exact hgel2) hgeR)).trans hea)
            | (go_at_call 21; refine (at_any _ R p1 (Pc.flat kl) (by exact hR8)).mono ?_; rintro e w' ⟨rfl, rfl⟩)
            | (go_at_call 22; refine (left_rd _ R p1 (Pc.flat kl) N HN.out (by exact hR8)).mono ?_; rintro e w' ⟨rfl, q1, rfl⟩))
          all_goals
            rename_i hcont hheld
            have HC8 : Hid (Chg (· = R) w7 w8) := HCA.out.trans ⟨hK8.os, hK8.tape, hK8.output, hK8.size, hK8.block⟩
            have HR8 := Lib.hid hR8
            clear hheld hK8 hR8 d0 d1 d2 d3 heb b0 b1 b2 b3 hea c0 c1 c2 c3 hec hw1 hw2 hw3 hq1 hq2 hq3
            refine hcont _ _ ?_
            clear hcont
            go_wp2
            exact ⟨⟨q + 1, p1, by omega, by go_num, HP1, HR8, Lib.hid (HC8.out.drewN _)⟩, by simp [intOf]; omega⟩
        · have hqk : q = kl.length := by omega
          subst hqk
          obtain rfl : p = N := by have h1 := HP.out; rw [Pc.pos_all, HN.out] at h1; exact h1.symm
          have HEND : Hid (Cu.rdEnd p (Pc.flat kl) = 0) := by show _ = _; unfold Cu.rdEnd; rw [if_pos HN.out.symm]
          have hwN : ((p : Int) != (p : Int)) = false := by simp
          have HSX := Lib.hid (seen_take (Seen.of_own HOx.out) kk)
          have HLK : Hid (((Pc.flat kl).take kk).length = kk) := by show _ = _; rw [List.length_take, HN.out]; exact Nat.min_eq_left hkkN
          have HXK : Hid (∀ y ∈ (Pc.flat kl).take kk, y < 256) := fun y hy => HXB.out y (List.mem_of_mem_take hy)
          have hkoc : (kk : Int) ≤ (oc : Int) := by omega
          go_wp2_with (first
            | (go_at_call 23; go_loud ((with_reducible refine (end_any _ R p (Pc.flat kl) 0 HEND.out HR.out).mono ?_); rintro e w8 ⟨rfl, q8, rfl⟩))
            | (go_at_call 19; go_loud ((refine (newReader_any _ oa kk oc ((Pc.flat kl).take kk) HLK.out HXK.out (by omega) hom HOS.out (by omega) wr.heap.size (by exact HSX.out) (by exact Nat.le_refl _)).mono ?_); rintro e w9 ⟨R2, rfl, hRb2, hR9, hB9⟩)))
          have hb9 : Below wr.heap.size wr w9 := ⟨hB9.os, hB9.tape, hB9.output, hB9.size, hB9.block⟩
          have HB9 := Lib.hid (HBx.out.trans (hb9.mono HBx.out.size))
          have HK9 := Lib.hid (own_below HKx.out hb9)
          have HE9 := Lib.hid (own_below HEx.out hb9)
          have HRW2 : Hid (w.heap.size ≤ R2) := Nat.le_trans HBx.out.size hRb2
          have HRO2 := Lib.hid hR9.obj
          have HR9 := Lib.hid hR9
          have HNM2 : Hid (((Pc.flat kl).take kk).length ≤ 1000000000) := by rw [HLK.out]; show _ ≤ _; omega
          clear hb9 hB9 hR9 hRb2 hwN hkoc
          go_loopw [147] (fun i wx => ∃ q p : Nat, q ≤ kl.length ∧ i = .int .i64 q ∧ Hid (Pc.pos kl q = p) ∧ p ≤ kk ∧ Hid (Rdr wx R2 p ((Pc.flat kl).take kk)) ∧ Hid (Chg (· = R2) w9 wx)) (fun i _ => kl.length - (intOf i).toNat)
          case atStart => exact ⟨0, 0, Nat.zero_le _, rfl, Pc.pos_zero kl, Nat.zero_le _, HR9, Chg.refl _ _⟩
          case round =>
            obtain ⟨q, p2, hq, rfl, HP2, hp2, HR2, HC2⟩ := hrel
            have HBy := Lib.hid (HB9.out.trans (HC2.out.below (B := w.heap.size) (by intro z e; have := HRW2.out; omega) HB9.out.size))
            have HKy : Hid (wr.ownsRow w.heap.size 39 4 (.slice ka kl.length kc) kl.length (pcells kl)) := by
              obtain ⟨at_, en, u, ho⟩ := HRO2.out
              exact rdr_own HK9.out ho (by decide) HC2.out
            have HEy : Hid (wr.ownsRow w.heap.size 3 1 (.slice (some ⟨ge, 0, none⟩) (kl.length + 1) ec) (kl.length + 1) (places kl)) := by
              obtain ⟨at_, en, u, ho⟩ := HRO2.out
              exact rdr_own HE9.out ho (by decide) HC2.out
            have hq60 : q ≤ 60 := by omega
            by_cases hlt : q < kl.length
            · obtain ⟨t, ht⟩ : ∃ t, kl[q]? = some t := ⟨_, List.getElem?_eq_getElem hlt⟩
              obtain ⟨gk, rfl⟩ := own_some HKy.out (by omega)
              obtain ⟨p3, hp3⟩ : ∃ p3, Pc.pos kl (q + 1) = p3 := ⟨_, rfl⟩
              have HP3 := Lib.hid hp3
              have hto := HKO.out t (List.mem_of_getElem? ht)
              obtain ⟨hbs1, hbs2⟩ := Pc.back_short (k := kk) hto.2.2.1 ht (by rw [HN.out]; exact hkkN)
              rw [HP2.out, hp3] at hbs1 hbs2
              obtain ⟨c0, c1, c2, c3⟩ := kept_cells HKy.out ht
              have hec := place_cell HEy.out hlt hp3
              have hec0 := place_cell HEy.out hq HP2.out
              have i1 : (q : Int) < (kl.length : Int) := by omega
              have i0 : (0 : Int) ≤ (q : Int) := by omega
              have hA : Below wr.heap.size wr (wr.alloc (.cells #[.int .u8 t.kd, .int .u8 t.pn, .int .u64 t.X, .slice t.sa t.sn t.sc] 39)) := (Below.refl _ _).alloc (Nat.le_refl _) _
              have HRA := Lib.hid (HR2.out.below hA)
              have HTA := Lib.hid (hto.below (HBy.out.trans (hA.mono HBy.out.size)))
              have HQA : Hid (w.heap.size ≤ (wr.alloc (.cells #[.int .u8 t.kd, .int .u8 t.pn, .int .u64 t.X, .slice t.sa t.sn t.sc] 39)).heap.size) := Nat.le_trans HBy.out.size hA.size
              have HCA := Lib.hid (HC2.out.trans (Chg.of_below (· = R2) hA))
              have hgel : ge < wr.heap.size := (HEy.out.lt ge rfl).2
              have hgeR : ge ≠ R2 := by
                obtain ⟨at_, en, u, ho⟩ := HR2.out.obj
                exact ob_row ho HEy.out (by decide) rfl
              have hxR : wr.heap.size ≠ R2 := by have := HR2.out.lt; omega
              have hbx : (wr.alloc (.cells #[.int .u8 t.kd, .int .u8 t.pn, .int .u64 t.X, .slice t.sa t.sn t.sc] 39)).heap[wr.heap.size]? = some (pcObj t) := World.alloc_heap_new wr (pcObj t)
              have hea : (wr.alloc (.cells #[.int .u8 t.kd, .int .u8 t.pn, .int .u64 t.X, .slice t.sa t.sn t.sc] 39)).cell? ⟨ge, q + 1, none⟩ = some (.int .i64 (p3 : Int)) := (hA.cell (p := ⟨ge, q + 1, none⟩) hgel).trans hec
              have hea0 : (wr.alloc (.cells #[.int .u8 t.kd, .int .u8 t.pn, .int .u64 t.X, .slice t.sa t.sn t.sc] 39)).cell? ⟨ge, q, none⟩ = some (.int .i64 (p2 : Int)) := (hA.cell (p := ⟨ge, q, none⟩) hgel).trans hec0
              have HEA0 := Lib.hid hea0
              have HBX := Lib.hid hbx
              have hgel2 : ge < (wr.alloc (.cells #[.int .u8 t.kd, .int .u8 t.pn, .int .u64 t.X, .slice t.sa t.sn t.sc] 39)).heap.size := Nat.lt_of_lt_of_le hgel hA.size
              have hq1 : IntKind.i64.wrap ((q : Int) + 1) = (q : Int) + 1 := IntWalk.i64_in _ (by omega)
              have hq2 : (0 : Int) ≤ (q : Int) + 1 := by omega
              have hq3 : ((q : Int) + 1).toNat = q + 1 := by omega
              have HBA := Lib.hid (HBy.out.trans (hA.mono HBy.out.size))
              by_cases hin : p3 ≤ kk
              · have HBK := Lib.hid (hbs1 hin)
                have hinI : (p3 : Int) ≤ (kk : Int) := by omega
                clear ht hp3 hto hA hbx hbs1 hbs2 hea0 hec0 hec
                go_wp2_with (go_at_call 20; go_loud ((with_reducible refine (pback_any _ R2 p2 ((Pc.flat kl).take kk) HRA.out HNM2.out t w.heap.size HTA.out HQA.out true p3 HBK.out).mono ?_); rintro e w8 ⟨rfl, hR8, hK8⟩; have HC8 := Lib.hid (HCA.out.trans hK8); have HR8 := Lib.hid hR8; clear hK8 hR8))
                exact ⟨⟨q + 1, p3, by omega, by go_num, HP3, hin, HR8, HC8⟩, by simp [intOf]; omega⟩
              · have HBK := Lib.hid (hbs2 hp2 (by omega))
                have hinI : (kk : Int) < (p3 : Int) := by omega
                have hpp : ((p2 : Int) == (p2 : Int)) = true := by simp
                clear ht hp3 hto hA hbx hbs1 hbs2 hea0 hec0 hec
                go_wp2_with (first
                  | (go_at_call 21; go_loud ((with_reducible refine (at_any _ R2 p2 ((Pc.flat kl).take kk) HRA.out).mono ?_); rintro e w' ⟨rfl, rfl⟩))
                  | (go_at_call 20; go_loud ((with_reducible refine (pback_any _ R2 p2 ((Pc.flat kl).take kk) HRA.out HNM2.out t w.heap.size HTA.out HQA.out false p2 HBK.out).mono ?_); rintro e w8 ⟨rfl, hR8, hK8⟩; have HR8 := Lib.hid hR8; have HB8 := Lib.hid (HBA.out.trans (hK8.below (B := w.heap.size) (by intro z e; have := HRW2.out; omega) HBA.out.size)); have heb : w8.cell? ⟨ge, q, none⟩ = some (.int .i64 (p2 : Int)) := (World.cell?_of_block (hK8.block ge hgel2 hgeR)).trans HEA0.out; clear hK8 hR8))
                  | (go_at_call 21; go_loud ((with_reducible refine (at_any _ R2 p2 ((Pc.flat kl).take kk) HR8.out).mono ?_); rintro e w' ⟨rfl, rfl⟩)))
                go_ret
                exact ⟨rfl, HB8.out⟩
            · obtain rfl : q = kl.length := by omega
              go_wp2
              go_ret
              exact ⟨rfl, HBy.out⟩

end Go.Proofs.Ytdemlifjhlpclaa
