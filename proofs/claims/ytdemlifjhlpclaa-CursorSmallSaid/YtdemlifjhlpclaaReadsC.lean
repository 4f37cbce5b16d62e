/-
  quantumlaw02.reads.
-/
import Derived.Test.YtdemlifjhlpclaaReadA
import Derived.Test.YtdemlifjhlpclaaReadE
namespace Go.Proofs.Ytdemlifjhlpclaa
open Go.RowKit
set_option linter.unusedVariables false

/-- A call: kind, numbers, and a slice. -/
structure Act0 where
  kd : Nat
  N : Int
  M : Int
  X : Nat
  sa : Option Addr
  sn : Nat
  sc : Nat
@[reducible] def Act0.sl (t : Act0) : Value := .slice t.sa t.sn t.sc
def Act0.ok (t : Act0) : Prop := t.kd < 256 ∧ -9223372036854775808 ≤ t.N ∧ t.N ≤ 9223372036854775807 ∧ -9223372036854775808 ≤ t.M ∧ t.M ≤ 9223372036854775807 ∧ t.X < 2 ^ 64
/-- In the world w, below block Q, the slice that begins at a holds calls. -/
def Acts (w : World) (Q : Nat) (a : Option Addr) (l : List Act0) : Prop :=
  ∀ (i : Nat) (t : Act0), l[i]? = some t → ∃ b off, a = some ⟨b, off, none⟩ ∧ b < Q ∧ w.cell? ⟨b, off + i * 5, none⟩ = some (.int .u8 t.kd) ∧ w.cell? ⟨b, off + i * 5 + 1, none⟩ = some (.int .i64 t.N) ∧ w.cell? ⟨b, off + i * 5 + 2, none⟩ = some (.int .i64 t.M) ∧ w.cell? ⟨b, off + i * 5 + 3, none⟩ = some (.int .u64 t.X) ∧ w.cell? ⟨b, off + i * 5 + 4, none⟩ = some (.slice t.sa t.sn t.sc)
theorem Acts.below {w w' : World} {Q : Nat} {a : Option Addr} {l : List Act0} (h : Acts w Q a l) (hb : Below Q w w') : Acts w' Q a l := fun i t ht => by
  obtain ⟨b, off, e, hq, h0, h1, h2, h3, h4⟩ := h i t ht
  refine ⟨b, off, e, hq, ?_, ?_, ?_, ?_, ?_⟩
  · exact (hb.cell (p := ⟨b, off + i * 5, none⟩) hq).trans h0
  · exact (hb.cell (p := ⟨b, off + i * 5 + 1, none⟩) hq).trans h1
  · exact (hb.cell (p := ⟨b, off + i * 5 + 2, none⟩) hq).trans h2
  · exact (hb.cell (p := ⟨b, off + i * 5 + 3, none⟩) hq).trans h3
  · exact (hb.cell (p := ⟨b, off + i * 5 + 4, none⟩) hq).trans h4

theorem readLaw_any (w : World) (B : Nat) (a : Option Addr) (n c p : Nat) (t : Act0) (ht : t.ok)
    (xs : List Nat) (hn : xs.length = n) (hn5 : n ≤ 500) (hnc : n ≤ c) (hcm : c ≤ maxLen) (hsn : a = none → c = 0) (hR : Rdr w B p xs) (Q : Nat) (hS : Seen w Q .u8 a xs) (hQ : Q ≤ w.heap.size) :
    Calls Try.prog 38 #[.pointer (some ⟨B, 0, none⟩), rv a n c p, av t.kd t.N t.M t.X t.sl] w (ReadOk w B a n c xs) := by
  obtain ⟨h0, h1, h2, h3, h4, h5⟩ := ht
  by_cases k0 : t.kd % 8 = 0
  · by_cases hpn : p < n
    · exact read_0_in w B a n c p t.kd t.N t.M t.X t.sl k0 h0 h1 h2 h3 h4 h5 xs hn hn5 hnc hcm hsn hR Q hS hQ hpn
    · exact read_0_end w B a n c p t.kd t.N t.M t.X t.sl k0 h0 h1 h2 h3 h4 h5 xs hn hn5 hnc hcm hsn hR Q hS hQ hpn
  by_cases k1 : t.kd % 8 = 1
  · exact read_1 w B a n c p t.kd t.N t.M t.X t.sl k1 h0 h1 h2 h3 h4 h5 xs hn hn5 hnc hcm hsn hR Q hS hQ
  by_cases k2 : t.kd % 8 = 2
  · exact read_2 w B a n c p t.kd t.N t.M t.X t.sl k2 h0 h1 h2 h3 h4 h5 xs hn hn5 hnc hcm hsn hR Q hS hQ
  by_cases k3 : t.kd % 8 = 3
  · exact read_3 w B a n c p t.kd t.N t.M t.X t.sl k3 h0 h1 h2 h3 h4 h5 xs hn hn5 hnc hcm hsn hR Q hS hQ
  by_cases k4 : t.kd % 8 = 4
  · exact read_4 w B a n c p t.kd t.N t.M t.X t.sl k4 h0 h1 h2 h3 h4 h5 xs hn hn5 hnc hcm hsn hR Q hS hQ
  · exact read_5 w B a n c p t.kd t.N t.M t.X t.sl (by omega) h0 h1 h2 h3 h4 h5 xs hn hn5 hnc hcm hsn hR Q hS hQ

theorem at_q (w : World) (B p : Nat) (xs : List Nat) (hR : Rdr w B p xs) :
    Calls Try.prog 21 #[.pointer (some ⟨B, 0, none⟩)] w fun e w' => e = .returned (.int .i64 p) ∧ w' = w := (at_any w B p xs hR).mono fun e w' h => ⟨h.1, h.2.symm⟩

set_option maxRecDepth 100000 in
set_option maxHeartbeats 1000000 in
/-- A new reader keeps what it has, whatever becomes of older blocks. -/
theorem newReader_apart (w : World) (a : Option Addr) (n c : Nat) (xs : List Nat) (hn : xs.length = n) (hx : ∀ x ∈ xs, x < 256) (hc : n ≤ c) (hcm : c ≤ maxLen) (hs : a = none → c = 0) (hm : n ≤ 1000000000) (N : Nat) (hS : Seen w N .u8 a xs) (hN : N ≤ w.heap.size) :
    Calls Try.prog 19 #[.slice a n c] w fun e w' => ∃ B, e = .returned (.pointer (some ⟨B, 0, none⟩)) ∧ w.heap.size ≤ B ∧ Rdr w' B 0 xs ∧ (∀ w'', (∀ k, w.heap.size ≤ k → k < w'.heap.size → w''.heap[k]? = w'.heap[k]?) → Rdr w'' B 0 xs) ∧ Below w.heap.size w w' := by
  go_enter Try.func19, Try.ntmps19
  go_wp2_with (go_at_call 47; refine (clone_any w a n c xs hn hc hcm hs hm N hS hN).mono ?_; rintro e w1 ⟨v, rfl, hown, hB⟩; obtain ⟨a1, c1, rfl, S1, hl1, hc1, hm1⟩ := own_slice hown)
  go_ret
  have hR : Rdr (w1.alloc (.cells #[.bool true, .int .i64 0, .int .i64 n, .slice a1 n c1] 83)) w1.heap.size 0 xs := by
    refine ⟨a1, c1, ?_, ?_, ?_, hx, Nat.zero_le _, by rw [hl1]; exact hc1, hm1⟩
    · rw [hl1]; exact World.alloc_heap_new w1 _
    · rcases hown.2 with ⟨h, _⟩ | ⟨g, cap, cur, h, _⟩
      · cases h; exact .inl ⟨rfl, rfl⟩
      · cases h; exact .inr ⟨g, rfl⟩
    · exact S1.alloc (Nat.le_refl _) _
  refine ⟨w1.heap.size, rfl, hB.size, hR, fun w'' hk => ?_, hB.alloc hB.size _⟩
  refine ⟨a1, c1, ?_, ?_, ?_, hx, Nat.zero_le _, by rw [hl1]; exact hc1, hm1⟩
  · rw [hl1, hk w1.heap.size hB.size (by simp)]; exact World.alloc_heap_new w1 _
  · rcases hown.2 with ⟨h, _⟩ | ⟨g, cap, cur, h, _⟩
    · cases h; exact .inl ⟨rfl, rfl⟩
    · cases h; exact .inr ⟨g, rfl⟩
  · intro i x hi
    obtain ⟨b, off, e, hbl, hcc⟩ := S1 i x hi
    subst e
    have hg : w.heap.size ≤ b := (hown.lt b rfl).1
    refine ⟨b, off, rfl, hbl, ?_⟩
    have h1 : (w1.alloc (.cells #[.bool true, .int .i64 0, .int .i64 n, .slice (some ⟨b, off, none⟩) n c1] 83)).cell? ⟨b, off + i, none⟩ = some (.int .u8 x) := (World.cell?_alloc_lt w1 _ _ hbl).trans hcc
    exact (World.cell?_of_block (hk b hg (by simp; omega))).trans h1

set_option maxRecDepth 100000 in
set_option maxHeartbeats 4000000 in
theorem reads_any (w : World) (a : Option Addr) (n c : Nat) (xs : List Nat) (hn : xs.length = n) (hx : ∀ x ∈ xs, x < 256) (hnc : n ≤ c) (hcm : c ≤ maxLen) (hsn : a = none → c = 0) (Q : Nat) (hS : Seen w Q .u8 a xs) (hQ : Q ≤ w.heap.size)
    (aa : Option Addr) (m mc : Nat) (l : List Act0) (hl : l.length = m) (hlo : ∀ t ∈ l, t.ok) (hmc : mc ≤ maxLen) (hmm : m ≤ mc) (Q2 : Nat) (hA : Acts w Q2 aa l) (hQ2 : Q2 ≤ w.heap.size) :
    Calls Try.prog 11 #[.slice a n c, .slice aa m mc] w fun e w' => e = .returned (.bool true) ∧ Below w.heap.size w w' := by
  unfold maxLen at hmc
  by_cases h5 : n ≤ 500
  · have h5' : (n : Int) ≤ 500 := by omega
    by_cases h1 : m ≤ 100
    · have h1' : (m : Int) ≤ 100 := by omega
      have HN := Lib.hid hn
      have HX := Lib.hid hx
      have HSN := Lib.hid hsn
      have HL := Lib.hid hl
      have HLO := Lib.hid hlo
      clear hn hx hsn hl hlo
      go_enter Try.func11, Try.ntmps11
      go_wp2_with (first
        | (go_at_call 35; ((with_reducible refine (lentB_any a n c xs HN.out (by omega) Q _ hS hQ).mono ?_); rintro e w1 ⟨g1, c1, rfl, hc1, hd1, S1, hown1, hB1⟩; have hS1 := hS.below (hB1.mono hQ)))
        | (go_at_call 19; ((with_reducible refine (newReader_apart _ _ n c1 xs HN.out HX.out (by omega) hd1 (by simp) (by omega) _ (by have := seen_take S1 n; rw [List.take_left' HN.out] at this; exact this) (Nat.le_refl _)).mono ?_); rintro e w2 ⟨R, rfl, hRR, hR2, hRA, hB2⟩; have hb2 := hB1.trans (hB2.mono hB1.size)))
        | (go_at_call 36; ((with_reducible refine (keptB_any a n c xs HN.out (by omega) g1 c1 hc1 hd1 _ _ ((hS.below (hb2.mono hQ)).more (Nat.le_trans hQ hB1.size)) (S1.below hB2) hB2.size).mono ?_); rintro e w3 ⟨rfl, hB3⟩; have hb3 := hb2.trans (hB3.mono hb2.size); have hown3 := own_below (own_below hown1 hB2) hB3))
        | (go_at_call 37; ((with_reducible refine (over_any _ _ g1 n c1 _ hown3 (by omega) hc1 hd1).mono ?_); rintro e w4 ⟨rfl, hK4⟩)))
      have hg1 := hown1.lt g1 rfl
      have hb4 : Below w.heap.size w w4 := hb3.trans (hK4.below (B := w.heap.size) (by intro q e; omega) hb3.size)
      have hR4 : Rdr w4 R 0 xs := hRA w4 (fun k h1 h2 => (hK4.block k (Nat.lt_of_lt_of_le h2 hB3.size) (by show ¬ k = g1; omega)).trans (hB3.block k h2))
      have hRw : w.heap.size ≤ R := Nat.le_trans hB1.size hRR
      have hb15 : (w4.alloc (.cells #[.slice a n c, .int .i64 0] 71)).heap[w4.heap.size]? = some (rrObj a n c 0) := World.alloc_heap_new w4 _
      have hR5 := hR4.below ((Below.refl _ w4).alloc (Nat.le_refl _) (.cells #[.slice a n c, .int .i64 0] 71))
      have hb5 := hb4.alloc hb4.size (.cells #[.slice a n c, .int .i64 0] 71)
      have hRl : R < w4.heap.size := hR4.lt
      have hw4s := hb4.size
      clear hown1 hown3 S1 hS1 hRA hR2 hK4 hB3 hB2 hB1 hb2 hb3 hg1 hc1 hd1
      go_loopw [34] (fun i wr => ∃ k p : Nat, k ≤ m ∧ i = .int .i64 k ∧ Rdr wr R p xs ∧ wr.heap[w4.heap.size]? = some (rrObj a n c p) ∧ Below w.heap.size w wr) (fun i _ => m - (intOf i).toNat)
      case atStart => exact ⟨0, 0, Nat.zero_le _, rfl, hR5, hb15, hb5⟩
      case round =>
        obtain ⟨k, p, hk, rfl, hR, hs, hB⟩ := hrel
        obtain ⟨r0, r1, rf0, rf1⟩ := rr_cells hs
        have hsl := (Array.getElem?_eq_some_iff.1 hs).1
        by_cases hlt : k < m
        · obtain ⟨t, ht⟩ : ∃ t, l[k]? = some t := ⟨_, List.getElem?_eq_getElem (by rw [HL.out]; exact hlt)⟩
          have hto := HLO.out t (List.mem_of_getElem? ht)
          obtain ⟨ab, ao, rfl, hal, h0, h1, h2, h3, h4⟩ := (hA.below (hB.mono hQ2)) k t ht
          have i1 : (k : Int) < (m : Int) := by omega
          have i0' : (0 : Int) ≤ (k : Int) := by omega
          have HT := Lib.hid hto
          clear ht hto
          have hRa := hR.below ((Below.refl _ wr).alloc (Nat.le_refl _) (.cells #[.int .u8 t.kd, .int .i64 t.N, .int .i64 t.M, .int .u64 t.X, .slice t.sa t.sn t.sc] 30))
          have hBa := hB.alloc hB.size (.cells #[.int .u8 t.kd, .int .i64 t.N, .int .i64 t.M, .int .u64 t.X, .slice t.sa t.sn t.sc] 30)
          have hSa := hS.below (hBa.mono hQ)
          go_wp2_with (go_at_call 38; ((with_reducible refine (readLaw_any _ R a n c p t HT.out xs HN.out h5 hnc hcm HSN.out hRa Q hSa (Nat.le_trans hQ hBa.size)).mono ?_); rintro e w6 ⟨p', rfl, hp', hR6, hK6⟩))
          have hB6 : Below w.heap.size w w6 := hBa.trans (hK6.below (B := w.heap.size) (by intro q e; omega) hBa.size)
          have hs6 : w6.heap[w4.heap.size]? = some (rrObj a n c p) := hK6.at_block ((Below.heap_alloc wr _ _ hsl).trans hs) (by show ¬ _ = R; omega)
          have hz6 : w4.heap.size < w6.heap.size := (Array.getElem?_eq_some_iff.1 hs6).1
          obtain ⟨r, hr⟩ : ∃ r, Cu.rdEnd p' xs = r := ⟨_, rfl⟩
          have HR := Lib.hid hr
          have hR7 := hR6.below ((Below.refl _ w6).alloc (Nat.le_refl _) (.cells #[.slice a n c, .int .i64 p'] 71))
          have hB7 := hB6.alloc hB6.size (.cells #[.slice a n c, .int .i64 p'] 71)
          have hs7 : (w6.alloc (.cells #[.slice a n c, .int .i64 p'] 71)).heap[w4.heap.size]? = some (rrObj a n c p) := (Below.heap_alloc w6 _ _ hz6).trans hs6
          have ht7 : (w6.alloc (.cells #[.slice a n c, .int .i64 p'] 71)).heap[w6.heap.size]? = some (rrObj a n c p') := World.alloc_heap_new w6 _
          have hzz : (w6.alloc (.cells #[.slice a n c, .int .i64 p'] 71)).heap.size = w6.heap.size + 1 := by simp
          obtain ⟨u0, u1, rf2, rf3⟩ := rr_cells ht7
          clear rf2 rf3
          clear hr hR6 hK6 hB6 hRa hBa hSa h0 h1 h2 h3 h4 r0 r1 rf0 rf1 hs6 hR hB hs hsl
          have hw1 : IntKind.i64.wrap ((n : Int) - (p' : Int)) = (n : Int) - (p' : Int) := IntWalk.i64_in _ (by omega)
          have hw2 : (((n : Int) - (p' : Int)) != ((n : Int) - (p' : Int))) = false := by simp
          have hw3 : ((p' : Int) != (p' : Int)) = false := by simp
          have hw4 : (r != r) = false := by simp
          go_region_held3 (fun W => W.cell? ⟨w6.heap.size, 0, none⟩ = some (.slice a n c) ∧ W.cell? ⟨w6.heap.size, 1, none⟩ = some (.int .i64 p')) (first | go_keep | exact ⟨u0, u1⟩ | exact ⟨(hBe.cell (p := ⟨w6.heap.size, 0, none⟩) (by show _ < _; simp)).trans u0, (hBe.cell (p := ⟨w6.heap.size, 1, none⟩) (by show _ < _; simp)).trans u1⟩) (first
            | (go_at_call 21; refine (at_any _ R p' xs (by exact hR7)).mono ?_; rintro e w' ⟨rfl, rfl⟩)
            | (go_at_call 22; refine (left_rd _ R p' xs n HN.out (by exact hR7)).mono ?_; rintro e w' ⟨rfl, q1, rfl⟩)
            | (go_at_call 23; refine (end_any _ R p' xs r HR.out (by exact hR7)).mono ?_; rintro e w' ⟨rfl, q2, rfl⟩)
            | (go_at_call 39; refine (refEnd_any _ a n c p' xs HN.out hp' r HR.out).mono ?_; rintro e w8 ⟨rfl, hBe⟩))
          all_goals
            rename_i hcont hheld
            obtain ⟨u0', u1'⟩ := hheld
            have hB8 : Below w.heap.size w w8 := (below_drewN hB7 _).trans (hBe.mono (below_drewN hB7 _).size)
            have hs8 : w8.heap[w4.heap.size]? = some (rrObj a n c p) := (hBe.block w4.heap.size (by simp; omega)).trans hs7
            have hR8 : Rdr w8 R p' xs := Rdr.below (by exact hR7) hBe
            obtain ⟨r0, r1, rf0, rf1⟩ := rr_cells hs8
            have hs9 := Lib.hid (two_set hs8 (.slice a n c) (.int .i64 p'))
            clear hw1 hw2 hw3 hw4 hs8 hs7 hB7 hR7 ht7 u0 u1 hBe
            refine hcont _ _ ?_
            go_wp2
            go_roundw
            case rel => exact ⟨k + 1, p', by omega, by go_num, (hR8.setNew (q := ⟨w4.heap.size, 0, none⟩) hRl _).setNew (q := ⟨w4.heap.size, 1, none⟩) hRl _, hs9.out, (hB8.setCell (p := ⟨w4.heap.size, 0, none⟩) hw4s _).setCell (p := ⟨w4.heap.size, 1, none⟩) hw4s _⟩
            case measure => simp [intOf]; omega
        · obtain rfl : k = m := by omega
          go_wp2
          go_quiet ((go_at_call 21; exact Calls.quiet_of_same (at_q _ R p xs hR)))
          go_wp2
          go_ret
          exact ⟨rfl, below_drewN hB _⟩
    · have h1' : (100 : Int) < (m : Int) := by omega
      go_enter Try.func11, Try.ntmps11
      go_wp2
      go_ret
      exact ⟨rfl, Below.refl _ _⟩
  · have h5' : (500 : Int) < (n : Int) := by omega
    go_enter Try.func11, Try.ntmps11
    go_wp2
    go_ret
    exact ⟨rfl, Below.refl _ _⟩

end Go.Proofs.Ytdemlifjhlpclaa
