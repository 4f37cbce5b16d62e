/-
  The walk of VarintSmall.
-/
import Derived.Test.YthcagiamieeggaaTells
import Derived.Test.YthcagiamieeggaaReads
import Derived.Test.YthcagiamieeggaaAwake
import Derived.OpenShut
namespace Go.Proofs.Ythcagiamieeggaa
open Go.RowKit
set_option linter.unusedVariables false

theorem tells_int (v n : Int) (hv : 0 ≤ v ∧ v ≤ 18446744073709551615) (hn : -9223372036854775808 ≤ n ∧ n ≤ 9223372036854775807) (w : World) :
    Calls Try.prog 12 #[.int .u64 v, .int .i64 n] w fun e w' => e = .returned (.bool true) ∧ Below w.heap.size w w' := by
  obtain ⟨x, rfl⟩ := Int.eq_ofNat_of_zero_le hv.1
  exact tells_any x n (by omega) hn.1 hn.2 w
theorem u64_bd (e : Int) : 0 ≤ IntKind.u64.wrap e ∧ IntKind.u64.wrap e ≤ 18446744073709551615 := bounds_u64 (wf_wrap .u64 e)
theorem w64_bd (e : Int) : -9223372036854775808 ≤ wrap64 e ∧ wrap64 e ≤ 9223372036854775807 := bounds_i64 (wrap64_wf e)
theorem i64_bd (e : Int) : -9223372036854775808 ≤ IntKind.i64.wrap e ∧ IntKind.i64.wrap e ≤ 9223372036854775807 := bounds_i64 (wf_wrap .i64 e)
theorem bits64_bd (op : BinOp) (x y : Int) : 0 ≤ bits op .u64 x y ∧ bits op .u64 x y ≤ 18446744073709551615 := bounds_u64 (wf_bits op .u64 x y)
theorem seen_ints {w : World} {k : IntKind} {b off : Nat} {cs : Array Value} {t : TypeId} {f : Nat × Nat} (vs : List Int) (h : w.heap[b]? = some (.cells cs t f)) (hv : ∀ v ∈ vs, 0 ≤ v) (hx : ∀ (i : Nat) (v : Int), vs[i]? = some v → cs[off + i]? = some (.int k v)) : Seen w w.heap.size k (some ⟨b, off, none⟩) (vs.map Int.toNat) :=
  Seen.of_block h fun i x hi => by
    rw [List.getElem?_map] at hi
    cases hvs : vs[i]? with
    | none => rw [hvs] at hi; simp at hi
    | some v =>
      rw [hvs] at hi
      simp at hi
      have := hv v (List.mem_of_getElem? hvs)
      rw [hx i v hvs, ← hi, Int.toNat_of_nonneg this]

theorem lists3 (v0 v1 v2 : Int) (h0 : 0 ≤ v0 ∧ v0 ≤ 18446744073709551615) (h1 : 0 ≤ v1 ∧ v1 ≤ 18446744073709551615) (h2 : 0 ≤ v2 ∧ v2 ≤ 18446744073709551615) (w : World) :
    Calls Try.prog 15 #[.slice (some ⟨w.heap.size, 0, none⟩) 3 3] (w.alloc (.cells #[.int .u64 v0, .int .u64 v1, .int .u64 v2] 22)) fun e w' => e = .returned (.bool true) ∧ Below w.heap.size w w' := by
  have hS := seen_ints (k := .u64) (off := 0) [v0, v1, v2] (World.alloc_heap_new w (.cells #[.int .u64 v0, .int .u64 v1, .int .u64 v2] 22)) (by simp; exact ⟨h0.1, h1.1, h2.1⟩) (fun i v hv => by
    match i, hv with
    | 0, hv | 1, hv | 2, hv => simp at hv; subst hv; rfl)
  refine (lists_any _ 3 3 _ rfl (by simp; omega) (by decide) (by unfold maxLen; omega) _ _ hS (Nat.le_refl _)).mono ?_
  rintro e w' ⟨rfl, hB⟩
  exact ⟨rfl, ((Below.refl _ w).alloc (Nat.le_refl _) _).trans (hB.mono (by simp))⟩
/-- A slice of bytes that lies in a block of its own. -/
theorem reads_own (g c n : Nat) (bs : List Nat) (hn : bs.length = n) (hbs : ∀ y ∈ bs, y < 256) (hnc : n ≤ c) (hcm : c ≤ maxLen) (B : Nat) (w : World) (hS : Seen w B .u8 (some ⟨g, 0, none⟩) bs) (hBw : B ≤ w.heap.size) :
    Calls Try.prog 14 #[.slice (some ⟨g, 0, none⟩) n c] w fun e w' => e = .returned (.bool true) ∧ Below w.heap.size w w' :=
  reads_any _ n c bs hn hbs hnc hcm B w hS hBw

def fills : List Nat := [128, 129, 255]
def lasts : List Nat := [0, 1, 2, 3, 64, 127, 128, 129, 255]
def befores : List Nat := [0, 1, 127, 128, 129, 255]
theorem mem_lt {l : List Nat} (h : ∀ y ∈ l, y < 256) {f y : Nat} (hy : l[f]? = some y) : y < 256 := h y (List.mem_of_getElem? hy)
theorem fills_lt {f y : Nat} (hy : fills[f]? = some y) : y < 256 := mem_lt (by decide) hy
theorem lasts_lt {f y : Nat} (hy : lasts[f]? = some y) : y < 256 := mem_lt (by decide) hy
theorem befores_lt {f y : Nat} (hy : befores[f]? = some y) : y < 256 := mem_lt (by decide) hy
theorem seen_world' {W : World} {B : Nat} {k : IntKind} {a : Option Addr} {xs : List Nat} (_ : Seen W B k a xs) : ∃ W0, W = W0 := ⟨_, rfl⟩
theorem pair_reads (j : Nat) (hj : j < 65536) (w : World) :
    Calls Try.prog 14 #[.slice (some ⟨w.heap.size, 0, none⟩) (2 - j % 257 / 256) 2] (w.alloc (.cells #[.int .u8 ((j : Int) % 256), .int .u8 ((j : Int) / 256)] 5)) fun e w' => e = .returned (.bool true) ∧ Below w.heap.size w w' := by
  have hS := Seen.of_block (k := .u8) (off := 0) (xs := [j % 256, j / 256]) (World.alloc_heap_new w (.cells #[.int .u8 ((j : Int) % 256), .int .u8 ((j : Int) / 256)] 5)) (fun i v hv => by
    match i, hv with
    | 0, hv | 1, hv => simp at hv; subst hv; rfl)
  refine (reads_any _ _ 2 ([j % 256, j / 256].take (2 - j % 257 / 256)) (by rw [List.length_take]; simp) (fun y hy => ?_) (by omega) (by unfold maxLen; omega) _ _ (seen_take hS _) (Nat.le_refl _)).mono ?_
  · have := List.mem_of_mem_take hy
    simp at this; omega
  · rintro e w' ⟨rfl, hB⟩
    exact ⟨rfl, ((Below.refl _ w).alloc (Nat.le_refl _) _).trans (hB.mono (by simp))⟩

/-- An append of bytes to one byte, under a guard that says yes. -/
theorem wpList_grows_want {P : Program} (w : World) {ops : Array Oper} {rest : List Oper} {o : Oper} {a : Act} {Q : Exit → Act → World → Prop}
    (hg : Region.wanted o (yielded ops a.tmps) = true) (s x : Operand) (t : TypeId) (hop : o.op = Op.call { callee := Callee.builtin Builtin.append, args := #[s, x], argTypes := #[t, t] })
    (e : TypeId) (i : TypeInfo) (z : Value) (h1 : P.underlying t = some (.slice e)) (h2 : P.info? e = some i) (h3 : i.zero = some z) (h4 : i.size = 1) (h5 : i.bytes = 1) (h6 : z.cells.size = 1)
    (b : Addr) (olds : List Value) (hs : a.eval s = .slice (some b) 1 1) (hlo : olds.length = 1 * 1) (holds : ∀ j u, olds[j]? = some u → w.cell? (b.add j) = some u)
    (ad : Addr) (m c : Nat) (news : List Value) (hx : a.eval x = .slice (some ad) m c) (hn : news.length = m * 1) (hc : ∀ j u, news[j]? = some u → w.cell? (ad.add j) = some u)
    (hfull : 1 < 1 + m) (b1 : 1 + m ≤ maxLen) (b2 : (1 + m) * 1 ≤ 140737488355328)
    (hK : ∀ v' w', w'.ownsRow w.heap.size e 1 v' (1 + m) (olds ++ news) → w.grownBy w' none → wpList P ops Q rest (a.put o.dst v') w') :
    wpList P ops Q (o :: rest) a w := by
  refine BigFrame.wpList_want hg fun K hK' => ?_
  obtain ⟨v', w', hrun, r1, r2⟩ := run_append_arg_grows (P := P) w t o.type e i z 1 1 h1 h2 h3 h4 h5 h6 (by decide) b 1 1 olds hlo holds ad m c news hn hc hfull b1 b2
  unfold Oper.wp
  simp [execOp, hop, resolve, invoke, builtin, hs, hx, hrun, Result.andThen]
  exact hK' _ _ (hK v' w' r1 r2)

set_option maxRecDepth 100000 in
set_option maxHeartbeats 4000000 in
theorem small_walk (w : World) : Calls Try.prog 6 #[] w fun e w' => e = .returned (.bool true) ∧ Below w.heap.size w w' := by
  obtain ⟨i0, hi, hz0, hz1, hz2⟩ := info_parts infoB
  go_enter Try.func6, Try.ntmps6
  go_wp2
  go_loopw [14] (fun i wr => ∃ k : Nat, k ≤ 20001 ∧ i = .int .u64 k ∧ Below w.heap.size w wr) (fun i _ => 20001 - (intOf i).toNat)
  case atStart => exact ⟨0, by omega, rfl, Below.refl _ _⟩
  case round =>
    obtain ⟨k, hk, rfl, hB⟩ := hrel
    by_cases hlt : k < 20001
    · go_wp2_with (go_at_call 12; refine (tells_int _ _ (by omega) (by omega) _).mono ?_; rintro e w2 ⟨rfl, hB2⟩)
      exact ⟨⟨k + 1, by omega, by go_num, hB.trans (hB2.mono hB.size)⟩, by simp [intOf]; omega⟩
    · have hge1 : 20001 ≤ k := by omega
      clear hlt
      obtain ⟨k1, rfl⟩ : ∃ k1, k1 = k := ⟨_, rfl⟩
      obtain ⟨w2, rfl⟩ : ∃ w2 : World, w2 = wr := ⟨_, rfl⟩
      go_wp2
      go_loopw [24] (fun i wr => ∃ k : Nat, k ≤ 64 ∧ i = .int .i64 k ∧ Below w.heap.size w wr) (fun i _ => 64 - (intOf i).toNat)
      case atStart => exact ⟨0, by omega, rfl, hB⟩
      case round =>
        clear hB
        obtain ⟨k, hk, rfl, hB⟩ := hrel
        obtain ⟨w3, rfl⟩ : ∃ w3 : World, w3 = wr := ⟨_, rfl⟩
        by_cases hlt : k < 64
        · go_wp2
          go_loopw [27] (fun i wr => ∃ j : Nat, j ≤ 3 ∧ i = .int .u64 j ∧ Below w.heap.size w wr) (fun i _ => 3 - (intOf i).toNat)
          case atStart => exact ⟨0, by omega, rfl, hB⟩
          case round =>
            clear hB
            obtain ⟨j, hj, rfl, hB⟩ := hrel
            by_cases hlt2 : j < 3
            · go_wp2_with fail
              obtain ⟨X, hX⟩ : ∃ X, IntKind.u64.wrap (IntKind.u64.wrap (IntKind.u64.wrap (2 ^ k) + (j : Int)) - 1) = X := ⟨_, rfl⟩
              have hXb := u64_bd (IntKind.u64.wrap (IntKind.u64.wrap (2 ^ k) + (j : Int)) - 1)
              rw [hX] at hXb ⊢
              clear hX
              have hXw := w64_bd X
              have hXn := w64_bd (-wrap64 X)
              go_wp2_with (first
                | (go_at_call 12; refine (tells_int _ _ (by first | omega | exact u64_bd _ | exact bits64_bd _ _ _) (by first | omega | exact w64_bd _ | exact i64_bd _) _).mono ?_; rintro e w4 ⟨rfl, hB2⟩; have hB := then_below hB hB2)
                | (go_at_call 15; refine (lists3 _ _ _ (by first | omega | exact u64_bd _ | exact bits64_bd _ _ _) (by first | omega | exact u64_bd _ | exact bits64_bd _ _ _) (by first | omega | exact u64_bd _ | exact bits64_bd _ _ _) _).mono ?_; rintro e w4 ⟨rfl, hB2⟩; have hB := then_below hB hB2))
              exact ⟨⟨_, _, _, _, ⟨j + 1, by omega, by go_num⟩, rfl, rfl, rfl, rfl⟩, by simp [intOf]; omega⟩
            · have hge3 : 3 ≤ j := by omega
              clear hlt2
              go_wp2
              exact ⟨⟨k + 1, by omega, by go_num, hB⟩, by simp [intOf]; omega⟩
        · have hge2 : 64 ≤ k := by omega
          clear hlt
          obtain ⟨k2, rfl⟩ : ∃ k2, k2 = k := ⟨_, rfl⟩
          go_wp2
          go_loopw [60] (fun i wr => ∃ j : Nat, j ≤ 65536 ∧ i = .int .i64 j ∧ Below w.heap.size w wr) (fun i _ => 65536 - (intOf i).toNat)
          case atStart => exact ⟨0, by omega, rfl, hB⟩
          case round =>
            clear hB
            obtain ⟨j, hj, rfl, hB⟩ := hrel
            obtain ⟨w5, rfl⟩ : ∃ w5 : World, w5 = wr := ⟨_, rfl⟩
            by_cases hlt2 : j < 65536
            · have hji : (j : Int) < 65536 := by omega
              have HJ := Lib.hid hlt2
              clear hlt2 hj
              have hpair := pair_reads j HJ.out
              go_wp2_with (go_at_call 14; refine (hpair _).mono ?_; rintro e w6 ⟨rfl, hB2⟩; have HB := Lib.hid (then_below hB hB2))
              exact ⟨⟨j + 1, by have := HJ.out; omega, by go_num, HB.out⟩, by simp [intOf]; omega⟩
            · have hge4 : ¬ (j : Int) < 65536 := by omega
              clear hlt2 hj
              obtain ⟨k3, rfl⟩ : ∃ k3, k3 = j := ⟨_, rfl⟩
              go_wp2
              have HB5 := Lib.hid hB
              clear hB
              go_loopw [77] (fun i wr => ∃ s : Nat, s ≤ 12 ∧ i = .int .i64 s ∧ Below w.heap.size w wr) (fun i _ => 12 - (intOf i).toNat)
              case atStart => exact ⟨0, by omega, rfl, HB5.out⟩
              case round =>
                clear HB5
                obtain ⟨s, hs, rfl, hBs⟩ := hrel
                by_cases hlts : s < 12
                · have hFs := fun w0 : World => Seen.of_block (k := .u8) (off := 0) (xs := fills) (World.alloc_heap_new w0 (.cells #[.int .u8 128, .int .u8 129, .int .u8 255] 5)) (fun i v hv => by
                    match i, hv with
                    | 0, hv | 1, hv | 2, hv => simp [fills] at hv; subst hv; rfl)
                  obtain ⟨w6, rfl⟩ : ∃ w6 : World, w6 = wr := ⟨_, rfl⟩
                  have SF := hFs w6
                  have hB6 := hBs.alloc hBs.size (.cells #[.int .u8 128, .int .u8 129, .int .u8 255] 5)
                  clear hFs
                  go_wp2
                  obtain ⟨w7, hw7⟩ := seen_world' SF
                  rw [hw7] at SF hB6 ⊢
                  have HB6 := Lib.hid hB6
                  clear hB6 hw7 hBs
                  go_loopw [82] (fun i wr => ∃ f : Nat, f ≤ 3 ∧ i = .int .i64 f ∧ Below w7.heap.size w7 wr) (fun i _ => 3 - (intOf i).toNat)
                  case atStart => exact ⟨0, by omega, rfl, Below.refl _ _⟩
                  case round =>
                    obtain ⟨f, hf, rfl, hBf⟩ := hrel
                    by_cases hltf : f < 3
                    · obtain ⟨fill, hfill⟩ : ∃ y, fills[f]? = some y := ⟨_, List.getElem?_eq_getElem (by simpa [fills] using hltf)⟩
                      have hfb := fills_lt hfill
                      obtain ⟨bf, of', ef, _, hcf⟩ := (SF.below hBf) f fill hfill
                      cases ef
                      rw [Nat.zero_add] at hcf
                      clear hfill
                      have SL0 := Seen.of_block (k := .u8) (off := 0) (xs := lasts) (World.alloc_heap_new wr (.cells #[.int .u8 0, .int .u8 1, .int .u8 2, .int .u8 3, .int .u8 64, .int .u8 127, .int .u8 128, .int .u8 129, .int .u8 255] 5)) (fun i v hv => by
                        match i, hv with
                        | 0, hv | 1, hv | 2, hv | 3, hv | 4, hv | 5, hv | 6, hv | 7, hv | 8, hv => simp [lasts] at hv; subst hv; rfl)
                      have hB8 := (Below.refl w7.heap.size w7).trans (hBf.alloc hBf.size (.cells #[.int .u8 0, .int .u8 1, .int .u8 2, .int .u8 3, .int .u8 64, .int .u8 127, .int .u8 128, .int .u8 129, .int .u8 255] 5))
                      have SL : Seen (wr.alloc (.cells #[.int .u8 0, .int .u8 1, .int .u8 2, .int .u8 3, .int .u8 64, .int .u8 127, .int .u8 128, .int .u8 129, .int .u8 255] 5)) (wr.alloc (.cells #[.int .u8 0, .int .u8 1, .int .u8 2, .int .u8 3, .int .u8 64, .int .u8 127, .int .u8 128, .int .u8 129, .int .u8 255] 5)).heap.size .u8 (some ⟨wr.heap.size, 0, none⟩) lasts := SL0
                      clear SL0
                      obtain ⟨g8, hg8⟩ : ∃ g8, wr.heap.size = g8 := ⟨_, rfl⟩
                      rw [hg8] at SL
                      have HG8 := Lib.hid hg8
                      clear hg8
                      go_wp2
                      rw [HG8.out]
                      obtain ⟨w9, hw9⟩ := seen_world' SL
                      rw [hw9] at SL hB8 ⊢
                      have HB8 := Lib.hid hB8
                      clear hB8 hw9 HG8
                      go_loopw [88] (fun i wr => ∃ e : Nat, e ≤ 9 ∧ i = .int .i64 e ∧ Below w9.heap.size w9 wr) (fun i _ => 9 - (intOf i).toNat)
                      case atStart => exact ⟨0, by omega, rfl, Below.refl _ _⟩
                      case round =>
                        obtain ⟨e, he, rfl, hBe⟩ := hrel
                        by_cases hlte : e < 9
                        · obtain ⟨last, hlast⟩ : ∃ y, lasts[e]? = some y := ⟨_, List.getElem?_eq_getElem (by simpa [lasts] using hlte)⟩
                          have hlb := lasts_lt hlast
                          obtain ⟨be, oe', ee, _, hce⟩ := (SL.below hBe) e last hlast
                          cases ee
                          rw [Nat.zero_add] at hce
                          clear hlast
                          have SE : Seen (wr.alloc (.cells #[.int .u8 0, .int .u8 1, .int .u8 127, .int .u8 128, .int .u8 129, .int .u8 255] 5)) (wr.alloc (.cells #[.int .u8 0, .int .u8 1, .int .u8 127, .int .u8 128, .int .u8 129, .int .u8 255] 5)).heap.size .u8 (some ⟨wr.heap.size, 0, none⟩) befores := Seen.of_block (k := .u8) (off := 0) (xs := befores) (World.alloc_heap_new wr (.cells #[.int .u8 0, .int .u8 1, .int .u8 127, .int .u8 128, .int .u8 129, .int .u8 255] 5)) (fun i v hv => by
                            match i, hv with
                            | 0, hv | 1, hv | 2, hv | 3, hv | 4, hv | 5, hv => simp [befores] at hv; subst hv; rfl)
                          have hB9 := hBe.alloc hBe.size (.cells #[.int .u8 0, .int .u8 1, .int .u8 127, .int .u8 128, .int .u8 129, .int .u8 255] 5)
                          obtain ⟨g9, hg9⟩ : ∃ g9, wr.heap.size = g9 := ⟨_, rfl⟩
                          rw [hg9] at SE
                          have HG9 := Lib.hid hg9
                          clear hg9
                          go_wp2
                          rw [HG9.out]
                          obtain ⟨w10, hw10⟩ := seen_world' SE
                          rw [hw10] at SE hB9 ⊢
                          have HB9 := Lib.hid hB9
                          clear hB9 hw10 HG9
                          go_loopw [94] (fun i wr => ∃ d : Nat, d ≤ 6 ∧ i = .int .i64 d ∧ Below w10.heap.size w10 wr) (fun i _ => 6 - (intOf i).toNat)
                          case atStart => exact ⟨0, by omega, rfl, Below.refl _ _⟩
                          case round =>
                            obtain ⟨d, hd, rfl, hBd⟩ := hrel
                            by_cases hltd : d < 6
                            · obtain ⟨bef, hbef⟩ : ∃ y, befores[d]? = some y := ⟨_, List.getElem?_eq_getElem (by simpa [befores] using hltd)⟩
                              have hbb := befores_lt hbef
                              obtain ⟨bd, od', ed, _, hcd⟩ := (SE.below hBd) d bef hbef
                              cases ed
                              rw [Nat.zero_add] at hcd
                              clear hbef
                              obtain ⟨w11, rfl⟩ : ∃ w11 : World, w11 = wr := ⟨_, rfl⟩
                              have hw11 := then_below (then_below (then_below HB6.out HB8.out) HB9.out) hBd
                              have HBd := Lib.hid hBd
                              clear hBd hBf hBe
                              go_wp2
                              go_loopw [13, 99] (fun v i wr => ∃ m : Nat, m ≤ s ∧ i = .int .i64 m ∧ wr.ownsRow w11.heap.size 5 1 v m ((List.replicate m fill).map fun x : Nat => Value.int .u8 x) ∧ Below w11.heap.size w11 wr) (fun _ i _ => s - (intOf i).toNat)
                              case atStart => exact ⟨0, by omega, rfl, World.ownsRow_nil _ _ _ _, Below.refl _ _⟩
                              case round =>
                                obtain ⟨m, hm, rfl, hrow, hBm⟩ := hrel
                                have hwm := then_below hw11 hBm
                                have hwms := hBm.size
                                by_cases hltm : m < s
                                · go_wp2_with (at_builtin; refine wpList_append_own _ rfl _ _ 25 rfl w11.heap.size 5 i0 (.int .u8 0) 1 1 Try.underlying25 hi hz0 hz1 hz2 rfl (by decide) _ _ _ rfl (hrow.alloc _) ⟨wr.heap.size, 0, none⟩ 1 1 [.int .u8 fill] rfl rfl (cell_one_new _ _ _) (by simp [Value.oneCell']) (by unfold maxLen; omega) (by omega) (by simp; omega) ?_; intro v5 w12 hown5 hgrow5 _)
                                  have HBm2 : Hid (Below w11.heap.size w11 w12) := (hBm.alloc hwms _).grown hgrow5 (by simp; omega) (fun k ek => (hrow.lt k ek).1)
                                  have Hrow5 : Hid (w12.ownsRow w11.heap.size 5 1 v5 (m + 1) ((List.replicate (m + 1) fill).map fun x : Nat => Value.int .u8 x)) := by rw [List.replicate_succ', List.map_append]; exact hown5
                                  refine ⟨?_, by simp [intOf]; omega⟩
                                  repeat apply Exists.intro
                                  refine ⟨⟨m + 1, by omega, by go_num, Hrow5.out, HBm2.out⟩, ?_⟩
                                  simp
                                  exact ⟨by omega, by omega, by omega, by omega, rfl, rfl, rfl, rfl, rfl, rfl⟩
                                · have hge9 : s ≤ m := by omega
                                  obtain rfl : m = s := by omega
                                  have H2 : ∀ w0 : World, ∀ j u, ([bef, last].map fun x : Nat => Value.int .u8 x)[j]? = some u → (w0.alloc (.cells #[.int .u8 bef, .int .u8 last] 5)).cell? ((⟨w0.heap.size, 0, none⟩ : Addr).add j) = some u := fun w0 => seen_cells (Seen.of_block (k := .u8) (off := 0) (xs := [bef, last]) (World.alloc_heap_new w0 (.cells #[.int .u8 bef, .int .u8 last] 5)) (fun i v hv => by
                                    match i, hv with
                                    | 0, hv | 1, hv => simp at hv; subst hv; rfl))
                                  have tok1 : True := trivial
                                  have tok2 : True := trivial
                                  have hbyte : ∀ y ∈ List.replicate m fill ++ [bef, last], y < 256 := fun y hy => by
                                    rcases List.mem_append.1 hy with h | h
                                    · rw [(List.mem_replicate.1 h).2]; exact hfb
                                    · simp at h; rcases h with rfl | rfl; exact hbb; exact hlb
                                  have HLN : Hid ((List.replicate m fill ++ [bef, last]).length = m + 2) := by simp [Hid]
                                  clear hltm
                                  go_wp2_with (first
                                    | (at_builtin; refine wpList_append_own _ rfl _ _ 25 rfl w11.heap.size 5 i0 (.int .u8 0) 1 1 Try.underlying25 hi hz0 hz1 hz2 rfl (by decide) _ _ _ rfl (hrow.alloc _) ⟨wr.heap.size, 0, none⟩ 2 2 ([bef, last].map fun x : Nat => Value.int .u8 x) rfl rfl (H2 wr) (by simp [Value.oneCell']) (by unfold maxLen; omega) (by omega) (by simp; omega) ?_; intro v13 w13 hown13 hgrow13 _; obtain ⟨g13, c13, rfl⟩ := own_form hown13 (by omega); have hc13 := own_cap hown13; have S13 := Seen.of_own (k := .u8) (xs := List.replicate m fill ++ [bef, last]) (by rw [List.map_append]; exact hown13); have HB13 := Lib.hid (then_below HBd.out ((hBm.alloc hwms _).grown hgrow13 (by simp; omega) (fun k ek => (hrow.lt k ek).1)))))
                                  obtain ⟨bs13, hbs13⟩ : ∃ b, List.replicate m fill ++ [bef, last] = b := ⟨_, rfl⟩
                                  rw [hbs13] at hbyte HLN S13
                                  have hb5 : ∀ y ∈ 5 :: bs13, y < 256 := fun y hy => by rcases List.mem_cons.1 hy with rfl | h; decide; exact hbyte y h
                                  have HL5 : Hid ((5 :: bs13).length = 1 + (m + 2)) := by show _ = _; rw [List.length_cons, HLN.out, Nat.add_comm]
                                  have HLT : Hid ((bs13.take m).length = m) := by show _ = _; rw [List.length_take, HLN.out]; omega
                                  have hbt : ∀ y ∈ bs13.take m, y < 256 := fun y hy => hbyte y (List.mem_of_mem_take hy)
                                  have ST := seen_take S13 m
                                  have hm12 : m ≤ 12 := by omega
                                  have hmc : m ≤ c13 := by omega
                                  have hmci : (m : Int) ≤ (c13 : Int) := by omega
                                  clear hbs13 hown13 hgrow13 hrow hBm hwm hwms H2 SE SL SF hcd hce hcf
                                  go_wp2_with (first
                                    | (go_at_call 14; have _t := tok1; refine (reads_any _ _ _ bs13 HLN.out hbyte hc13.1 hc13.2 _ _ S13 (Nat.le_refl _)).mono ?_; rintro e w14 ⟨rfl, hB14⟩; clear tok1 _t)
                                    | (go_at_call 14; have _t := tok2; refine (reads_any _ _ _ (bs13.take m) HLT.out hbt hmc hc13.2 _ _ (ST.below hB14) hB14.size).mono ?_; rintro e w15 ⟨rfl, hB15⟩; clear tok2 _t; have r15 := then_below hB14 hB15)
                                    | (at_builtin; refine wpList_grows_want _ rfl _ _ 25 rfl 5 i0 (.int .u8 0) Try.underlying25 hi hz0 hz1 hz2 rfl ⟨w15.heap.size, 0, none⟩ [.int .u8 5] rfl rfl (cell_one_new _ _ _) ⟨g13, 0, none⟩ (m + 2) c13 (bs13.map fun x : Nat => Value.int .u8 x) rfl (by rw [List.length_map, HLN.out, Nat.mul_one]) (seen_cells ((S13.below r15).alloc r15.size _)) (by omega) (by unfold maxLen; omega) (by omega) ?_; intro v16 w16 hown16 hgrow16; obtain ⟨g16, c16, rfl⟩ := own_form hown16 (by omega); have hc16 := own_cap hown16; have S16 := Seen.of_own (k := .u8) (xs := 5 :: bs13) hown16; have r16 := (r15.alloc r15.size (.cells #[.int .u8 5] 5)).grown hgrow16 (by have := r15.size; simp; omega) (fun k e => by cases e))
                                    | (go_at_call 14; refine (reads_any _ _ _ (5 :: bs13) HL5.out hb5 hc16.1 hc16.2 _ _ S16 (Nat.le_refl _)).mono ?_; rintro e w17 ⟨rfl, hB17⟩; have HB17 := Lib.hid (then_below HB13.out (then_below r16 hB17))))
                                  refine ⟨?_, by simp [intOf]; omega⟩
                                  repeat apply Exists.intro
                                  refine ⟨⟨d + 1, by omega, by go_num, HB17.out⟩, ?_⟩
                                  simp
                                  repeat' (first | exact rfl | omega | apply And.intro)
                            · have hged : 6 ≤ d := by omega
                              have HB10 := Lib.hid (then_below HB9.out hBd)
                              clear hltd hBd SE SL SF
                              go_wp2
                              exact ⟨⟨e + 1, by omega, by go_num, HB10.out⟩, by simp [intOf]; omega⟩
                        · have hgee : 9 ≤ e := by omega
                          have HB10 := Lib.hid (then_below HB8.out hBe)
                          clear hlte hBe SL SF
                          go_wp2
                          exact ⟨⟨f + 1, by omega, by go_num, HB10.out⟩, by simp [intOf]; omega⟩
                    · have hgef : 3 ≤ f := by omega
                      have HB10 := Lib.hid (then_below HB6.out hBf)
                      clear hltf hBf SF
                      go_wp2
                      exact ⟨⟨s + 1, by omega, by go_num, HB10.out⟩, by simp [intOf]; omega⟩
                · have hges : 12 ≤ s := by omega
                  clear hlts
                  obtain ⟨w6, rfl⟩ : ∃ w6 : World, w6 = wr := ⟨_, rfl⟩
                  go_wp2_with (first
                    | (go_at_call 14; refine (reads_any none 0 0 [] rfl (fun y hy => by simp at hy) (Nat.le_refl _) (by unfold maxLen; omega) 0 _ (fun i x hi => by simp at hi) (Nat.zero_le _)).mono ?_; rintro e w7 ⟨rfl, hB7⟩; have hB8 := then_below hBs hB7)
                    | (go_at_call 15; refine (lists_any none 0 0 [] rfl (fun y hy => by simp at hy) (Nat.le_refl _) (by unfold maxLen; omega) 0 _ (fun i x hi => by simp at hi) (Nat.zero_le _)).mono ?_; rintro e w8 ⟨rfl, hB9⟩; have hB10 := then_below hB8 hB9)
                    | (go_at_call 13; refine (awake_any _).mono ?_; rintro e w9 ⟨rfl, hB11⟩; have hB12 := then_below hB10 hB11))
                  go_ret
                  exact ⟨rfl, hB12⟩

end Go.Proofs.Ythcagiamieeggaa
