/-
  The chapter's examples.
-/
import Derived.Test.YtainjicbmjfnkaaDoorDiffer
namespace Go.Proofs.YtainjicbmjfnkaaDoor
open Go.RowKit
set_option linter.unusedVariables false
/-- What event reads of a world. -/
def A6 (w : World) : Prop := Ev.HE w ∧ Ml w ∧ Er w ∧ Pw w
theorem A6.below {w w' : World} (h : A6 w) (hb : Below w.heap.size w w') : A6 w' := ⟨h.1.below hb, h.2.1.below hb, h.2.2.1.below hb, h.2.2.2.below hb⟩
theorem dec1 (n : Nat) (h : n < 10) : Lib.decDigits n = [UInt8.ofNat (48 + n)] := by rw [Lib.decDigits, dif_pos h]
theorem dec2 (n m : Nat) (l : List UInt8) (h : ¬ n < 10) (hm : n / 10 = m) (hl : Lib.decDigits m = l) : Lib.decDigits n = l ++ [UInt8.ofNat (48 + n % 10)] := by rw [Lib.decDigits, dif_neg h, hm, hl]
theorem d0 : Lib.decDigits 0 = [48] := dec1 0 (by decide)
theorem d1 : Lib.decDigits 1 = [49] := dec1 1 (by decide)
theorem d2 : Lib.decDigits 2 = [50] := dec1 2 (by decide)
theorem d4 : Lib.decDigits 4 = [52] := dec1 4 (by decide)
theorem d5 : Lib.decDigits 5 = [53] := dec1 5 (by decide)
theorem d7 : Lib.decDigits 7 = [55] := dec1 7 (by decide)
theorem d10 : Lib.decDigits 10 = [49, 48] := dec2 10 1 _ (by decide) (by decide) d1
theorem d25 : Lib.decDigits 25 = [50, 53] := dec2 25 2 _ (by decide) (by decide) d2
theorem d40 : Lib.decDigits 40 = [52, 48] := dec2 40 4 _ (by decide) (by decide) d4
theorem d102 : Lib.decDigits 102 = [49, 48, 50] := dec2 102 10 _ (by decide) (by decide) d10
theorem d255 : Lib.decDigits 255 = [50, 53, 53] := dec2 255 25 _ (by decide) (by decide) d25
theorem d1024 : Lib.decDigits 1024 = [49, 48, 50, 52] := dec2 1024 102 _ (by decide) (by decide) d102
theorem it (n : Nat) : Lib.itoa (n : Int) = Lib.decDigits n := Lib.itoa_nonneg n
theorem wf_a : Ev.WF 1 0 2 1 7 0 0 1024 0 255 0 := by unfold Ev.WF Ev.I64; refine ⟨?_, ?_, ?_, ?_, ?_, ?_, ?_, ?_, ?_, ?_, ?_⟩ <;> decide
theorem wf_b : Ev.WF 5 40 2 5 0 0 0 0 40 0 7 := by unfold Ev.WF Ev.I64; refine ⟨?_, ?_, ?_, ?_, ?_, ?_, ?_, ?_, ?_, ?_, ?_⟩ <;> decide
theorem text_a : Ev.text 1 0 2 1 [7, 0, 1024, 255] = [49, 32, 48, 32, 50, 32, 115, 112, 97, 119, 110, 32, 55, 32, 48, 32, 49, 48, 50, 52, 32, 50, 53, 53] := by
  have h1 : Lib.itoa 1 = [49] := (it 1).trans d1
  have h2 : Lib.itoa 0 = [48] := (it 0).trans d0
  have h3 : Lib.itoa ((2 : Nat) : Int) = [50] := (it 2).trans d2
  unfold Ev.text Ev.head
  rw [h1, h2, h3]
  simp only [List.map_cons, List.map_nil, d7, d0, d1024, d255]
  decide
theorem text_b : Ev.text 5 40 2 5 [40, 7] = [53, 32, 52, 48, 32, 50, 32, 116, 105, 99, 107, 32, 52, 48, 32, 55] := by
  have h1 : Lib.itoa 5 = [53] := (it 5).trans d5
  have h2 : Lib.itoa 40 = [52, 48] := (it 40).trans d40
  have h3 : Lib.itoa ((2 : Nat) : Int) = [50] := (it 2).trans d2
  unfold Ev.text Ev.head
  rw [h1, h2, h3]
  simp only [List.map_cons, List.map_nil, d7, d40]
  decide
theorem ex_text (w : World) (h : A6 w) : Calls Tryd.prog 15 #[.agg #[.int .i64 1, .int .i64 0, .int .u8 2, .int .u8 1, .int .i64 7, .int .i64 0, .int .i64 0, .int .i64 1024, .int .i64 0, .int .u64 255, .int .i64 0]] w fun e w' => e = .returned (.tuple #[.string ⟨#[49, 32, 48, 32, 50, 32, 115, 112, 97, 119, 110, 32, 55, 32, 48, 32, 49, 48, 50, 52, 32, 50, 53, 53]⟩, .int .i64 0]) ∧ Below w.heap.size w w' := by
  have t := text_yes 1 0 2 1 7 0 0 1024 0 255 0 wf_a (by decide) [7, 0, 1024, 255] (by decide) 4 rfl w h.1 h.2.2.2
  rw [text_a] at t
  exact t
theorem ex_values (w : World) (h : A6 w) : Calls Tryd.prog 18 #[.agg #[.int .i64 1, .int .i64 0, .int .u8 2, .int .u8 1, .int .i64 7, .int .i64 0, .int .i64 0, .int .i64 1024, .int .i64 0, .int .u64 255, .int .i64 0]] w fun e w' => ∃ a c, e = .returned (.tuple #[.slice a 4 c, .int .i64 0]) ∧ Seen w' w'.heap.size .u64 a [7, 0, 1024, 255] ∧ Below w.heap.size w w' := by
  refine (values_yes 1 0 2 1 7 0 0 1024 0 255 0 wf_a (by decide) [7, 0, 1024, 255] (by decide) 4 rfl w h.1).mono ?_
  rintro e w' ⟨a, c, rfl, ho, hb⟩
  exact ⟨a, c, rfl, Seen.of_own ho, hb⟩
theorem ex_read (w : World) (h : A6 w) : Calls Tryd.prog 16 #[.string ⟨#[53, 32, 52, 48, 32, 50, 32, 116, 105, 99, 107, 32, 52, 48, 32, 55]⟩] w fun e w' => e = .returned (.tuple #[.agg #[.int .i64 5, .int .i64 40, .int .u8 2, .int .u8 5, .int .i64 0, .int .i64 0, .int .i64 0, .int .i64 0, .int .i64 40, .int .u64 0, .int .i64 7], .int .i64 0]) ∧ Below w.heap.size w w' :=
  read_any [53, 32, 52, 48, 32, 50, 32, 116, 105, 99, 107, 32, 52, 48, 32, 55] (by decide) 5 40 2 5 0 0 0 0 40 0 7 0 (.inl ⟨rfl, wf_b, by decide, by rw [show Ev.vals 5 0 0 0 0 40 0 7 = [40, 7] by decide]; exact text_b⟩) w h.2.1 h.1 h.2.2.1 h.2.2.2
theorem no_05 (e : Ev.E) (hr : e.right) : e.text ≠ [48, 53, 32, 52, 48, 32, 50, 32, 116, 105, 99, 107, 32, 52, 48, 32, 55] := by
  intro ht
  obtain ⟨hw, hc⟩ := hr
  obtain ⟨_, _, hin, _⟩ := Ev.check_zero hc
  obtain ⟨p1, p2, p3⟩ := Ev.within_parts hin
  have hwords := Ev.words_text (sq := e.sq) (tm := e.tm) (cp := e.cp) (kd := e.kd) hw.2.2.2.1 (by omega) (by omega) (vs := e.vals) (Ev.vals_len hw.2.2.2.1)
  have ht' : Ev.text e.sq e.tm e.cp e.kd e.vals = [48, 53, 32, 52, 48, 32, 50, 32, 116, 105, 99, 107, 32, 52, 48, 32, 55] := ht
  rw [ht'] at hwords
  have h0 : (Ev.wordsOf [48, 53, 32, 52, 48, 32, 50, 32, 116, 105, 99, 107, 32, 52, 48, 32, 55])[0]? = some [48, 53] := by decide +kernel
  rw [hwords] at h0
  have h1 : Lib.itoa e.sq = [48, 53] := by simpa [Ev.head] using h0
  obtain ⟨n, hn⟩ := Int.eq_ofNat_of_zero_le (show 0 ≤ e.sq by omega)
  rw [hn] at h1
  have h2 := Ev.num_itoa n (by omega)
  rw [h1] at h2
  have h3 : Ev.num [48, 53] = some 5 := by decide
  rw [h3] at h2
  have h4 : n = 5 := by injection h2 with h; exact h.symm
  rw [h4, it 5, d5] at h1
  exact absurd h1 (by decide)
theorem ex_read2 (w : World) (h : A6 w) : Calls Tryd.prog 16 #[.string ⟨#[48, 53, 32, 52, 48, 32, 50, 32, 116, 105, 99, 107, 32, 52, 48, 32, 55]⟩] w fun e w' => e = .returned (.tuple #[.agg #[.int .i64 0, .int .i64 0, .int .u8 0, .int .u8 0, .int .i64 0, .int .i64 0, .int .i64 0, .int .i64 0, .int .i64 0, .int .u64 0, .int .i64 0], .int .i64 63]) ∧ Below w.heap.size w w' :=
  read_any [48, 53, 32, 52, 48, 32, 50, 32, 116, 105, 99, 107, 32, 52, 48, 32, 55] (by decide) 0 0 0 0 0 0 0 0 0 0 0 63 (.inr ⟨rfl, rfl, rfl, rfl, rfl, rfl, rfl, rfl, rfl, rfl, rfl, rfl, no_05⟩) w h.2.1 h.1 h.2.2.1 h.2.2.2
theorem ex_with1 (w : World) (h : A6 w) (a : Option Addr) (c : Nat) (hS : Seen w w.heap.size .u64 a [0]) : Calls Tryd.prog 19 #[.agg #[.int .i64 6, .int .i64 40, .int .u8 2, .int .u8 6, .int .i64 0, .int .i64 0, .int .i64 0, .int .i64 0, .int .i64 0, .int .u64 0, .int .i64 9], .slice a 1 c] w fun e w' => e = .returned (.tuple #[.agg #[.int .i64 6, .int .i64 40, .int .u8 2, .int .u8 6, .int .i64 0, .int .i64 0, .int .i64 0, .int .i64 0, .int .i64 0, .int .u64 0, .int .i64 0], .int .i64 0]) ∧ Below w.heap.size w w' := by
  have g0 : Ev.geti [(6, 0)] 0 = 0 := by simp [Ev.geti, Ev.acc]
  have g1 : Ev.geti [(6, 0)] 1 = 0 := by simp [Ev.geti, Ev.acc]
  have g2 : Ev.geti [(6, 0)] 2 = 0 := by simp [Ev.geti, Ev.acc]
  have g3 : Ev.geti [(6, 0)] 3 = 0 := by simp [Ev.geti, Ev.acc]
  have g4 : Ev.geti [(6, 0)] 4 = 0 := by simp [Ev.geti, Ev.acc]
  have g5 : Ev.getn [(6, 0)] 5 = 0 := by simp [Ev.getn, Ev.acc]
  have g6 : Ev.geti [(6, 0)] 6 = 0 := by simp [Ev.geti, Ev.acc]; unfold wrap64; omega
  have t := with_made 6 40 2 6 0 0 0 0 0 0 9 (by decide) (by decide) (by decide) (by decide) a 1 c [0] (by decide) rfl (by decide) [(6, 0)] (by decide) true (by rw [g0, g1, g2, g3, g4, g5, g6]; decide) w hS h.1
  rw [g0, g1, g2, g3, g4, g5, g6] at t
  exact t
theorem ex_with2 (w : World) (h : A6 w) (a : Option Addr) (c : Nat) : Calls Tryd.prog 19 #[.agg #[.int .i64 6, .int .i64 40, .int .u8 2, .int .u8 6, .int .i64 0, .int .i64 0, .int .i64 0, .int .i64 0, .int .i64 0, .int .u64 0, .int .i64 0], .slice a 2 c] w fun e w' => e = .returned (.tuple #[.agg #[.int .i64 0, .int .i64 0, .int .u8 0, .int .u8 0, .int .i64 0, .int .i64 0, .int .i64 0, .int .i64 0, .int .i64 0, .int .u64 0, .int .i64 0], .int .i64 2]) ∧ Below w.heap.size w w' :=
  with_len 6 40 2 6 0 0 0 0 0 0 0 (by decide) (by decide) (by decide) a 2 c (by decide) w h.1
theorem ex_differs (w : World) (h : A6 w) : Calls Tryd.prog 22 #[.agg #[.int .i64 1, .int .i64 0, .int .u8 2, .int .u8 1, .int .i64 7, .int .i64 0, .int .i64 0, .int .i64 1024, .int .i64 0, .int .u64 255, .int .i64 0], .agg #[.int .i64 1, .int .i64 9, .int .u8 2, .int .u8 1, .int .i64 7, .int .i64 0, .int .i64 0, .int .i64 5, .int .i64 0, .int .u64 255, .int .i64 0]] w fun e w' => e = .returned (.string ⟨#[116, 105, 109, 101]⟩) ∧ Below w.heap.size w w' :=
  differs_any 1 0 2 1 7 0 0 1024 0 255 0 1 9 2 1 7 0 0 5 0 255 0 [116, 105, 109, 101] (by unfold Ev.DifOut; rw [if_neg (by decide), if_pos (by decide)]) w h.1
theorem ex_bad (w : World) (h : A6 w) : Calls Tryd.prog 17 #[.agg #[.int .i64 1, .int .i64 0, .int .u8 2, .int .u8 1, .int .i64 7, .int .i64 0, .int .i64 0, .int .i64 1024, .int .i64 0, .int .u64 3, .int .i64 0]] w fun e w' => e = .returned (.int .i64 61) ∧ Below w.heap.size w w' :=
  check_any 1 0 2 1 7 0 0 1024 0 3 0 (by unfold Ev.WF Ev.I64; refine ⟨?_, ?_, ?_, ?_, ?_, ?_, ?_, ?_, ?_, ?_, ?_⟩ <;> decide) 61 (by decide) w h.1
theorem ex_c1 (w : World) (h : A6 w) : Calls Tryd.prog 17 #[.agg #[.int .i64 1, .int .i64 0, .int .u8 0, .int .u8 2, .int .i64 7, .int .i64 0, .int .i64 0, .int .i64 0, .int .i64 0, .int .u64 0, .int .i64 1]] w fun e w' => e = .returned (.int .i64 62) ∧ Below w.heap.size w w' :=
  check_any 1 0 0 2 7 0 0 0 0 0 1 (by unfold Ev.WF Ev.I64; refine ⟨?_, ?_, ?_, ?_, ?_, ?_, ?_, ?_, ?_, ?_, ?_⟩ <;> decide) 62 (by decide) w h.1
theorem ex_c2 (w : World) (h : A6 w) : Calls Tryd.prog 17 #[.agg #[.int .i64 1, .int .i64 0, .int .u8 0, .int .u8 0, .int .i64 0, .int .i64 0, .int .i64 0, .int .i64 0, .int .i64 0, .int .u64 0, .int .i64 0]] w fun e w' => e = .returned (.int .i64 60) ∧ Below w.heap.size w w' :=
  check_any 1 0 0 0 0 0 0 0 0 0 0 (by unfold Ev.WF Ev.I64; refine ⟨?_, ?_, ?_, ?_, ?_, ?_, ?_, ?_, ?_, ?_, ?_⟩ <;> decide) 60 (by decide) w h.1
theorem ex_c3 (w : World) (h : A6 w) : Calls Tryd.prog 17 #[.agg #[.int .i64 1, .int .i64 0, .int .u8 2, .int .u8 9, .int .i64 7, .int .i64 0, .int .i64 2, .int .i64 0, .int .i64 0, .int .u64 0, .int .i64 0]] w fun e w' => e = .returned (.int .i64 61) ∧ Below w.heap.size w w' :=
  check_any 1 0 2 9 7 0 2 0 0 0 0 (by unfold Ev.WF Ev.I64; refine ⟨?_, ?_, ?_, ?_, ?_, ?_, ?_, ?_, ?_, ?_, ?_⟩ <;> decide) 61 (by decide) w h.1
theorem ex_fields (w : World) (h : A6 w) : Calls Tryd.prog 20 #[.int .u8 9] w fun e w' => ∃ a c, e = .returned (.slice a 2 c) ∧ SeenS w' w'.heap.size a [[116, 97, 115, 107], [116, 111]] ∧ Below w.heap.size w w' := by
  refine (fields_yes 9 (by decide) (by decide) [[116, 97, 115, 107], [116, 111]] (by decide) 2 rfl w h.1).mono ?_
  rintro e w' ⟨a, c, rfl, ho, hb⟩
  exact ⟨a, c, rfl, SeenS.of_own ho, hb⟩
set_option maxRecDepth 100000 in
theorem ex_example (w : World) : Calls Tryd.prog 35 #[] w fun e w' => e = .returned (.tuple #[.agg #[.int .i64 1, .int .i64 0, .int .u8 2, .int .u8 1, .int .i64 7, .int .i64 0, .int .i64 0, .int .i64 1024, .int .i64 0, .int .u64 255, .int .i64 0], .agg #[.int .i64 5, .int .i64 40, .int .u8 2, .int .u8 5, .int .i64 0, .int .i64 0, .int .i64 0, .int .i64 0, .int .i64 40, .int .u64 0, .int .i64 7]]) ∧ Below w.heap.size w w' := by
  go_enter Tryd.func35, Tryd.ntmps35
  go_wp2
  have HX := (EBox.new w 1 0 2 1 7 0 0 1024 0 255 0).alloc (.cells #[.int .i64 5, .int .i64 40, .int .u8 2, .int .u8 5, .int .i64 0, .int .i64 0, .int .i64 0, .int .i64 0, .int .i64 40, .int .u64 0, .int .i64 7] 24)
  have hz : (w.alloc (.cells #[.int .i64 1, .int .i64 0, .int .u8 2, .int .u8 1, .int .i64 7, .int .i64 0, .int .i64 0, .int .i64 1024, .int .i64 0, .int .u64 255, .int .i64 0] 24)).heap.size = w.heap.size + 1 := by simp
  have HY := EBox.new (w.alloc (.cells #[.int .i64 1, .int .i64 0, .int .u8 2, .int .u8 1, .int .i64 7, .int .i64 0, .int .i64 0, .int .i64 1024, .int .i64 0, .int .u64 255, .int .i64 0] 24)) 5 40 2 5 0 0 0 0 40 0 7
  rw [hz] at HY
  obtain ⟨x0, x1, x2, x3, x4, x5, x6, x7, x8, x9, x10⟩ := HX.cells
  obtain ⟨y0, y1, y2, y3, y4, y5, y6, y7, y8, y9, y10⟩ := HY.cells
  refine bodyPost_ret (v := .tuple #[.agg #[.int .i64 1, .int .i64 0, .int .u8 2, .int .u8 1, .int .i64 7, .int .i64 0, .int .i64 0, .int .i64 1024, .int .i64 0, .int .u64 255, .int .i64 0], .agg #[.int .i64 5, .int .i64 40, .int .u8 2, .int .u8 5, .int .i64 0, .int .i64 0, .int .i64 0, .int .i64 0, .int .i64 40, .int .u64 0, .int .i64 7]]) ?_ rfl ⟨rfl, ((Below.refl w.heap.size w).alloc (Nat.le_refl _) _).alloc (by simp) _⟩
  simp [results, Tryd.results35, go_sem]
end Go.Proofs.YtainjicbmjfnkaaDoor
