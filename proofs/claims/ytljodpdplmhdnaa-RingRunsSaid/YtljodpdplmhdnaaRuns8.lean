/-
  RingRuns's walk.
-/
import Derived.Test.YtljodpdplmhdnaaStand
namespace Go.Proofs.Ytljodpdplmhdnaa
open Go.RowKit
set_option linter.unusedVariables false
/-- Slots in the order of their numbers: each one's item is the number after all before it. -/
def chain (s : Nat) : List RI.RV → Prop
  | [] => True
  | p :: l => p.1 = ((s + p.2 : Nat) : Int) ∧ chain (s + p.2 + 1) l
/-- The number after them. -/
def after (s : Nat) : List RI.RV → Nat
  | [] => s
  | p :: l => after (s + p.2 + 1) l
theorem chain_append {s : Nat} : ∀ {l k : List RI.RV}, chain s l → chain (after s l) k → chain s (l ++ k)
  | [], _, _, h => h
  | p :: l, k, h, h2 => ⟨h.1, chain_append (l := l) h.2 h2⟩
theorem after_append (s : Nat) : ∀ (l k : List RI.RV), after s (l ++ k) = after (after s l) k
  | [], _ => rfl
  | p :: l, k => after_append (s + p.2 + 1) l k
theorem chain_parts {s : Nat} : ∀ {l k : List RI.RV}, chain s (l ++ k) → chain s l ∧ chain (after s l) k
  | [], _, h => ⟨trivial, h⟩
  | p :: l, k, h => ⟨⟨h.1, (chain_parts (l := l) h.2).1⟩, (chain_parts (l := l) h.2).2⟩
theorem chain_take {s : Nat} {l : List RI.RV} (h : chain s l) (m : Nat) : chain s (l.take m) ∧ chain (after s (l.take m)) (l.drop m) ∧ after (after s (l.take m)) (l.drop m) = after s l := by
  have h1 : chain s (l.take m ++ l.drop m) := by rw [List.take_append_drop]; exact h
  refine ⟨(chain_parts h1).1, (chain_parts h1).2, ?_⟩
  rw [← after_append, List.take_append_drop]
theorem chain_at {s : Nat} {l : List RI.RV} (h : chain s l) {i : Nat} {p : RI.RV} (hp : l[i]? = some p) : p.1 = ((after s (l.take i) + p.2 : Nat) : Int) ∧ after s (l.take (i + 1)) = after s (l.take i) + p.2 + 1 := by
  have hl : i < l.length := (List.getElem?_eq_some_iff.1 hp).1
  have e : l.take (i + 1) = l.take i ++ [p] := by rw [List.take_add_one, hp]; rfl
  have h1 := (chain_take h (i + 1)).1
  rw [e] at h1
  have h2 := (chain_parts h1).2
  refine ⟨h2.1, ?_⟩
  rw [e, after_append]
  rfl
theorem after_le (s : Nat) : ∀ l : List RI.RV, s ≤ after s l
  | [] => Nat.le_refl _
  | p :: l => Nat.le_trans (by omega) (after_le (s + p.2 + 1) l)
theorem after_len (s : Nat) : ∀ l : List RI.RV, s + l.length ≤ after s l
  | [] => Nat.le_refl _
  | p :: l => by have := after_len (s + p.2 + 1) l; simp only [List.length_cons, after]; omega
/-- The law's counter, in a box of its own. -/
def NBox (w : World) (b : Nat) (z : Nat) : Prop := w.heap[b]? = some (.cells #[.int .i64 z] 3 (0, 0))
theorem NBox.cell {w : World} {b z : Nat} (h : NBox w b z) : w.cell? ⟨b, 0, none⟩ = some (.int .i64 z) := by unfold NBox at h; unfold World.cell?; simp [h]
theorem NBox.free {w : World} {b z : Nat} (h : NBox w b z) : w.frozen? ⟨b, 0, none⟩ = false := by unfold NBox at h; unfold World.frozen?; simp [h]
theorem NBox.lt {w : World} {b z : Nat} (h : NBox w b z) : b < w.heap.size := (Array.getElem?_eq_some_iff.1 h).1
theorem NBox.keep {w w' : World} {b z : Nat} {S : Nat → Prop} (h : NBox w b z) (hk : Chg S w w') (hS : ¬ S b) : NBox w' b z := hk.at_block h hS
theorem NBox.set {w : World} {b z : Nat} (h : NBox w b z) (y : Nat) : NBox (w.setCell ⟨b, 0, none⟩ (.int .i64 y)) b y := by
  unfold NBox at *
  simp only [World.setCell, Array.getElem?_modify, if_true, h, Option.map_some]
  rfl
set_option maxRecDepth 100000 in
set_option maxHeartbeats 4000000 in
/-- taken. -/
theorem taken_any (w : World) (b z : Nat) (hb : NBox w b z) (base : Nat) (a : Option Addr) (m c : Nat) (l : List RI.RV) (hl : RI.Sl w base a m c l) (hne : ∀ g, a = some ⟨g, 0, none⟩ → g ≠ b) (hc : chain z l) (op : Nat) (y : Nat) (hy : after z l + op = y) (hy2 : y ≤ 1000000) : Calls Try.prog 15 #[.slice a m c, .int .i64 op, .pointer (some ⟨b, 0, none⟩)] w fun e w' => e = .returned (.bool true) ∧ NBox w' b y ∧ Chg (· = b) w w' := by
  have HB := Lib.hid hb
  have HL := Lib.hid hl
  have HNE := Lib.hid hne
  have HC : Hid (chain z l) := hc
  have HY := Lib.hid hy
  have HYB : Hid (y ≤ 1000000) := hy2
  have HLM := Lib.hid hl.len
  have HY2 : Hid (after z l ≤ 1000000) := by show _ ≤ _; omega
  have HM : Hid (m ≤ 1000000) := by
    show _ ≤ _
    have := after_len z l
    have := HLM.out
    have := HY2.out
    omega
  clear hb hl hne hc hy hy2
  go_enter Try.func15, Try.ntmps15
  go_wp2
  go_loopw [10] (fun i wr => ∃ k : Nat, k ≤ m ∧ i = .int .i64 k ∧ Hid (NBox wr b (after z (l.take k))) ∧ Hid (RI.Sl wr base a m c l) ∧ Hid (Chg (· = b) w wr)) (fun i _ => m - (intOf i).toNat)
  case atStart => exact ⟨0, Nat.zero_le _, rfl, HB, HL, Chg.refl _ _⟩
  case round =>
    obtain ⟨k, hk, rfl, HBr, HLr, HCr⟩ := hrel
    by_cases hkm : k < m
    · obtain ⟨p, hp⟩ : ∃ p, l[k]? = some p := ⟨_, List.getElem?_eq_getElem (by rw [HLM.out]; exact hkm)⟩
      obtain ⟨h1, h2⟩ := chain_at HC.out hp
      obtain ⟨g, hg, c0', c1⟩ := HLr.out.at hp
      subst hg
      obtain ⟨s, hs⟩ : ∃ s, after z (l.take k) = s := ⟨_, rfl⟩
      obtain ⟨q, hq⟩ : ∃ q, p.2 = q := ⟨_, rfl⟩
      rw [hs] at h1 h2 HBr
      rw [hq] at h1 h2 c1
      have c0 : wr.cell? ⟨g, k * 2, none⟩ = some (.int .i64 ((s : Int) + (q : Int))) := by rw [c0', h1]; push_cast; rfl
      have HS2 : Hid (s + q + 1 ≤ 1000000) := by
        show _ ≤ _
        have h3 := chain_take HC.out (k + 1)
        have h4 := after_le (after z (l.take (k + 1))) (l.drop (k + 1))
        rw [h3.2.2] at h4
        have := HY2.out
        omega
      have hkm2 : (k : Int) < (m : Int) := by omega
      have hk0 : (0 : Int) ≤ (k : Int) := by omega
      have hk1 : IntKind.i64.wrap ((k : Int) + 1) = (k : Int) + 1 := by rw [IntKind.wrap_i64]; have := HM.out; omega
      have hw1 : IntKind.i64.wrap ((s : Int) + (q : Int)) = (s : Int) + (q : Int) := by rw [IntKind.wrap_i64]; have := HS2.out; omega
      have hw2 : IntKind.i64.wrap ((s : Int) + (q : Int) + 1) = (s : Int) + (q : Int) + 1 := by rw [IntKind.wrap_i64]; have := HS2.out; omega
      have hq0 : decide ((q : Int) < 0) = false := by simp
      have hq1 : ¬ (q : Int) < 0 := by omega
      have hbk : Below wr.heap.size wr (wr.alloc (.cells #[.int .i64 ((s : Int) + (q : Int)), .int .i64 q] 34)) := (Below.refl _ wr).alloc (Nat.le_refl _) _
      have hBn : NBox (wr.alloc (.cells #[.int .i64 ((s : Int) + (q : Int)), .int .i64 q] 34)) b s := (hbk.block b HBr.out.lt).trans HBr.out
      have xb := hBn.cell
      have xf := hBn.free
      have HBn : Hid (NBox ((wr.alloc (.cells #[.int .i64 ((s : Int) + (q : Int)), .int .i64 q] 34)).setCell ⟨b, 0, none⟩ (.int .i64 ((s : Int) + (q : Int) + 1))) b (after z (l.take (k + 1)))) := by
        have t := hBn.set (s + q + 1)
        show NBox _ _ _
        rw [h2]
        rw [show (((s + q + 1 : Nat)) : Int) = (s : Int) + (q : Int) + 1 by push_cast; rfl] at t
        exact t
      have HCn : Hid (Chg (· = b) wr ((wr.alloc (.cells #[.int .i64 ((s : Int) + (q : Int)), .int .i64 q] 34)).setCell ⟨b, 0, none⟩ (.int .i64 ((s : Int) + (q : Int) + 1)))) := (Chg.of_below (· = b) hbk).setCell (p := ⟨b, 0, none⟩) rfl _
      have HLn := Lib.hid (HLr.out.keep HCn.out (fun g' e hb => HNE.out g' e hb))
      have HCr2 := Lib.hid (HCr.out.trans HCn.out)
      clear h1 h2 c0' hs hq hp hbk hBn
      go_wp2
      first
        | exact ⟨⟨k + 1, hkm, rfl, HBn, HLn, HCr2⟩, by simp [intOf]; omega⟩
        | (refine ⟨?_, by simp [intOf]; omega⟩
           repeat apply Exists.intro
           refine ⟨⟨k + 1, hkm, rfl, HBn, HLn, HCr2⟩, ?_⟩
           simp
           repeat' (first | exact rfl | omega | apply And.intro))
    · obtain rfl : m = k := by omega
      clear hkm hk
      obtain ⟨s, hs⟩ : ∃ s, after z l = s := ⟨_, rfl⟩
      have hBm : NBox wr b s := by
        have t := HBr.out
        rw [List.take_of_length_le (Nat.le_of_eq HLM.out), hs] at t
        exact t
      have hy : s + op = y := by have := HY.out; omega
      have hw1 : IntKind.i64.wrap ((s : Int) + (op : Int)) = (y : Int) := by rw [IntKind.wrap_i64]; have := HYB.out; omega
      have ho : decide ((0 : Int) ≤ (op : Int)) = true := by simp
      have ho2 : (0 : Int) ≤ (op : Int) := by omega
      have xb := hBm.cell
      have xf := hBm.free
      have HBn := Lib.hid (hBm.set y)
      have HCn := Lib.hid (Chg.setCell (S := (· = b)) HCr.out (p := ⟨b, 0, none⟩) rfl (.int .i64 y))
      clear hs hBm hy
      go_wp2
      go_ret
      exact ⟨rfl, HBn.out, HCn.out⟩
/-- The law's state: the ring, the counter in its box nb, what they say together. -/
structure Run (w wr : World) (B nb : Nat) (S : Nat → Prop) (cap : Nat) (l : List RI.RV) (op ac rf z number : Nat) : Prop where
  st : Stand w wr B S cap l op ac rf
  box : NBox wr nb z
  ne : ¬ S nb
  own : w.heap.size ≤ nb
  ch : chain z l
  af : after z l + op = number
  sum : ac + rf = number
section
variable {w wr : World} {B nb : Nat} {S : Nat → Prop} {cap : Nat} {l : List RI.RV} {op ac rf z number : Nat}
theorem Run.put (h : Run w wr B nb S cap l op ac rf z number) (hs : number ≤ 1000000) : Calls Try.prog 16 #[.pointer (some ⟨B, 0, none⟩), .int .i64 number] wr fun e w' => ∃ b S' l' op' ac' rf', e = .returned (.int .i64 ((b : Nat) : Int)) ∧ (b = 0 ∨ b = 4) ∧ Run w w' B nb S' cap l' op' ac' rf' z (number + 1) := by
  refine (h.st.put (by have := h.sum; omega) (number : Int)).mono ?_
  rintro e w' ⟨b, S', l', op', ac', rf', rfl, h1, h2, h3, h4⟩
  have hne : ¬ S' nb := fun hk => by
    rcases h4 nb hk with h5 | h5
    · exact h.ne h5
    · have := h.box.lt; omega
  have hsum := h.sum
  have haf := h.af
  have hb := h.box.keep h3 h.ne
  rcases h2 with ⟨_, rfl, rfl, rfl, rfl, rfl⟩ | ⟨_, rfl, rfl, rfl, rfl, rfl⟩
  · exact ⟨0, S', _, _, _, _, rfl, .inl rfl, h1, hb, hne, h.own, chain_append h.ch ⟨by rw [haf], trivial⟩, by rw [after_append]; show after z l + op + 1 + 0 = _; omega, by omega⟩
  · exact ⟨4, S', _, _, _, _, rfl, .inr rfl, h1, hb, hne, h.own, h.ch, by omega, by omega⟩
theorem Run.take (h : Run w wr B nb S cap l op ac rf z number) (k m : Nat) (hm : min k l.length = m) : Calls Try.prog 17 #[.pointer (some ⟨B, 0, none⟩), .int .i64 k] wr fun e w' => ∃ a c, e = .returned (.tuple #[.slice a m c, .int .i64 0]) ∧ RI.Sl w' wr.heap.size a m c (l.take m) ∧ NBox w' nb z ∧ (∀ g, a = some ⟨g, 0, none⟩ → g ≠ nb) ∧ Stand w w' B S cap (l.drop m) op ac rf := by
  refine (RI.take_ok wr B S cap l op ac rf h.st.rng k m hm).mono ?_
  rintro e w' ⟨v, rfl, h1, h2, h3⟩
  obtain ⟨a, c, rfl, h4, _⟩ := RI.sl_form h1
  refine ⟨a, c, rfl, h4, h.box.keep h3 h.ne, fun g hg => ?_, h2, h.st.own, h.st.bel.trans (h3.below h.st.own h.st.bel.size)⟩
  have := h4.ge hg
  have := h.box.lt
  omega
theorem Run.drain (h : Run w wr B nb S cap l op ac rf z number) (m : Nat) (hm : l.length = m) : Calls Try.prog 18 #[.pointer (some ⟨B, 0, none⟩)] wr fun e w' => ∃ a c, e = .returned (.tuple #[.slice a m c, .int .i64 op, .int .i64 0]) ∧ RI.Sl w' wr.heap.size a m c l ∧ NBox w' nb z ∧ (∀ g, a = some ⟨g, 0, none⟩ → g ≠ nb) ∧ Stand w w' B S cap [] 0 ac rf := by
  refine (RI.drain_ok wr B S cap l op ac rf h.st.rng m hm).mono ?_
  rintro e w' ⟨v, rfl, h1, h2, h3⟩
  obtain ⟨a, c, rfl, h4, _⟩ := RI.sl_form h1
  refine ⟨a, c, rfl, h4, h.box.keep h3 h.ne, fun g hg => ?_, h2, h.st.own, h.st.bel.trans (h3.below h.st.own h.st.bel.size)⟩
  have := h4.ge hg
  have := h.box.lt
  omega
/-- taken, behind a Take or a Drain. -/
theorem Stand.counted (h : Stand w wr B S cap l op ac rf) {w' : World} (hk : Chg (· = nb) wr w') (hne : ¬ S nb) (hown : w.heap.size ≤ nb) : Stand w w' B S cap l op ac rf := by
  obtain ⟨h1, h2, h3⟩ := h
  obtain ⟨a, L, ps, f, h4, h5, rfl⟩ := h1
  exact ⟨⟨a, L, ps, f, h4.same (fun k hk' => hk.block k (h4.size k hk') (fun e => hne (e ▸ hk'))), h5, rfl⟩, h2, h3.trans (hk.below (fun k e => e ▸ hown) h3.size)⟩
end
set_option maxRecDepth 100000 in
set_option maxHeartbeats 8000000 in
theorem runs_n (c : Nat) (hc : c < 256) (ln cp : Nat) (xs : List Nat) (hx : xs.length = ln) (hx256 : ∀ x ∈ xs, x < 256) (w : World) (hS : InB w none xs) (hlc : ln ≤ cp) (hcm : cp ≤ maxLen) : Calls Try.prog 5 #[.int .u8 c, .slice none ln cp] w fun e w' => e = .returned (.bool true) ∧ Below w.heap.size w w' := by
  obtain ⟨cap, hcap⟩ : ∃ cap, 1 + c % 20 = cap := ⟨_, rfl⟩
  have HCAP := Lib.hid hcap
  have HCB : Hid (1 ≤ cap ∧ cap ≤ 20) := by show _ ∧ _; omega
  have HC := Lib.hid hc
  obtain ⟨mn, hmn⟩ : ∃ mn : Nat, min ln 300 = mn := ⟨_, rfl⟩
  have hmi : min (ln : Int) 300 = (mn : Int) := by omega
  have hmi2 : (if (300 : Int) < (ln : Int) then (300 : Int) else (ln : Int)) = (mn : Int) := by split <;> omega
  have hmi3 : (if 300 < ln then (300 : Int) else (ln : Int)) = (mn : Int) := by split <;> omega
  have hmc : (mn : Int) ≤ (cp : Int) := by omega
  have hm0 : (0 : Int) ≤ (mn : Int) := by omega
  have hmw : IntKind.i64.wrap (mn : Int) = (mn : Int) := by rw [IntKind.wrap_i64]; omega
  have HMN : Hid (mn ≤ 300 ∧ mn ≤ ln) := by show _ ∧ _; omega
  have HXL := Lib.hid hx
  have HX2 : Hid (∀ x ∈ xs, x < 256) := hx256
  have HS : Hid (InB w none xs) := hS
  have hcm' : (cp : Int) ≤ 9223372036854775807 := by unfold maxLen at hcm; omega
  clear hc hcap hmn hlc hcm hx hx256 hS
  go_enter Try.func5, Try.ntmps5
  go_wp2_with (first
    | (go_at_call 12; (with_reducible refine (awake_any w).mono ?_); rintro e w1 ⟨rfl, h1⟩; have HB1 := Lib.hid h1; clear h1)
    | (go_at_call 14; (with_reducible refine (made_any c cap HC.out HCAP.out w1).mono ?_); rintro e w2 ⟨rfl, h1, h2⟩; obtain ⟨S2, h3⟩ := Stand.made w cap HB1.out h1 h2; have HT2 := Lib.hid h3; clear h1 h2 h3))
  obtain ⟨B, hB⟩ : ∃ B, w1.heap.size = B := ⟨_, rfl⟩
  rw [hB] at HT2
  simp only [hB]
  clear hB
  have HR0 : Hid (Run w (w2.alloc (.cells #[.int .i64 0] 3)) B w2.heap.size S2 cap [] 0 0 0 0 0) := by
    have hb := (Below.refl _ w2).alloc (Nat.le_refl _) (.cells #[.int .i64 0] 3)
    exact ⟨HT2.out.below hb, heap_alloc_new w2 _, fun hs => by have := HT2.out.rng.size _ hs; omega, HT2.out.bel.size, trivial, rfl, rfl⟩
  obtain ⟨nb, hnb⟩ : ∃ nb, w2.heap.size = nb := ⟨_, rfl⟩
  rw [hnb] at HR0
  simp only [hnb]
  generalize (w2.alloc (.cells #[.int .i64 0] 3)) = w3 at HR0 ⊢
  clear hnb
  go_loopw [8, 39] (fun nv i wr => ∃ k : Nat, k ≤ mn ∧ i = .int .i64 k ∧ ∃ number, nv = .int .i64 ((number : Nat) : Int) ∧ ∃ z S l op ac rf, Hid (Run w wr B nb S cap l op ac rf z number) ∧ Hid (number ≤ k)) (fun _ i _ => mn - (intOf i).toNat)
  case atStart => exact ⟨0, Nat.zero_le _, rfl, 0, rfl, 0, S2, [], 0, 0, 0, HR0, Nat.le_refl _⟩
  case round =>
    obtain ⟨k, hk, rfl, number, rfl, z, S, l, op, ac, rf, HI, HU⟩ := hrel
    by_cases hkm : k < mn
    · exfalso
      have h1 := HMN.out
      have h2 : xs.length = 0 := by
        rcases Nat.eq_zero_or_pos xs.length with h | h
        · exact h
        · obtain ⟨_, _, h3, _⟩ := HS.out.at (Below.refl _ _) h
          cases h3
      have h3 := HXL.out
      omega
    · obtain rfl : mn = k := by omega
      clear hkm hk
      obtain ⟨m, hm⟩ : ∃ m, l.length = m := ⟨_, rfl⟩
      have HM := Lib.hid hm
      have HNB : Hid (number ≤ 1000000) := by show _ ≤ _; have := HU.out; have := HMN.out; omega
      have hsum : IntKind.i64.wrap ((ac : Int) + (rf : Int)) = (number : Int) := by rw [IntKind.wrap_i64]; have := HI.out.sum; have := HNB.out; omega
      clear hm
      go_wp2_with (first
        | (go_at_call 18; (with_reducible refine (HI.out.drain m HM.out).mono ?_); rintro e w5 ⟨ra, rc, rfl, h1, h2, h3, h4⟩; have HL5 := Lib.hid h1; have HN5 := Lib.hid h2; have HA5 := Lib.hid h3; have HT5 := Lib.hid h4; clear h1 h2 h3 h4)
        | (go_at_call 15; (with_reducible refine (taken_any w5 nb z HN5.out _ ra m rc _ HL5.out HA5.out HI.out.ch op number HI.out.af HNB.out).mono ?_); rintro e w6 ⟨rfl, h1, h2⟩; have HN6 := Lib.hid h1; have HT6 := Lib.hid (HT5.out.counted h2 HI.out.ne HI.out.own); clear h1 h2; have xb := HN6.out.cell)
        | (go_at_call 19; (with_reducible refine (RI.accepted_any w6 B S cap [] 0 ac rf HT6.out.rng ac rfl).mono ?_); rintro e wx ⟨rfl, hw⟩; obtain rfl : w6 = wx := hw.symm)
        | (go_at_call 20; (with_reducible refine (RI.refused_any w6 B S cap [] 0 ac rf HT6.out.rng rf rfl).mono ?_); rintro e wx ⟨rfl, hw⟩; obtain rfl : w6 = wx := hw.symm))
      go_ret
      exact ⟨rfl, HT6.out.bel⟩
set_option maxRecDepth 100000 in
set_option maxHeartbeats 8000000 in
theorem runs_s (c : Nat) (hc : c < 256) (ba oa : Nat) (sa : Option Nat) (ln cp : Nat) (xs : List Nat) (hx : xs.length = ln) (hx256 : ∀ x ∈ xs, x < 256) (w : World) (hS : InB w (some ⟨ba, oa, sa⟩) xs) (hlc : ln ≤ cp) (hcm : cp ≤ maxLen) : Calls Try.prog 5 #[.int .u8 c, .slice (some ⟨ba, oa, sa⟩) ln cp] w fun e w' => e = .returned (.bool true) ∧ Below w.heap.size w w' := by
  obtain ⟨cap, hcap⟩ : ∃ cap, 1 + c % 20 = cap := ⟨_, rfl⟩
  have HCAP := Lib.hid hcap
  have HCB : Hid (1 ≤ cap ∧ cap ≤ 20) := by show _ ∧ _; omega
  have HC := Lib.hid hc
  obtain ⟨mn, hmn⟩ : ∃ mn : Nat, min ln 300 = mn := ⟨_, rfl⟩
  have hmi : min (ln : Int) 300 = (mn : Int) := by omega
  have hmi2 : (if (300 : Int) < (ln : Int) then (300 : Int) else (ln : Int)) = (mn : Int) := by split <;> omega
  have hmi3 : (if 300 < ln then (300 : Int) else (ln : Int)) = (mn : Int) := by split <;> omega
  have hmc : (mn : Int) ≤ (cp : Int) := by omega
  have hm0 : (0 : Int) ≤ (mn : Int) := by omega
  have hmw : IntKind.i64.wrap (mn : Int) = (mn : Int) := by rw [IntKind.wrap_i64]; omega
  have HMN : Hid (mn ≤ 300 ∧ mn ≤ ln) := by show _ ∧ _; omega
  have HXL := Lib.hid hx
  have HX2 : Hid (∀ x ∈ xs, x < 256) := hx256
  have HS : Hid (InB w (some ⟨ba, oa, sa⟩) xs) := hS
  have hcm' : (cp : Int) ≤ 9223372036854775807 := by unfold maxLen at hcm; omega
  clear hc hcap hmn hlc hcm hx hx256 hS
  go_enter Try.func5, Try.ntmps5
  go_wp2_with (first
    | (go_at_call 12; (with_reducible refine (awake_any w).mono ?_); rintro e w1 ⟨rfl, h1⟩; have HB1 := Lib.hid h1; clear h1)
    | (go_at_call 14; (with_reducible refine (made_any c cap HC.out HCAP.out w1).mono ?_); rintro e w2 ⟨rfl, h1, h2⟩; obtain ⟨S2, h3⟩ := Stand.made w cap HB1.out h1 h2; have HT2 := Lib.hid h3; clear h1 h2 h3))
  obtain ⟨B, hB⟩ : ∃ B, w1.heap.size = B := ⟨_, rfl⟩
  rw [hB] at HT2
  simp only [hB]
  clear hB
  have HR0 : Hid (Run w (w2.alloc (.cells #[.int .i64 0] 3)) B w2.heap.size S2 cap [] 0 0 0 0 0) := by
    have hb := (Below.refl _ w2).alloc (Nat.le_refl _) (.cells #[.int .i64 0] 3)
    exact ⟨HT2.out.below hb, heap_alloc_new w2 _, fun hs => by have := HT2.out.rng.size _ hs; omega, HT2.out.bel.size, trivial, rfl, rfl⟩
  obtain ⟨nb, hnb⟩ : ∃ nb, w2.heap.size = nb := ⟨_, rfl⟩
  rw [hnb] at HR0
  simp only [hnb]
  generalize (w2.alloc (.cells #[.int .i64 0] 3)) = w3 at HR0 ⊢
  clear hnb
  go_loopw [8, 39] (fun nv i wr => ∃ k : Nat, k ≤ mn ∧ i = .int .i64 k ∧ ∃ number, nv = .int .i64 ((number : Nat) : Int) ∧ ∃ z S l op ac rf, Hid (Run w wr B nb S cap l op ac rf z number) ∧ Hid (number ≤ k)) (fun _ i _ => mn - (intOf i).toNat)
  case atStart => exact ⟨0, Nat.zero_le _, rfl, 0, rfl, 0, S2, [], 0, 0, 0, HR0, Nat.le_refl _⟩
  case round =>
    obtain ⟨k, hk, rfl, number, rfl, z, S, l, op, ac, rf, HI, HU⟩ := hrel
    by_cases hkm : k < mn
    · have hkl : k < xs.length := by have := HXL.out; have := HMN.out; omega
      obtain ⟨x, hx⟩ : ∃ x, xs[k] = x := ⟨_, rfl⟩
      have hx2 : x < 256 := by rw [← hx]; exact HX2.out _ (List.getElem_mem _)
      obtain ⟨_, _, hab, hcell⟩ := HS.out.at HI.out.st.bel hkl
      rw [hx] at hcell
      cases hab
      have hxw : IntKind.i64.wrap (x : Int) = (x : Int) := by rw [IntKind.wrap_i64]; omega
      have hkm2 : (k : Int) < (mn : Int) := by omega
      have hk1 : IntKind.i64.wrap ((k : Int) + 1) = (k : Int) + 1 := by rw [IntKind.wrap_i64]; have := HMN.out; omega
      clear hx hkl
      by_cases hx1 : x < 180
      · have hxd : (x : Int) < 180 := by omega
        have HNUM : Hid (number ≤ 1000000) := by show _ ≤ _; have := HU.out; have := HMN.out; omega
        have hn1 : IntKind.i64.wrap ((number : Int) + 1) = (number : Int) + 1 := by rw [IntKind.wrap_i64]; have := HNUM.out; omega
        go_upto_region 16 with (go_at_call 16; (with_reducible refine (HI.out.put HNUM.out).mono ?_); rintro e w5 ⟨b, S', l', op', ac', rf', rfl, h1, h2⟩; have HBB := Lib.hid h1; have HI5 := Lib.hid h2; clear h1 h2)
        have HU5 : Hid (number + 1 ≤ k + 1) := Nat.succ_le_succ HU.out
        rcases HBB.out with rfl | rfl
        all_goals
          go_wp2
          first
            | exact ⟨⟨k + 1, hkm, rfl, number + 1, rfl, z, S', l', op', ac', rf', HI5, HU5⟩, by simp [intOf]; omega⟩
            | (refine ⟨?_, by simp [intOf]; omega⟩
               repeat apply Exists.intro
               refine ⟨⟨k + 1, hkm, rfl, number + 1, rfl, z, S', l', op', ac', rf', HI5, HU5⟩, ?_⟩
               simp
               repeat' (first | exact rfl | omega | apply And.intro))
      · by_cases hx2 : x < 240
        · have hxd : ¬ (x : Int) < 180 := by omega
          have hxd3 : (180 : Int) ≤ (x : Int) := by omega
          have hxd2 : (x : Int) < 240 := by omega
          obtain ⟨q, hq⟩ : ∃ q, x % 8 = q := ⟨_, rfl⟩
          have hq2 : (x : Int) % 8 = (q : Int) := by omega
          obtain ⟨m, hm⟩ : ∃ m, min q l.length = m := ⟨_, rfl⟩
          have HM := Lib.hid hm
          obtain ⟨z', hz'⟩ : ∃ z', after z (l.take m) + 0 = z' := ⟨_, rfl⟩
          have HZ := Lib.hid hz'
          have HCT := Lib.hid (chain_take HI.out.ch m)
          have HZB : Hid (z' ≤ 1000000) := by
            show _ ≤ _
            have h1 := HCT.out.2.2
            have h2 := after_le (after z (l.take m)) (l.drop m)
            have := HI.out.af
            have := HU.out
            have := HMN.out
            omega
          clear hm hq hz'
          go_wp2_with (first
            | (go_at_call 17; (with_reducible refine (HI.out.take q m HM.out).mono ?_); rintro e w5 ⟨ra, rc, rfl, h1, h2, h3, h4⟩; have HL5 := Lib.hid h1; have HN5 := Lib.hid h2; have HA5 := Lib.hid h3; have HT5 := Lib.hid h4; clear h1 h2 h3 h4)
            | (go_at_call 15; (have t : Calls Try.prog 15 #[.slice ra m rc, .int .i64 0, .pointer (some ⟨nb, 0, none⟩)] w5 _ := taken_any w5 nb z HN5.out _ ra m rc _ HL5.out HA5.out HCT.out.1 0 z' HZ.out HZB.out); (with_reducible refine t.mono ?_); rintro e w6 ⟨rfl, h1, h2⟩; have HN6 := Lib.hid h1; have HT6 := Lib.hid (HT5.out.counted h2 HI.out.ne HI.out.own); clear t h1 h2))
          have HI6 : Hid (Run w w6 B nb S cap (l.drop m) op ac rf z' number) := by
            have h1 := HCT.out
            have h2 := HZ.out
            rw [Nat.add_zero] at h2
            refine ⟨HT6.out, HN6.out, HI.out.ne, HI.out.own, ?_, ?_, HI.out.sum⟩
            · rw [← h2]; exact h1.2.1
            · rw [← h2, h1.2.2]; exact HI.out.af
          have HU6 : Hid (number ≤ k + 1) := Nat.le_succ_of_le HU.out
          first
            | exact ⟨⟨k + 1, hkm, rfl, number, rfl, z', S, l.drop m, op, ac, rf, HI6, HU6⟩, by simp [intOf]; omega⟩
            | (refine ⟨?_, by simp [intOf]; omega⟩
               repeat apply Exists.intro
               refine ⟨⟨k + 1, hkm, rfl, number, rfl, z', S, l.drop m, op, ac, rf, HI6, HU6⟩, ?_⟩
               simp
               repeat' (first | exact rfl | omega | apply And.intro))
        · have hxd : ¬ (x : Int) < 180 := by omega
          have hxd3 : (180 : Int) ≤ (x : Int) := by omega
          have hxd2 : ¬ (x : Int) < 240 := by omega
          have hxd4 : (240 : Int) ≤ (x : Int) := by omega
          obtain ⟨m, hm⟩ : ∃ m, l.length = m := ⟨_, rfl⟩
          have HM := Lib.hid hm
          have HNB : Hid (number ≤ 1000000) := by show _ ≤ _; have := HU.out; have := HMN.out; omega
          clear hm
          go_wp2_with (first
            | (go_at_call 18; (with_reducible refine (HI.out.drain m HM.out).mono ?_); rintro e w5 ⟨ra, rc, rfl, h1, h2, h3, h4⟩; have HL5 := Lib.hid h1; have HN5 := Lib.hid h2; have HA5 := Lib.hid h3; have HT5 := Lib.hid h4; clear h1 h2 h3 h4)
            | (go_at_call 15; (with_reducible refine (taken_any w5 nb z HN5.out _ ra m rc _ HL5.out HA5.out HI.out.ch op number HI.out.af HNB.out).mono ?_); rintro e w6 ⟨rfl, h1, h2⟩; have HN6 := Lib.hid h1; have HT6 := Lib.hid (HT5.out.counted h2 HI.out.ne HI.out.own); clear h1 h2; have xb := HN6.out.cell))
          have HI6 : Hid (Run w w6 B nb S cap [] 0 ac rf number number) := ⟨HT6.out, HN6.out, HI.out.ne, HI.out.own, trivial, rfl, HI.out.sum⟩
          have HU6 : Hid (number ≤ k + 1) := Nat.le_succ_of_le HU.out
          first
            | exact ⟨⟨k + 1, hkm, rfl, number, rfl, number, S, [], 0, ac, rf, HI6, HU6⟩, by simp [intOf]; omega⟩
            | (refine ⟨?_, by simp [intOf]; omega⟩
               repeat apply Exists.intro
               refine ⟨⟨k + 1, hkm, rfl, number, rfl, number, S, [], 0, ac, rf, HI6, HU6⟩, ?_⟩
               simp
               repeat' (first | exact rfl | omega | apply And.intro))
    · obtain rfl : mn = k := by omega
      clear hkm hk
      obtain ⟨m, hm⟩ : ∃ m, l.length = m := ⟨_, rfl⟩
      have HM := Lib.hid hm
      have HNB : Hid (number ≤ 1000000) := by show _ ≤ _; have := HU.out; have := HMN.out; omega
      have hsum : IntKind.i64.wrap ((ac : Int) + (rf : Int)) = (number : Int) := by rw [IntKind.wrap_i64]; have := HI.out.sum; have := HNB.out; omega
      clear hm
      go_wp2_with (first
        | (go_at_call 18; (with_reducible refine (HI.out.drain m HM.out).mono ?_); rintro e w5 ⟨ra, rc, rfl, h1, h2, h3, h4⟩; have HL5 := Lib.hid h1; have HN5 := Lib.hid h2; have HA5 := Lib.hid h3; have HT5 := Lib.hid h4; clear h1 h2 h3 h4)
        | (go_at_call 15; (with_reducible refine (taken_any w5 nb z HN5.out _ ra m rc _ HL5.out HA5.out HI.out.ch op number HI.out.af HNB.out).mono ?_); rintro e w6 ⟨rfl, h1, h2⟩; have HN6 := Lib.hid h1; have HT6 := Lib.hid (HT5.out.counted h2 HI.out.ne HI.out.own); clear h1 h2; have xb := HN6.out.cell)
        | (go_at_call 19; (with_reducible refine (RI.accepted_any w6 B S cap [] 0 ac rf HT6.out.rng ac rfl).mono ?_); rintro e wx ⟨rfl, hw⟩; obtain rfl : w6 = wx := hw.symm)
        | (go_at_call 20; (with_reducible refine (RI.refused_any w6 B S cap [] 0 ac rf HT6.out.rng rf rfl).mono ?_); rintro e wx ⟨rfl, hw⟩; obtain rfl : w6 = wx := hw.symm))
      go_ret
      exact ⟨rfl, HT6.out.bel⟩
theorem runs_walk (a0 : Int) (a1 : Option Addr) (len1 cap1 : Nat) (z1 : List Int) (w : World) (w0 : (Lit.int .u8 a0).wf = true) (w1 : IsRow .u8 w a1 len1 cap1 z1) : Calls Try.prog 5 #[.int .u8 a0, .slice a1 len1 cap1] w fun e w' => e = .returned (.bool true) ∧ Below w.heap.size w w' := by
  have h0 := bounds_u8 w0
  obtain ⟨c, rfl⟩ := Int.eq_ofNat_of_zero_le h0.1
  obtain ⟨xs, h1, h2, h3, h4, h5⟩ := row_u8 w1
  rcases a1 with _ | ⟨b, off, sp⟩
  · exact runs_n c (by omega) len1 cap1 xs h1 h3 w h2 h4 h5
  · exact runs_s c (by omega) b off sp len1 cap1 xs h1 h3 w h2 h4 h5
end Go.Proofs.Ytljodpdplmhdnaa
