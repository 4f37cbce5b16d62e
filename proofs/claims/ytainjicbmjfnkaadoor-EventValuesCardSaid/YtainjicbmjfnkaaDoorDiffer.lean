/-
  Differs.
-/
import Derived.Test.YtainjicbmjfnkaaDoorSameE
import Derived.Deep.DeepCutAuto
namespace Go.Proofs.YtainjicbmjfnkaaDoor
open Go.RowKit
set_option linter.unusedVariables false
namespace Ev
/-- The first field that two events do not have in common, of those that not all have. -/
def DifF (p q : Nat → Nat) (s : List UInt8) : Prop := (∃ f, f < 7 ∧ (∀ g, g < f → p g = q g) ∧ p f ≠ q f ∧ s = names.getD f []) ∨ ((∀ g, g < 7 → p g = q g) ∧ s = [])
theorem DifF.at {p q : Nat → Nat} {s : List UInt8} (h : DifF p q s) {k : Nat} (hk : k < 7) (h1 : ∀ g, g < k → p g = q g) (h2 : p k ≠ q k) : s = names.getD k [] := by
  rcases h with ⟨f, hf, h3, h4, h5⟩ | ⟨h3, _⟩
  · rcases Nat.lt_trichotomy f k with h | h | h
    · exact absurd (h1 f h) h4
    · subst h; exact h5
    · exact absurd (h3 k h) h2
  · exact absurd (h3 k hk) h2
theorem DifF.none {p q : Nat → Nat} {s : List UInt8} (h : DifF p q s) (h1 : ∀ g, g < 7 → p g = q g) : s = [] := by
  rcases h with ⟨f, hf, h3, h4, h5⟩ | ⟨_, h3⟩
  · exact absurd (h1 f hf) h4
  · exact h3
/-- What Differs returns. -/
def DifOut (sq tm : Int) (cp kd : Nat) (tk gr to_ wg tc : Int) (mk : Nat) (gt : Int) (sq2 tm2 : Int) (cp2 kd2 : Nat) (tk2 gr2 to2_ wg2 tc2 : Int) (mk2 : Nat) (gt2 : Int) (s : List UInt8) : Prop := if sq ≠ sq2 then s = [115, 101, 113] else if tm ≠ tm2 then s = [116, 105, 109, 101] else if cp ≠ cp2 then s = [99, 112, 117] else if kd ≠ kd2 then s = [107, 105, 110, 100] else DifF (val tk gr to_ wg tc mk gt) (val tk2 gr2 to2_ wg2 tc2 mk2 gt2) s
theorem difF_total (p q : Nat → Nat) : ∃ s, DifF p q s := by
  by_cases h : ∃ k, k < 7 ∧ p k ≠ q k
  · obtain ⟨k, hk, h2⟩ := h
    have key : ∀ n, (∀ g, g < n → p g = q g) ∨ ∃ f, f < n ∧ (∀ g, g < f → p g = q g) ∧ p f ≠ q f := by
      intro n
      induction n with
      | zero => exact .inl (fun g hg => absurd hg (Nat.not_lt_zero _))
      | succ n ih =>
        rcases ih with ih | ⟨f, h1, h2, h3⟩
        · by_cases hn : p n = q n
          · exact .inl (fun g hg => by rcases Nat.lt_succ_iff_lt_or_eq.1 hg with h | h; exact ih g h; rw [h]; exact hn)
          · exact .inr ⟨n, Nat.lt_succ_self _, ih, hn⟩
        · exact .inr ⟨f, Nat.lt_succ_of_lt h1, h2, h3⟩
    rcases key 7 with h1 | ⟨f, h1, h3, h4⟩
    · exact absurd (h1 k hk) h2
    · exact ⟨_, .inl ⟨f, h1, h3, h4, rfl⟩⟩
  · exact ⟨[], .inr ⟨fun g hg => by by_cases e : p g = q g; exact e; exact absurd ⟨g, hg, e⟩ h, rfl⟩⟩
theorem dif_total (sq tm : Int) (cp kd : Nat) (tk gr to_ wg tc : Int) (mk : Nat) (gt : Int) (sq2 tm2 : Int) (cp2 kd2 : Nat) (tk2 gr2 to2_ wg2 tc2 : Int) (mk2 : Nat) (gt2 : Int) : ∃ s, DifOut sq tm cp kd tk gr to_ wg tc mk gt sq2 tm2 cp2 kd2 tk2 gr2 to2_ wg2 tc2 mk2 gt2 s := by
  unfold DifOut
  split
  · exact ⟨_, rfl⟩
  · split
    · exact ⟨_, rfl⟩
    · split
      · exact ⟨_, rfl⟩
      · split
        · exact ⟨_, rfl⟩
        · exact difF_total _ _
end Ev
set_option maxRecDepth 100000 in
theorem index_names (k : Nat) (hk : k < 7) (w : World) : (Sem.run Tryd.prog (Instr.index 88 (.agg #[.string (Ev.str (Ev.names.getD 0 [])), .string (Ev.str (Ev.names.getD 1 [])), .string (Ev.str (Ev.names.getD 2 [])), .string (Ev.str (Ev.names.getD 3 [])), .string (Ev.str (Ev.names.getD 4 [])), .string (Ev.str (Ev.names.getD 5 [])), .string (Ev.str (Ev.names.getD 6 []))]) (.int .i64 k)) w) = .ok (.string (Ev.str (Ev.names.getD k []))) w := by
  rcases (show k = 0 ∨ k = 1 ∨ k = 2 ∨ k = 3 ∨ k = 4 ∨ k = 5 ∨ k = 6 by omega) with rfl | rfl | rfl | rfl | rfl | rfl | rfl
  all_goals kernel_rfl
set_option maxRecDepth 100000 in
set_option maxHeartbeats 8000000 in
theorem differs_any (sq tm : Int) (cp kd : Nat) (tk gr to_ wg tc : Int) (mk : Nat) (gt : Int) (sq2 tm2 : Int) (cp2 kd2 : Nat) (tk2 gr2 to2_ wg2 tc2 : Int) (mk2 : Nat) (gt2 : Int) (s : List UInt8) (hd : Ev.DifOut sq tm cp kd tk gr to_ wg tc mk gt sq2 tm2 cp2 kd2 tk2 gr2 to2_ wg2 tc2 mk2 gt2 s) (w : World) (hE : Ev.HE w) : Calls Tryd.prog 22 #[.agg #[.int .i64 sq, .int .i64 tm, .int .u8 cp, .int .u8 kd, .int .i64 tk, .int .i64 gr, .int .i64 to_, .int .i64 wg, .int .i64 tc, .int .u64 mk, .int .i64 gt], .agg #[.int .i64 sq2, .int .i64 tm2, .int .u8 cp2, .int .u8 kd2, .int .i64 tk2, .int .i64 gr2, .int .i64 to2_, .int .i64 wg2, .int .i64 tc2, .int .u64 mk2, .int .i64 gt2]] w fun e w' => e = .returned (.string (Ev.str s)) ∧ Below w.heap.size w w' := by
  have HX := Lib.hid (EBox.new w sq tm cp kd tk gr to_ wg tc mk gt)
  have HXB := Lib.hid (HX.out.alloc (.cells #[.int .i64 sq2, .int .i64 tm2, .int .u8 cp2, .int .u8 kd2, .int .i64 tk2, .int .i64 gr2, .int .i64 to2_, .int .i64 wg2, .int .i64 tc2, .int .u64 mk2, .int .i64 gt2] 24))
  have HB := Lib.hid (((Below.refl w.heap.size w).alloc (Nat.le_refl _) (.cells #[.int .i64 sq, .int .i64 tm, .int .u8 cp, .int .u8 kd, .int .i64 tk, .int .i64 gr, .int .i64 to_, .int .i64 wg, .int .i64 tc, .int .u64 mk, .int .i64 gt] 24)).alloc (by simp) (.cells #[.int .i64 sq2, .int .i64 tm2, .int .u8 cp2, .int .u8 kd2, .int .i64 tk2, .int .i64 gr2, .int .i64 to2_, .int .i64 wg2, .int .i64 tc2, .int .u64 mk2, .int .i64 gt2] 24))
  have hz : (w.alloc (.cells #[.int .i64 sq, .int .i64 tm, .int .u8 cp, .int .u8 kd, .int .i64 tk, .int .i64 gr, .int .i64 to_, .int .i64 wg, .int .i64 tc, .int .u64 mk, .int .i64 gt] 24)).heap.size = w.heap.size + 1 := by simp
  have HY := EBox.new (w.alloc (.cells #[.int .i64 sq, .int .i64 tm, .int .u8 cp, .int .u8 kd, .int .i64 tk, .int .i64 gr, .int .i64 to_, .int .i64 wg, .int .i64 tc, .int .u64 mk, .int .i64 gt] 24)) sq2 tm2 cp2 kd2 tk2 gr2 to2_ wg2 tc2 mk2 gt2
  rw [hz] at HY
  have HY' := Lib.hid HY
  have HEW := Lib.hid (hE.below HB.out)
  clear hz HY hE
  obtain ⟨x0, x1, x2, x3, x4, x5, x6, x7, x8, x9, x10⟩ := HXB.out.cells
  obtain ⟨y0, y1, y2, y3, y4, y5, y6, y7, y8, y9, y10⟩ := HY'.out.cells
  unfold Ev.DifOut at hd
  by_cases h0 : sq = sq2
  rotate_left
  · rw [if_pos h0] at hd
    subst hd
    have e0 : (sq == sq2) = false := by simp; omega
    have e0' : (sq == sq2) = false := by simp; omega
    clear h0
    go_enter Tryd.func22, Tryd.ntmps22
    go_wp2
    go_ret
    exact ⟨rfl, HB.out⟩
  rw [if_neg (fun n => n h0)] at hd
  obtain rfl : sq = sq2 := h0
  by_cases h1 : tm = tm2
  rotate_left
  · rw [if_pos h1] at hd
    subst hd
    have e1 : (tm == tm2) = false := by simp; omega
    have e1' : (tm == tm2) = false := by simp; omega
    clear h1
    go_enter Tryd.func22, Tryd.ntmps22
    go_wp2
    go_ret
    exact ⟨rfl, HB.out⟩
  rw [if_neg (fun n => n h1)] at hd
  obtain rfl : tm = tm2 := h1
  by_cases h2 : cp = cp2
  rotate_left
  · rw [if_pos h2] at hd
    subst hd
    have e2 : ((cp : Int) == (cp2 : Int)) = false := by simp; omega
    have e2' : (cp == cp2) = false := by simp; omega
    clear h2
    go_enter Tryd.func22, Tryd.ntmps22
    go_wp2
    go_ret
    exact ⟨rfl, HB.out⟩
  rw [if_neg (fun n => n h2)] at hd
  obtain rfl : cp = cp2 := h2
  by_cases h3 : kd = kd2
  rotate_left
  · rw [if_pos h3] at hd
    subst hd
    have e3 : ((kd : Int) == (kd2 : Int)) = false := by simp; omega
    have e3' : (kd == kd2) = false := by simp; omega
    clear h3
    go_enter Tryd.func22, Tryd.ntmps22
    go_wp2
    go_ret
    exact ⟨rfl, HB.out⟩
  rw [if_neg (fun n => n h3)] at hd
  obtain rfl : kd = kd2 := h3
  have HD : Hid (Ev.DifF (Ev.val tk gr to_ wg tc mk gt) (Ev.val tk2 gr2 to2_ wg2 tc2 mk2 gt2) s) := hd
  clear hd
  have n0 := HEW.out.fname (f := 0) (by decide)
  have n1 := HEW.out.fname (f := 1) (by decide)
  have n2 := HEW.out.fname (f := 2) (by decide)
  have n3 := HEW.out.fname (f := 3) (by decide)
  have n4 := HEW.out.fname (f := 4) (by decide)
  have n5 := HEW.out.fname (f := 5) (by decide)
  have n6 := HEW.out.fname (f := 6) (by decide)
  obtain ⟨s0, hs0⟩ : ∃ x, Ev.names.getD 0 [] = x := ⟨_, rfl⟩
  obtain ⟨s1, hs1⟩ : ∃ x, Ev.names.getD 1 [] = x := ⟨_, rfl⟩
  obtain ⟨s2, hs2⟩ : ∃ x, Ev.names.getD 2 [] = x := ⟨_, rfl⟩
  obtain ⟨s3, hs3⟩ : ∃ x, Ev.names.getD 3 [] = x := ⟨_, rfl⟩
  obtain ⟨s4, hs4⟩ : ∃ x, Ev.names.getD 4 [] = x := ⟨_, rfl⟩
  obtain ⟨s5, hs5⟩ : ∃ x, Ev.names.getD 5 [] = x := ⟨_, rfl⟩
  obtain ⟨s6, hs6⟩ : ∃ x, Ev.names.getD 6 [] = x := ⟨_, rfl⟩
  rw [hs0] at n0
  rw [hs1] at n1
  rw [hs2] at n2
  rw [hs3] at n3
  rw [hs4] at n4
  rw [hs5] at n5
  rw [hs6] at n6
  obtain ⟨W0, hW0⟩ : ∃ W, ((w.alloc (.cells #[.int .i64 sq, .int .i64 tm, .int .u8 cp, .int .u8 kd, .int .i64 tk, .int .i64 gr, .int .i64 to_, .int .i64 wg, .int .i64 tc, .int .u64 mk, .int .i64 gt] 24)).alloc (.cells #[.int .i64 sq, .int .i64 tm, .int .u8 cp, .int .u8 kd, .int .i64 tk2, .int .i64 gr2, .int .i64 to2_, .int .i64 wg2, .int .i64 tc2, .int .u64 mk2, .int .i64 gt2] 24)) = W := ⟨_, rfl⟩
  rw [hW0] at HB HXB HY' HEW n0 n1 n2 n3 n4 n5 n6 x0 x1 x2 x3 x4 x5 x6 x7 x8 x9 x10 y0 y1 y2 y3 y4 y5 y6 y7 y8 y9 y10
  have HZ : Hid (Below W0.heap.size W0 W0) := Below.refl _ _
  have HS0 := Lib.hid hs0
  have HS1 := Lib.hid hs1
  have HS2 := Lib.hid hs2
  have HS3 := Lib.hid hs3
  have HS4 := Lib.hid hs4
  have HS5 := Lib.hid hs5
  have HS6 := Lib.hid hs6
  clear hs0 hs1 hs2 hs3 hs4 hs5 hs6
  go_enter Tryd.func22, Tryd.ntmps22
  go_wp2
  go_loopw [33] (fun iv wr => ∃ k : Nat, k ≤ 7 ∧ iv = .int .i64 k ∧ Hid (∀ g, g < k → Ev.val tk gr to_ wg tc mk gt g = Ev.val tk2 gr2 to2_ wg2 tc2 mk2 gt2 g) ∧ Hid (Below W0.heap.size W0 wr)) (fun i _ => 7 - (intOf i).toNat)
  case atStart => exact ⟨0, by omega, rfl, Lib.hid (fun g hg => absurd hg (Nat.not_lt_zero _)), HZ⟩
  case round =>
    obtain ⟨k, hk, rfl, HP, HBK⟩ := hrel
    clear x0 x1 x2 x3 x4 x5 x6 x7 x8 x9 x10 y0 y1 y2 y3 y4 y5 y6 y7 y8 y9 y10 n0 n1 n2 n3 n4 n5 n6 hW0
    have HXR := Lib.hid (HXB.out.keep HBK.out)
    have HYR := Lib.hid (HY'.out.keep HBK.out)
    have HWR := Lib.hid (HB.out.trans (HBK.out.mono HB.out.size))
    have HKC : Hid (∀ W : World, Below wr.heap.size wr W → W.cell? ⟨w.heap.size, 0, none⟩ = some (.int .i64 sq) ∧ W.cell? ⟨w.heap.size, 1, none⟩ = some (.int .i64 tm) ∧ W.cell? ⟨w.heap.size, 2, none⟩ = some (.int .u8 cp) ∧ W.cell? ⟨w.heap.size, 3, none⟩ = some (.int .u8 kd) ∧ W.cell? ⟨w.heap.size, 4, none⟩ = some (.int .i64 tk) ∧ W.cell? ⟨w.heap.size, 5, none⟩ = some (.int .i64 gr) ∧ W.cell? ⟨w.heap.size, 6, none⟩ = some (.int .i64 to_) ∧ W.cell? ⟨w.heap.size, 7, none⟩ = some (.int .i64 wg) ∧ W.cell? ⟨w.heap.size, 8, none⟩ = some (.int .i64 tc) ∧ W.cell? ⟨w.heap.size, 9, none⟩ = some (.int .u64 mk) ∧ W.cell? ⟨w.heap.size, 10, none⟩ = some (.int .i64 gt) ∧ W.cell? ⟨w.heap.size + 1, 0, none⟩ = some (.int .i64 sq) ∧ W.cell? ⟨w.heap.size + 1, 1, none⟩ = some (.int .i64 tm) ∧ W.cell? ⟨w.heap.size + 1, 2, none⟩ = some (.int .u8 cp) ∧ W.cell? ⟨w.heap.size + 1, 3, none⟩ = some (.int .u8 kd) ∧ W.cell? ⟨w.heap.size + 1, 4, none⟩ = some (.int .i64 tk2) ∧ W.cell? ⟨w.heap.size + 1, 5, none⟩ = some (.int .i64 gr2) ∧ W.cell? ⟨w.heap.size + 1, 6, none⟩ = some (.int .i64 to2_) ∧ W.cell? ⟨w.heap.size + 1, 7, none⟩ = some (.int .i64 wg2) ∧ W.cell? ⟨w.heap.size + 1, 8, none⟩ = some (.int .i64 tc2) ∧ W.cell? ⟨w.heap.size + 1, 9, none⟩ = some (.int .u64 mk2) ∧ W.cell? ⟨w.heap.size + 1, 10, none⟩ = some (.int .i64 gt2)) := fun W hW => by
      obtain ⟨a0, a1, a2, a3, a4, a5, a6, a7, a8, a9, a10⟩ := (HXR.out.keep hW).cells
      obtain ⟨b0, b1, b2, b3, b4, b5, b6, b7, b8, b9, b10⟩ := (HYR.out.keep hW).cells
      exact ⟨a0, a1, a2, a3, a4, a5, a6, a7, a8, a9, a10, b0, b1, b2, b3, b4, b5, b6, b7, b8, b9, b10⟩
    by_cases hk7 : k < 7
    · obtain ⟨X, hX⟩ : ∃ X, Ev.val tk gr to_ wg tc mk gt k = X := ⟨_, rfl⟩
      obtain ⟨Y, hY⟩ : ∃ X, Ev.val tk2 gr2 to2_ wg2 tc2 mk2 gt2 k = X := ⟨_, rfl⟩
      have HX1 : Hid ((if k = 5 then (mk : Int) else IntKind.u64.wrap (Ev.fld tk gr to_ wg tc mk gt k)) = (X : Int)) := by show _ = _; rw [Ev.val_eq, hX]
      have HY1 : Hid ((if k = 5 then (mk2 : Int) else IntKind.u64.wrap (Ev.fld tk2 gr2 to2_ wg2 tc2 mk2 gt2 k)) = (Y : Int)) := by show _ = _; rw [Ev.val_eq, hY]
      have HK7 := Lib.hid hk7
      have hki : (k : Int) < 7 := by omega
      have hkw : IntKind.u8.wrap (k : Int) = (k : Int) := by rw [IntKind.wrap_u8]; omega
      have HEQ := Lib.hid (show Ev.val tk gr to_ wg tc mk gt k = X ∧ Ev.val tk2 gr2 to2_ wg2 tc2 mk2 gt2 k = Y from ⟨hX, hY⟩)
      obtain ⟨sk, hsk⟩ : ∃ x, Ev.names.getD k [] = x := ⟨_, rfl⟩
      have HSK := Lib.hid hsk
      have hidx : (Sem.run Tryd.prog (Instr.index 88 (.agg #[.string (Ev.str s0), .string (Ev.str s1), .string (Ev.str s2), .string (Ev.str s3), .string (Ev.str s4), .string (Ev.str s5), .string (Ev.str s6)]) (.int .i64 k)) wr) = .ok (.string (Ev.str sk)) wr := by
        rw [← hsk, ← HS0.out, ← HS1.out, ← HS2.out, ← HS3.out, ← HS4.out, ← HS5.out, ← HS6.out]
        exact index_names k hk7 wr
      clear hX hY hsk
      have HA : Hid (Below wr.heap.size wr wr.drew) := (Below.refl _ wr).drew
      by_cases hXY : X = Y
      · have exy : ((X : Int) == (Y : Int)) = true := by simp; omega
        have exy' : (X == Y) = true := by simp; omega
        have HP2 : Hid (∀ g, g < k + 1 → Ev.val tk gr to_ wg tc mk gt g = Ev.val tk2 gr2 to2_ wg2 tc2 mk2 gt2 g) := fun g hg => by
          rcases Nat.lt_succ_iff_lt_or_eq.1 hg with h | h
          · exact HP.out g h
          · rw [h, HEQ.out.1, HEQ.out.2, hXY]
        clear hXY hk7 hk
        go_upto_region 13 with fail
        go_cut [45] (fun s45 wx => s45 = .bool ((X : Int) != (Y : Int)) ∧ Hid (Below wr.heap.size wr wx))
        case first =>
          go_region_held3 (fun W => W.cell? ⟨w.heap.size, 0, none⟩ = some (.int .i64 sq) ∧ W.cell? ⟨w.heap.size, 1, none⟩ = some (.int .i64 tm) ∧ W.cell? ⟨w.heap.size, 2, none⟩ = some (.int .u8 cp) ∧ W.cell? ⟨w.heap.size, 3, none⟩ = some (.int .u8 kd) ∧ W.cell? ⟨w.heap.size, 4, none⟩ = some (.int .i64 tk) ∧ W.cell? ⟨w.heap.size, 5, none⟩ = some (.int .i64 gr) ∧ W.cell? ⟨w.heap.size, 6, none⟩ = some (.int .i64 to_) ∧ W.cell? ⟨w.heap.size, 7, none⟩ = some (.int .i64 wg) ∧ W.cell? ⟨w.heap.size, 8, none⟩ = some (.int .i64 tc) ∧ W.cell? ⟨w.heap.size, 9, none⟩ = some (.int .u64 mk) ∧ W.cell? ⟨w.heap.size, 10, none⟩ = some (.int .i64 gt) ∧ W.cell? ⟨w.heap.size + 1, 0, none⟩ = some (.int .i64 sq) ∧ W.cell? ⟨w.heap.size + 1, 1, none⟩ = some (.int .i64 tm) ∧ W.cell? ⟨w.heap.size + 1, 2, none⟩ = some (.int .u8 cp) ∧ W.cell? ⟨w.heap.size + 1, 3, none⟩ = some (.int .u8 kd) ∧ W.cell? ⟨w.heap.size + 1, 4, none⟩ = some (.int .i64 tk2) ∧ W.cell? ⟨w.heap.size + 1, 5, none⟩ = some (.int .i64 gr2) ∧ W.cell? ⟨w.heap.size + 1, 6, none⟩ = some (.int .i64 to2_) ∧ W.cell? ⟨w.heap.size + 1, 7, none⟩ = some (.int .i64 wg2) ∧ W.cell? ⟨w.heap.size + 1, 8, none⟩ = some (.int .i64 tc2) ∧ W.cell? ⟨w.heap.size + 1, 9, none⟩ = some (.int .u64 mk2) ∧ W.cell? ⟨w.heap.size + 1, 10, none⟩ = some (.int .i64 gt2)) (first
            | with_reducible exact HKC.out _ HA.out
            | with_reducible exact HKC.out _ HB4.out
            | with_reducible exact HKC.out _ HB5.out) (first
            | (go_at_call 46; ((with_reducible refine (value_at sq tm cp kd tk gr to_ wg tc mk gt k HK7.out (X : Int) HX1.out wr.drew).mono ?_); rintro e w4 ⟨rfl, hb⟩; have HB4 := Lib.hid (HA.out.trans (hb.mono HA.out.size)); clear hb))
            | (go_at_call 46; ((with_reducible refine (value_at sq tm cp kd tk2 gr2 to2_ wg2 tc2 mk2 gt2 k HK7.out (Y : Int) HY1.out wr.drew).mono ?_); rintro e w4 ⟨rfl, hb⟩; have HB4 := Lib.hid (HA.out.trans (hb.mono HA.out.size)); clear hb))
            | (go_at_call 46; ((with_reducible refine (value_at sq tm cp kd tk gr to_ wg tc mk gt k HK7.out (X : Int) HX1.out w4).mono ?_); rintro e w5 ⟨rfl, hb⟩; have HB5 := Lib.hid (HB4.out.trans (hb.mono HB4.out.size)); clear hb))
            | (go_at_call 46; ((with_reducible refine (value_at sq tm cp kd tk2 gr2 to2_ wg2 tc2 mk2 gt2 k HK7.out (Y : Int) HY1.out w4).mono ?_); rintro e w5 ⟨rfl, hb⟩; have HB5 := Lib.hid (HB4.out.trans (hb.mono HB4.out.size)); clear hb)))
          all_goals
            go_wp2
            go_meet
            exact ⟨rfl, HB5⟩
        case rest =>
          obtain ⟨rfl, HBX⟩ := hcut
          have HWX := Lib.hid (HBK.out.trans (HBX.out.mono HBK.out.size))
          go_wp2
          exact ⟨⟨k + 1, HK7.out, by go_num, HP2, HWX⟩, by simp [intOf]; omega⟩
      · have exy : ((X : Int) == (Y : Int)) = false := by simp; omega
        have exy' : (X == Y) = false := by simp; omega
        have hs := HD.out.at HK7.out (fun g hg => HP.out g hg) (by rw [HEQ.out.1, HEQ.out.2]; exact hXY)
        rw [HSK.out] at hs
        subst hs
        clear hXY hk7 hk
        go_upto_region 13 with fail
        go_cut [45] (fun s45 wx => s45 = .bool ((X : Int) != (Y : Int)) ∧ Hid (Below wr.heap.size wr wx))
        case first =>
          go_region_held3 (fun W => W.cell? ⟨w.heap.size, 0, none⟩ = some (.int .i64 sq) ∧ W.cell? ⟨w.heap.size, 1, none⟩ = some (.int .i64 tm) ∧ W.cell? ⟨w.heap.size, 2, none⟩ = some (.int .u8 cp) ∧ W.cell? ⟨w.heap.size, 3, none⟩ = some (.int .u8 kd) ∧ W.cell? ⟨w.heap.size, 4, none⟩ = some (.int .i64 tk) ∧ W.cell? ⟨w.heap.size, 5, none⟩ = some (.int .i64 gr) ∧ W.cell? ⟨w.heap.size, 6, none⟩ = some (.int .i64 to_) ∧ W.cell? ⟨w.heap.size, 7, none⟩ = some (.int .i64 wg) ∧ W.cell? ⟨w.heap.size, 8, none⟩ = some (.int .i64 tc) ∧ W.cell? ⟨w.heap.size, 9, none⟩ = some (.int .u64 mk) ∧ W.cell? ⟨w.heap.size, 10, none⟩ = some (.int .i64 gt) ∧ W.cell? ⟨w.heap.size + 1, 0, none⟩ = some (.int .i64 sq) ∧ W.cell? ⟨w.heap.size + 1, 1, none⟩ = some (.int .i64 tm) ∧ W.cell? ⟨w.heap.size + 1, 2, none⟩ = some (.int .u8 cp) ∧ W.cell? ⟨w.heap.size + 1, 3, none⟩ = some (.int .u8 kd) ∧ W.cell? ⟨w.heap.size + 1, 4, none⟩ = some (.int .i64 tk2) ∧ W.cell? ⟨w.heap.size + 1, 5, none⟩ = some (.int .i64 gr2) ∧ W.cell? ⟨w.heap.size + 1, 6, none⟩ = some (.int .i64 to2_) ∧ W.cell? ⟨w.heap.size + 1, 7, none⟩ = some (.int .i64 wg2) ∧ W.cell? ⟨w.heap.size + 1, 8, none⟩ = some (.int .i64 tc2) ∧ W.cell? ⟨w.heap.size + 1, 9, none⟩ = some (.int .u64 mk2) ∧ W.cell? ⟨w.heap.size + 1, 10, none⟩ = some (.int .i64 gt2)) (first
            | with_reducible exact HKC.out _ HA.out
            | with_reducible exact HKC.out _ HB4.out
            | with_reducible exact HKC.out _ HB5.out) (first
            | (go_at_call 46; ((with_reducible refine (value_at sq tm cp kd tk gr to_ wg tc mk gt k HK7.out (X : Int) HX1.out wr.drew).mono ?_); rintro e w4 ⟨rfl, hb⟩; have HB4 := Lib.hid (HA.out.trans (hb.mono HA.out.size)); clear hb))
            | (go_at_call 46; ((with_reducible refine (value_at sq tm cp kd tk2 gr2 to2_ wg2 tc2 mk2 gt2 k HK7.out (Y : Int) HY1.out wr.drew).mono ?_); rintro e w4 ⟨rfl, hb⟩; have HB4 := Lib.hid (HA.out.trans (hb.mono HA.out.size)); clear hb))
            | (go_at_call 46; ((with_reducible refine (value_at sq tm cp kd tk gr to_ wg tc mk gt k HK7.out (X : Int) HX1.out w4).mono ?_); rintro e w5 ⟨rfl, hb⟩; have HB5 := Lib.hid (HB4.out.trans (hb.mono HB4.out.size)); clear hb))
            | (go_at_call 46; ((with_reducible refine (value_at sq tm cp kd tk2 gr2 to2_ wg2 tc2 mk2 gt2 k HK7.out (Y : Int) HY1.out w4).mono ?_); rintro e w5 ⟨rfl, hb⟩; have HB5 := Lib.hid (HB4.out.trans (hb.mono HB4.out.size)); clear hb)))
          all_goals
            go_wp2
            go_meet
            exact ⟨rfl, HB5⟩
        case rest =>
          obtain ⟨rfl, HBX⟩ := hcut
          have HWX := Lib.hid (HWR.out.trans (HBX.out.mono HWR.out.size))
          go_wp2
          go_ret
          exact ⟨rfl, HWX.out⟩
    · obtain rfl : 7 = k := by omega
      have hs := HD.out.none (fun g hg => HP.out g hg)
      subst hs
      clear hk hk7
      go_wp2_with fail
      go_ret
      exact ⟨rfl, HWR.out⟩
end Go.Proofs.YtainjicbmjfnkaaDoor
