/-
  Structs that come in: an event; a Small.
-/
import Derived.Test.YtainjicbmjfnkaaDoorLaid6
import Derived.ChangeOld
import Derived.WideShapes
import Derived.Deep.Slices
import Derived.Deep.Fields
namespace Go.Proofs.YtainjicbmjfnkaaDoor
open Go.RowKit Go.ChangeShapes Go.WideShapes Go.Deep
set_option linter.unusedVariables false
def Ev.E.v (e : Ev.E) : Value := .agg #[.int .i64 e.sq, .int .i64 e.tm, .int .u8 e.cp, .int .u8 e.kd, .int .i64 e.tk, .int .i64 e.gr, .int .i64 e.to_, .int .i64 e.wg, .int .i64 e.tc, .int .u64 e.mk, .int .i64 e.gt]
set_option maxRecDepth 100000 in
set_option maxHeartbeats 1000000 in
theorem ev_open {H : Type} {enc : TypeId × Value → H} {W : World} {b0 : Nat} {r : Reach} {v : Value} {d : DataW H} {p : List MemPlace} {held : Bool} (hval : Value.okWide Tryd.prog W r b0 24 v) (hd : DataW.Trod enc Tryd.prog W 0 (fun _ => true) held 24 v d p) : ∃ e : Ev.E, e.wf ∧ v = e.v := by
  obtain ⟨cs, rfl, hsz⟩ := okWide_struct Tryd.underlying24 hval
  obtain ⟨fuel, ht⟩ := hd
  rw [show Tryd.prog.cellsOf 24 = 11 from by kernel_rfl] at hsz
  have ht' : DataW.trod enc Tryd.prog W 0 (fun _ => true) held fuel 24 cs.toList = some (d, p) := ht
  obtain ⟨xs, n', _, _, _, hxl, hg⟩ := DataW.trod_struct Tryd.underlying24 ht'
  have hlen : cs.toList.length = 11 := by rw [Array.length_toList]; exact hsz
  obtain ⟨l, hl⟩ : ∃ l, cs.toList = l := ⟨_, rfl⟩
  have hcs : cs = l.toArray := by rw [← hl]
  rw [hl] at hlen hg
  subst hcs
  clear hl ht ht'
  match l, hlen with
  | [v0, v1, v2, v3, v4, v5, v6, v7, v8, v9, v10], _ =>
    match xs, hxl with
    | [y0, y1, y2, y3, y4, y5, y6, y7, y8, y9, y10], _ =>
      have g0 : DataW.trod enc Tryd.prog W 0 (fun _ => true) held n' 3 [v0] = some y0 := hg 0 _ rfl
      obtain ⟨k0, e0, _, wf0⟩ := DataW.trod_int Tryd.underlying3 g0
      simp at e0
      subst e0
      have b0 := bounds_i64 wf0
      have g1 : DataW.trod enc Tryd.prog W 0 (fun _ => true) held n' 3 [v1] = some y1 := hg 1 _ rfl
      obtain ⟨k1, e1, _, wf1⟩ := DataW.trod_int Tryd.underlying3 g1
      simp at e1
      subst e1
      have b1 := bounds_i64 wf1
      have g2 : DataW.trod enc Tryd.prog W 0 (fun _ => true) held n' 5 [v2] = some y2 := hg 2 _ rfl
      obtain ⟨k2, e2, _, wf2⟩ := DataW.trod_int Tryd.underlying5 g2
      simp at e2
      subst e2
      have b2 := bounds_u8 wf2
      obtain ⟨n2, rfl⟩ := Int.eq_ofNat_of_zero_le b2.1
      have g3 : DataW.trod enc Tryd.prog W 0 (fun _ => true) held n' 5 [v3] = some y3 := hg 3 _ rfl
      obtain ⟨k3, e3, _, wf3⟩ := DataW.trod_int Tryd.underlying5 g3
      simp at e3
      subst e3
      have b3 := bounds_u8 wf3
      obtain ⟨n3, rfl⟩ := Int.eq_ofNat_of_zero_le b3.1
      have g4 : DataW.trod enc Tryd.prog W 0 (fun _ => true) held n' 3 [v4] = some y4 := hg 4 _ rfl
      obtain ⟨k4, e4, _, wf4⟩ := DataW.trod_int Tryd.underlying3 g4
      simp at e4
      subst e4
      have b4 := bounds_i64 wf4
      have g5 : DataW.trod enc Tryd.prog W 0 (fun _ => true) held n' 3 [v5] = some y5 := hg 5 _ rfl
      obtain ⟨k5, e5, _, wf5⟩ := DataW.trod_int Tryd.underlying3 g5
      simp at e5
      subst e5
      have b5 := bounds_i64 wf5
      have g6 : DataW.trod enc Tryd.prog W 0 (fun _ => true) held n' 3 [v6] = some y6 := hg 6 _ rfl
      obtain ⟨k6, e6, _, wf6⟩ := DataW.trod_int Tryd.underlying3 g6
      simp at e6
      subst e6
      have b6 := bounds_i64 wf6
      have g7 : DataW.trod enc Tryd.prog W 0 (fun _ => true) held n' 3 [v7] = some y7 := hg 7 _ rfl
      obtain ⟨k7, e7, _, wf7⟩ := DataW.trod_int Tryd.underlying3 g7
      simp at e7
      subst e7
      have b7 := bounds_i64 wf7
      have g8 : DataW.trod enc Tryd.prog W 0 (fun _ => true) held n' 3 [v8] = some y8 := hg 8 _ rfl
      obtain ⟨k8, e8, _, wf8⟩ := DataW.trod_int Tryd.underlying3 g8
      simp at e8
      subst e8
      have b8 := bounds_i64 wf8
      have g9 : DataW.trod enc Tryd.prog W 0 (fun _ => true) held n' 22 [v9] = some y9 := hg 9 _ rfl
      obtain ⟨k9, e9, _, wf9⟩ := DataW.trod_int Tryd.underlying22 g9
      simp at e9
      subst e9
      have b9 := bounds_u64 wf9
      obtain ⟨n9, rfl⟩ := Int.eq_ofNat_of_zero_le b9.1
      have g10 : DataW.trod enc Tryd.prog W 0 (fun _ => true) held n' 3 [v10] = some y10 := hg 10 _ rfl
      obtain ⟨k10, e10, _, wf10⟩ := DataW.trod_int Tryd.underlying3 g10
      simp at e10
      subst e10
      have b10 := bounds_i64 wf10
      refine ⟨⟨k0, k1, n2, n3, k4, k5, k6, k7, k8, n9, k10⟩, ?_, rfl⟩
      have h2 : n2 < 256 := by omega
      have h3 : n3 < 256 := by omega
      have h9 : n9 < 2 ^ 64 := by omega
      exact ⟨b0, b1, h2, h3, b4, b5, b6, b7, b8, h9, b10⟩
/-- A Small. -/
structure Sm where
  kd : Nat
  cp : Nat
  sq : Nat
  tm : Nat
  tk : Nat
  gr : Nat
  to_ : Nat
  wg : Nat
  tc : Nat
  gt : Nat
  ms : Nat
def Sm.wf (e : Sm) : Prop := e.kd < 2 ^ 8 ∧ e.cp < 2 ^ 8 ∧ e.sq < 2 ^ 32 ∧ e.tm < 2 ^ 32 ∧ e.tk < 2 ^ 32 ∧ e.gr < 2 ^ 32 ∧ e.to_ < 2 ^ 32 ∧ e.wg < 2 ^ 32 ∧ e.tc < 2 ^ 32 ∧ e.gt < 2 ^ 32 ∧ e.ms < 2 ^ 64
def Sm.v (e : Sm) : Value := .agg #[.int .u8 e.kd, .int .u8 e.cp, .int .u32 e.sq, .int .u32 e.tm, .int .u32 e.tk, .int .u32 e.gr, .int .u32 e.to_, .int .u32 e.wg, .int .u32 e.tc, .int .u32 e.gt, .int .u64 e.ms]
set_option maxRecDepth 100000 in
set_option maxHeartbeats 1000000 in
theorem sm_open {H : Type} {enc : TypeId × Value → H} {W : World} {b0 : Nat} {r : Reach} {v : Value} {d : DataW H} {p : List MemPlace} {held : Bool} (hval : Value.okWide Tryd.prog W r b0 31 v) (hd : DataW.Trod enc Tryd.prog W 0 (fun _ => true) held 31 v d p) : ∃ e : Sm, e.wf ∧ v = e.v := by
  obtain ⟨cs, rfl, hsz⟩ := okWide_struct Tryd.underlying31 hval
  obtain ⟨fuel, ht⟩ := hd
  rw [show Tryd.prog.cellsOf 31 = 11 from by kernel_rfl] at hsz
  have ht' : DataW.trod enc Tryd.prog W 0 (fun _ => true) held fuel 31 cs.toList = some (d, p) := ht
  obtain ⟨xs, n', _, _, _, hxl, hg⟩ := DataW.trod_struct Tryd.underlying31 ht'
  have hlen : cs.toList.length = 11 := by rw [Array.length_toList]; exact hsz
  obtain ⟨l, hl⟩ : ∃ l, cs.toList = l := ⟨_, rfl⟩
  have hcs : cs = l.toArray := by rw [← hl]
  rw [hl] at hlen hg
  subst hcs
  clear hl ht ht'
  match l, hlen with
  | [v0, v1, v2, v3, v4, v5, v6, v7, v8, v9, v10], _ =>
    match xs, hxl with
    | [y0, y1, y2, y3, y4, y5, y6, y7, y8, y9, y10], _ =>
      have g0 : DataW.trod enc Tryd.prog W 0 (fun _ => true) held n' 5 [v0] = some y0 := hg 0 _ rfl
      obtain ⟨k0, e0, _, wf0⟩ := DataW.trod_int Tryd.underlying5 g0
      simp at e0
      subst e0
      have b0 := bounds_u8 wf0
      obtain ⟨n0, rfl⟩ := Int.eq_ofNat_of_zero_le b0.1
      have g1 : DataW.trod enc Tryd.prog W 0 (fun _ => true) held n' 5 [v1] = some y1 := hg 1 _ rfl
      obtain ⟨k1, e1, _, wf1⟩ := DataW.trod_int Tryd.underlying5 g1
      simp at e1
      subst e1
      have b1 := bounds_u8 wf1
      obtain ⟨n1, rfl⟩ := Int.eq_ofNat_of_zero_le b1.1
      have g2 : DataW.trod enc Tryd.prog W 0 (fun _ => true) held n' 29 [v2] = some y2 := hg 2 _ rfl
      obtain ⟨k2, e2, _, wf2⟩ := DataW.trod_int Tryd.underlying29 g2
      simp at e2
      subst e2
      have b2 := bounds_u32 wf2
      obtain ⟨n2, rfl⟩ := Int.eq_ofNat_of_zero_le b2.1
      have g3 : DataW.trod enc Tryd.prog W 0 (fun _ => true) held n' 29 [v3] = some y3 := hg 3 _ rfl
      obtain ⟨k3, e3, _, wf3⟩ := DataW.trod_int Tryd.underlying29 g3
      simp at e3
      subst e3
      have b3 := bounds_u32 wf3
      obtain ⟨n3, rfl⟩ := Int.eq_ofNat_of_zero_le b3.1
      have g4 : DataW.trod enc Tryd.prog W 0 (fun _ => true) held n' 29 [v4] = some y4 := hg 4 _ rfl
      obtain ⟨k4, e4, _, wf4⟩ := DataW.trod_int Tryd.underlying29 g4
      simp at e4
      subst e4
      have b4 := bounds_u32 wf4
      obtain ⟨n4, rfl⟩ := Int.eq_ofNat_of_zero_le b4.1
      have g5 : DataW.trod enc Tryd.prog W 0 (fun _ => true) held n' 29 [v5] = some y5 := hg 5 _ rfl
      obtain ⟨k5, e5, _, wf5⟩ := DataW.trod_int Tryd.underlying29 g5
      simp at e5
      subst e5
      have b5 := bounds_u32 wf5
      obtain ⟨n5, rfl⟩ := Int.eq_ofNat_of_zero_le b5.1
      have g6 : DataW.trod enc Tryd.prog W 0 (fun _ => true) held n' 29 [v6] = some y6 := hg 6 _ rfl
      obtain ⟨k6, e6, _, wf6⟩ := DataW.trod_int Tryd.underlying29 g6
      simp at e6
      subst e6
      have b6 := bounds_u32 wf6
      obtain ⟨n6, rfl⟩ := Int.eq_ofNat_of_zero_le b6.1
      have g7 : DataW.trod enc Tryd.prog W 0 (fun _ => true) held n' 29 [v7] = some y7 := hg 7 _ rfl
      obtain ⟨k7, e7, _, wf7⟩ := DataW.trod_int Tryd.underlying29 g7
      simp at e7
      subst e7
      have b7 := bounds_u32 wf7
      obtain ⟨n7, rfl⟩ := Int.eq_ofNat_of_zero_le b7.1
      have g8 : DataW.trod enc Tryd.prog W 0 (fun _ => true) held n' 29 [v8] = some y8 := hg 8 _ rfl
      obtain ⟨k8, e8, _, wf8⟩ := DataW.trod_int Tryd.underlying29 g8
      simp at e8
      subst e8
      have b8 := bounds_u32 wf8
      obtain ⟨n8, rfl⟩ := Int.eq_ofNat_of_zero_le b8.1
      have g9 : DataW.trod enc Tryd.prog W 0 (fun _ => true) held n' 29 [v9] = some y9 := hg 9 _ rfl
      obtain ⟨k9, e9, _, wf9⟩ := DataW.trod_int Tryd.underlying29 g9
      simp at e9
      subst e9
      have b9 := bounds_u32 wf9
      obtain ⟨n9, rfl⟩ := Int.eq_ofNat_of_zero_le b9.1
      have g10 : DataW.trod enc Tryd.prog W 0 (fun _ => true) held n' 22 [v10] = some y10 := hg 10 _ rfl
      obtain ⟨k10, e10, _, wf10⟩ := DataW.trod_int Tryd.underlying22 g10
      simp at e10
      subst e10
      have b10 := bounds_u64 wf10
      obtain ⟨n10, rfl⟩ := Int.eq_ofNat_of_zero_le b10.1
      refine ⟨⟨n0, n1, n2, n3, n4, n5, n6, n7, n8, n9, n10⟩, ?_, rfl⟩
      have h0 : n0 < 2 ^ 8 := by omega
      have h1 : n1 < 2 ^ 8 := by omega
      have h2 : n2 < 2 ^ 32 := by omega
      have h3 : n3 < 2 ^ 32 := by omega
      have h4 : n4 < 2 ^ 32 := by omega
      have h5 : n5 < 2 ^ 32 := by omega
      have h6 : n6 < 2 ^ 32 := by omega
      have h7 : n7 < 2 ^ 32 := by omega
      have h8 : n8 < 2 ^ 32 := by omega
      have h9 : n9 < 2 ^ 32 := by omega
      have h10 : n10 < 2 ^ 64 := by omega
      exact ⟨h0, h1, h2, h3, h4, h5, h6, h7, h8, h9, h10⟩
end Go.Proofs.YtainjicbmjfnkaaDoor
