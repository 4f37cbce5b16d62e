/-
  Writer.Bytes, Byte, Number and Fixed.
-/
import Derived.Test.YtdemlifjhlpclaaWtr
namespace Go.Proofs.Ytdemlifjhlpclaa
open Go.RowKit
set_option linter.unusedVariables false

/-- The blocks that a writer's call may write. -/
def WS (B : Nat) (v : Value) (k : Nat) : Prop := k = B ∨ v.ownBlock = some k
/-- Where the writer's row is after a call. -/
def Moved (w : World) (v v' : Value) : Prop := v'.ownBlock = v.ownBlock ∨ ∀ g, v'.ownBlock = some g → w.heap.size ≤ g

theorem Wtr.past {w w' : World} {base B lim N : Nat} {v : Value} {xs ys : List Nat} {a : Option Addr} (h : Wtr w base B lim v xs) (hk : Chg (· = B) w w') (hS : Seen w N .u8 a ys) : Seen w' N .u8 a ys := by
  obtain ⟨a', c, rfl, _⟩ := own_slice h.2.1
  exact hS.past h.1 hk
theorem ob_ne_row {w : World} {base B n g : Nat} {at_ en : Int} {v v' : Value} {xs : List Value} (h : w.heap[B]? = some (ob 85 at_ en v)) (ho : w.ownsRow base 5 1 v' n xs) (hg : v'.ownBlock = some g) : g ≠ B := by
  intro e
  subst e
  rcases ho.2 with ⟨rfl, _⟩ | ⟨g', cap, cur, rfl, _, hh, _⟩
  · cases hg
  · have e : g' = g := by simpa [Value.ownBlock] using hg
    subst e
    rw [h] at hh
    unfold ob at hh
    injection hh with hh
    injection hh with _ h2
    cases h2

set_option maxRecDepth 100000 in
set_option maxHeartbeats 1000000 in
theorem wBytes_full (w : World) (base B lim : Nat) (v : Value) (xs : List Nat) (hW : Wtr w base B lim v xs) (a : Option Addr) (m c : Nat) (hm : lim < xs.length + m) :
    Calls Try.prog 30 #[.pointer (some ⟨B, 0, none⟩), .slice a m c] w fun e w' => e = .returned (.int .i64 4) ∧ ∃ q, w' = w.drewN q := by
  obtain ⟨hb, hown, hl, hl2⟩ := hW
  obtain ⟨c0, c1, c2, c3, f1, f3⟩ := ob_cells hb
  go_enter Try.func30, Try.ntmps30
  go_wp2_with (first
    | (go_at_call 46; refine (noneW_any _ B c0).mono ?_; rintro e w1 ⟨rfl, rfl⟩)
    | (go_at_call 56; refine (pass_no _ B xs.length lim m hl (by omega) hm c1 c2).mono ?_; rintro e w1 ⟨rfl, q, rfl⟩))
  go_ret
  exact ⟨rfl, q, rfl⟩

set_option maxRecDepth 100000 in
set_option maxHeartbeats 1000000 in
theorem wBytes_ok (w : World) (base B lim : Nat) (v : Value) (xs : List Nat) (hW : Wtr w base B lim v xs) (hbase : base ≤ w.heap.size) (a : Option Addr) (m c : Nat) (ys : List Nat) (hy : ys.length = m) (N : Nat) (hS : Seen w N .u8 a ys) (hm : xs.length + m ≤ lim) :
    Calls Try.prog 30 #[.pointer (some ⟨B, 0, none⟩), .slice a m c] w fun e w' => ∃ v', e = .returned (.int .i64 0) ∧ Wtr w' base B lim v' (xs ++ ys) ∧ Chg (WS B v) w w' ∧ Moved w v v' := by
  obtain ⟨i0, hi, hz0, hz1, hz2⟩ := info_parts infoB
  have hWW := Lib.hid hW
  obtain ⟨hb, hown, hl, hl2⟩ := hW
  obtain ⟨va, vc, rfl, _, _, _, _⟩ := own_slice hown
  obtain ⟨c0, c1, c2, c3, f1, f3⟩ := ob_cells hb
  have HY := Lib.hid hy
  have HM := Lib.hid hm
  have HK : ∀ q, Chg (· = B) w ((w.drewN q).setCell ⟨B, 1, none⟩ (.int .i64 ((xs.length + m : Nat) : Int))) := fun q => Chg.setCell (p := ⟨B, 1, none⟩) ((Chg.refl (· = B) w).drewN q) rfl _
  have HO : ∀ q, ((w.drewN q).setCell ⟨B, 1, none⟩ (.int .i64 ((xs.length + m : Nat) : Int))).ownsRow base 5 1 (Value.slice va xs.length vc) xs.length (xs.map fun x : Nat => Value.int .u8 x) := fun q => hown.kept (HK q).grownBy (by
    cases hg : (Value.slice va xs.length vc).ownBlock with
    | none => exact .inl rfl
    | some g => right; intro e; cases e; exact ob_ne_row hb hown hg rfl)
  have HB : ∀ q, ((w.drewN q).setCell ⟨B, 1, none⟩ (.int .i64 ((xs.length + m : Nat) : Int))).heap[B]? = some (ob 85 ((xs.length + m : Nat) : Int) lim (Value.slice va xs.length vc)) := fun q => ob_set1 (w := w.drewN q) hb _
  have HSn : ∀ q, Seen ((w.drewN q).setCell ⟨B, 1, none⟩ (.int .i64 ((xs.length + m : Nat) : Int))) N .u8 a ys := fun q => hWW.out.past (HK q) hS
  have hK := Lib.hid HK
  have hO := Lib.hid HO
  have hB := Lib.hid HB
  have hSn := Lib.hid HSn
  clear HK HO HB HSn hy hm
  by_cases hm0 : m = 0
  · have H0 := Lib.hid hm0
    have hfin : ∀ (q : Nat) (w' : World), w' = ((w.drewN q).setCell ⟨B, 1, none⟩ (.int .i64 ((xs.length + m : Nat) : Int))).setCell ⟨B, 3, none⟩ (Value.slice va xs.length vc) → Wtr w' base B lim (Value.slice va xs.length vc) (xs ++ ys) ∧ Chg (WS B (Value.slice va xs.length vc)) w w' := by
      rintro q w' rfl
      have hys : ys = [] := List.eq_nil_of_length_eq_zero (HY.out.trans H0.out)
      have hk2 : Chg (· = B) w (((w.drewN q).setCell ⟨B, 1, none⟩ (.int .i64 ((xs.length + m : Nat) : Int))).setCell ⟨B, 3, none⟩ (Value.slice va xs.length vc)) := Chg.setCell (p := ⟨B, 3, none⟩) (hK.out q) rfl _
      subst hys
      rw [List.append_nil]
      refine ⟨⟨?_, ?_, hl, hl2⟩, hk2.mono fun k _ h => .inl h⟩
      · have := ob_set3 (hB.out q) (Value.slice va xs.length vc)
        rw [H0.out, Nat.add_zero] at this ⊢
        exact this
      · exact hown.kept hk2.grownBy (by
          cases hg : (Value.slice va xs.length vc).ownBlock with
          | none => exact .inl rfl
          | some g => right; intro e; cases e; exact ob_ne_row hb hown hg rfl)
    have hF := Lib.hid hfin
    clear hm0 hfin
    go_enter Try.func30, Try.ntmps30
    go_wp2_with (first
      | (go_at_call 46; refine (noneW_any _ B c0).mono ?_; rintro e w1 ⟨rfl, rfl⟩)
      | (go_at_call 56; refine (pass_ok _ B xs.length lim m HM.out (by omega) c1 c2 f1).mono ?_; rintro e w1 ⟨rfl, q, rfl⟩)
      | (at_builtin; refine wpList_append_zero _ rfl _ _ 22 rfl 5 i0 Try.underlying22 hi base 1 _ _ _ rfl (hO.out q) _ _ _ H0.out rfl ?_))
    go_ret
    exact ⟨_, rfl, (hF.out q _ rfl).1, (hF.out q _ rfl).2, .inl rfl⟩
  · have H0 : Hid (0 < m) := Nat.pos_of_ne_zero hm0
    obtain ⟨b, off, rfl, _, _⟩ := hS.at (i := 0) (by rw [HY.out]; exact H0.out)
    clear hm0
    go_enter Try.func30, Try.ntmps30
    go_wp2_with (first
      | (go_at_call 46; refine (noneW_any _ B c0).mono ?_; rintro e w1 ⟨rfl, rfl⟩)
      | (go_at_call 56; refine (pass_ok _ B xs.length lim m HM.out (by omega) c1 c2 f1).mono ?_; rintro e w1 ⟨rfl, q, rfl⟩)
      | (at_builtin; refine wpList_append_fresh _ rfl _ _ 22 rfl base 5 i0 (.int .u8 0) 1 1 Try.underlying22 hi hz0 hz1 hz2 rfl (by decide) _ _ _ rfl (hO.out q) _ _ _ (ys.map fun x : Nat => Value.int .u8 x) rfl (by rw [List.length_map, HY.out, Nat.mul_one]) (seen_cells (hSn.out q)) (by intro u hu; obtain ⟨z, _, rfl⟩ := List.mem_map.1 hu; rfl) H0.out (by have := HM.out; unfold maxLen; omega) (by have := HM.out; omega) (Nat.le_trans hbase (hK.out q).size) ?_; intro v2 w2 hown2 hgrow2 hmv; rw [← List.map_append] at hown2; obtain ⟨va2, vc2, rfl, _, _, _, _⟩ := own_slice hown2; have hne2 : (Value.slice va xs.length vc).ownBlock ≠ some B := (fun e => ob_ne_row hb hown e rfl); have hb2 : w2.heap[B]? = some (ob 85 ((xs.length + m : Nat) : Int) lim (Value.slice va xs.length vc)) := (hgrow2.block B (Array.getElem?_eq_some_iff.1 (hB.out q)).1 (fun e => hne2 e.symm)).trans (hB.out q); obtain ⟨d0, d1, d2, d3, e1, e3⟩ := ob_cells hb2))
    go_ret
    have hk2 : Chg (WS B (Value.slice va xs.length vc)) w w2 := ((hK.out q).mono fun k _ h => .inl h).grown hgrow2 (fun k e => .inr e)
    refine ⟨.slice va2 (xs.length + m) vc2, rfl, ⟨?_, ?_, ?_, hl2⟩, hk2.setCell (p := ⟨B, 3, none⟩) (.inl rfl) _, ?_⟩
    · rw [List.length_append, HY.out]; exact ob_set3 hb2 _
    · rw [List.length_append, HY.out]
      refine hown2.kept (Chg.setCell (p := ⟨B, 3, none⟩) (Chg.refl (· = B) w2) rfl _).grownBy ?_
      cases hg : (Value.slice va2 (xs.length + m) vc2).ownBlock with
      | none => exact .inl rfl
      | some g => right; intro e; cases e; exact ob_ne_row hb2 hown2 hg rfl
    · rw [List.length_append, HY.out]; exact HM.out
    · rcases hmv with h | h
      · exact .inl h
      · exact .inr fun g hg => Nat.le_trans (hK.out q).size (h g hg)

end Go.Proofs.Ytdemlifjhlpclaa
