/-
  Right events, what With makes of values, and texts.
-/
import Derived.Test.YtainjicbmjfnkaaDoorSplitJoin
import Derived.Test.YtainjicbmjfnkaaDoorLikV
namespace Go.Proofs.YtainjicbmjfnkaaDoor
open Go.RowKit
set_option linter.unusedVariables false

namespace Ev
/-- An event. -/
structure E where
  ev ::
  sq : Int
  tm : Int
  cp : Nat
  kd : Nat
  tk : Int
  gr : Int
  to_ : Int
  wg : Int
  tc : Int
  mk : Nat
  gt : Int
def E.wf (e : E) : Prop := WF e.sq e.tm e.cp e.kd e.tk e.gr e.to_ e.wg e.tc e.mk e.gt
def E.check (e : E) : Nat := Ev.check e.sq e.tm e.cp e.kd e.tk e.gr e.to_ e.wg e.tc e.mk e.gt
def E.vals (e : E) : List Nat := Ev.vals e.kd e.tk e.gr e.to_ e.wg e.tc e.mk e.gt
def E.text (e : E) : List UInt8 := Ev.text e.sq e.tm e.cp e.kd e.vals
/-- A right event. -/
def E.right (e : E) : Prop := e.wf ∧ e.check = 0
def E.zero : E := ⟨0, 0, 0, 0, 0, 0, 0, 0, 0, 0, 0⟩
theorem acc_some_of {fs : List Nat} {vs : List Nat} {j : Nat} (h : j ∈ fs) (hl : vs.length = fs.length) : ∃ x, acc (fs.zip vs) j = some x := by
  have key : ∀ (fs vs : List Nat) (r : Option Nat), vs.length = fs.length → (j ∈ fs ∨ ∃ y, r = some y) → ∃ x, (fs.zip vs).foldl (fun r p => if p.1 = j then some p.2 else r) r = some x := by
    intro fs
    induction fs with
    | nil => intro vs r _ h; rcases h with h | ⟨y, rfl⟩; exact absurd h (by simp); exact ⟨y, by simp⟩
    | cons f fs ih =>
      intro vs r hl h
      cases vs with
      | nil => simp at hl
      | cons v vs =>
        rw [List.zip_cons_cons, List.foldl_cons]
        refine ih vs _ (by simpa using hl) ?_
        by_cases hf : f = j
        · right; exact ⟨v, by simp [hf]⟩
        · rcases h with h | ⟨y, rfl⟩
          · left; rcases List.mem_cons.1 h with e | e
            · exact absurd e.symm hf
            · exact e
          · right; exact ⟨y, by simp [hf]⟩
  exact key fs vs none hl (.inl h)
theorem acc_no {fs vs : List Nat} {j : Nat} (h : j ∉ fs) : acc (fs.zip vs) j = none := by
  cases ha : acc (fs.zip vs) j with
  | none => rfl
  | some x => exact absurd (List.of_mem_zip (acc_mem _ _ _ ha)).1 h
theorem acc_map {fs : List Nat} {g : Nat → Nat} {j : Nat} : acc (fs.zip (fs.map g)) j = if j ∈ fs then some (g j) else none := by
  by_cases h : j ∈ fs
  · rw [if_pos h]
    obtain ⟨x, hx⟩ := acc_some_of (vs := fs.map g) h (by simp)
    rw [hx]
    have hm := acc_mem _ _ _ hx
    rw [List.zip_map_right] at hm
    obtain ⟨⟨a, b⟩, h1, h2⟩ := List.mem_map.1 hm
    simp only [Prod.map, id] at h2
    have hab : a = b := by
      have : ∀ (l : List Nat) (p : Nat × Nat), p ∈ l.zip l → p.1 = p.2 := by
        intro l
        induction l with
        | nil => simp
        | cons c l ih =>
          intro p hp
          rw [List.zip_cons_cons] at hp
          rcases List.mem_cons.1 hp with rfl | hp
          · rfl
          · exact ih p hp
      exact this fs _ h1
    injection h2 with h2 h3
    rw [← h3, ← hab, h2]
  · rw [if_neg h, acc_no h]
theorem geti_no {fs vs : List Nat} {j : Nat} (h : j ∉ fs) : geti (fs.zip vs) j = 0 := by unfold geti; rw [acc_no h]
theorem getn_no {fs vs : List Nat} {j : Nat} (h : j ∉ fs) : getn (fs.zip vs) j = 0 := by unfold getn; rw [acc_no h]
theorem geti_i64 (l : List (Nat × Nat)) (j : Nat) : I64 (geti l j) := by
  unfold geti I64
  split
  · unfold wrap64; omega
  · omega
theorem made_other (fs vs : List Nat) (l : List (Nat × Nat)) (hl : fs.zip vs = l) : other fs (geti l 0) (geti l 1) (geti l 2) (geti l 3) (geti l 4) (getn l 5) (geti l 6) = false := by
  subst hl
  have hi : ∀ j, (geti (fs.zip vs) j == if j ∈ fs then geti (fs.zip vs) j else 0) = true := by
    intro j
    by_cases h : j ∈ fs
    · rw [if_pos h]; simp
    · rw [if_neg h, geti_no h]; simp
  have hn : (((getn (fs.zip vs) 5 : Nat) : Int) == ((if 5 ∈ fs then getn (fs.zip vs) 5 else 0 : Nat) : Int)) = true := by
    by_cases h : 5 ∈ fs
    · rw [if_pos h]; simp
    · rw [if_neg h, getn_no h]; simp
  unfold other
  rw [hi 0, hi 1, hi 2, hi 3, hi 4, hi 6, hn]
  rfl
theorem made_check {sq tm : Int} {cp kd : Nat} {vs : List Nat} (l : List (Nat × Nat)) (hl : (kfs kd).zip vs = l) (hk1 : 1 ≤ kd) (hk2 : kd ≤ 10) (hr : within sq tm cp kd (geti l 0) (geti l 1) (geti l 2) (geti l 3) (geti l 4) (getn l 5) (geti l 6) = true) : check sq tm cp kd (geti l 0) (geti l 1) (geti l 2) (geti l 3) (geti l 4) (getn l 5) (geti l 6) = 0 := by
  unfold check
  rw [if_pos ⟨hk1, hk2⟩, if_pos hr, made_other _ vs l hl]
  rfl
theorem made_wf {sq tm : Int} {cp kd : Nat} {vs : List Nat} (l : List (Nat × Nat)) (hl : (kfs kd).zip vs = l) (h1 : I64 sq) (h2 : I64 tm) (hcp : cp < 256) (hkd : kd < 256) (hv : ∀ x ∈ vs, x < 2 ^ 64) : WF sq tm cp kd (geti l 0) (geti l 1) (geti l 2) (geti l 3) (geti l 4) (getn l 5) (geti l 6) :=
  ⟨h1, h2, hcp, hkd, geti_i64 _ _, geti_i64 _ _, geti_i64 _ _, geti_i64 _ _, geti_i64 _ _, by rw [← hl]; exact getn_lt _ vs hv 5, geti_i64 _ _⟩
theorem check_zero {sq tm : Int} {cp kd : Nat} {tk gr to_ wg tc : Int} {mk : Nat} {gt : Int} (h : check sq tm cp kd tk gr to_ wg tc mk gt = 0) : 1 ≤ kd ∧ kd ≤ 10 ∧ within sq tm cp kd tk gr to_ wg tc mk gt = true ∧ other (kfs kd) tk gr to_ wg tc mk gt = false := by
  unfold check at h
  split at h
  · rename_i h1
    split at h
    · rename_i h2
      split at h
      · cases h
      · rename_i h3
        exact ⟨h1.1, h1.2, h2, by simpa using h3⟩
    · cases h
  · cases h
theorem other_no {fs : List Nat} {tk gr to_ wg tc : Int} {mk : Nat} {gt : Int} (h : other fs tk gr to_ wg tc mk gt = false) : (0 ∉ fs → tk = 0) ∧ (1 ∉ fs → gr = 0) ∧ (2 ∉ fs → to_ = 0) ∧ (3 ∉ fs → wg = 0) ∧ (4 ∉ fs → tc = 0) ∧ (5 ∉ fs → mk = 0) ∧ (6 ∉ fs → gt = 0) := by
  unfold other at h
  simp only [Bool.not_eq_false', Bool.and_eq_true, beq_iff_eq] at h
  obtain ⟨h0, h1, h2, h3, h4, h5, h6⟩ := h
  refine ⟨fun e => ?_, fun e => ?_, fun e => ?_, fun e => ?_, fun e => ?_, fun e => ?_, fun e => ?_⟩
  · rw [if_neg e] at h0; exact h0
  · rw [if_neg e] at h1; exact h1
  · rw [if_neg e] at h2; exact h2
  · rw [if_neg e] at h3; exact h3
  · rw [if_neg e] at h4; exact h4
  · rw [if_neg e] at h5; omega
  · rw [if_neg e] at h6; exact h6
theorem val_back (tk gr to_ wg tc : Int) (mk : Nat) (gt : Int) (f : Nat) (hf : f ≠ 5) (h : I64 (fld tk gr to_ wg tc mk gt f)) : wrap64 (val tk gr to_ wg tc mk gt f : Nat) = fld tk gr to_ wg tc mk gt f := by
  rw [← val_eq, if_neg hf, wrap_back _ h.1 h.2]
/-- Of its values a right event is made again. -/
theorem right_get {kd : Nat} {tk gr to_ wg tc : Int} {mk : Nat} {gt : Int} (h5 : I64 tk) (h6 : I64 gr) (h7 : I64 to_) (h8 : I64 wg) (h9 : I64 tc) (h11 : I64 gt) (ho : other (kfs kd) tk gr to_ wg tc mk gt = false) (l : List (Nat × Nat)) (hl : (kfs kd).zip (vals kd tk gr to_ wg tc mk gt) = l) :
    geti l 0 = tk ∧ geti l 1 = gr ∧ geti l 2 = to_ ∧ geti l 3 = wg ∧ geti l 4 = tc ∧ getn l 5 = mk ∧ geti l 6 = gt := by
  subst hl
  obtain ⟨o0, o1, o2, o3, o4, o5, o6⟩ := other_no ho
  have key : ∀ j, j ≠ 5 → ∀ v, fld tk gr to_ wg tc mk gt j = v → I64 v → (j ∉ kfs kd → v = 0) → geti ((kfs kd).zip (vals kd tk gr to_ wg tc mk gt)) j = v := by
    intro j hj v hv hi h0
    unfold geti vals
    rw [acc_map]
    by_cases h : j ∈ kfs kd
    · rw [if_pos h]; show wrap64 _ = _; rw [val_back _ _ _ _ _ _ _ _ hj (by rw [hv]; exact hi), hv]
    · rw [if_neg h]; exact (h0 h).symm
  refine ⟨key 0 (by decide) tk rfl h5 o0, key 1 (by decide) gr rfl h6 o1, key 2 (by decide) to_ rfl h7 o2, key 3 (by decide) wg rfl h8 o3, key 4 (by decide) tc rfl h9 o4, ?_, key 6 (by decide) gt rfl h11 o6⟩
  unfold getn vals
  rw [acc_map]
  by_cases h : 5 ∈ kfs kd
  · rw [if_pos h]; show val _ _ _ _ _ _ _ 5 = mk; unfold val; rw [if_pos rfl]; omega
  · rw [if_neg h]; exact (o5 h).symm
/-- The words of some numbers, up to the first that is none. -/
theorem nums_split : ∀ ws : List (List UInt8), (∃ us : List Nat, us.length = ws.length ∧ ∀ (j : Nat) (y : List UInt8) (u : Nat), ws[j]? = some y → us[j]? = some u → num y = some u) ∨
    ∃ (us : List Nat) (kf : Nat), us.length = kf ∧ kf < ws.length ∧ (∀ (j : Nat) (y : List UInt8) (u : Nat), ws[j]? = some y → us[j]? = some u → num y = some u) ∧ ∀ y, ws[kf]? = some y → num y = none
  | [] => .inl ⟨[], rfl, by simp⟩
  | x :: ws => by
    cases hx : num x with
    | none => exact .inr ⟨[], 0, rfl, by simp, by simp, by simpa using hx⟩
    | some u =>
      rcases nums_split ws with ⟨us, h1, h2⟩ | ⟨us, kf, h1, h2, h3, h4⟩
      · refine .inl ⟨u :: us, by simp [h1], ?_⟩
        intro j y v hy hv
        cases j with
        | zero => simp at hy hv; rw [← hy, ← hv]; exact hx
        | succ j => simp at hy hv; exact h2 j y v hy hv
      · refine .inr ⟨u :: us, kf + 1, by simp [h1], by simpa using h2, ?_, by simpa using h4⟩
        intro j y v hy hv
        cases j with
        | zero => simp at hy hv; rw [← hy, ← hv]; exact hx
        | succ j => simp at hy hv; exact h3 j y v hy hv
theorem parse_le (M : Nat) : ∀ (l : List UInt8) (acc v : Nat), acc ≤ M → Lib.parseUintM M acc l = .ok v → v ≤ M
  | [], acc, v, ha, h => by simp only [Lib.parseUintM] at h; cases h; exact ha
  | d :: r, acc, v, ha, h => by
    unfold Lib.parseUintM at h
    split at h
    · split at h
      · cases h
      · split at h
        · cases h
        · rename_i h3
          exact parse_le M r _ v (by omega) h
    · cases h
theorem num_lt {y : List UInt8} {u : Nat} (h : num y = some u) : u < 2 ^ 64 := by
  unfold num at h
  split at h
  · rename_i v hv
    cases h
    unfold Lib.parseUintB at hv
    split at hv
    · cases hv
    · have := parse_le _ _ _ _ (by omega) hv
      omega
  · cases h
end Ev
theorem seen_wide {w w' : World} {k : IntKind} {a : Option Addr} {xs : List Nat} (h : Seen w w.heap.size k a xs) (hb : Below w.heap.size w w') : Seen w' w'.heap.size k a xs := (h.below hb).more hb.size
theorem with_made0 (sq tm : Int) (cp kd : Nat) (hcp : cp < 256) (hkd : kd < 256) (hk1 : 1 ≤ kd) (hk2 : kd ≤ 10) (a : Option Addr) (m c : Nat) (vs : List Nat) (hv : ∀ x ∈ vs, x < 2 ^ 64) (hm : vs.length = m) (hmf : m = (Ev.kfs kd).length) (l : List (Nat × Nat)) (hl : (Ev.kfs kd).zip vs = l) (r : Bool) (hr : Ev.within sq tm cp kd (Ev.geti l 0) (Ev.geti l 1) (Ev.geti l 2) (Ev.geti l 3) (Ev.geti l 4) (Ev.getn l 5) (Ev.geti l 6) = r) (w : World) (hS : Seen w w.heap.size .u64 a vs) (hE : Ev.HE w) : Calls Tryd.prog 19 #[.agg #[.int .i64 sq, .int .i64 tm, .int .u8 cp, .int .u8 kd, .int .i64 0, .int .i64 0, .int .i64 0, .int .i64 0, .int .i64 0, .int .u64 0, .int .i64 0], .slice a m c] w fun e w' => e = (if r = true then .returned (.tuple #[.agg #[.int .i64 sq, .int .i64 tm, .int .u8 cp, .int .u8 kd, .int .i64 (Ev.geti l 0), .int .i64 (Ev.geti l 1), .int .i64 (Ev.geti l 2), .int .i64 (Ev.geti l 3), .int .i64 (Ev.geti l 4), .int .u64 ((Ev.getn l 5 : Nat) : Int), .int .i64 (Ev.geti l 6)], .int .i64 0]) else .returned (.tuple #[.agg #[.int .i64 0, .int .i64 0, .int .u8 0, .int .u8 0, .int .i64 0, .int .i64 0, .int .i64 0, .int .i64 0, .int .i64 0, .int .u64 0, .int .i64 0], .int .i64 61])) ∧ Below w.heap.size w w' :=
  with_made sq tm cp kd 0 0 0 0 0 0 0 hcp hkd hk1 hk2 a m c vs hv hm hmf l hl r hr w hS hE
theorem with_len0 (sq tm : Int) (cp kd : Nat) (hkd : kd < 256) (hk1 : 1 ≤ kd) (hk2 : kd ≤ 10) (a : Option Addr) (m c : Nat) (hm : m ≠ (Ev.kfs kd).length) (w : World) (hE : Ev.HE w) : Calls Tryd.prog 19 #[.agg #[.int .i64 sq, .int .i64 tm, .int .u8 cp, .int .u8 kd, .int .i64 0, .int .i64 0, .int .i64 0, .int .i64 0, .int .i64 0, .int .u64 0, .int .i64 0], .slice a m c] w fun e w' => e = .returned (.tuple #[.agg #[.int .i64 0, .int .i64 0, .int .u8 0, .int .u8 0, .int .i64 0, .int .i64 0, .int .i64 0, .int .i64 0, .int .i64 0, .int .u64 0, .int .i64 0], .int .i64 2]) ∧ Below w.heap.size w w' :=
  with_len sq tm cp kd 0 0 0 0 0 0 0 hkd hk1 hk2 a m c hm w hE
end Go.Proofs.YtainjicbmjfnkaaDoor
