/-
  Sets of numbers as lists of runs: what a right one is, what it has, and that it is the only one that has just that.
-/
import Init
namespace Go.Proofs.Ythamilolacfeoaa
set_option linter.unusedVariables false
namespace Sq
abbrev Rs := List (Int × Int)
/-- The runs are right, the first one begins at s or later. -/
def RtF : Int → Rs → Prop
  | _, [] => True
  | s, r :: l => s ≤ r.1 ∧ 1 ≤ r.2 ∧ r.1 + r.2 ≤ 281474976710657 ∧ RtF (r.1 + r.2 + 1) l
/-- A right set. -/
def Rt (l : Rs) : Prop := l.length ≤ 65536 ∧ RtF 1 l
/-- Does a run have a number? -/
def inR (r : Int × Int) (n : Int) : Bool := decide (r.1 ≤ n) && decide (n < r.1 + r.2)
def hs (l : Rs) (n : Int) : Bool := l.any fun r => inR r n
theorem hs_nil (n : Int) : hs [] n = false := rfl
theorem hs_cons (r : Int × Int) (l : Rs) (n : Int) : hs (r :: l) n = (inR r n || hs l n) := rfl
theorem hs_append (l k : Rs) (n : Int) : hs (l ++ k) n = (hs l n || hs k n) := by simp [hs]
theorem inR_iff {r : Int × Int} {n : Int} : inR r n = true ↔ r.1 ≤ n ∧ n < r.1 + r.2 := by simp [inR]
theorem inR_not {r : Int × Int} {n : Int} (h : n < r.1 ∨ r.1 + r.2 ≤ n) : inR r n = false := by
  rw [Bool.eq_false_iff]; intro h1; have := inR_iff.1 h1; omega
theorem RtF.mono {s s' : Int} {l : Rs} (h : RtF s l) (hs : s' ≤ s) : RtF s' l := by
  cases l with
  | nil => trivial
  | cons r t => exact ⟨by have := h.1; omega, h.2⟩
theorem hs_low : ∀ {l : Rs} {s n : Int}, RtF s l → n < s → hs l n = false
  | [], _, _, _, _ => rfl
  | r :: t, s, n, h, hn => by
    rw [hs_cons, inR_not (by have := h.1; omega), hs_low h.2.2.2 (by have := h.1; have := h.2.1; omega)]; rfl
theorem hs_high : ∀ {l : Rs} {s n : Int}, RtF s l → 281474976710657 ≤ n → hs l n = false
  | [], _, _, _, _ => rfl
  | r :: t, s, n, h, hn => by
    rw [hs_cons, inR_not (by have := h.2.2.1; omega), hs_high h.2.2.2 hn]; rfl
theorem ends_high : ∀ {l : Rs} {s : Int}, RtF s l → ∀ r ∈ l, s ≤ r.1 ∧ 1 ≤ r.2 ∧ r.1 + r.2 ≤ 281474976710657
  | [], _, _, _, hr => by simp at hr
  | r :: t, s, h, q, hq => by
    rcases List.mem_cons.1 hq with rfl | hq
    · exact ⟨h.1, h.2.1, h.2.2.1⟩
    · have := ends_high h.2.2.2 q hq
      have := h.1; have := h.2.1
      omega
theorem hs_past {l : Rs} {p n : Int} (h : ∀ r ∈ l, r.1 + r.2 ≤ p) (hn : p ≤ n) : hs l n = false := by
  rw [Bool.eq_false_iff]; intro h1
  simp only [hs, List.any_eq_true] at h1
  obtain ⟨r, hr, h2⟩ := h1
  have := inR_iff.1 h2
  have := h r hr
  omega
/-- A right set is the only one that has its numbers. -/
theorem uniq : ∀ {l k : Rs} {s : Int}, RtF s l → RtF s k → (∀ n, hs l n = hs k n) → l = k
  | [], [], _, _, _, _ => rfl
  | [], r :: t, s, _, h, e => by
    have := e r.1
    rw [hs_nil, hs_cons, inR_iff.2 ⟨Int.le_refl _, by have := h.2.1; omega⟩] at this
    cases this
  | r :: t, [], s, h, _, e => by
    have := e r.1
    rw [hs_nil, hs_cons, inR_iff.2 ⟨Int.le_refl _, by have := h.2.1; omega⟩] at this
    cases this
  | r :: t, q :: u, s, h, h', e => by
    have hr := h.2.1
    have hq := h'.2.1
    have tl : ∀ n, n < r.1 + r.2 + 1 → hs t n = false := fun n hn => hs_low h.2.2.2 hn
    have ul : ∀ n, n < q.1 + q.2 + 1 → hs u n = false := fun n hn => hs_low h'.2.2.2 hn
    have e1 : r.1 = q.1 := by
      rcases Int.lt_trichotomy r.1 q.1 with hlt | he | hlt
      · have := e r.1
        rw [hs_cons, hs_cons, inR_iff.2 ⟨Int.le_refl _, by omega⟩, inR_not (by omega), ul _ (by omega)] at this
        cases this
      · exact he
      · have := e q.1
        rw [hs_cons, hs_cons, (inR_iff (r := q)).2 ⟨Int.le_refl _, by omega⟩, inR_not (by omega), tl _ (by omega)] at this
        cases this
    have e2 : r.2 = q.2 := by
      rcases Int.lt_trichotomy r.2 q.2 with hlt | he | hlt
      · have := e (r.1 + r.2)
        rw [hs_cons, hs_cons, inR_not (by omega), (inR_iff (r := q)).2 ⟨by omega, by omega⟩, tl _ (by omega)] at this
        cases this
      · exact he
      · have := e (q.1 + q.2)
        rw [hs_cons, hs_cons, (inR_iff (r := r)).2 ⟨by omega, by omega⟩, inR_not (by omega), ul _ (by omega)] at this
        cases this
    have e3 : r = q := Prod.ext e1 e2
    subst e3
    have : t = u := uniq h.2.2.2 h'.2.2.2 fun n => by
      by_cases hn : n < r.1 + r.2 + 1
      · rw [tl n hn, ul n hn]
      · have := e n
        rw [hs_cons, hs_cons, inR_not (by omega)] at this
        exact this
    rw [this]
theorem RtF.snoc : ∀ {l : Rs} {s c d : Int}, RtF s l → (∀ r ∈ l, r.1 + r.2 < c) → s ≤ c → 1 ≤ d → c + d ≤ 281474976710657 → RtF s (l ++ [(c, d)])
  | [], s, c, d, _, _, h1, h2, h3 => ⟨h1, h2, h3, trivial⟩
  | r :: t, s, c, d, h, he, h1, h2, h3 => by
    have hr := he r (by simp)
    exact ⟨h.1, h.2.1, h.2.2.1, RtF.snoc h.2.2.2 (fun q hq => he q (by simp [hq])) (by omega) h2 h3⟩

/-- The border with an index. -/
def bd (l : Rs) (i : Nat) : Int := match l[i / 2]? with
  | none => 281474976710658
  | some r => if i % 2 = 0 then r.1 else r.1 + r.2
theorem bd_past {l : Rs} {i : Nat} (h : 2 * l.length ≤ i) : bd l i = 281474976710658 := by
  unfold bd; rw [List.getElem?_eq_none (by omega)]
theorem bd_cons (r : Int × Int) (l : Rs) (i : Nat) : bd (r :: l) (i + 2) = bd l i := by
  unfold bd
  rw [show (i + 2) / 2 = i / 2 + 1 by omega, show (i + 2) % 2 = i % 2 by omega]
  rfl
theorem bd_0 (r : Int × Int) (l : Rs) : bd (r :: l) 0 = r.1 := rfl
theorem bd_1 (r : Int × Int) (l : Rs) : bd (r :: l) 1 = r.1 + r.2 := rfl
theorem bd_low : ∀ {l : Rs} {s : Int}, RtF s l → s ≤ 281474976710658 → ∀ i, s ≤ bd l i ∧ bd l i ≤ 281474976710658
  | [], s, _, h0, i => by rw [bd_past (by simp)]; exact ⟨h0, Int.le_refl _⟩
  | r :: t, s, h, h0, 0 => by have := h.1; have := h.2.1; have := h.2.2.1; rw [bd_0]; omega
  | r :: t, s, h, h0, 1 => by have := h.1; have := h.2.1; have := h.2.2.1; rw [bd_1]; omega
  | r :: t, s, h, h0, i + 2 => by
    have := h.1; have := h.2.1; have := h.2.2.1
    rw [bd_cons]
    have := bd_low h.2.2.2 (by omega) i
    omega
theorem bd_in : ∀ {l : Rs} {s : Int}, RtF s l → ∀ i, i < 2 * l.length → bd l i ≤ 281474976710657
  | [], s, _, i, hi => by simp at hi
  | r :: t, s, h, 0, _ => by have := h.1; have := h.2.1; have := h.2.2.1; rw [bd_0]; omega
  | r :: t, s, h, 1, _ => by have := h.1; have := h.2.1; have := h.2.2.1; rw [bd_1]; omega
  | r :: t, s, h, i + 2, hi => by
    rw [bd_cons]
    exact bd_in h.2.2.2 i (by simp only [List.length_cons] at hi; omega)
theorem bd_lt : ∀ {l : Rs} {s : Int}, RtF s l → ∀ i, i < 2 * l.length → bd l i < bd l (i + 1)
  | [], s, _, i, hi => by simp at hi
  | r :: t, s, h, 0, _ => by have := h.2.1; rw [bd_0, bd_1]; omega
  | r :: t, s, h, 1, _ => by
    have := h.2.2.1
    rw [bd_1, bd_cons]
    have := (bd_low h.2.2.2 (by omega) 0).1
    omega
  | r :: t, s, h, i + 2, hi => by
    rw [bd_cons, show i + 2 + 1 = i + 1 + 2 by omega, bd_cons]
    exact bd_lt h.2.2.2 i (by simp only [List.length_cons] at hi; omega)
/-- Between two borders a set has all numbers or none. -/
theorem hs_between : ∀ {l : Rs} {s : Int}, RtF s l → ∀ (x : Nat) (n : Int), (x = 0 ∨ bd l (x - 1) ≤ n) → n < bd l x → hs l n = decide (x % 2 = 1)
  | [], s, _, x, n, h1, h2 => by
    rw [hs_nil]
    rcases h1 with rfl | h1
    · rfl
    · rw [bd_past (by simp)] at h1 h2; omega
  | r :: t, s, h, 0, n, _, h2 => by
    rw [bd_0] at h2
    rw [hs_cons, inR_not (by omega), hs_low h.2.2.2 (by have := h.2.1; omega)]; rfl
  | r :: t, s, h, 1, n, h1, h2 => by
    rw [bd_1] at h2
    rcases h1 with h1 | h1
    · omega
    · rw [show 1 - 1 = 0 from rfl, bd_0] at h1
      rw [hs_cons, inR_iff.2 ⟨h1, h2⟩]; rfl
  | r :: t, s, h, x + 2, n, h1, h2 => by
    rw [bd_cons] at h2
    have hr := h.2.1
    rcases h1 with h1 | h1
    · omega
    · rw [show x + 2 - 1 = x + 1 by omega] at h1
      have key : r.1 + r.2 ≤ n ∧ (x = 0 ∨ bd t (x - 1) ≤ n) := by
        match x, h1 with
        | 0, h1 => rw [bd_1] at h1; exact ⟨h1, .inl rfl⟩
        | x + 1, h1 =>
          rw [show x + 1 + 1 = x + 2 by omega, bd_cons] at h1
          have := (bd_low h.2.2.2 (by have := h.2.2.1; omega) x).1
          exact ⟨by omega, .inr h1⟩
      rw [hs_cons, inR_not (by omega), hs_between h.2.2.2 x n key.2 h2, show (x + 2) % 2 = x % 2 by omega]; rfl

/-- How many borders of both sets have come. -/
def st (a b : Rs) : Nat → Nat × Nat
  | 0 => (0, 0)
  | t + 1 => (if bd a (st a b t).1 = min (bd a (st a b t).1) (bd b (st a b t).2) then (st a b t).1 + 1 else (st a b t).1, if bd b (st a b t).2 = min (bd a (st a b t).1) (bd b (st a b t).2) then (st a b t).2 + 1 else (st a b t).2)
/-- The border that comes next. -/
def at_ (a b : Rs) (t : Nat) : Int := min (bd a (st a b t).1) (bd b (st a b t).2)
def odd (n : Nat) : Bool := decide (n % 2 = 1)
def item (a b : Rs) (t : Nat) : Int × Bool × Bool := (at_ a b t, odd (st a b (t + 1)).1, odd (st a b (t + 1)).2)
def step (f : Bool → Bool → Bool) (s : Rs × Int) (i : Int × Bool × Bool) : Rs × Int :=
  if f i.2.1 i.2.2 then (if s.2 = 0 then (s.1, i.1) else s) else (if s.2 = 0 then s else (s.1 ++ [(s.2, i.1 - s.2)], 0))
def fd (f : Bool → Bool → Bool) (a b : Rs) (l : List Nat) : Rs × Int := l.foldl (fun s t => step f s (item a b t)) ([], 0)
theorem fd_nil (f : Bool → Bool → Bool) (a b : Rs) : fd f a b [] = ([], 0) := rfl
theorem fd_snoc (f : Bool → Bool → Bool) (a b : Rs) (l : List Nat) (t : Nat) : fd f a b (l ++ [t]) = step f (fd f a b l) (item a b t) := by simp [fd]
/-- All borders have come. -/
def Fin (a b : Rs) (t : Nat) : Prop := 2 * a.length ≤ (st a b t).1 ∧ 2 * b.length ≤ (st a b t).2
theorem item_le {a b : Rs} (ha : RtF 1 a) (hb : RtF 1 b) (t : Nat) : 1 ≤ (item a b t).1 ∧ (item a b t).1 ≤ 281474976710658 := by
  have h1 := bd_low ha (by omega) (st a b t).1
  have h2 := bd_low hb (by omega) (st a b t).2
  show 1 ≤ min _ _ ∧ min _ _ ≤ _
  omega
/-- What the open run and the closed ones hold never is out of the numbers. -/
theorem fd_open {a b : Rs} (ha : RtF 1 a) (hb : RtF 1 b) (f : Bool → Bool → Bool) (l : List Nat) : 0 ≤ (fd f a b l).2 ∧ (fd f a b l).2 ≤ 281474976710658 ∧ (fd f a b l).1.length ≤ l.length := by
  have key : ∀ (l : List Nat) (s : Rs × Int) (k : Nat), (0 ≤ s.2 ∧ s.2 ≤ 281474976710658 ∧ s.1.length ≤ k) → 0 ≤ (l.foldl (fun s t => step f s (item a b t)) s).2 ∧ (l.foldl (fun s t => step f s (item a b t)) s).2 ≤ 281474976710658 ∧ (l.foldl (fun s t => step f s (item a b t)) s).1.length ≤ k + l.length := by
    intro l
    induction l with
    | nil => intro s k h; simpa using h
    | cons t l ih =>
      intro s k h
      have := ih (step f s (item a b t)) (k + 1) (by
        have := item_le ha hb t
        unfold step
        split <;> split <;> (try dsimp only) <;> (try simp only [List.length_append, List.length_cons, List.length_nil]) <;> omega)
      simp only [List.foldl_cons, List.length_cons]
      omega
  have := key l ([], 0) 0 (by simp)
  unfold fd
  omega
/-- How the borders come. -/
structure Walk (a b : Rs) (t : Nat) (p : Int) : Prop where
  p0 : 0 ≤ p
  xa : (st a b t).1 = 0 ∨ bd a ((st a b t).1 - 1) ≤ p
  xb : (st a b t).2 = 0 ∨ bd b ((st a b t).2 - 1) ≤ p
  pa : p < bd a (st a b t).1
  pb : p < bd b (st a b t).2
  la : (st a b t).1 ≤ 2 * a.length
  lb : (st a b t).2 ≤ 2 * b.length
theorem walk_0 {a b : Rs} (ha : RtF 1 a) (hb : RtF 1 b) : Walk a b 0 0 :=
  ⟨Int.le_refl _, .inl rfl, .inl rfl, by have := (bd_low ha (by omega) 0).1; show 0 < bd a 0; omega, by have := (bd_low hb (by omega) 0).1; show 0 < bd b 0; omega, Nat.zero_le _, Nat.zero_le _⟩
theorem at_in {a b : Rs} (ha : RtF 1 a) (hb : RtF 1 b) {t : Nat} {p : Int} (h : Walk a b t p) (hf : ¬ Fin a b t) : at_ a b t ≤ 281474976710657 := by
  unfold at_
  by_cases h1 : (st a b t).1 < 2 * a.length
  · have := bd_in ha _ h1; omega
  · have h2 : (st a b t).2 < 2 * b.length := by
      rcases Nat.lt_or_ge (st a b t).2 (2 * b.length) with h | h
      · exact h
      · exact absurd ⟨by omega, h⟩ hf
    have := bd_in hb _ h2; omega
theorem walk_s {a b : Rs} (ha : RtF 1 a) (hb : RtF 1 b) {t : Nat} {p : Int} (h : Walk a b t p) (hf : ¬ Fin a b t) : Walk a b (t + 1) (at_ a b t) ∧ p < at_ a b t := by
  have hin := at_in ha hb h hf
  obtain ⟨p0, xa, xb, pa, pb, la, lb⟩ := h
  obtain ⟨q, hq⟩ : ∃ q, at_ a b t = q := ⟨_, rfl⟩
  have hq2 : min (bd a (st a b t).1) (bd b (st a b t).2) = q := hq
  have e1 : (st a b (t + 1)).1 = if bd a (st a b t).1 = q then (st a b t).1 + 1 else (st a b t).1 := by rw [← hq2]; rfl
  have e2 : (st a b (t + 1)).2 = if bd b (st a b t).2 = q then (st a b t).2 + 1 else (st a b t).2 := by rw [← hq2]; rfl
  rw [hq] at hin ⊢
  have ga : bd a (st a b t).1 = q → (st a b t).1 < 2 * a.length := fun e => by
    rcases Nat.lt_or_ge (st a b t).1 (2 * a.length) with h | h
    · exact h
    · rw [bd_past h] at e; omega
  have gb : bd b (st a b t).2 = q → (st a b t).2 < 2 * b.length := fun e => by
    rcases Nat.lt_or_ge (st a b t).2 (2 * b.length) with h | h
    · exact h
    · rw [bd_past h] at e; omega
  refine ⟨⟨by omega, ?_, ?_, ?_, ?_, ?_, ?_⟩, by omega⟩
  · rw [e1]; split
    · rename_i e; right; rw [show (st a b t).1 + 1 - 1 = (st a b t).1 by omega]; omega
    · rcases xa with h | h
      · exact .inl h
      · right; omega
  · rw [e2]; split
    · rename_i e; right; rw [show (st a b t).2 + 1 - 1 = (st a b t).2 by omega]; omega
    · rcases xb with h | h
      · exact .inl h
      · right; omega
  · rw [e1]; split
    · rename_i e; have := bd_lt ha _ (ga e); omega
    · rename_i e; omega
  · rw [e2]; split
    · rename_i e; have := bd_lt hb _ (gb e); omega
    · rename_i e; omega
  · rw [e1]; split
    · rename_i e; have := ga e; omega
    · exact la
  · rw [e2]; split
    · rename_i e; have := gb e; omega
    · exact lb
theorem st_grows {a b : Rs} (t : Nat) : (st a b t).1 + (st a b t).2 + 1 ≤ (st a b (t + 1)).1 + (st a b (t + 1)).2 := by
  obtain ⟨q, hq⟩ : ∃ q, min (bd a (st a b t).1) (bd b (st a b t).2) = q := ⟨_, rfl⟩
  have e1 : (st a b (t + 1)).1 = if bd a (st a b t).1 = q then (st a b t).1 + 1 else (st a b t).1 := by rw [← hq]; rfl
  have e2 : (st a b (t + 1)).2 = if bd b (st a b t).2 = q then (st a b t).2 + 1 else (st a b t).2 := by rw [← hq]; rfl
  have h : bd a (st a b t).1 = q ∨ bd b (st a b t).2 = q := by omega
  rw [e1, e2]
  rcases h with h | h
  · rw [if_pos h]; split <;> omega
  · rw [if_pos h]; split <;> omega
/-- The state of what is made, when t borders have come. -/
structure Inv (f : Bool → Bool → Bool) (a b : Rs) (t : Nat) (p : Int) : Prop where
  walk : Walk a b t p
  rt : RtF 1 (fd f a b (List.range t)).1
  s0 : (fd f a b (List.range t)).2 = 0 → ∀ r ∈ (fd f a b (List.range t)).1, r.1 + r.2 ≤ p
  s1 : (fd f a b (List.range t)).2 ≠ 0 → 1 ≤ (fd f a b (List.range t)).2 ∧ (fd f a b (List.range t)).2 ≤ p ∧ ∀ r ∈ (fd f a b (List.range t)).1, r.1 + r.2 < (fd f a b (List.range t)).2
  now : f (odd (st a b t).1) (odd (st a b t).2) = decide ((fd f a b (List.range t)).2 ≠ 0)
  has : ∀ n, n < p → f (hs a n) (hs b n) = (hs (fd f a b (List.range t)).1 n || (decide ((fd f a b (List.range t)).2 ≠ 0) && decide ((fd f a b (List.range t)).2 ≤ n)))
theorem inv_0 {f : Bool → Bool → Bool} (h0 : f false false = false) {a b : Rs} (ha : RtF 1 a) (hb : RtF 1 b) : Inv f a b 0 0 :=
  ⟨walk_0 ha hb, trivial, fun _ r hr => by simp [fd] at hr, fun h => absurd rfl h, by rw [show odd (st a b 0).1 = false from rfl, show odd (st a b 0).2 = false from rfl, h0]; rfl, fun n hn => by
    rw [hs_low ha (by omega), hs_low hb (by omega), h0]; rfl⟩
theorem inv_s {f : Bool → Bool → Bool} {a b : Rs} (ha : RtF 1 a) (hb : RtF 1 b) {t : Nat} {p : Int} (h : Inv f a b t p) (hf : ¬ Fin a b t) : Inv f a b (t + 1) (at_ a b t) := by
  obtain ⟨hw, hpq⟩ := walk_s ha hb h.walk hf
  have hin := at_in ha hb h.walk hf
  have hfd : fd f a b (List.range (t + 1)) = step f (fd f a b (List.range t)) (item a b t) := by rw [List.range_succ, fd_snoc]
  obtain ⟨hw0, rt, s0, s1, now, has⟩ := h
  have hnew : f (odd (st a b (t + 1)).1) (odd (st a b (t + 1)).2) = f (item a b t).2.1 (item a b t).2.2 := rfl
  have hat : (item a b t).1 = at_ a b t := rfl
  have hmid : ∀ n, p ≤ n → n < at_ a b t → f (hs a n) (hs b n) = decide ((fd f a b (List.range t)).2 ≠ 0) := fun n h1 h2 => by
    have h3 : at_ a b t ≤ bd a (st a b t).1 := by unfold at_; omega
    have h4 : at_ a b t ≤ bd b (st a b t).2 := by unfold at_; omega
    rw [hs_between ha _ n (hw0.xa.imp id fun h => by omega) (by omega), hs_between hb _ n (hw0.xb.imp id fun h => by omega) (by omega)]
    exact now
  have hp0 := hw0.p0
  generalize fd f a b (List.range t) = s at *
  obtain ⟨l, c⟩ := s
  dsimp only at *
  generalize at_ a b t = q at *
  rcases hb2 : f (item a b t).2.1 (item a b t).2.2 with _ | _
  · by_cases hc : c = 0
    · have e : fd f a b (List.range (t + 1)) = (l, 0) := by rw [hfd]; unfold step; rw [hb2]; simp [hc]
      refine ⟨hw, by rw [e]; exact rt, ?_, ?_, by rw [hnew, hb2, e]; rfl, ?_⟩
      · rw [e]; intro _ r hr; have := s0 hc r hr; omega
      · rw [e]; intro h; exact absurd rfl h
      · rw [e]; intro n hn
        subst hc
        by_cases h : n < p
        · exact has n h
        · rw [hmid n (by omega) hn, hs_past (s0 rfl) (by omega)]; rfl
    · obtain ⟨h1, h2, h3⟩ := s1 hc
      have e : fd f a b (List.range (t + 1)) = (l ++ [(c, q - c)], 0) := by rw [hfd]; unfold step; rw [hb2, hat]; simp [hc]
      refine ⟨hw, ?_, ?_, ?_, by rw [hnew, hb2, e]; rfl, ?_⟩
      · rw [e]; exact rt.snoc h3 h1 (by omega) (by omega)
      · rw [e]; intro _ r hr
        rcases List.mem_append.1 hr with hr | hr
        · have := h3 r hr; omega
        · simp only [List.mem_singleton] at hr; subst hr; dsimp only; omega
      · rw [e]; intro h; exact absurd rfl h
      · rw [e]; intro n hn
        show _ = (hs (l ++ [(c, q - c)]) n || _)
        rw [hs_append]
        have e3 : hs [(c, q - c)] n = decide (c ≤ n) := by
          rw [hs_cons, hs_nil, Bool.or_false]; unfold inR; dsimp only
          rw [show decide (n < c + (q - c)) = true by simp; omega, Bool.and_true]
        rw [e3]
        by_cases h : n < p
        · rw [has n h]; simp [hc]
        · rw [hmid n (by omega) hn, show decide (c ≤ n) = true by simp; omega]; simp [hc]
  · by_cases hc : c = 0
    · have e : fd f a b (List.range (t + 1)) = (l, q) := by rw [hfd]; unfold step; rw [hb2, hat]; simp [hc]
      have hq0 : q ≠ 0 := by omega
      refine ⟨hw, by rw [e]; exact rt, ?_, ?_, by rw [hnew, hb2, e]; simp [hq0], ?_⟩
      · rw [e]; intro h; exact absurd h hq0
      · rw [e]; intro _; exact ⟨by dsimp only; omega, Int.le_refl _, fun r hr => by have := s0 hc r hr; dsimp only; omega⟩
      · rw [e]; intro n hn
        subst hc
        dsimp only
        rw [show decide (q ≤ n) = false by simp; omega, Bool.and_false]
        by_cases h : n < p
        · rw [has n h]; simp
        · rw [hmid n (by omega) hn, hs_past (s0 rfl) (by omega)]; rfl
    · obtain ⟨h1, h2, h3⟩ := s1 hc
      have e : fd f a b (List.range (t + 1)) = (l, c) := by rw [hfd]; unfold step; rw [hb2]; simp [hc]
      refine ⟨hw, by rw [e]; exact rt, ?_, ?_, by rw [hnew, hb2, e]; simp [hc], ?_⟩
      · rw [e]; intro h; exact absurd h hc
      · rw [e]; intro _; exact ⟨h1, by dsimp only; omega, h3⟩
      · rw [e]; intro n hn
        dsimp only
        by_cases h : n < p
        · exact has n h
        · rw [hmid n (by omega) hn, show decide (c ≤ n) = true by simp; omega]; simp [hc]
/-- What is made of two right sets. -/
structure Made (f : Bool → Bool → Bool) (a b l : Rs) : Prop where
  rt : RtF 1 l
  has : ∀ n, hs l n = f (hs a n) (hs b n)
  len : l.length ≤ 2 * a.length + 2 * b.length
theorem Made.uniq {f g : Bool → Bool → Bool} {a b l l' : Rs} (h : Made f a b l) (h' : Made f a b l') : l = l' := Sq.uniq h.rt h'.rt fun n => by rw [h.has, h'.has]
theorem inv_all {f : Bool → Bool → Bool} (h0 : f false false = false) {a b : Rs} (ha : RtF 1 a) (hb : RtF 1 b) : ∀ t, (∀ i, i < t → ¬ Fin a b i) → (∃ p, Inv f a b t p) ∧ t ≤ (st a b t).1 + (st a b t).2
  | 0, _ => ⟨⟨0, inv_0 h0 ha hb⟩, Nat.zero_le _⟩
  | t + 1, h => by
    obtain ⟨⟨p, hp⟩, h2⟩ := inv_all h0 ha hb t fun i hi => h i (by omega)
    exact ⟨⟨_, inv_s ha hb hp (h t (by omega))⟩, by have := st_grows (a := a) (b := b) t; omega⟩
theorem walk_all {a b : Rs} (ha : RtF 1 a) (hb : RtF 1 b) (t : Nat) (h : ∀ i, i < t → ¬ Fin a b i) : (∃ p, Walk a b t p) ∧ t ≤ (st a b t).1 + (st a b t).2 := by
  obtain ⟨⟨p, hp⟩, h2⟩ := inv_all (f := fun _ _ => false) rfl ha hb t h
  exact ⟨⟨p, hp.walk⟩, h2⟩
/-- There is an end. -/
theorem fin_exists {a b : Rs} (ha : RtF 1 a) (hb : RtF 1 b) : ∃ K, Fin a b K ∧ (∀ i, i < K → ¬ Fin a b i) ∧ K ≤ 2 * a.length + 2 * b.length := by
  have key : ∀ m t, (∀ i, i < t → ¬ Fin a b i) → 2 * a.length + 2 * b.length + 1 - t ≤ m → ∃ K, Fin a b K ∧ (∀ i, i < K → ¬ Fin a b i) ∧ K ≤ 2 * a.length + 2 * b.length := by
    intro m
    induction m with
    | zero =>
      intro t h hm
      obtain ⟨⟨p, hp⟩, h2⟩ := walk_all ha hb t h
      have := hp.la; have := hp.lb
      omega
    | succ m ih =>
      intro t h hm
      by_cases hf : Fin a b t
      · obtain ⟨⟨p, hp⟩, h2⟩ := walk_all ha hb t h
        have := hp.la; have := hp.lb
        exact ⟨t, hf, h, by omega⟩
      · exact ih (t + 1) (fun i hi => by
          rcases Nat.lt_or_ge i t with h1 | h1
          · exact h i h1
          · obtain rfl : i = t := by omega
            exact hf) (by omega)
  exact key _ 0 (fun i hi => by omega) (Nat.le_refl _)
theorem made_of {f : Bool → Bool → Bool} (h0 : f false false = false) {a b : Rs} (ha : RtF 1 a) (hb : RtF 1 b) {K : Nat} (hK : Fin a b K) (hN : ∀ i, i < K → ¬ Fin a b i) : ∃ l, fd f a b (List.range K) = (l, 0) ∧ Made f a b l := by
  obtain ⟨⟨p, hp⟩, hlen⟩ := inv_all h0 ha hb K hN
  obtain ⟨hw, rt, s0, s1, now, has⟩ := hp
  have xa : (st a b K).1 = 2 * a.length := Nat.le_antisymm hw.la hK.1
  have xb : (st a b K).2 = 2 * b.length := Nat.le_antisymm hw.lb hK.2
  have ea : odd (st a b K).1 = false := by unfold odd; simp; omega
  have eb : odd (st a b K).2 = false := by unfold odd; simp; omega
  have hlen2 := (fd_open ha hb f (List.range K)).2.2
  rw [List.length_range] at hlen2
  rw [ea, eb, h0] at now
  have hbet : ∀ n, p ≤ n → hs a n = false ∧ hs b n = false := fun n hn => by
    by_cases h : n < 281474976710658
    · have h1 := hs_between ha _ n (hw.xa.imp id fun h => by omega) (by rw [xa, bd_past (Nat.le_refl _)]; exact h)
      have h2 := hs_between hb _ n (hw.xb.imp id fun h => by omega) (by rw [xb, bd_past (Nat.le_refl _)]; exact h)
      have e1 : decide ((st a b K).1 % 2 = 1) = false := ea
      have e2 : decide ((st a b K).2 % 2 = 1) = false := eb
      exact ⟨h1.trans e1, h2.trans e2⟩
    · exact ⟨hs_high ha (by omega), hs_high hb (by omega)⟩
  generalize fd f a b (List.range K) = s at *
  obtain ⟨l, c⟩ := s
  dsimp only at *
  have hc : c = 0 := by
    rcases Int.decEq c 0 with h | h
    · rw [decide_eq_true h] at now; cases now
    · exact h
  subst hc
  refine ⟨l, rfl, rt, fun n => ?_, by omega⟩
  by_cases h : n < p
  · rw [has n h]; simp
  · obtain ⟨h1, h2⟩ := hbet n (by omega)
    rw [h1, h2, h0, hs_past (s0 rfl) (by omega)]
theorem made_exists {f : Bool → Bool → Bool} (h0 : f false false = false) {a b : Rs} (ha : RtF 1 a) (hb : RtF 1 b) : ∃ l, Made f a b l := by
  obtain ⟨K, h1, h2, _⟩ := fin_exists ha hb
  obtain ⟨l, _, h⟩ := made_of h0 ha hb h1 h2
  exact ⟨l, h⟩
end Sq
end Go.Proofs.Ythamilolacfeoaa
