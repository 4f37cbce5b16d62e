/-
  Plain mathematics: to read forms one after the other.
-/
import Derived.Test.YthcagiamieeggaaForms
namespace Go.Proofs.Ythcagiamieeggaa.Vi

def ra : Nat → List Nat → List Nat × Int
  | 0, _ => ([], 0)
  | _ + 1, [] => ([], 0)
  | f + 1, c :: r => if (read (c :: r)).2.2 = 0 then (if (ra f ((c :: r).drop (read (c :: r)).2.1)).2 = 0 then ((read (c :: r)).1 :: (ra f ((c :: r).drop (read (c :: r)).2.1)).1, 0) else ([], (ra f ((c :: r).drop (read (c :: r)).2.1)).2)) else ([], (read (c :: r)).2.2)
def comb (acc : List Nat) (q : List Nat × Int) : List Nat × Int := if q.2 = 0 then (acc ++ q.1, 0) else ([], q.2)
theorem comb_nil {q : List Nat × Int} (h : q.2 ≠ 0 → q.1 = []) : comb [] q = q := by
  unfold comb; obtain ⟨l, e⟩ := q; by_cases he : e = 0
  · simp [he]
  · simp [he]; exact h he
theorem ra_err : ∀ (f : Nat) (bs : List Nat), (ra f bs).2 ≠ 0 → (ra f bs).1 = [] := by
  intro f bs
  cases f with
  | zero => simp [ra]
  | succ f =>
    cases bs with
    | nil => simp [ra]
    | cons c r => rw [ra]; split <;> (try split) <;> simp
theorem ra_nil (f : Nat) : ra f [] = ([], 0) := by cases f <;> rfl
theorem ra_bad {f : Nat} {bs : List Nat} {r : Nat × Nat × Int} (hf : bs.length ≤ f) (h0 : bs ≠ []) (hr : read bs = r) (he : r.2.2 ≠ 0) : ra f bs = ([], r.2.2) := by
  subst hr
  cases f with
  | zero => exact absurd (List.eq_nil_of_length_eq_zero (by omega)) h0
  | succ f => cases bs with
    | nil => exact absurd rfl h0
    | cons c r => rw [ra, if_neg he]
theorem ra_good {f : Nat} {bs : List Nat} {x m : Nat} (acc : List Nat) (hf : bs.length ≤ f) (h0 : bs ≠ []) (hr : read bs = (x, m, 0)) : comb acc (ra f bs) = comb (acc ++ [x]) (ra (f - 1) (bs.drop m)) := by
  cases f with
  | zero => exact absurd (List.eq_nil_of_length_eq_zero (by omega)) h0
  | succ f => cases bs with
    | nil => exact absurd rfl h0
    | cons c r =>
      rw [ra, hr]
      simp only [if_true, Nat.add_sub_cancel]
      unfold comb
      by_cases h : (ra f ((c :: r).drop m)).2 = 0
      · simp [h]
      · simp [h]
/-- More steps than there are bytes change nothing. -/
theorem ra_more : ∀ (f g : Nat) (bs : List Nat), (∀ c ∈ bs, c < 256) → bs.length ≤ f → bs.length ≤ g → ra f bs = ra g bs := by
  intro f
  induction f with
  | zero => intro g bs _ h _; have : bs = [] := List.eq_nil_of_length_eq_zero (by omega); subst this; rw [ra_nil, ra_nil]
  | succ f ih =>
    intro g bs hc hf hg
    cases bs with
    | nil => rw [ra_nil, ra_nil]
    | cons c r =>
      cases g with
      | zero => simp at hg
      | succ g =>
        rw [ra, ra]
        by_cases h : (read (c :: r)).2.2 = 0
        · rw [if_pos h, if_pos h]
          have hb := read_back (z := (read (c :: r)).1) (m := (read (c :: r)).2.1) hc (by rw [← h])
          rw [ih g ((c :: r).drop (read (c :: r)).2.1) (fun d hd => hc d (List.mem_of_mem_drop hd)) (by rw [List.length_drop]; omega) (by rw [List.length_drop]; omega)]
        · rw [if_neg h, if_neg h]
def readAll (bs : List Nat) : List Nat × Int := ra bs.length bs

/-- What is read is written as the same bytes. -/
theorem ra_back : ∀ (f : Nat) (bs : List Nat), (∀ c ∈ bs, c < 256) → bs.length ≤ f → (ra f bs).2 = 0 → forms (ra f bs).1 = bs ∧ (∀ x ∈ (ra f bs).1, x < 2 ^ 64) ∧ (ra f bs).1.length ≤ bs.length := by
  intro f
  induction f with
  | zero => intro bs _ h _; have : bs = [] := List.eq_nil_of_length_eq_zero (by omega); subst this; simp [ra, forms]
  | succ f ih =>
    intro bs hc hf
    cases bs with
    | nil => simp [ra, forms]
    | cons c r =>
      rw [ra]
      by_cases h : (read (c :: r)).2.2 = 0
      · rw [if_pos h]
        have hb := read_back (z := (read (c :: r)).1) (m := (read (c :: r)).2.1) hc (by rw [← h])
        by_cases h2 : (ra f ((c :: r).drop (read (c :: r)).2.1)).2 = 0
        · rw [if_pos h2]
          intro _
          have := ih _ (fun d hd => hc d (List.mem_of_mem_drop hd)) (by rw [List.length_drop]; omega) h2
          refine ⟨?_, ?_, ?_⟩
          · rw [forms_cons, this.1, hb.2.1]; exact List.take_append_drop _ _
          · intro x hx
            rcases List.mem_cons.1 hx with rfl | hx
            · exact hb.1
            · exact this.2.1 x hx
          · have h3 := this.2.2
            rw [List.length_drop] at h3
            simp only [List.length_cons] at h3 hb ⊢
            omega
        · rw [if_neg h2]; intro h3; exact absurd h3 h2
      · rw [if_neg h]; intro h3; exact absurd h3 h
/-- What is written is read back; behind it comes what follows. -/
theorem ra_forms : ∀ (l : List Nat) (f : Nat) (t acc : List Nat), (∀ x ∈ l, x < 2 ^ 64) → (forms l ++ t).length ≤ f → ∃ g, t.length ≤ g ∧ comb acc (ra f (forms l ++ t)) = comb (acc ++ l) (ra g t) := by
  intro l
  induction l with
  | nil => intro f t acc _ hf; exact ⟨f, by simpa [forms] using hf, by simp [forms]⟩
  | cons x l ih =>
    intro f t acc hx hf
    have hr := read_form x (hx x (by simp)) (forms l ++ t)
    rw [forms_cons, List.append_assoc] at hf ⊢
    have hp := form_pos x
    have h0 : form x ++ (forms l ++ t) ≠ [] := by intro h; have := congrArg List.length h; rw [List.length_append] at this; simp only [List.length_nil] at this; omega
    rw [ra_good acc hf h0 hr, List.drop_left]
    have hf2 : (forms l ++ t).length ≤ f - 1 := by
      have : (form x ++ (forms l ++ t)).length = (form x).length + (forms l ++ t).length := List.length_append
      omega
    obtain ⟨g, hg, h⟩ := ih (f - 1) t (acc ++ [x]) (fun y hy => hx y (by simp [hy])) hf2
    exact ⟨g, hg, by rw [h]; simp⟩
theorem readAll_forms (l : List Nat) (hl : ∀ x ∈ l, x < 2 ^ 64) : readAll (forms l) = (l, 0) := by
  obtain ⟨g, _, h⟩ := ra_forms l (forms l).length [] [] hl (by simp)
  rw [List.append_nil, comb_nil (ra_err _ _), ra_nil] at h
  rw [readAll, h]; simp [comb]
theorem readAll_wrong (l t : List Nat) (hl : ∀ x ∈ l, x < 2 ^ 64) (h0 : t ≠ []) {r : Nat × Nat × Int} (hr : read t = r) (he : r.2.2 ≠ 0) : readAll (forms l ++ t) = ([], r.2.2) := by
  obtain ⟨g, hg, h⟩ := ra_forms l (forms l ++ t).length t [] hl (Nat.le_refl _)
  rw [comb_nil (ra_err _ _), ra_bad hg h0 hr he] at h
  rw [readAll, h]; simp [comb, he]
theorem readAll_back {bs : List Nat} (hc : ∀ c ∈ bs, c < 256) (h : (readAll bs).2 = 0) : forms (readAll bs).1 = bs ∧ (∀ x ∈ (readAll bs).1, x < 2 ^ 64) ∧ (readAll bs).1.length ≤ bs.length := ra_back _ _ hc (Nat.le_refl _) h
theorem forms_byte (l : List Nat) : ∀ c ∈ forms l, c < 256 := by
  intro c hc
  simp only [forms, List.mem_flatten, List.mem_map] at hc
  obtain ⟨_, ⟨x, _, rfl⟩, h⟩ := hc
  exact form_byte x c h

end Go.Proofs.Ythcagiamieeggaa.Vi
