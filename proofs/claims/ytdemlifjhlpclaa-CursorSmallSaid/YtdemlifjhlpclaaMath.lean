/-
  Plain mathematics of the numbers of seven bits a byte. Nothing here speaks of the program.
-/
namespace Go.Proofs.Ytdemlifjhlpclaa.Vi

/-- The groups of seven bits of a number, the lowest first, and whether each is the last one. -/
def grp (x : Nat) : List (Nat × Bool) := if x < 128 then [(x, true)] else (x % 128, false) :: grp (x / 128)
termination_by x
decreasing_by omega

theorem grp_small {x : Nat} (h : x < 128) : grp x = [(x, true)] := by rw [grp, if_pos h]
theorem grp_big {x : Nat} (h : 128 ≤ x) : grp x = (x % 128, false) :: grp (x / 128) := by rw [grp, if_neg (by omega)]
theorem grp_pos (x : Nat) : 0 < (grp x).length := by rw [grp]; split <;> simp
theorem grp_len (k x : Nat) (h : x < 128 ^ (k + 1)) : (grp x).length ≤ k + 1 := by
  induction k generalizing x with
  | zero => rw [grp_small (by simpa using h)]; simp
  | succ k ih =>
    by_cases hx : x < 128
    · rw [grp_small hx]; simp
    · rw [grp_big (by omega)]
      have := ih (x / 128) (by rw [Nat.pow_succ] at h; omega)
      simp; omega
theorem grp_len10 (x : Nat) (h : x < 2 ^ 64) : (grp x).length ≤ 10 :=
  grp_len 9 x (Nat.lt_of_lt_of_le h (by decide))

/-- The byte of a group. -/
def byt (p : Nat × Bool) : Nat := if p.2 then p.1 else p.1 + 128
/-- The form of a number. -/
def form (x : Nat) : List Nat := (grp x).map byt
theorem form_len (x : Nat) : (form x).length = (grp x).length := by simp [form]
theorem form_pos (x : Nat) : 0 < (form x).length := by rw [form_len]; exact grp_pos x
theorem form_len10 (x : Nat) (h : x < 2 ^ 64) : (form x).length ≤ 10 := by rw [form_len]; exact grp_len10 x h
theorem form_small {x : Nat} (h : x < 128) : form x = [x] := by simp [form, grp_small h, byt]
theorem form_big {x : Nat} (h : 128 ≤ x) : form x = (x % 128 + 128) :: form (x / 128) := by simp [form, grp_big h, byt]
theorem grp_mem (x : Nat) : ∀ p ∈ grp x, p.1 < 128 := by
  induction x using Nat.strongRecOn with
  | _ x ih =>
    intro p hp
    by_cases h : x < 128
    · rw [grp_small h] at hp; simp at hp; subst hp; exact h
    · rw [grp_big (by omega)] at hp
      rcases List.mem_cons.1 hp with rfl | hp
      · exact Nat.mod_lt _ (by decide)
      · exact ih (x / 128) (by omega) p hp
/-- The forms of some numbers, one after the other. -/
def forms (l : List Nat) : List Nat := (l.map form).flatten
def sizes (l : List Nat) : Nat := (l.map fun x => (grp x).length).sum
theorem forms_len (l : List Nat) : (forms l).length = sizes l := by simp [forms, sizes, List.length_flatten, Function.comp_def, form_len]
theorem forms_nil : forms [] = [] := rfl
theorem forms_cons (x : Nat) (l : List Nat) : forms (x :: l) = form x ++ forms l := by simp [forms]
theorem forms_append (l k : List Nat) : forms (l ++ k) = forms l ++ forms k := by simp [forms]
theorem forms_one (x : Nat) : forms [x] = form x := by simp [forms]
theorem take_snoc (l : List Nat) (k : Nat) (h : k < l.length) : l.take (k + 1) = l.take k ++ [l[k]] := by
  rw [List.take_succ_eq_append_getElem h]
theorem sizes_snoc (l : List Nat) (x : Nat) : sizes (l ++ [x]) = sizes l + (grp x).length := by simp [sizes]
theorem sizes_le (l : List Nat) (h : ∀ x ∈ l, x < 2 ^ 64) : sizes l ≤ l.length * 10 := by
  induction l with
  | nil => simp [sizes]
  | cons x l ih =>
    have h1 := grp_len10 x (h x (by simp))
    have h2 := ih (fun y hy => h y (by simp [hy]))
    simp only [sizes, List.map_cons, List.sum_cons, List.length_cons] at h2 ⊢
    omega
theorem sizes_take_le (l : List Nat) (k : Nat) (h : ∀ x ∈ l, x < 2 ^ 64) (hk : k ≤ l.length) : sizes (l.take k) ≤ k * 10 := by
  have := sizes_le (l.take k) (fun x hx => h x (List.mem_of_mem_take hx))
  rw [List.length_take, Nat.min_eq_left hk] at this
  exact this

end Go.Proofs.Ytdemlifjhlpclaa.Vi
