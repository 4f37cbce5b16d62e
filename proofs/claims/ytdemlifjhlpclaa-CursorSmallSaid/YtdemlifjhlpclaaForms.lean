/-
  Plain mathematics: to read a form, and to compare forms.
-/
import Derived.Test.YtdemlifjhlpclaaMath
import Derived.Test.YtdemlifjhlpclaaReadSpec
namespace Go.Proofs.Ytdemlifjhlpclaa.Vi

theorem p9 : (128 : Nat) ^ 9 = 9223372036854775808 := by decide
theorem pow_le8 {i : Nat} (h : i ≤ 8) : (128 : Nat) ^ i ≤ 72057594037927936 := by
  have := Nat.pow_le_pow_right (n := 128) (by decide) h
  have h8 : (128 : Nat) ^ 8 = 72057594037927936 := by decide
  omega
theorem pow_pos' (i : Nat) : 0 < (128 : Nat) ^ i := Nat.pow_pos (by decide)

/-- What is written is read back, whatever follows. -/
theorem rd_form (y : Nat) : ∀ (i x : Nat) (t : List Nat), i ≤ 9 → x + y * 128 ^ i < 2 ^ 64 → (i ≠ 0 → y ≠ 0) → rd (form y ++ t) i x = (x + y * 128 ^ i, i + (form y).length, 0) := by
  induction y using Nat.strongRecOn with
  | _ y ih =>
    intro i x t hi hb h0
    have hp := pow_pos' i
    have h9 : i = 9 → y ≤ 1 := by
      intro h; subst h; rw [p9] at hb; omega
    by_cases hy : y < 128
    · rw [form_small hy]
      simp only [List.cons_append, List.nil_append, List.length_cons, List.length_nil, Nat.zero_add]
      rw [rd, if_neg (by omega), if_neg (by omega), if_pos hy, Nat.mod_eq_of_lt hy]
    · have hi8 : i ≤ 8 := by omega
      rw [form_big (by omega)]
      simp only [List.cons_append, List.length_cons]
      rw [rd, if_neg (by omega), if_neg (by omega), if_neg (by omega)]
      have e1 : (y % 128 + 128) % 128 = y % 128 := by omega
      have e2 : y % 128 * 128 ^ i + y / 128 * 128 ^ (i + 1) = y * 128 ^ i := by
        rw [Nat.pow_succ, Nat.mul_comm (128 ^ i) 128, ← Nat.mul_assoc, ← Nat.add_mul]
        congr 1; omega
      rw [e1, ih (y / 128) (by omega) (i + 1) _ t (by omega) (by omega) (by omega)]
      simp only [Prod.mk.injEq, and_true]
      constructor <;> omega
theorem read_form (x : Nat) (hx : x < 2 ^ 64) (t : List Nat) : read (form x ++ t) = (x, (form x).length, 0) := by
  unfold read
  rw [rd_form x 0 0 t (by omega) (by omega) (by omega)]
  simp

/-- A form that is cut ends inside a number. -/
theorem rd_cut (y : Nat) : ∀ (i x k : Nat), i ≤ 9 → x + y * 128 ^ i < 2 ^ 64 → k < (form y).length → rd ((form y).take k) i x = (0, 0, 10) := by
  induction y using Nat.strongRecOn with
  | _ y ih =>
    intro i x k hi hb hk
    have hp := pow_pos' i
    cases k with
    | zero => rfl
    | succ k =>
      by_cases hy : y < 128
      · rw [form_small hy] at hk; simp at hk
      · have h9 : i = 9 → y ≤ 1 := by
          intro h; subst h; rw [p9] at hb; omega
        rw [form_big (by omega)] at hk ⊢
        simp only [List.take_succ_cons, List.length_cons] at hk ⊢
        rw [rd, if_neg (by omega), if_neg (by omega), if_neg (by omega)]
        have e2 : y % 128 * 128 ^ i + y / 128 * 128 ^ (i + 1) = y * 128 ^ i := by
          rw [Nat.pow_succ, Nat.mul_comm (128 ^ i) 128, ← Nat.mul_assoc, ← Nat.add_mul]
          congr 1; omega
        have e1 : (y % 128 + 128) % 128 = y % 128 := by omega
        rw [e1]
        exact ih (y / 128) (by omega) (i + 1) _ k (by omega) (by omega) (by omega)
theorem read_cut (x k : Nat) (hx : x < 2 ^ 64) (hk : k < (form x).length) : read ((form x).take k) = (0, 0, 10) := rd_cut x 0 0 k (by omega) (by omega) hk

/-- What is read is what would be written. -/
theorem rd_back : ∀ (bs : List Nat) (i x z m : Nat), (∀ c ∈ bs, c < 256) → i ≤ 9 → x < 128 ^ i → rd bs i x = (z, m, 0) →
    ∃ y, z = x + y * 128 ^ i ∧ form y = bs.take (m - i) ∧ i < m ∧ m - i ≤ bs.length ∧ (i ≠ 0 → y ≠ 0) ∧ z < 2 ^ 64 := by
  intro bs
  induction bs with
  | nil => intro i x z m _ _ _ h; simp [rd] at h
  | cons c r ih =>
    intro i x z m hc hi hx h
    have hc0 := hc c (by simp)
    rw [rd] at h
    by_cases h1 : i = 9 ∧ 1 < c
    · rw [if_pos h1] at h; simp at h
    rw [if_neg h1] at h
    by_cases h2 : i ≠ 0 ∧ c = 0
    · rw [if_pos h2] at h; simp at h
    rw [if_neg h2] at h
    by_cases h3 : c < 128
    · rw [if_pos h3] at h
      simp only [Prod.mk.injEq, and_true] at h
      obtain ⟨rfl, rfl⟩ := h
      refine ⟨c, by rw [Nat.mod_eq_of_lt h3], ?_, by omega, by simp, by omega, ?_⟩
      · rw [form_small h3, Nat.add_sub_cancel_left]; rfl
      · rw [Nat.mod_eq_of_lt h3]
        by_cases h9 : i = 9
        · subst h9; rw [p9] at hx ⊢; omega
        · have := pow_le8 (i := i) (by omega)
          have h4 : c * 128 ^ i ≤ 127 * 72057594037927936 := Nat.mul_le_mul (by omega) this
          omega
    · rw [if_neg h3] at h
      have hi8 : i ≤ 8 := by omega
      have hg := grow (y := c) hx
      obtain ⟨y, hz, hf, hm, hl, hn, hb⟩ := ih (i + 1) _ z m (fun d hd => hc d (by simp [hd])) (by omega) hg h
      have hy : y ≠ 0 := hn (by omega)
      have e2 : c % 128 * 128 ^ i + y * 128 ^ (i + 1) = (y * 128 + c % 128) * 128 ^ i := by
        rw [Nat.pow_succ, Nat.mul_comm (128 ^ i) 128, ← Nat.mul_assoc, ← Nat.add_mul]
        congr 1; omega
      refine ⟨y * 128 + c % 128, by rw [hz]; omega, ?_, by omega, by simp; omega, by omega, hb⟩
      rw [form_big (by omega), show m - i = (m - (i + 1)) + 1 from by omega, List.take_succ_cons, ← hf]
      congr 1
      · omega
      · congr 1; omega
theorem read_back {bs : List Nat} {z m : Nat} (hc : ∀ c ∈ bs, c < 256) (h : read bs = (z, m, 0)) : z < 2 ^ 64 ∧ form z = bs.take m ∧ 0 < m ∧ m ≤ bs.length := by
  obtain ⟨y, hz, hf, hm, hl, _, hb⟩ := rd_back bs 0 0 z m hc (by omega) (by simp) h
  simp at hz
  subst hz
  exact ⟨hb, by simpa using hf, hm, by simpa using hl⟩

/-- With an error the others are 0. -/
theorem rd_err : ∀ (bs : List Nat) (i x : Nat), (rd bs i x).2.2 ≠ 0 → (rd bs i x).1 = 0 ∧ (rd bs i x).2.1 = 0 ∧ ((rd bs i x).2.2 = 10 ∨ (rd bs i x).2.2 = 11 ∨ (rd bs i x).2.2 = 12) := by
  intro bs
  induction bs with
  | nil => intro i x h; simp [rd]
  | cons c r ih =>
    intro i x
    rw [rd]
    split
    · intro h; simp
    · split
      · intro h; simp
      · split
        · intro h; simp at h
        · exact ih _ _

/-- Forms, one as the other's beginning; their lengths; their order. -/
theorem form_inj {x y : Nat} (hx : x < 2 ^ 64) (hy : y < 2 ^ 64) (h : form x = form y) : x = y := by
  have a := read_form x hx []
  have b := read_form y hy []
  rw [h, b] at a
  simp at a
  exact a.symm
theorem form_prefix {x y : Nat} (hx : x < 2 ^ 64) (hy : y < 2 ^ 64) (h : form x = (form y).take (form x).length) : x = y := by
  have a := read_form x hx ((form y).drop (form x).length)
  have b := read_form y hy []
  have e : form x ++ (form y).drop (form x).length = form y ++ [] := by
    rw [List.append_nil]; conv => lhs; lhs; rw [h]
    exact List.take_append_drop _ _
  rw [e, b] at a
  simp at a
  exact a.1.symm
theorem form_mono : ∀ (x y : Nat), x ≤ y → (form x).length ≤ (form y).length := by
  intro x
  induction x using Nat.strongRecOn with
  | _ x ih =>
    intro y h
    by_cases hx : x < 128
    · rw [form_small hx]; exact form_pos y
    · rw [form_big (x := x) (by omega), form_big (x := y) (by omega)]
      simp only [List.length_cons]
      have := ih (x / 128) (by omega) (y / 128) (by omega)
      omega
theorem form_order : ∀ (x y : Nat), x < 2 ^ 64 → y < 2 ^ 64 → (form x).length = (form y).length → ∀ (k u v : Nat), (form x)[k]? = some u → (form y)[k]? = some v → (k = 0 ∨ u ≠ v) → (∀ j, k < j → (form x)[j]? = (form y)[j]?) → ((u < v) ↔ (x < y)) := by
  intro x
  induction x using Nat.strongRecOn with
  | _ x ih =>
    intro y hx64 hy64 hl k u v hu hv hk hj
    by_cases hx : x < 128
    · by_cases hy : y < 128
      · rw [form_small hx] at hu; rw [form_small hy] at hv
        cases k with
        | zero => simp at hu hv; omega
        | succ k => simp at hu
      · have := form_pos (y / 128); rw [form_small hx, form_big (x := y) (by omega)] at hl; simp only [List.length_cons, List.length_nil] at hl; omega
    · by_cases hy : y < 128
      · have := form_pos (x / 128); rw [form_small hy, form_big (x := x) (by omega)] at hl; simp only [List.length_cons, List.length_nil] at hl; omega
      · rw [form_big (by omega)] at hu hl
        rw [form_big (by omega)] at hv
        rw [form_big (x := y) (by omega)] at hl
        simp only [List.length_cons, Nat.add_right_cancel_iff] at hl
        cases k with
        | zero =>
          simp at hu hv
          have : form (x / 128) = form (y / 128) := by
            apply List.ext_getElem?
            intro j
            have := hj (j + 1) (by omega)
            rw [form_big (x := x) (by omega), form_big (x := y) (by omega)] at this
            simpa using this
          have := form_inj (by omega) (by omega) this
          omega
        | succ k =>
          simp only [List.getElem?_cons_succ] at hu hv
          have := ih (x / 128) (by omega) (y / 128) (by omega) (by omega) hl k u v hu hv (by omega) (fun j hjk => by
            have := hj (j + 1) (by omega)
            rw [form_big (x := x) (by omega), form_big (x := y) (by omega)] at this
            simpa using this)
          have hne : x / 128 ≠ y / 128 := by
            intro e; rw [e] at hu; rw [hu] at hv; simp at hv; omega
          rw [this]; omega
theorem form_byte (x : Nat) : ∀ c ∈ form x, c < 256 := by
  intro c hc
  simp only [form, List.mem_map] at hc
  obtain ⟨p, hp, rfl⟩ := hc
  have := grp_mem x p hp
  unfold byt; split <;> omega

end Go.Proofs.Ytdemlifjhlpclaa.Vi
