/-
  No three powers of x are nothing together: what follows.
-/
import Derived.Test.YtoecddkglenigaaDoorTri
namespace Go.Proofs.YtoecddkglenigaaDoor.Crc
set_option linter.unusedVariables false

theorem nodup_at {l : List Nat} (hn : l.Nodup) {d e v : Nat} (h1 : l[d]? = some v) (h2 : l[e]? = some v) : d = e := by
  obtain ⟨hl, h1⟩ := List.getElem?_eq_some_iff.1 h1
  obtain ⟨hl2, h2⟩ := List.getElem?_eq_some_iff.1 h2
  rw [List.Nodup, List.pairwise_iff_getElem] at hn
  rcases Nat.lt_trichotomy d e with h | h | h
  · exact absurd (h1.trans h2.symm) (hn d e hl hl2 h)
  · exact h
  · exact absurd (h2.trans h1.symm) (hn e d hl2 hl h)
theorem half_inj {d e : Nat} (hd : d < 32768) (he : e < 32768) (h : sts d 1 / 2 = sts e 1 / 2) : d = e := by
  have h1 := gen_at 32768 1 d hd
  have h2 := gen_at 32768 1 e he
  rw [← h] at h2
  exact nodup_at gen_nodup h1 h2
/-- Three different powers. -/
theorem three_ne {d e : Nat} (hd : 1 ≤ d) (hde : d < e) (he : e < 32768) : 1 ^^^ sts d 1 ^^^ sts e 1 ≠ 0 := by
  intro h
  have h1 : sts e 1 = 1 ^^^ sts d 1 := (Gf.xor_eq_zero h).symm
  have h2 : sts e 1 / 2 = sts d 1 / 2 := by
    rw [h1, Gf.xor_div2]
    show 0 ^^^ _ = _
    rw [Nat.zero_xor]
  have := half_inj he (by omega) h2
  omega
theorem parts3_ne {n a b c : Nat} (hn : n ≤ 4096) (ha : a < 8 * n) (hb : b < 8 * n) (hc : c < 8 * n) (hab : a ≠ b) (hac : a ≠ c) (hbc : b ≠ c) : part n a ^^^ part n b ^^^ part n c ≠ 0 := by
  have key : ∀ a b c : Nat, a < b → b < c → c < 8 * n → part n a ^^^ part n b ^^^ part n c ≠ 0 := by
    intro a b c h1 h2 h3
    unfold part
    rw [show 8 * n - a = (8 * n - c) + (c - a) by omega, show 8 * n - b = (8 * n - c) + (c - b) by omega, sts_add, sts_add, ← sts_xor, ← sts_xor]
    refine sts_ne _ (Gf.xor_lt (Gf.xor_lt (sts_lt _ (by decide)) (sts_lt _ (by decide))) (by decide)) ?_
    have := three_ne (d := c - b) (e := c - a) (by omega) (by omega) (by omega)
    rw [Nat.xor_comm (sts (c - a) 1), Nat.xor_assoc, Nat.xor_comm (sts (c - a) 1), ← Nat.xor_assoc, Nat.xor_comm (sts (c - b) 1)]
    exact this
  rcases Nat.lt_or_gt_of_ne hab with h1 | h1 <;> rcases Nat.lt_or_gt_of_ne hac with h2 | h2 <;> rcases Nat.lt_or_gt_of_ne hbc with h3 | h3
  · exact key a b c h1 h3 hc
  · have := key a c b h2 h3 hb
    intro e; apply this; rw [← e]; ac_rfl
  · omega
  · have := key c a b h2 h1 hb
    intro e; apply this; rw [← e]; ac_rfl
  · have := key b a c h1 h2 hc
    intro e; apply this; rw [← e]; ac_rfl
  · omega
  · have := key b c a h3 h2 ha
    intro e; apply this; rw [← e]; ac_rfl
  · have := key c b a h3 h1 ha
    intro e; apply this; rw [← e]; ac_rfl

end Go.Proofs.YtoecddkglenigaaDoor.Crc
