/-
  The reference's Of, and its polynomial of bytes.
-/
import Derived.Test.YtoecddkglenigaaDoorRSum
namespace Go.Proofs.YtoecddkglenigaaDoor
open Go.RowKit
set_option linter.unusedVariables false

theorem shr_bit (p i : Nat) : ((p : Int) / (2 : Int) ^ i).tmod 2 = ((p / 2 ^ i % 2 : Nat) : Int) := by
  rw [div_pow_cast]
  generalize p / 2 ^ i = u
  rw [Int.tmod_eq_emod_of_nonneg (by omega)]; omega

set_option maxRecDepth 100000 in
set_option maxHeartbeats 1000000 in
theorem of_any (p : Nat) (hp : p < 2 ^ 64) (w : World) :
    Calls Tryd.prog 61 #[.int .u64 p] w fun e w' => ∃ v n, e = .returned v ∧ Gf.len p = n ∧ w'.ownsRow w.heap.size 3 1 v n ((bq p n).map fun x : Nat => Value.int .i64 x) ∧ Below w.heap.size w w' := by
  obtain ⟨iI, hiI, zI0, zI1, zI2⟩ := info_parts infoI
  have HP := Lib.hid hp
  clear hp
  go_enter Tryd.func61, Tryd.ntmps61
  go_wp2
  go_loopw [3, 4] (fun pv iv wr => ∃ i : Nat, i ≤ 64 ∧ iv = .int .i64 i ∧ wr.ownsRow w.heap.size 3 1 pv i ((bq p i).map fun x : Nat => Value.int .i64 x) ∧ Below w.heap.size w wr) (fun _ i _ => 64 - (intOf i).toNat)
  case atStart => exact ⟨0, Nat.zero_le _, rfl, ⟨rfl, .inl ⟨rfl, rfl⟩⟩, Below.refl _ _⟩
  case round =>
    obtain ⟨i, hi, rfl, hrow, hbel⟩ := hrel
    have HROW := Lib.hid hrow
    have HBE := Lib.hid hbel
    clear hrow hbel
    by_cases hi3 : i < 64
    · have hsb := shr_bit p i
      obtain ⟨u, hu⟩ : ∃ u, p / 2 ^ i % 2 = u := ⟨_, rfl⟩
      have HBQ : Hid (bq p (i + 1) = bq p i ++ [u]) := by show _ = _; rw [bq_succ, hu]
      rw [hu] at hsb
      have hwu : IntKind.i64.wrap (u : Int) = (u : Int) := by rw [IntKind.wrap_i64]; omega
      have hu2 : (u : Int) ≤ 1 := by omega
      clear hu
      go_wp2_with (at_builtin; refine wpList_append_own _ rfl _ _ 86 rfl w.heap.size 3 iI (.int .i64 0) 1 8 Tryd.underlying86 hiI zI0 zI1 zI2 rfl (by decide) _ _ _ rfl (HROW.out.alloc _) ⟨wr.heap.size, 0, none⟩ 1 1 [.int .i64 u] rfl rfl (cell_one_new _ _ _) (by simp [Value.oneCell']) (by unfold maxLen; omega) (by omega) (by have := HBE.out.size; simp; omega) ?_; intro v6 w6 hown6 hgrow6 _)
      exact ⟨⟨i + 1, hi3, rfl, by rw [HBQ.out, List.map_append]; exact hown6, (HBE.out.alloc HBE.out.size _).grown hgrow6 (by have := HBE.out.size; simp; omega) (fun j ej => (HROW.out.lt j ej).1)⟩, by simp [intOf]; omega⟩
    · have he : i = 64 := by omega
      have hrow := HROW.out
      rw [he] at hrow
      obtain ⟨g, cap, rfl⟩ := own_form hrow (by decide)
      have HR : Hid (wr.ownsRow w.heap.size 3 1 (.slice (some ⟨g, 0, none⟩) 64 cap) 64 ((bq p 64).map fun x : Nat => Value.int .i64 x)) := hrow
      have hi4 : 64 ≤ i := by omega
      clear hrow he hi3
      go_wp2_with (go_at_call 79; ((with_reducible refine (trim_any _ g 64 cap p HP.out (by decide) _ HR.out).mono ?_); rintro e w1 ⟨rfl, rfl⟩))
      go_ret
      refine ⟨_, _, rfl, rfl, ?_, HBE.out⟩
      have hl : Gf.len p ≤ 64 := Gf.len_le.2 HP.out
      have h := own_take HR.out hl
      rw [← List.map_take, bq_take p 64 _ hl] at h
      exact h

end Go.Proofs.YtoecddkglenigaaDoor
