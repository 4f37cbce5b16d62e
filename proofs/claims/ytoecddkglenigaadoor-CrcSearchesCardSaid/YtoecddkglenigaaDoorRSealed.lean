/-
  Bytes as strings; the reference's Sealed.
-/
import Derived.Test.YtoecddkglenigaaDoorRSeal
import Derived.Test.YtoecddkglenigaaDoorCLinear
import Derived.Laws.BytesArg
import Derived.Deep.RegionWith
namespace Go.Proofs.YtoecddkglenigaaDoor
open Go.RowKit
set_option linter.unusedVariables false

/-- Bytes as a string. -/
def Str (xs : List Nat) : ByteArray := strOfNums (xs.map fun x : Nat => (x : Int))
theorem str_inj {xs ys : List Nat} (hx : ∀ y ∈ xs, y < 256) (hy : ∀ y ∈ ys, y < 256) (h : Str xs = Str ys) : xs = ys := by
  have h1 := congrArg (fun b : ByteArray => b.data.toList) h
  unfold Str at h1
  simp only [strOfNums_data, List.map_map] at h1
  clear h
  induction xs generalizing ys with
  | nil => cases ys with
    | nil => rfl
    | cons y ys => simp at h1
  | cons x xs ih => cases ys with
    | nil => simp at h1
    | cons y ys =>
      rw [List.map_cons, List.map_cons] at h1
      injection h1 with h2 h3
      have e := congrArg UInt8.toNat h2
      have hx' := hx x List.mem_cons_self
      have hy' := hy y List.mem_cons_self
      simp only [Function.comp, UInt8.toNat_ofNat', Int.toNat_natCast] at e
      rw [Nat.mod_eq_of_lt (by omega), Nat.mod_eq_of_lt (by omega)] at e
      rw [e, ih (fun z hz => hx z (List.mem_cons_of_mem _ hz)) (fun z hz => hy z (List.mem_cons_of_mem _ hz)) h3]
theorem str_beq (s t : ByteArray) : (s.toList == t.toList) = decide (s = t) := by
  by_cases h : s = t
  · subst h; simp
  · have h2 : s.toList ≠ t.toList := by
      intro e
      rw [ByteArray.toList_eq, ByteArray.toList_eq] at e
      apply h
      cases s with
      | mk a => cases t with
        | mk b => cases a with
          | mk a => cases b with
            | mk b => exact congrArg (fun l : List UInt8 => ByteArray.mk l.toArray) e
    rw [decide_eq_false h]
    simpa using h2
theorem conv_any {W : World} {B : Nat} {a : Option Addr} {n c : Nat} {xs : List Nat} (hS : Seen W B .u8 a xs) (hn : xs.length = n) (t : ByteArray) (ht : Str xs = t) :
    (convert 22 9 (.slice a n c)).run Tryd.prog W = .ok (.string t) W := by
  subst ht
  by_cases h0 : n = 0
  · obtain rfl : xs = [] := List.eq_nil_of_length_eq_zero (hn.trans h0)
    subst h0
    cases a with
    | none => exact run_convert_bytes_nil W 22 5 Tryd.underlying22 Tryd.underlying5 0 c 9 Tryd.underlying9
    | some ad =>
      have h := run_convert_bytes_back (P := Tryd.prog) W 22 9 5 ad c [] Tryd.underlying22 Tryd.underlying5 Tryd.underlying9 (fun j hj => by cases hj)
      exact h
  · obtain ⟨b, off, rfl, _, _⟩ := hS.at (i := 0) (by omega)
    refine run_convert_bytes_arg W 22 5 Tryd.underlying22 Tryd.underlying5 b off n c _ (by rw [List.length_map]; exact hn) (fun i hi => ?_) 9 Tryd.underlying9
    obtain ⟨b', off', e, _, hc⟩ := hS.at (i := i) (by omega)
    cases e
    rw [hc]
    congr 2
    rw [List.getD_eq_getElem?_getD, List.getElem?_map, List.getElem?_eq_getElem (by omega)]; rfl

namespace Crc
theorem le4_of : ∀ (zs : List Nat), zs.length = 4 → (∀ y ∈ zs, y < 256) → ∃ d, d < 2 ^ 32 ∧ le4 d = zs := by
  intro zs h hz
  match zs, h with
  | [a, b, c, e], _ =>
    have ha := hz a (by simp)
    have hb := hz b (by simp)
    have hc := hz c (by simp)
    have he := hz e (by simp)
    refine ⟨a + 256 * b + 65536 * c + 16777216 * e, by omega, ?_⟩
    unfold le4
    rw [show (a + 256 * b + 65536 * c + 16777216 * e) % 256 = a by omega, show (a + 256 * b + 65536 * c + 16777216 * e) / 256 % 256 = b by omega, show (a + 256 * b + 65536 * c + 16777216 * e) / 65536 % 256 = c by omega, show (a + 256 * b + 65536 * c + 16777216 * e) / 16777216 = e by omega]
theorem sealed_iff (xs : List Nat) (m : Nat) (hx : ∀ y ∈ xs, y < 256) (hm : xs.length = m + 4) : (xs.take m ++ le4 (upd 0 (xs.take m)) = xs) ↔ upd 0 xs = 558161692 := by
  have hy : ∀ y ∈ xs.take m, y < 256 := fun y h => hx y (List.mem_of_mem_take h)
  constructor
  · intro h
    rw [← h]
    exact sealed_sum _ hy
  · intro h
    obtain ⟨d, hd, hde⟩ := le4_of (xs.drop m) (by rw [List.length_drop]; omega) (fun y h => hx y (List.mem_of_mem_drop h))
    have e : xs = xs.take m ++ le4 d := by rw [hde, List.take_append_drop]
    have hs := sealed_sum _ hy
    have hul := upd_lt hy (c := 0) (by decide)
    rw [e] at h
    have hml : (xs.take m).length = m := by rw [List.length_take]; omega
    have htt : (xs.take m ++ le4 d).take m = xs.take m := by rw [List.take_append_of_le_length (by omega), List.take_of_length_le (by omega)]
    have h2 := h.trans hs.symm
    generalize xs.take m = ys at *
    have gen : ∀ e, upd 0 (ys ++ le4 e) = reg (reg 4294967295 ys) (le4 e) ^^^ 4294967295 := fun e => by
      unfold upd; rw [reg_append, Nat.zero_xor]
    rw [gen d, gen (upd 0 ys)] at h2
    rw [reg_le4 _ _ hd, reg_le4 _ _ hul] at h2
    have h3 := congrArg (· ^^^ 4294967295) h2
    simp only [Nat.xor_assoc, Nat.xor_self, Nat.xor_zero] at h3
    have hr := reg_lt (l := ys) hy (c := 4294967295) (by decide)
    have h4 := sts_inj 32 (Gf.xor_lt hr hd) (Gf.xor_lt hr hul) h3
    have h5 : d = upd 0 ys := by
      have := congrArg (reg 4294967295 ys ^^^ ·) h4
      simp only [← Nat.xor_assoc, Nat.xor_self, Nat.zero_xor] at this
      exact this
    rw [e, ← h5]
end Crc

set_option maxRecDepth 100000 in
set_option maxHeartbeats 1000000 in
theorem rsealed_any (a : Option Addr) (n cap : Nat) (xs : List Nat) (hxs : ∀ y ∈ xs, y < 256) (hn : xs.length = n) (hn5 : n ≤ 304) (hcap : n ≤ cap) (B : Nat) (w : World) (hS : Seen w B .u8 a xs) (hB : B ≤ w.heap.size) (r : Bool) (hr : decide (4 ≤ n ∧ Crc.upd 0 xs = 558161692) = r) :
    Calls Tryd.prog 40 #[.slice a n cap] w fun e w' => e = .returned (.bool r) ∧ Below w.heap.size w w' := by
  by_cases h4 : n < 4
  · have h4i : (n : Int) < 4 := by omega
    obtain rfl : r = false := by rw [← hr]; simp; omega
    go_enter Tryd.func40, Tryd.ntmps40
    go_wp2
    go_ret
    exact ⟨rfl, Below.refl _ _⟩
  · obtain ⟨m, hmn⟩ : ∃ m, n = m + 4 := ⟨n - 4, by omega⟩
    have hn' : xs.length = m + 4 := hn.trans hmn
    obtain ⟨b0, o0, rfl⟩ : ∃ b0 o0, a = some ⟨b0, o0, none⟩ := by obtain ⟨b0, o0, e, _, _⟩ := hS.at (i := 0) (by omega); exact ⟨b0, o0, e⟩
    have h4i : ¬ (n : Int) < 4 := by omega
    have h4b : decide ((n : Int) < 4) = false := by simp; omega
    have hmi : (n : Int) - 4 = (m : Int) := by omega
    have hwm : IntKind.i64.wrap ((n : Int) - 4) = (m : Int) := by rw [IntKind.wrap_i64]; omega
    have hm0 : (0 : Int) ≤ (m : Int) := by omega
    have hwm2 : IntKind.i64.wrap (m : Int) = (m : Int) := by rw [IntKind.wrap_i64]; omega
    have hm0n : ¬ (m : Int) < 0 := by omega
    have hmcn : ¬ (cap : Int) < (m : Int) := by omega
    have hcm : (m : Int) ≤ 304 := by omega
    have hmc : (m : Int) ≤ (cap : Int) := by omega
    have hmc2 : m ≤ cap := by omega
    have hm5 : (m : Int) ≤ 300 := by omega
    obtain ⟨t1, ht1⟩ : ∃ t, Str (xs.take m ++ Crc.le4 (Crc.upd 0 (xs.take m))) = t := ⟨_, rfl⟩
    obtain ⟨t2, ht2⟩ : ∃ t, Str xs = t := ⟨_, rfl⟩
    have HTL : Hid ((xs.take m).length = m) := by show _ = _; rw [List.length_take]; omega
    have HTB : Hid (∀ y ∈ xs.take m, y < 256) := fun y h => hxs y (List.mem_of_mem_take h)
    have HM5 : Hid (m ≤ 300) := by show _ ≤ _; omega
    have hSB : ∀ y ∈ xs.take m ++ Crc.le4 (Crc.upd 0 (xs.take m)), y < 256 := fun y hy => by
      rcases List.mem_append.1 hy with h | h
      · exact HTB.out y h
      · have hl := Crc.upd_lt HTB.out (c := 0) (by decide)
        unfold Crc.le4 at h
        simp at h
        omega
    have hdec : decide (t1 = t2) = r := by
      rw [← hr]
      refine decide_eq_decide.2 ?_
      rw [← ht1, ← ht2]
      constructor
      · intro h
        exact ⟨by omega, (Crc.sealed_iff xs m hxs hn').1 (str_inj hSB hxs h)⟩
      · intro h
        rw [(Crc.sealed_iff xs m hxs hn').2 h.2]
    have HLL : Hid ((xs.take m ++ Crc.le4 (Crc.upd 0 (xs.take m))).length = m + 4) := by show _ = _; rw [List.length_append, HTL.out]; rfl
    have HT1 := Lib.hid ht1
    have HT2 := Lib.hid ht2
    have HN := Lib.hid hn
    have HS : Hid (Seen w B .u8 (some ⟨b0, o0, none⟩) xs) := hS
    have HSM : Hid (Seen w B .u8 (some ⟨b0, o0, none⟩) (xs.take m)) := seen_take hS m
    have HB := Lib.hid hB
    clear hr ht1 ht2 hn hn' hS hB hSB h4 hn5 hcap hxs hmn
    go_enter Tryd.func40, Tryd.ntmps40
    go_wp2
    have hB0 : Below w.heap.size w w := Below.refl _ w
    have hBd : Below w.heap.size w w.drew := hB0.drew
    have hvD := conv_any (c := cap) (HS.out.below (hBd.mono HB.out)) HN.out t2 HT2.out
    go_region_with (first
      | (go_at_call 19; refine (rseal_any _ m _ (xs.take m) HTB.out HTL.out HM5.out B _ (HSM.out.below (hBd.mono HB.out)) (Nat.le_trans HB.out hBd.size)).mono ?_; rintro e w2 ⟨v2, rfl, hown2, hb2⟩; obtain ⟨A2, c2, rfl, hS2, _, _, _⟩ := own_slice hown2; have hv1 := conv_any (c := c2) hS2 HLL.out t1 HT1.out; have HB2 : Below w.heap.size w w2 := hBd.trans (hb2.mono hBd.size); have hv2 := conv_any (c := cap) (HS.out.below (HB2.mono HB.out)) HN.out t2 HT2.out))
    all_goals
      have hsb : (t1.toList == t2.toList) = r := (str_beq t1 t2).trans hdec
      rename_i hcont _ _ _
      refine hcont _ _ ?_
      go_wp2
      go_ret
      exact ⟨by rw [hsb]; rfl, HB2⟩

end Go.Proofs.YtoecddkglenigaaDoor
