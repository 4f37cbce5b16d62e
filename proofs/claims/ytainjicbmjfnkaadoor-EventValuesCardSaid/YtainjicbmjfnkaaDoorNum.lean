/-
  Words read as numbers.
-/
import Derived.Test.YtainjicbmjfnkaaDoorTextY
import Derived.Lib.SmallJoins
namespace Go.Proofs.YtainjicbmjfnkaaDoor
open Go.RowKit
set_option linter.unusedVariables false

/-- The two errors of strconv, as they lie in a world. -/
def Er (w : World) : Prop := (∃ v, w.cell? ⟨6, 0, none⟩ = some v ∧ (v = .nilIface ∨ ∃ te pe, v = .iface te pe)) ∧ ∃ v, w.cell? ⟨7, 0, none⟩ = some v ∧ (v = .nilIface ∨ ∃ te pe, v = .iface te pe)
theorem Er.below {w w' : World} (h : Er w) (hb : Below w.heap.size w w') : Er w' := by
  obtain ⟨⟨v, h1, h2⟩, ⟨u, h3, h4⟩⟩ := h
  exact ⟨⟨v, (hb.cell (Ev.cell_lt h1)).trans h1, h2⟩, ⟨u, (hb.cell (Ev.cell_lt h3)).trans h3, h4⟩⟩
namespace Ev
/-- The number that a word is, in any of its decimal forms. -/
def num (l : List UInt8) : Option Nat := match Lib.parseUintB 64 l with
  | .ok u => some u
  | _ => none
end Ev
theorem parse_ok (s : List UInt8) (hs : s.length ≤ 1000000) (u : Nat) (h : Ev.num s = some u) (w : World) : Calls Tryd.prog 75 #[.string (Ev.str s), .int .i64 10, .int .i64 64] w fun e w' => e = .returned (.tuple #[.int .u64 u, .nilIface]) ∧ Below w.heap.size w w' := by
  have h' : Lib.parseUintB 64 s = .ok u := by
    unfold Ev.num at h
    split at h
    · cases h; assumption
    · cases h
  refine (Tryd.strconv_ParseUint_10_at64_ok (Ev.str s) (by show s.toArray.size ≤ _; simp; omega) u (by exact h') w).mono ?_
  rintro e w' ⟨rfl, rfl | rfl⟩
  · exact ⟨rfl, Below.refl _ _⟩
  · exact ⟨rfl, Lib.bytesWorld_below _ _ _⟩
theorem num_end (e : Lib.NumEnd Nat) : (∃ u, e = .ok u) ∨ e = Lib.NumEnd.syntax ∨ e = .range := by cases e <;> simp
theorem parse_no (s : List UInt8) (hs : s.length ≤ 1000000) (h : Ev.num s = none) (w : World) (hE : Er w) : Calls Tryd.prog 75 #[.string (Ev.str s), .int .i64 10, .int .i64 64] w fun e w' => ∃ (u N t : Nat), e = .returned (.tuple #[.int .u64 u, .iface t (.pointer (some ⟨N, 0, none⟩))]) ∧ Below w.heap.size w w' := by
  have hsz : (Ev.str s).size ≤ 281474976710656 := by show s.toArray.size ≤ _; simp; omega
  obtain ⟨⟨v, h1, h2⟩, ⟨u, h3, h4⟩⟩ := hE
  unfold Ev.num at h
  split at h
  · cases h
  · rename_i hne
    rcases num_end (Lib.parseUintB 64 s) with ⟨u, hp⟩ | hp | hp
    · exact absurd hp (hne u)
    · refine (Tryd.strconv_ParseUint_10_at64_syntax (Ev.str s) hsz (by exact hp) v w h1 h2).mono ?_
      rintro e w' ⟨N, rfl, _, _, hb⟩
      exact ⟨0, N, _, rfl, hb⟩
    · refine (Tryd.strconv_ParseUint_10_at64_range (Ev.str s) hsz (by exact hp) u w h3 h4).mono ?_
      rintro e w' ⟨N, rfl, _, _, hb⟩
      exact ⟨18446744073709551615, N, _, rfl, hb⟩

/-- The texts of a row lie below B. -/
def SeenS (w : World) (B : Nat) (a : Option Addr) (ws : List (List UInt8)) : Prop := ∀ (i : Nat) (x : List UInt8), ws[i]? = some x → ∃ b off, a = some ⟨b, off, none⟩ ∧ b < B ∧ w.cell? ⟨b, off + i, none⟩ = some (.string (Ev.str x))
theorem SeenS.below {w w' : World} {B : Nat} {a : Option Addr} {ws : List (List UInt8)} (h : SeenS w B a ws) (hb : Below B w w') : SeenS w' B a ws := fun i x hx => by
  obtain ⟨b, off, e, hlt, hc⟩ := h i x hx
  exact ⟨b, off, e, hlt, (hb.cell (p := ⟨b, off + i, none⟩) hlt).trans hc⟩

set_option maxRecDepth 100000 in
set_option maxHeartbeats 2000000 in
theorem numbers_any (a : Option Addr) (n c : Nat) (ws : List (List UInt8)) (hn : ws.length = n) (hn9 : n ≤ 9) (hW : ∀ x ∈ ws, x.length ≤ 1000000) (us : List Nat) (kf : Nat) (hus : us.length = kf) (hkf : kf ≤ n)
    (hyes : ∀ (j : Nat) (x : List UInt8) (u : Nat), ws[j]? = some x → us[j]? = some u → Ev.num x = some u) (hno : ∀ x, ws[kf]? = some x → Ev.num x = none) (w : World) (hE : Er w) (hS : SeenS w w.heap.size a ws) :
    Calls Tryd.prog 62 #[.slice a n c] w fun e w' => ((kf = n ∧ ∃ a' c', e = .returned (.tuple #[.slice a' n c', .bool true]) ∧ w'.ownsRow w.heap.size 22 1 (.slice a' n c') n (us.map fun x : Nat => Value.int .u64 x)) ∨ (kf ≠ n ∧ e = .returned (.tuple #[.slice none 0 0, .bool false]))) ∧ Below w.heap.size w w' := by
  have HN := Lib.hid hn
  have HW := Lib.hid hW
  have HU := Lib.hid hus
  have HY := Lib.hid hyes
  have HNO := Lib.hid hno
  have HE := Lib.hid hE
  have HS := Lib.hid hS
  have HK := Lib.hid hkf
  have hn4 : (n : Int) ≤ 9 := by omega
  clear hn hW hus hyes hno hE hS hkf
  have HZ : Hid (Below w.heap.size w w) := Below.refl _ _
  have HR0 : Hid (w.ownsRow w.heap.size 22 1 (.slice none 0 0) 0 ((us.take 0).map fun x : Nat => Value.int .u64 x)) := World.ownsRow_nil _ _ _ _
  go_enter Tryd.func62, Tryd.ntmps62
  go_wp2
  go_loopw [4, 11] (fun s4 iv wr => ∃ (k : Nat) (b : Option Addr) (d : Nat), k ≤ kf ∧ s4 = .slice b k d ∧ iv = .int .i64 k ∧ Hid (wr.ownsRow w.heap.size 22 1 (.slice b k d) k ((us.take k).map fun x : Nat => Value.int .u64 x)) ∧ Hid (Below w.heap.size w wr)) (fun _ i _ => n - (intOf i).toNat)
  case atStart => exact ⟨0, none, 0, Nat.zero_le _, rfl, rfl, HR0, HZ⟩
  case round =>
    obtain ⟨k, b, d, hk, rfl, rfl, HRO, HBK⟩ := hrel
    have hkn9 : k ≤ n := Nat.le_trans hk HK.out
    by_cases hkn : k < n
    · obtain ⟨x, hx⟩ : ∃ x, ws[k]? = some x := ⟨_, List.getElem?_eq_getElem (by rw [HN.out]; exact hkn)⟩
      have HXL : Hid (x.length ≤ 1000000) := HW.out x (List.mem_of_getElem? hx)
      have HER := Lib.hid (HE.out.below HBK.out)
      obtain ⟨bf, of_, rfl, hbf, hcf⟩ := (HS.out.below HBK.out) k x hx
      have hki : (k : Int) < (n : Int) := by omega
      by_cases hkk : k < kf
      · obtain ⟨u, hu⟩ : ∃ u, us[k]? = some u := ⟨_, List.getElem?_eq_getElem (by rw [HU.out]; exact hkk)⟩
        have HNX : Hid (Ev.num x = some u) := HY.out k x u hx hu
        have HT : Hid (us.take (k + 1) = us.take k ++ [u]) := by
          show _ = _
          rw [List.take_add_one, hu]; rfl
        have HK6 : Hid (k ≤ 9) := by show _ ≤ _; omega
        have HKK := Lib.hid hkk
        clear hx hbf hk hu hkk hkn9
        go_wp2_with (first
          | (go_at_call 75; ((with_reducible refine (parse_ok x HXL.out u HNX.out wr).mono ?_); rintro e w4 ⟨rfl, hb⟩; have HB4 := Lib.hid (HBK.out.trans (hb.mono HBK.out.size)); have HO4 := Lib.hid (own_belowI HRO.out hb); clear hb))
          | (at_builtin; refine app_words _ rfl _ _ rfl w.heap.size k _ (us.take k) rfl (own_belowI HO4.out ((Below.refl _ w4).alloc (Nat.le_refl _) _)) _ 1 1 [u] rfl rfl _ (seen_one w4 u 22) (by have := HK6.out; omega) (HB4.out.alloc HB4.out.size _).size ?_; intro v5 w5 ho5 hb5; rw [← HT.out] at ho5; obtain ⟨a5, c5, rfl, ho5'⟩ := own_sliceW ho5; have HO5 := Lib.hid ho5'; have HB5 : Hid (Below w.heap.size w w5) := (HB4.out.alloc HB4.out.size _).trans (hb5.mono (Nat.le_refl _)); clear ho5 ho5' hb5))
        exact ⟨⟨k + 1, a5, c5, HKK.out, rfl, rfl, HO5, HB5⟩, by simp [intOf]; omega⟩
      · obtain rfl : kf = k := by omega
        have HNX : Hid (Ev.num x = none) := HNO.out x hx
        have HKN : Hid (kf ≠ n) := by show _ ≠ _; omega
        clear hx hbf hk hkk hkn9
        go_wp2_with (go_at_call 75; ((with_reducible refine (parse_no x HXL.out HNX.out wr HER.out).mono ?_); rintro e w4 ⟨u, N, t, rfl, hb⟩; have HB4 := Lib.hid (HBK.out.trans (hb.mono HBK.out.size)); clear hb))
        go_ret2
        exact ⟨.inr ⟨HKN.out, rfl⟩, HB4.out⟩
    · obtain rfl : n = k := by omega
      obtain rfl : n = kf := Nat.le_antisymm hk HK.out
      have HT : Hid (us.take n = us) := by show _ = _; rw [← HU.out, List.take_length]
      clear hk hkn hkn9
      go_wp2_with fail
      go_ret2
      exact ⟨⟨b, d, rfl, by have h := HRO.out; rw [HT.out] at h; exact h⟩, HBK.out⟩
end Go.Proofs.YtainjicbmjfnkaaDoor
