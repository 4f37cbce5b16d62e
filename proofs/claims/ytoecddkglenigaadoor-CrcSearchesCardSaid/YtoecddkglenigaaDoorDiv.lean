/-
  Degree, Div, mod, timesX.
-/
import Derived.Test.YtoecddkglenigaaDoorLen
import Derived.Lib.Hide
import Derived.WalkKit
import Derived.ProofKit
import Derived.OpenShut
import Derived.IntWalk
import Derived.Below
import Derived.Laws.BitsAll
namespace Go.Proofs.YtoecddkglenigaaDoor
open Go.RowKit
set_option linter.unusedVariables false

theorem len64_any (x : Nat) (hx : x < 2 ^ 64) (w : World) : Calls Tryd.prog 76 #[.int .u64 x] w fun e w' => e = .returned (.int .i64 (Gf.len x)) ∧ w = w' :=
  len64_int x (by omega) (by omega) w
theorem len_64 {x : Nat} (hx : x < 2 ^ 64) : Gf.len x ≤ 64 := Gf.len_le.2 hx
set_option maxRecDepth 100000 in
theorem degree_any (x : Nat) (hx : x < 2 ^ 64) (d : Int) (hd : d = (Gf.len x : Int) - 1) (w : World) : Calls Tryd.prog 80 #[.int .u64 x] w fun e w' => e = .returned (.int .i64 d) ∧ w = w' := by
  subst hd
  have hl := len_64 hx
  have HX := Lib.hid hx
  clear hx
  go_enter Tryd.func80, Tryd.ntmps80
  go_wp2_with (go_at_call 76; ((with_reducible refine (len64_any x HX.out _).mono ?_); rintro e w1 ⟨rfl, rfl⟩))
  go_ret
  exact ⟨rfl, rfl⟩

/-- The bit that is not there: or is exclusive or. -/
theorem or_bit (q k : Nat) (h : q.testBit k = false) : q ||| 2 ^ k = q ^^^ 2 ^ k := by
  apply Nat.eq_of_testBit_eq
  intro i
  rw [Nat.testBit_or, Nat.testBit_xor, Nat.testBit_two_pow]
  by_cases e : k = i
  · subst e; simp [h]
  · simp [e]
theorem wrap_nat (n : Nat) (h : n < 2 ^ 64) : IntKind.u64.wrap (n : Int) = (n : Int) := by
  rw [IntKind.wrap_u64]; exact Int.emod_eq_of_lt (by omega) (by omega)
theorem cast_pow (k : Nat) : ((2 ^ k : Nat) : Int) = 2 ^ k := by push_cast; rfl
theorem pow_64 {k : Nat} (h : k < 64) : (2 : Nat) ^ k < 2 ^ 64 := Nat.pow_lt_pow_right (by decide) h
theorem shl_one {k : Nat} (h : k < 64) : IntKind.u64.wrap ((2 : Int) ^ k) = ((2 ^ k : Nat) : Int) := by
  rw [← cast_pow]; exact wrap_nat _ (pow_64 h)
theorem shl_nat {b k : Nat} (h : b * 2 ^ k < 2 ^ 64) : IntKind.u64.wrap ((b : Int) * (2 : Int) ^ k) = ((b * 2 ^ k : Nat) : Int) := by
  rw [← cast_pow, show ((b : Int) * ((2 ^ k : Nat) : Int)) = ((b * 2 ^ k : Nat) : Int) by push_cast; rfl]
  exact wrap_nat _ h

set_option maxRecDepth 100000 in
set_option maxHeartbeats 1000000 in
theorem div_any (a b : Nat) (ha : a < 2 ^ 64) (hb : b < 2 ^ 64) (h0 : b ≠ 0) (w : World) : Calls Tryd.prog 82 #[.int .u64 a, .int .u64 b] w fun e w' => e = .returned (.tuple #[.int .u64 (Gf.pdiv a b), .int .u64 (Gf.pmod a b), .int .i64 0]) ∧ w = w' := by
  have hbI : (0 : Int) < (b : Int) := by omega
  have hbI2 : ((b : Int) == 0) = false := by simp; omega
  have HA := Lib.hid ha
  have HB := Lib.hid hb
  have H0 := Lib.hid h0
  have hl0 : 0 < Gf.len b := Gf.len_pos h0
  obtain ⟨lb, hlb⟩ : ∃ lb, Gf.len b = lb := ⟨_, rfl⟩
  have HLB := Lib.hid hlb
  have hlb0 : 0 < lb := by omega
  have hlb64 : lb ≤ 64 := by rw [← hlb]; exact len_64 hb
  obtain ⟨db, hdb⟩ : ∃ db : Int, db = (lb : Int) - 1 := ⟨_, rfl⟩
  have HDB : Hid (db = (Gf.len b : Int) - 1) := by show _ = _; rw [HLB.out]; exact hdb
  have HDB2 := Lib.hid hdb
  have hdb1 : 0 ≤ db := by omega
  have hdb2 : db ≤ 63 := by omega
  clear ha hb h0 hl0 hlb hdb
  go_enter Tryd.func82, Tryd.ntmps82
  go_wp2
  go_loop [7, 8] (fun x y => ∃ q r : Nat, x = .int .u64 q ∧ y = .int .u64 r ∧ Hid (q < 2 ^ 64 ∧ r < 2 ^ 64) ∧ Hid (Gf.pmul q b ^^^ r = a) ∧ Hid (∀ i, i + Gf.len b ≤ Gf.len r → q.testBit i = false)) (fun _ y => Gf.len (intOf y).toNat)
  case atStart => exact ⟨0, a, rfl, rfl, ⟨by decide, HA.out⟩, by rw [Gf.zero_pmul, Nat.zero_xor]; exact rfl, fun i _ => Nat.zero_testBit i⟩
  case round =>
    obtain ⟨q, r, rfl, rfl, HQ, HE, HT⟩ := hrel
    obtain ⟨dr, hdr⟩ : ∃ dr : Int, dr = (Gf.len r : Int) - 1 := ⟨_, rfl⟩
    have HDR := Lib.hid hdr
    have hr64 := len_64 HQ.out.2
    have hdr1 : -1 ≤ dr := by omega
    have hdr2 : dr ≤ 63 := by omega
    by_cases hle : lb ≤ Gf.len r
    · have hge : db ≤ dr := by have := HDB2.out; omega
      obtain ⟨sh, hsh⟩ : ∃ sh, Gf.len r - lb = sh := ⟨_, rfl⟩
      have hsh64 : sh < 64 := by omega
      have hshI : dr - db = (sh : Int) := by have := HDB2.out; omega
      have hsh0 : (0 : Int) ≤ (sh : Int) := by omega
      have hsh63 : (sh : Int) < 64 := by omega
      have hsl : Gf.len (b * 2 ^ sh) = Gf.len r := by rw [Gf.len_shift H0.out, HLB.out]; omega
      have hbs : b * 2 ^ sh < 2 ^ 64 := Gf.len_le.1 (by rw [hsl]; exact hr64)
      have htb : q.testBit sh = false := HT.out sh (by rw [HLB.out]; omega)
      have HOR : Hid (bits .or .u64 (q : Int) (IntKind.u64.wrap ((2 : Int) ^ sh)) = ((q ^^^ 2 ^ sh : Nat) : Int)) := by
        show _ = _
        rw [shl_one hsh64, u64_or_nat q _ HQ.out.1 (pow_64 hsh64), or_bit q sh htb]
      have HXR : Hid (bits .xor .u64 (r : Int) (IntKind.u64.wrap ((b : Int) * (2 : Int) ^ sh)) = ((r ^^^ (b * 2 ^ sh) : Nat) : Int)) := by
        show _ = _
        rw [shl_nat hbs, u64_xor_nat r _ HQ.out.2 hbs]
      have HS : Hid (sh < 64 ∧ b * 2 ^ sh < 2 ^ 64 ∧ lb ≤ Gf.len r ∧ Gf.len r - lb = sh) := ⟨hsh64, hbs, hle, hsh⟩
      clear hdr hle hsh hsh64 hsl hbs htb hr64
      go_wp2_with (first
        | (go_at_call 80; ((with_reducible refine (degree_any r HQ.out.2 dr HDR.out _).mono ?_); rintro e w1 ⟨rfl, rfl⟩))
        | (go_at_call 80; ((with_reducible refine (degree_any b HB.out db HDB.out _).mono ?_); rintro e w1 ⟨rfl, rfl⟩)))
      have hq' : q ^^^ 2 ^ sh < 2 ^ 64 := Gf.xor_lt HQ.out.1 (pow_64 HS.out.1)
      have hr' : r ^^^ (b * 2 ^ sh) < 2 ^ 64 := Gf.xor_lt HQ.out.2 HS.out.2.1
      have hln : Gf.len (r ^^^ (b * 2 ^ sh)) < Gf.len r := by
        have h := Gf.step_len (a := r) H0.out (by rw [HLB.out]; exact HS.out.2.2.1)
        rw [HLB.out, HS.out.2.2.2] at h
        exact h
      go_round
      case rel =>
        refine ⟨q ^^^ 2 ^ sh, r ^^^ (b * 2 ^ sh), congrArg (Value.int .u64) HOR.out, congrArg (Value.int .u64) HXR.out, ⟨hq', hr'⟩, ?_, fun i hi => ?_⟩
        · show _ = a
          rw [Gf.xor_pmul, ← HE.out, Gf.pmul_comm (2 ^ sh) b, Gf.pmul_shift, Nat.xor_assoc, Gf.xor_left_comm (b * 2 ^ sh) r, Nat.xor_self, Nat.xor_zero]
        · rw [Nat.testBit_xor, HT.out i (by omega), Nat.testBit_two_pow]
          have h1 := HS.out.2.2.2
          have h2 := HLB.out
          have : ¬ sh = i := by omega
          simp [this]
      case measure =>
        simp [intOf, HXR.out]
        exact hln
    · have hge : dr < db := by have := HDB2.out; omega
      have HF := Gf.mod_of H0.out HE.out (by rw [HLB.out]; omega)
      obtain ⟨hq, hr⟩ := HF
      have HFQ := Lib.hid hq
      have HFR := Lib.hid hr
      clear hdr hle hr64 hq hr
      go_wp2_with (first
        | (go_at_call 80; ((with_reducible refine (degree_any r HQ.out.2 dr HDR.out _).mono ?_); rintro e w1 ⟨rfl, rfl⟩))
        | (go_at_call 80; ((with_reducible refine (degree_any b HB.out db HDB.out _).mono ?_); rintro e w1 ⟨rfl, rfl⟩)))
      go_ret3
      exact ⟨by rw [HFQ.out, HFR.out]; rfl, rfl⟩
theorem div_zero (a : Nat) (w : World) : Calls Tryd.prog 82 #[.int .u64 a, .int .u64 0] w fun e w' => e = .returned (.tuple #[.int .u64 0, .int .u64 0, .int .i64 2]) ∧ w = w' := by
  go_enter Tryd.func82, Tryd.ntmps82
  go_wp2
  go_ret3
  exact ⟨rfl, rfl⟩
theorem mod_64 {a b : Nat} (hb : b < 2 ^ 64) (h0 : b ≠ 0) : Gf.pmod a b < 2 ^ 64 := Gf.len_le.1 (by have := Gf.mod_len a h0; have := len_64 hb; omega)
set_option maxRecDepth 100000 in
theorem mod_any (a b : Nat) (ha : a < 2 ^ 64) (hb : b < 2 ^ 64) (h0 : b ≠ 0) (r : Nat) (hr : Gf.pmod a b = r) (w : World) : Calls Tryd.prog 64 #[.int .u64 a, .int .u64 b] w fun e w' => e = .returned (.int .u64 r) ∧ w = w' := by
  subst hr
  have HA := Lib.hid ha
  have HB := Lib.hid hb
  have H0 := Lib.hid h0
  clear ha hb h0
  go_enter Tryd.func64, Tryd.ntmps64
  go_wp2_with (go_at_call 82; ((with_reducible refine (div_any a b HA.out HB.out H0.out _).mono ?_); rintro e w1 ⟨rfl, rfl⟩))
  go_ret
  exact ⟨rfl, rfl⟩
/-- Times x, one bit may be lost. -/
theorem timesX_val (a : Nat) (ha : a < 2 ^ 63) : IntKind.u64.wrap ((a : Int) * 2) = ((2 * a : Nat) : Int) := by
  rw [show ((a : Int) * 2) = ((2 * a : Nat) : Int) by push_cast; omega]
  exact wrap_nat _ (by omega)
set_option maxRecDepth 100000 in
theorem timesX_any (a b : Nat) (ha : a < 2 ^ 63) (hb : b < 2 ^ 64) (h0 : b ≠ 0) (r : Nat) (hr : Gf.pmod (2 * a) b = r) (w : World) : Calls Tryd.prog 81 #[.int .u64 a, .int .u64 b] w fun e w' => e = .returned (.int .u64 r) ∧ w = w' := by
  subst hr
  obtain ⟨x, hx⟩ : ∃ x, 2 * a = x := ⟨_, rfl⟩
  have h2 := timesX_val a ha
  have HX : Hid (x < 2 ^ 64) := by show _ < _; omega
  rw [hx] at h2 ⊢
  have HB := Lib.hid hb
  have H0 := Lib.hid h0
  clear ha hb h0 hx
  go_enter Tryd.func81, Tryd.ntmps81
  go_wp2_with (go_at_call 64; go_loud ((refine (mod_any x b HX.out HB.out H0.out _ rfl _).mono ?_); rintro e w1 ⟨rfl, rfl⟩))
  go_ret
  exact ⟨rfl, rfl⟩

end Go.Proofs.YtoecddkglenigaaDoor
