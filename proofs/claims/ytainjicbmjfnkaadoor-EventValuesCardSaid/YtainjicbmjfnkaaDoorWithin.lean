/-
  within.
-/
import Derived.Test.YtainjicbmjfnkaaDoorFits
import Derived.OwnWalk
namespace Go.Proofs.YtainjicbmjfnkaaDoor
open Go.RowKit
set_option linter.unusedVariables false

namespace Ev
theorem kfs_lt : ∀ k : Fin 256, ∀ f ∈ kfs k.val, f < 7 := by decide +kernel
theorem kfs_len : ∀ k : Fin 256, (kfs k.val).length ≤ 4 := by decide +kernel
def within (sq tm : Int) (cp kd : Nat) (tk gr to_ wg tc : Int) (mk : Nat) (gt : Int) : Bool := decide (1 ≤ sq ∧ sq ≤ 281474976710656) && (decide (0 ≤ tm ∧ tm ≤ 281474976710656) && (decide (cp < 64) && (kfs kd).all (Ev.fits cp kd tk gr to_ wg tc mk gt)))
theorem all_take (p : Nat → Bool) (l : List Nat) (k x : Nat) (hx : l[k]? = some x) : (l.take (k + 1)).all p = ((l.take k).all p && p x) := by
  rw [List.take_add_one, hx, List.all_append]
  simp
end Ev
set_option maxRecDepth 100000 in
set_option maxHeartbeats 2000000 in
theorem within_any (sq tm : Int) (cp kd : Nat) (tk gr to_ wg tc : Int) (mk : Nat) (gt : Int) (hcp : cp < 256) (hmk : mk < 2 ^ 64) (hk1 : 1 ≤ kd) (hk2 : kd ≤ 10) (r : Bool) (hr : Ev.within sq tm cp kd tk gr to_ wg tc mk gt = r) (w : World) (hE : Ev.HE w) : Calls Tryd.prog 44 #[.agg #[.int .i64 sq, .int .i64 tm, .int .u8 cp, .int .u8 kd, .int .i64 tk, .int .i64 gr, .int .i64 to_, .int .i64 wg, .int .i64 tc, .int .u64 mk, .int .i64 gt]] w fun e w' => e = .returned (.bool r) ∧ Below w.heap.size w w' := by
  have HX := Lib.hid (EBox.new w sq tm cp kd tk gr to_ wg tc mk gt)
  have HBW : Hid (Below w.heap.size w (w.alloc (.cells #[.int .i64 sq, .int .i64 tm, .int .u8 cp, .int .u8 kd, .int .i64 tk, .int .i64 gr, .int .i64 to_, .int .i64 wg, .int .i64 tc, .int .u64 mk, .int .i64 gt] 24))) := (Below.refl _ w).alloc (Nat.le_refl _) _
  have HEW : Hid (Ev.HE w) := hE
  have HCP := Lib.hid hcp
  have HMK : Hid (mk < 2 ^ 64) := hmk
  have HK1 := Lib.hid hk1
  have HK2 := Lib.hid hk2
  obtain ⟨b1, hb1⟩ : ∃ b, decide (1 ≤ sq ∧ sq ≤ 281474976710656) = b := ⟨_, rfl⟩
  obtain ⟨b2, hb2⟩ : ∃ b, decide (0 ≤ tm ∧ tm ≤ 281474976710656) = b := ⟨_, rfl⟩
  obtain ⟨b3, hb3⟩ : ∃ b, decide (cp < 64) = b := ⟨_, rfl⟩
  obtain ⟨b4, hb4⟩ : ∃ b, (Ev.kfs kd).all (Ev.fits cp kd tk gr to_ wg tc mk gt) = b := ⟨_, rfl⟩
  have hr2 : (b1 && (b2 && (b3 && b4))) = r := by rw [← hr, ← hb1, ← hb2, ← hb3, ← hb4]; rfl
  have HB1 := Lib.hid hb1
  have HB2 := Lib.hid hb2
  have HB4 := Lib.hid hb4
  clear hr hmk hE hb1 hb2 hb4
  obtain ⟨x0, x1, x2, x3, x4, x5, x6, x7, x8, x9, x10⟩ := HX.out.cells
  cases b1 with
  | false =>
    obtain rfl : false = r := hr2
    clear hcp hk1 hk2
    go_enter Tryd.func44, Tryd.ntmps44
    go_wp2_with (go_at_call 63; ((with_reducible refine (between_any 1 sq 281474976710656 false HB1.out _).mono ?_); rintro e w' ⟨rfl, rfl⟩))
    go_ret
    exact ⟨rfl, HBW.out⟩
  | true =>
    cases b2 with
    | false =>
      obtain rfl : false = r := hr2
      clear hcp hk1 hk2
      go_enter Tryd.func44, Tryd.ntmps44
      go_wp2_with (first
        | (go_at_call 63; ((with_reducible refine (between_any 1 sq 281474976710656 true HB1.out _).mono ?_); rintro e w' ⟨rfl, rfl⟩))
        | (go_at_call 63; ((with_reducible refine (between_any 0 tm 281474976710656 false HB2.out _).mono ?_); rintro e w' ⟨rfl, rfl⟩)))
      go_ret
      exact ⟨rfl, HBW.out⟩
    | true =>
      cases b3 with
      | false =>
        obtain rfl : false = r := hr2
        have g1 : decide ((64 : Int) ≤ (cp : Int)) = true := by rw [decide_eq_false_iff_not] at hb3; rw [decide_eq_true_eq]; omega
        have g2 : (64 : Int) ≤ (cp : Int) := by rw [decide_eq_false_iff_not] at hb3; omega
        clear hcp hk1 hk2 hb3
        go_enter Tryd.func44, Tryd.ntmps44
        go_wp2_with (first
          | (go_at_call 63; ((with_reducible refine (between_any 1 sq 281474976710656 true HB1.out _).mono ?_); rintro e w' ⟨rfl, rfl⟩))
          | (go_at_call 63; ((with_reducible refine (between_any 0 tm 281474976710656 true HB2.out _).mono ?_); rintro e w' ⟨rfl, rfl⟩)))
        go_ret
        exact ⟨rfl, HBW.out⟩
      | true =>
        obtain rfl : b4 = r := hr2
        have g1 : decide ((64 : Int) ≤ (cp : Int)) = false := by rw [decide_eq_true_eq] at hb3; rw [decide_eq_false_iff_not]; omega
        have g2 : ¬ (64 : Int) ≤ (cp : Int) := by rw [decide_eq_true_eq] at hb3; omega
        obtain ⟨_, fa, fc, hf1, hf2, hf3, hf4⟩ := (HEW.out.below HBW.out).kind hk1 hk2
        obtain ⟨fs, hfs⟩ : ∃ fs, Ev.kfs kd = fs := ⟨_, rfl⟩
        obtain ⟨n, hn⟩ : ∃ n, fs.length = n := ⟨_, rfl⟩
        have HFL : Hid (∀ f ∈ fs, f < 7) := by rw [← hfs]; exact Ev.kfs_lt ⟨kd, by omega⟩
        rw [hfs] at HB4 hf1 hf2 hf3
        rw [hn] at hf1 hf3
        have HFS := Lib.hid hf2
        have HN := Lib.hid hn
        have hn4 : (n : Int) ≤ 4 := by have h := Ev.kfs_len ⟨kd, by omega⟩; simp only [hfs, hn] at h; omega
        have hkd : (kd : Int) < 11 := by omega
        have c1 : (w.alloc (.cells #[.int .i64 sq, .int .i64 tm, .int .u8 cp, .int .u8 kd, .int .i64 tk, .int .i64 gr, .int .i64 to_, .int .i64 wg, .int .i64 tc, .int .u64 mk, .int .i64 gt] 24)).cell? ⟨0, kd * 2 + 1, none⟩ = some (.slice fa n fc) := by rw [Nat.mul_comm]; exact hf1
        clear hcp hk1 hk2 hb3 hf1 hf2 hf3 hf4 hfs hn
        go_enter Tryd.func44, Tryd.ntmps44
        go_wp2_with (first
          | (go_at_call 63; ((with_reducible refine (between_any 1 sq 281474976710656 true HB1.out _).mono ?_); rintro e w' ⟨rfl, rfl⟩))
          | (go_at_call 63; ((with_reducible refine (between_any 0 tm 281474976710656 true HB2.out _).mono ?_); rintro e w' ⟨rfl, rfl⟩)))
        have HZ : Hid (Below (w.alloc (.cells #[.int .i64 sq, .int .i64 tm, .int .u8 cp, .int .u8 kd, .int .i64 tk, .int .i64 gr, .int .i64 to_, .int .i64 wg, .int .i64 tc, .int .u64 mk, .int .i64 gt] 24)).heap.size (w.alloc (.cells #[.int .i64 sq, .int .i64 tm, .int .u8 cp, .int .u8 kd, .int .i64 tk, .int .i64 gr, .int .i64 to_, .int .i64 wg, .int .i64 tc, .int .u64 mk, .int .i64 gt] 24)) (w.alloc (.cells #[.int .i64 sq, .int .i64 tm, .int .u8 cp, .int .u8 kd, .int .i64 tk, .int .i64 gr, .int .i64 to_, .int .i64 wg, .int .i64 tc, .int .u64 mk, .int .i64 gt] 24))) := Below.refl _ _
        have HT0 : Hid ((fs.take 0).all (Ev.fits cp kd tk gr to_ wg tc mk gt) = true) := rfl
        go_loopw [26] (fun iv wr => ∃ k : Nat, k ≤ n ∧ iv = .int .i64 k ∧ Hid ((fs.take k).all (Ev.fits cp kd tk gr to_ wg tc mk gt) = true) ∧ Hid (Below (w.alloc (.cells #[.int .i64 sq, .int .i64 tm, .int .u8 cp, .int .u8 kd, .int .i64 tk, .int .i64 gr, .int .i64 to_, .int .i64 wg, .int .i64 tc, .int .u64 mk, .int .i64 gt] 24)).heap.size (w.alloc (.cells #[.int .i64 sq, .int .i64 tm, .int .u8 cp, .int .u8 kd, .int .i64 tk, .int .i64 gr, .int .i64 to_, .int .i64 wg, .int .i64 tc, .int .u64 mk, .int .i64 gt] 24)) wr)) (fun i _ => n - (intOf i).toNat)
        case atStart => exact ⟨0, Nat.zero_le _, rfl, HT0, HZ⟩
        case round =>
          obtain ⟨k, hk, rfl, HTK, HBK⟩ := hrel
          clear x0 x1 x2 x3 x4 x5 x6 x7 x8 x9 x10 c1
          by_cases hkn : k < n
          · obtain ⟨f, hf⟩ : ∃ f, fs[k]? = some f := ⟨_, List.getElem?_eq_getElem (by rw [HN.out]; exact hkn)⟩
            have HF7 : Hid (f < 7) := HFL.out f (List.mem_of_getElem? hf)
            obtain ⟨bf, of_, rfl, hbf, hcf⟩ := (HFS.out.below HBK.out) k f hf
            obtain ⟨x0, x1, x2, x3, x4, x5, x6, x7, x8, x9, x10⟩ := (HX.out.keep HBK.out).cells
            have hki : (k : Int) < (n : Int) := by omega
            have HFM : Hid (f ∈ fs) := List.mem_of_getElem? hf
            have HAT := Lib.hid (Ev.all_take (Ev.fits cp kd tk gr to_ wg tc mk gt) fs k f hf)
            obtain ⟨rf, hrf⟩ : ∃ rf, Ev.fits cp kd tk gr to_ wg tc mk gt f = rf := ⟨_, rfl⟩
            have HRF := Lib.hid hrf
            clear hf hbf hrf hk
            cases rf with
            | true =>
              have HT1 : Hid ((fs.take (k + 1)).all (Ev.fits cp kd tk gr to_ wg tc mk gt) = true) := by show _ = _; rw [HAT.out, HTK.out, HRF.out]; rfl
              go_wp2_with (go_at_call 64; ((with_reducible refine (fits_any sq tm cp kd tk gr to_ wg tc mk gt HCP.out HMK.out f HF7.out true HRF.out wr).mono ?_); rintro e w2 ⟨rfl, hb⟩; have HB5 := Lib.hid (HBK.out.trans (hb.mono HBK.out.size)); clear hb))
              exact ⟨⟨k + 1, hkn, rfl, HT1, HB5⟩, by simp [intOf]; omega⟩
            | false =>
              have hb4 : b4 = false := by
                rw [← HB4.out, List.all_eq_false]
                exact ⟨f, HFM.out, by rw [HRF.out]; simp⟩
              subst hb4
              go_wp2_with (go_at_call 64; ((with_reducible refine (fits_any sq tm cp kd tk gr to_ wg tc mk gt HCP.out HMK.out f HF7.out false HRF.out wr).mono ?_); rintro e w2 ⟨rfl, hb⟩; have HB5 := Lib.hid (HBK.out.trans (hb.mono HBK.out.size)); clear hb))
              go_ret
              exact ⟨rfl, HBW.out.trans (HB5.out.mono HBW.out.size)⟩
          · obtain rfl : n = k := by omega
            have hb4 : b4 = true := by rw [← HB4.out, ← HTK.out, ← HN.out, List.take_length]
            subst hb4
            clear hk hkn
            go_wp2_with fail
            go_ret
            exact ⟨rfl, HBW.out.trans (HBK.out.mono HBW.out.size)⟩
end Go.Proofs.YtainjicbmjfnkaaDoor
