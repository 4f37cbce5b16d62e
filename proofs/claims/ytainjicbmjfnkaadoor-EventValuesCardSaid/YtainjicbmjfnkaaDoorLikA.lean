/-
  likely, whatever the string is; and at the text of a right event.
-/
import Derived.Test.YtainjicbmjfnkaaDoorLikM
namespace Go.Proofs.YtainjicbmjfnkaaDoor
open Go.RowKit
set_option linter.unusedVariables false

theorem find_total (s : ByteArray) : ∃ k r, Ev.FindOut s k r := by
  by_cases h : ∃ k, 1 ≤ k ∧ k ≤ 10 ∧ s = Ev.str (Ev.kname k)
  · obtain ⟨k, h1, h2, h3⟩ := h
    exact ⟨k, true, .inl ⟨rfl, h1, h2, h3⟩⟩
  · exact ⟨0, false, .inr ⟨rfl, rfl, fun j h1 h2 e => h ⟨j, h1, h2, e⟩⟩⟩
theorem u8_wrap (b : Nat) : IntKind.u8.wrap (b : Int) = ((b % 256 : Nat) : Int) := by rw [IntKind.wrap_u8]; omega
theorem wrap_i64 (x : Int) : Ev.I64 (IntKind.i64.wrap x) := by rw [IntKind.wrap_i64]; unfold Ev.I64; omega
/-- What likely returns. -/
def LikelyIs (s : List UInt8) (sq tm : Int) (cp kd : Nat) (tk gr to_ wg tc : Int) (mk : Nat) (gt : Int) (ok : Bool) : Prop := ∀ w : World, Ml w → Ev.HE w → Er w → Calls Tryd.prog 42 #[.string (Ev.str s)] w fun e w' => e = .returned (.tuple #[.agg #[.int .i64 sq, .int .i64 tm, .int .u8 cp, .int .u8 kd, .int .i64 tk, .int .i64 gr, .int .i64 to_, .int .i64 wg, .int .i64 tc, .int .u64 mk, .int .i64 gt], .bool ok]) ∧ Below w.heap.size w w'
theorem likely_is (s : List UInt8) (hs : s.length ≤ 1000000) : ∃ (sq tm : Int) (cp kd : Nat) (tk gr to_ wg tc : Int) (mk : Nat) (gt : Int) (ok : Bool), (ok = true → Ev.WF sq tm cp kd tk gr to_ wg tc mk gt ∧ Ev.check sq tm cp kd tk gr to_ wg tc mk gt = 0) ∧ LikelyIs s sq tm cp kd tk gr to_ wg tc mk gt ok := by
  have hz : ∀ (h : ∀ w : World, Ml w → Ev.HE w → Er w → Calls Tryd.prog 42 #[.string (Ev.str s)] w fun e w' => e = .returned (.tuple #[zeroE, .bool false]) ∧ Below w.heap.size w w'), ∃ (sq tm : Int) (cp kd : Nat) (tk gr to_ wg tc : Int) (mk : Nat) (gt : Int) (ok : Bool), (ok = true → Ev.WF sq tm cp kd tk gr to_ wg tc mk gt ∧ Ev.check sq tm cp kd tk gr to_ wg tc mk gt = 0) ∧ LikelyIs s sq tm cp kd tk gr to_ wg tc mk gt ok :=
    fun h => ⟨0, 0, 0, 0, 0, 0, 0, 0, 0, 0, 0, false, (fun e => absurd e (by decide)), h⟩
  obtain ⟨L, hL⟩ : ∃ L, (Ev.wordsOf s).length = L := ⟨_, rfl⟩
  by_cases h3 : L ≤ 3
  · exact hz fun w hM _ _ => likely_short s hs L hL h3 w hM
  have h3' : 3 < L := by omega
  obtain ⟨x, hx⟩ : ∃ x, (Ev.wordsOf s)[3]? = some x := ⟨_, List.getElem?_eq_getElem (by omega)⟩
  obtain ⟨kd, r, hf⟩ := find_total (Ev.str x)
  cases r with
  | false =>
    have hk : kd = 0 := by rcases hf with ⟨h, _⟩ | ⟨_, h, _⟩; exact absurd h (by decide); exact h
    subst hk
    exact hz fun w hM hE _ => likely_find s hs L hL h3' x hx hf w hM hE
  | true =>
    have hk : 1 ≤ kd ∧ kd ≤ 10 := by rcases hf with ⟨_, h1, h2, _⟩ | ⟨h, _⟩; exact ⟨h1, h2⟩; exact absurd h (by decide)
    have ht3 : ((Ev.wordsOf s).take 3).length = 3 := by rw [List.length_take]; omega
    rcases Ev.nums_split ((Ev.wordsOf s).take 3) with ⟨bs, hbs, hbn⟩ | ⟨us, kf, h1, h2, h4, h5⟩
    · rw [ht3] at hbs
      obtain ⟨m, hm⟩ : ∃ m, L = m + 4 := ⟨L - 4, by omega⟩
      have ht4 : ((Ev.wordsOf s).drop 4).length = m := by rw [List.length_drop]; omega
      rcases Ev.nums_split ((Ev.wordsOf s).drop 4) with ⟨us, hus, hyes⟩ | ⟨us, kf, g1, g2, g4, g5⟩
      · rw [ht4] at hus
        obtain ⟨b0, b1, b2, hb0⟩ : ∃ b0 b1 b2, bs = [b0, b1, b2] := by
          match bs, hbs with
          | [b0, b1, b2], _ => exact ⟨b0, b1, b2, rfl⟩
        have hlt : ∀ u ∈ us, u < 2 ^ 64 := by
          intro u hu
          obtain ⟨j, hj, hju⟩ := List.mem_iff_getElem.1 hu
          obtain ⟨y, hy⟩ : ∃ y, ((Ev.wordsOf s).drop 4)[j]? = some y := ⟨_, List.getElem?_eq_getElem (by omega)⟩
          exact Ev.num_lt (hyes j y u hy (by rw [List.getElem?_eq_getElem hj, hju]))
        by_cases hmf : m = (Ev.kfs kd).length
        · obtain ⟨l, hl⟩ : ∃ l, (Ev.kfs kd).zip us = l := ⟨_, rfl⟩
          cases hr : Ev.within (IntKind.i64.wrap (b0 : Int)) (IntKind.i64.wrap (b1 : Int)) (b2 % 256) kd (Ev.geti l 0) (Ev.geti l 1) (Ev.geti l 2) (Ev.geti l 3) (Ev.geti l 4) (Ev.getn l 5) (Ev.geti l 6) with
          | true =>
            refine ⟨_, _, _, _, _, _, _, _, _, _, _, true, fun _ => ⟨Ev.made_wf l hl (wrap_i64 _) (wrap_i64 _) (by omega) (by omega) hlt, Ev.made_check l hl hk.1 hk.2 hr⟩, fun w hM hE hR => ?_⟩
            exact likely_made s hs L hL h3' x hx kd hf bs hbs hbn m hm us hus hyes hk.1 hk.2 b0 b1 b2 hb0 _ _ _ rfl rfl (u8_wrap b2) (by omega) hmf hlt l hl hr w hM hE hR
          | false => exact hz fun w hM hE hR => likely_wrong s hs L hL h3' x hx kd hf bs hbs hbn m hm us hus hyes hk.1 hk.2 b0 b1 b2 hb0 _ _ _ rfl rfl (u8_wrap b2) (by omega) hmf hlt l hl hr w hM hE hR
        · exact hz fun w hM hE hR => likely_len s hs L hL h3' x hx kd hf bs hbs hbn m hm us hus hyes hk.1 hk.2 b0 b1 b2 hb0 _ _ _ rfl rfl (u8_wrap b2) (by omega) hmf w hM hE hR
      · exact hz fun w hM hE hR => likely_values s hs L hL h3' x hx kd hf bs hbs hbn m hm us kf g1 (by omega) g4 g5 w hM hE hR
    · exact hz fun w hM hE hR => likely_begin s hs L hL h3' x hx kd hf us kf h1 (by omega) h4 h5 w hM hE hR
namespace Ev
theorem within_parts {sq tm : Int} {cp kd : Nat} {tk gr to_ wg tc : Int} {mk : Nat} {gt : Int} (h : within sq tm cp kd tk gr to_ wg tc mk gt = true) : (1 ≤ sq ∧ sq ≤ 281474976710656) ∧ (0 ≤ tm ∧ tm ≤ 281474976710656) ∧ cp < 64 := by
  unfold within at h
  simp only [Bool.and_eq_true, decide_eq_true_eq] at h
  exact ⟨h.1, h.2.1, h.2.2.1⟩
theorem kfs_pos : ∀ k : Fin 11, 1 ≤ k.val → 0 < (kfs k.val).length := by decide
/-- The words of a right event's text. -/
theorem words_text {sq tm : Int} {cp kd : Nat} (hkd : kd < 256) (h1 : 0 ≤ sq) (h2 : 0 ≤ tm) {vs : List Nat} (hv : vs.length ≤ 4) : wordsOf (text sq tm cp kd vs) = head sq tm cp kd ++ vs.map Lib.decDigits := by
  unfold text
  refine wordsOf_join _ (by simp [head]) (by simp [head]; omega) ?_
  intro x hx
  have hi : ∀ z : Int, 0 ≤ z → (32 : UInt8) ∉ Lib.itoa z := by
    intro z hz
    obtain ⟨n, rfl⟩ := Int.eq_ofNat_of_zero_le hz
    rw [Lib.itoa_nonneg]; exact dec_no_space n
  rcases List.mem_append.1 hx with h | h
  · simp only [head, List.mem_cons, List.not_mem_nil, or_false] at h
    rcases h with rfl | rfl | rfl | rfl
    · exact hi _ h1
    · exact hi _ h2
    · exact hi _ (by omega)
    · exact kname_no_space ⟨kd, hkd⟩
  · obtain ⟨d, _, rfl⟩ := List.mem_map.1 h
    exact dec_no_space d
end Ev
theorem likely_text {sq tm : Int} {cp kd : Nat} {tk gr to_ wg tc : Int} {mk : Nat} {gt : Int} (hw : Ev.WF sq tm cp kd tk gr to_ wg tc mk gt) (hr : Ev.check sq tm cp kd tk gr to_ wg tc mk gt = 0) (s : List UInt8) (hs : s.length ≤ 1000000) (ht : Ev.text sq tm cp kd (Ev.vals kd tk gr to_ wg tc mk gt) = s) : LikelyIs s sq tm cp kd tk gr to_ wg tc mk gt true := by
  intro w hM hE hR
  obtain ⟨hk1, hk2, hin, ho⟩ := Ev.check_zero hr
  obtain ⟨p1, p2, p3⟩ := Ev.within_parts hin
  obtain ⟨g0, g1, g2, g3, g4, g5, g6, g7, g8, g9, g10⟩ := hw
  obtain ⟨us, hus⟩ : ∃ us, Ev.vals kd tk gr to_ wg tc mk gt = us := ⟨_, rfl⟩
  have hl4 : us.length ≤ 4 := by rw [← hus]; exact Ev.vals_len g3
  have hwords : Ev.wordsOf s = Ev.head sq tm cp kd ++ us.map Lib.decDigits := by rw [← ht, hus, Ev.words_text g3 (by omega) (by omega) hl4]
  have hlt : ∀ u ∈ us, u < 2 ^ 64 := by rw [← hus]; exact Ev.vals_lt g9
  obtain ⟨a, rfl⟩ := Int.eq_ofNat_of_zero_le (show 0 ≤ sq by omega)
  obtain ⟨b, rfl⟩ := Int.eq_ofNat_of_zero_le (show 0 ≤ tm by omega)
  have hd3 : (Ev.wordsOf s).take 3 = [Lib.itoa (a : Int), Lib.itoa (b : Int), Lib.itoa (cp : Int)] := by rw [hwords]; rfl
  have hd4 : (Ev.wordsOf s).drop 4 = us.map Lib.decDigits := by rw [hwords]; rfl
  obtain ⟨l, hl⟩ : ∃ l, (Ev.kfs kd).zip us = l := ⟨_, rfl⟩
  obtain ⟨q0, q1, q2, q3, q4, q5, q6⟩ := Ev.right_get g4 g5 g6 g7 g8 g10 ho l (by rw [hus]; exact hl)
  have hmain := likely_made s hs (us.length + 4) (by rw [hwords]; simp [Ev.head]) (by omega) (Ev.kname kd) (by rw [hwords]; rfl) kd (.inl ⟨rfl, hk1, hk2, rfl⟩) [a, b, cp] rfl
    (by
      rw [hd3]
      intro j y u hy hu
      match j, hy, hu with
      | 0, hy, hu => simp at hy hu; subst hy; subst hu; exact Ev.num_itoa a (by omega)
      | 1, hy, hu => simp at hy hu; subst hy; subst hu; exact Ev.num_itoa b (by omega)
      | 2, hy, hu => simp at hy hu; subst hy; subst hu; exact Ev.num_itoa cp (by omega)
      | j + 3, hy, hu => simp at hy)
    us.length rfl us rfl
    (by
      rw [hd4]
      intro j y u hy hu
      rw [List.getElem?_map, hu] at hy
      simp at hy
      subst hy
      exact Ev.num_dec u (hlt u (List.mem_of_getElem? hu)))
    hk1 hk2 a b cp rfl (a : Int) (b : Int) cp (by rw [IntKind.wrap_i64]; omega) (by rw [IntKind.wrap_i64]; omega) (by rw [IntKind.wrap_u8]; omega) g2 (by rw [← hus, Ev.vals, List.length_map]) hlt l hl (by rw [q0, q1, q2, q3, q4, q5, q6]; exact hin) w hM hE hR
  rw [q0, q1, q2, q3, q4, q5, q6] at hmain
  exact hmain
end Go.Proofs.YtainjicbmjfnkaaDoor
