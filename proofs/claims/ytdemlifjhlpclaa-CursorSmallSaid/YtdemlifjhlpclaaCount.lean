/-
  Reader.Count.
-/
import Derived.Test.YtdemlifjhlpclaaNumber
namespace Go.Proofs.Ytdemlifjhlpclaa
open Go.RowKit
set_option linter.unusedVariables false

theorem left_q (w : World) (B p n l : Nat) (hp : p ≤ n) (hl : n - p = l) (hn : n ≤ 9223372036854775807) (h1 : w.cell? ⟨B, 1, none⟩ = some (.int .i64 p)) (h2 : w.cell? ⟨B, 2, none⟩ = some (.int .i64 n)) :
    Calls Try.prog 49 #[.pointer (some ⟨B, 0, none⟩)] w fun e w' => e = .returned (.int .i64 l) ∧ ∃ q, w' = w.drewN q := by
  rw [← hl, Int.natCast_sub hp]
  exact left_any w B p n hp hn h1 h2

/-- What the closure of Count says of a number. -/
def cntErr (most size left x : Nat) : Int := if most < x then 21 else if left / size < x then 20 else 0

set_option maxRecDepth 100000 in
set_option maxHeartbeats 1000000 in
theorem right_count (w : World) (M R S x most size B p : Nat) (xs : List Nat) (hmost : most ≤ 9223372036854775807) (hs0 : 0 < size) (hs1 : size ≤ 9223372036854775807) (hxm : xs.length ≤ 1000000000)
    (hM : w.cell? ⟨M, 0, none⟩ = some (.int .i64 most)) (hRp : w.cell? ⟨R, 0, none⟩ = some (.pointer (some ⟨B, 0, none⟩))) (hS : w.cell? ⟨S, 0, none⟩ = some (.int .i64 size)) (hR : Rdr w B p xs) :
    Calls Try.prog 53 #[.int .u64 x, .pointer (some ⟨M, 0, none⟩), .pointer (some ⟨R, 0, none⟩), .pointer (some ⟨S, 0, none⟩)] w fun e w' => e = .returned (.int .i64 (cntErr most size (xs.length - p) x)) ∧ ∃ q, w' = w.drewN q := by
  obtain ⟨a, c, hb, hsh, hSe, hx, hp, hc, hcm⟩ := hR
  obtain ⟨c0, c1, c2, c3, f1, f3⟩ := ob_cells hb
  have em : IntKind.u64.wrap (most : Int) = (most : Int) := by rw [IntKind.wrap_u64]; exact Int.emod_eq_of_lt (by omega) (by omega)
  unfold cntErr
  by_cases h : most < x
  · rw [if_pos h]
    have h' : (most : Int) < (x : Int) := by omega
    clear h
    go_enter Try.func53, Try.ntmps53
    go_wp2
    go_ret
    exact ⟨rfl, 0, rfl⟩
  · rw [if_neg h]
    have h' : (x : Int) ≤ (most : Int) := by omega
    clear h
    obtain ⟨n, hn⟩ : ∃ n, xs.length = n := ⟨_, rfl⟩
    rw [hn] at hp c2 hxm ⊢
    obtain ⟨l, hl⟩ : ∃ l, n - p = l := ⟨_, rfl⟩
    rw [hl]
    obtain ⟨d, hd⟩ : ∃ d, l / size = d := ⟨_, rfl⟩
    have hd1 : d ≤ 1000000000 := by rw [← hd]; exact Nat.le_trans (Nat.div_le_self _ _) (by omega)
    have e1 : ((l : Int) / (size : Int)) = (d : Int) := by rw [← hd]; exact (Int.natCast_ediv _ _).symm
    have e1t : ((l : Int).tdiv (size : Int)) = (d : Int) := by rw [← hd]; rfl
    have ed : IntKind.u64.wrap (d : Int) = (d : Int) := by rw [IntKind.wrap_u64]; exact Int.emod_eq_of_lt (by omega) (by omega)
    have ed6 : IntKind.i64.wrap (d : Int) = (d : Int) := IntWalk.i64_in _ (by omega)
    have s0 : (0 : Int) < (size : Int) := by omega
    have s1 : ((size : Int) == 0) = false := by simp; omega
    have s2 : (size : Int) ≠ 0 := by omega
    rw [hd]
    have E0 := Lib.hid hl
    clear hn hl hd hb hsh hSe hx hc hcm hs0
    by_cases h2 : d < x
    · rw [if_pos h2]
      have h2' : (d : Int) < (x : Int) := by omega
      clear h2
      go_enter Try.func53, Try.ntmps53
      go_wp2
      go_quiet ((go_at_call 49; exact Calls.quiet_of (left_q _ B p n l hp E0.out (by omega) c1 c2)))
      go_wp2
      go_ret
      exact ⟨rfl, _, rfl⟩
    · rw [if_neg h2]
      have h2' : (x : Int) ≤ (d : Int) := by omega
      clear h2
      go_enter Try.func53, Try.ntmps53
      go_wp2
      go_quiet ((go_at_call 49; exact Calls.quiet_of (left_q _ B p n l hp E0.out (by omega) c1 c2)))
      go_wp2
      go_ret
      exact ⟨rfl, _, rfl⟩

/-- Count at right arguments. -/
def rdCnt (most size p : Nat) (xs : List Nat) : Nat × Int × Nat :=
  if (Vi.read (xs.drop p)).2.2 ≠ 0 then (0, (Vi.read (xs.drop p)).2.2, p)
  else if cntErr most size (xs.length - (p + (Vi.read (xs.drop p)).2.1)) (Vi.read (xs.drop p)).1 ≠ 0 then (0, cntErr most size (xs.length - (p + (Vi.read (xs.drop p)).2.1)) (Vi.read (xs.drop p)).1, p)
  else ((Vi.read (xs.drop p)).1, 0, p + (Vi.read (xs.drop p)).2.1)
theorem cntErr_of (most size left x : Nat) : cntErr most size left x = 0 ∨ cntErr most size left x = 21 ∨ cntErr most size left x = 20 := by
  unfold cntErr
  split
  · simp
  · split <;> simp

set_option maxRecDepth 100000 in
set_option maxHeartbeats 1000000 in
theorem attempt_count (w : World) (B p M R S most size : Nat) (xs : List Nat) (r : Nat × Int × Nat) (hr : rdCnt most size p xs = r) (hmost : most ≤ 9223372036854775807) (hs0 : 0 < size) (hs1 : size ≤ 9223372036854775807) (hxm : xs.length ≤ 1000000000)
    (hM : Boxed w M 3 (.int .i64 most)) (hRp : Boxed w R 44 (.pointer (some ⟨B, 0, none⟩))) (hS : Boxed w S 3 (.int .i64 size)) (hMB : M ≠ B) (hRB : R ≠ B) (hSB : S ≠ B) (hR : Rdr w B p xs) :
    Calls Try.prog 51 #[.pointer (some ⟨B, 0, none⟩), .func (.func 52) #[.pointer (some ⟨B, 0, none⟩)] #[], .func (.func 53) #[] #[.pointer (some ⟨M, 0, none⟩), .pointer (some ⟨R, 0, none⟩), .pointer (some ⟨S, 0, none⟩)]] w
      fun e w' => e = .returned (.tuple #[.int .u64 r.1, .int .i64 r.2.1]) ∧ Rdr w' B r.2.2 xs ∧ Chg (· = B) w w' := by
  subst hr
  obtain ⟨k1, kf, hp⟩ := hR.cells
  have hx : ∀ b ∈ xs.drop p, b < 256 := by obtain ⟨a, c, hb, hsh, hS, hx, _⟩ := hR; exact fun b hb => hx b (List.mem_of_mem_drop hb)
  have hP := Lib.hid hp
  clear hp
  rcases vi_parts hx with ⟨h1, h2, h3⟩ | ⟨h3, hx64, hm0, hml⟩
  · have hV : Hid (Vi.read (xs.drop p) = (0, 0, (Vi.read (xs.drop p)).2.2)) := Prod.ext h1 (Prod.ext h2 rfl)
    have hD : Hid (rdCnt most size p xs = (0, (Vi.read (xs.drop p)).2.2, p)) := by unfold rdCnt; rw [if_pos (by rcases h3 with h | h | h <;> rw [h] <;> decide)]; rfl
    rw [hD.out]
    obtain ⟨er, her⟩ : ∃ er, (Vi.read (xs.drop p)).2.2 = er := ⟨_, rfl⟩
    have hV2 := hV.out
    rw [her] at h3 hV2 ⊢
    have e1 : (er == 0) = false := by rcases h3 with rfl | rfl | rfl <;> rfl
    have e2 : (er != 0) = true := by rcases h3 with rfl | rfl | rfl <;> rfl
    have H3 := Lib.hid h3
    have HV := Lib.hid hV2
    clear her h1 h2 hV hD h3 hV2
    go_enter Try.func51, Try.ntmps51
    go_wp2_with (go_at_call 52; refine (number_err w B p xs er H3.out HV.out hR).mono ?_; rintro e w1 ⟨rfl, hR1, hK⟩; obtain ⟨j1, jf, _⟩ := hR1.cells)
    go_ret2
    exact ⟨rfl, hR1.undo hP.out, hK.trans (chg_set w1 B 0 1 _)⟩
  · obtain ⟨r, hr⟩ : ∃ r, Vi.read (xs.drop p) = r := ⟨_, rfl⟩
    obtain ⟨x, m, er⟩ := r
    rw [hr] at h3 hx64 hm0 hml
    simp only at h3 hx64 hm0 hml
    subst h3
    have hpm : p + m ≤ xs.length := by rw [List.length_drop] at hml; have := hP.out; omega
    have HV := Lib.hid hr
    have HPM := Lib.hid hpm
    have HM0 := Lib.hid hm0
    obtain ⟨ce, hce⟩ : ∃ ce, cntErr most size (xs.length - (p + m)) x = ce := ⟨_, rfl⟩
    have HCE := Lib.hid hce
    have H3 := cntErr_of most size (xs.length - (p + m)) x
    rw [hce] at H3
    have hsz := Lib.hid hs0
    by_cases h : ce = 0
    · have hD : Hid (rdCnt most size p xs = (x, 0, p + m)) := by unfold rdCnt; rw [hr]; simp only; rw [if_neg (by simp), if_neg (by rw [hce]; simpa using h)]; rfl
      rw [hD.out]
      subst h
      clear hr hpm hm0 hml hD hce H3 hs0
      go_enter Try.func51, Try.ntmps51
      go_wp2_with (first
        | (go_at_call 52; refine (number_ok w B p xs x m HM0.out HPM.out HV.out hR).mono ?_; rintro e w1 ⟨rfl, hR1, hK⟩)
        | (go_at_call 53; refine (right_count w1 M R S x most size B (p + m) xs hmost hsz.out hs1 hxm ((hM.kept hK.grownBy (by simp [hMB])).cell) ((hRp.kept hK.grownBy (by simp [hRB])).cell) ((hS.kept hK.grownBy (by simp [hSB])).cell) hR1).mono ?_; rw [HCE.out]; rintro e w2 ⟨rfl, q, rfl⟩))
      go_ret2
      exact ⟨rfl, hR1, hK.drewN q⟩
    · have hD : Hid (rdCnt most size p xs = (0, ce, p)) := by unfold rdCnt; rw [hr]; simp only; rw [if_neg (by simp), if_pos (by rw [hce]; exact h), hce]; rfl
      rw [hD.out]
      have e1 : (ce != 0) = true := by rcases H3 with rfl | rfl | rfl <;> simp at h ⊢
      clear hr hpm hm0 hml hD hce H3 h hs0
      go_enter Try.func51, Try.ntmps51
      go_wp2_with (first
        | (go_at_call 52; refine (number_ok w B p xs x m HM0.out HPM.out HV.out hR).mono ?_; rintro e w1 ⟨rfl, hR1, hK⟩; obtain ⟨j1, jf, _⟩ := hR1.cells)
        | (go_at_call 53; refine (right_count w1 M R S x most size B (p + m) xs hmost hsz.out hs1 hxm ((hM.kept hK.grownBy (by simp [hMB])).cell) ((hRp.kept hK.grownBy (by simp [hRB])).cell) ((hS.kept hK.grownBy (by simp [hSB])).cell) hR1).mono ?_; rw [HCE.out]; rintro e w2 ⟨rfl, q, rfl⟩))
      go_ret2
      exact ⟨rfl, hR1.undo hP.out, hK.trans (chg_set w1 B q 1 _)⟩

theorem rdCount_cnt (most size p : Nat) (xs : List Nat) (h : 0 < size) : Cu.rdCount most size p xs = rdCnt most size p xs := by
  unfold Cu.rdCount rdCnt cntErr
  rw [if_neg (by omega)]
  split
  · rfl
  · simp only [Int.toNat_natCast]
    split
    · simp
    · split <;> simp

theorem cntErr_le {most size left x : Nat} (h : cntErr most size left x = 0) : x ≤ most := by
  unfold cntErr at h
  split at h
  · cases h
  · omega
theorem rdCnt_le (most size p : Nat) (xs : List Nat) : (rdCnt most size p xs).1 ≤ most := by
  unfold rdCnt
  split
  · exact Nat.zero_le _
  · split
    · exact Nat.zero_le _
    · rename_i h
      exact cntErr_le (Classical.not_not.1 h)

/-- The world in which Count's arguments lie. -/
def cntWorld (w : World) (B most size : Nat) : World := ((w.alloc (.cells #[.pointer (some ⟨B, 0, none⟩)] 44)).alloc (.cells #[.int .i64 most] 3)).alloc (.cells #[.int .i64 size] 3)
theorem cntWorld_all (w : World) (B most size : Nat) : Boxed (cntWorld w B most size) w.heap.size 44 (.pointer (some ⟨B, 0, none⟩)) ∧ Boxed (cntWorld w B most size) (w.heap.size + 1) 3 (.int .i64 most) ∧ Boxed (cntWorld w B most size) (w.heap.size + 2) 3 (.int .i64 size) ∧ Below w.heap.size w (cntWorld w B most size) := by
  refine ⟨((Boxed.new w _ _).alloc _).alloc _, ?_, ?_, ((((Below.refl _ w).alloc (Nat.le_refl _) _).alloc (by simp) _).alloc (by simp; omega) _)⟩
  · have := (Boxed.new (w.alloc (.cells #[.pointer (some ⟨B, 0, none⟩)] 44)) 3 (.int .i64 most)).alloc (.cells #[.int .i64 size] 3)
    rw [World.size_alloc] at this
    exact this
  · have := Boxed.new ((w.alloc (.cells #[.pointer (some ⟨B, 0, none⟩)] 44)).alloc (.cells #[.int .i64 most] 3)) 3 (.int .i64 size)
    rw [World.size_alloc, World.size_alloc] at this
    exact this

set_option maxRecDepth 100000 in
set_option maxHeartbeats 2000000 in
theorem count_ok (w : World) (B p most size : Nat) (xs : List Nat) (r : Nat × Int × Nat) (hr : rdCnt most size p xs = r) (hmost : most ≤ 9223372036854775807) (hs0 : 0 < size) (hs1 : size ≤ 9223372036854775807) (hxm : xs.length ≤ 1000000000) (hR : Rdr w B p xs) :
    Calls Try.prog 25 #[.pointer (some ⟨B, 0, none⟩), .int .i64 most, .int .i64 size] w fun e w' => e = .returned (.tuple #[.int .i64 r.1, .int .i64 r.2.1]) ∧ Rdr w' B r.2.2 xs ∧ Chg (· = B) w w' := by
  have hr63 := rdCnt_le most size p xs
  rw [hr] at hr63
  obtain ⟨r1, r2, r3⟩ := r
  simp only at hr63 ⊢
  have ew : IntKind.i64.wrap (r1 : Int) = (r1 : Int) := IntWalk.i64_in _ (by omega)
  have g1 : (0 : Int) ≤ (most : Int) := by omega
  have g2 : (1 : Int) ≤ (size : Int) := by omega
  have HR := Lib.hid hr
  have HS0 := Lib.hid hs0
  obtain ⟨b1, b2, b3, hB0⟩ := cntWorld_all w B most size
  have hR1 := hR.below hB0
  have h0 := hR1.c0
  have b1c := b1.cell
  have b2c := b2.cell
  have b3c := b3.cell
  have hne : w.heap.size ≠ B ∧ w.heap.size + 1 ≠ B ∧ w.heap.size + 2 ≠ B := by have := hR.lt; omega
  have HNE := Lib.hid hne
  clear hr hne hs0
  unfold cntWorld at h0 b1c b2c b3c
  go_enter Try.func25, Try.ntmps25
  go_wp2_with (go_at_call 48; refine (noneR_any _ B h0).mono ?_; rintro e w1 ⟨rfl, rfl⟩)
  go_region_held3 (fun W => W.cell? ⟨w.heap.size, 0, none⟩ = some (.pointer (some ⟨B, 0, none⟩))) (first | go_keep | exact (b1.kept hKg (fun e => HNE.out.1 (Option.some.inj e))).cell) (first | (go_at_call 51; refine (attempt_count _ B p (w.heap.size + 1) w.heap.size (w.heap.size + 2) most size xs (r1, r2, r3) HR.out hmost HS0.out hs1 hxm (by exact b2) (by exact b1) (by exact b3) HNE.out.2.1 HNE.out.1 HNE.out.2.2 (by exact hR1)).mono ?_; rintro e w2 ⟨rfl, hR2, hK0⟩; have hK : Chg (· = B) (cntWorld w B most size) w2 := (((Chg.refl (· = B) (cntWorld w B most size)).drewN 1).trans hK0); have hKg := hK.grownBy))
  all_goals
    rename_i hcont _
    refine hcont _ _ ?_
    go_wp2
    go_ret2
    exact ⟨rfl, hR2, (Chg.of_below _ hB0).trans hK⟩

end Go.Proofs.Ytdemlifjhlpclaa
