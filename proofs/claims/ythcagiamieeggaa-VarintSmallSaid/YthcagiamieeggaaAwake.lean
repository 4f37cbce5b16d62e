/-
  quantumlaw01.awake: the examples of the chapter.
-/
import Derived.ArgAppend
import Derived.Test.YthcagiamieeggaaAny
import Derived.Test.YthcagiamieeggaaHeap
import Derived.Test.YthcagiamieeggaaReadAny
namespace Go.Proofs.Ythcagiamieeggaa
open Go.RowKit
set_option linter.unusedVariables false

theorem infoSl : (Try.prog.info? 5).map (fun i => (i.zero, i.size, i.bytes)) = some (some (.int .u8 0), 1, 1) := by kernel_rfl
def nines : List Value := List.replicate 9 (.int .u8 255)
def nums : List Nat := [0, 127, 128, 300, 18446744073709551615]
def rows1 : List (List Nat) := [[0], [127], [128, 1], [172, 2], [255, 255, 255, 255, 255, 255, 255, 255, 255, 1]]
theorem nums_rows {k x : Nat} (h : nums[k]? = some x) : rows1[k]? = some (Vi.form x) ∧ x < 2 ^ 64 := by
  match k, h with
  | 0, h => simp [nums] at h; subst h; decide +kernel
  | 1, h => simp [nums] at h; subst h; decide +kernel
  | 2, h => simp [nums] at h; subst h; decide +kernel
  | 3, h => simp [nums] at h; subst h; decide +kernel
  | 4, h => simp [nums] at h; subst h; decide +kernel
  | k + 5, h => simp [nums] at h

theorem tab1 (w : World) (c : Nat) (r : Array Value) : 
    let W := ((((((((w.alloc (.cells #[.int .u8 255, .int .u8 255, .int .u8 255, .int .u8 255, .int .u8 255, .int .u8 255, .int .u8 255, .int .u8 255, .int .u8 255] 5)).alloc (.cells #[.int .u8 0] 5)).alloc (.cells #[.int .u8 127] 5)).alloc (.cells #[.int .u8 128, .int .u8 1] 5)).alloc (.cells #[.int .u8 172, .int .u8 2] 5)).alloc (.cells #[.int .u8 1] 5)).alloc (.cells (#[.int .u8 255, .int .u8 255, .int .u8 255, .int .u8 255, .int .u8 255, .int .u8 255, .int .u8 255, .int .u8 255, .int .u8 255, .int .u8 1] ++ r) 5)).alloc
      (.cells #[.slice (some ⟨w.heap.size + 1, 0, none⟩) 1 1, .slice (some ⟨w.heap.size + 1 + 1, 0, none⟩) 1 1, .slice (some ⟨w.heap.size + 1 + 1 + 1, 0, none⟩) 2 2, .slice (some ⟨w.heap.size + 1 + 1 + 1 + 1, 0, none⟩) 2 2, .slice (some ⟨w.heap.size + 1 + 1 + 1 + 1 + 1 + 1, 0, none⟩) 10 c] 25))
    Tab W.drew W.drew.heap.size .u8 (w.heap.size + 1 + 1 + 1 + 1 + 1 + 1 + 1) rows1 ∧ Below w.heap.size w W.drew ∧
      W.drew.heap[w.heap.size]? = some (.cells #[.int .u8 255, .int .u8 255, .int .u8 255, .int .u8 255, .int .u8 255, .int .u8 255, .int .u8 255, .int .u8 255, .int .u8 255] 5 (0, 0)) := by
  intro W
  obtain ⟨os, hos⟩ : ∃ os : List Obj, [Obj.cells #[.int .u8 255, .int .u8 255, .int .u8 255, .int .u8 255, .int .u8 255, .int .u8 255, .int .u8 255, .int .u8 255, .int .u8 255] 5 (0, 0), .cells #[.int .u8 0] 5 (0, 0), .cells #[.int .u8 127] 5 (0, 0), .cells #[.int .u8 128, .int .u8 1] 5 (0, 0), .cells #[.int .u8 172, .int .u8 2] 5 (0, 0), .cells #[.int .u8 1] 5 (0, 0), .cells (#[.int .u8 255, .int .u8 255, .int .u8 255, .int .u8 255, .int .u8 255, .int .u8 255, .int .u8 255, .int .u8 255, .int .u8 255, .int .u8 1] ++ r) 5 (0, 0),
      .cells #[.slice (some ⟨w.heap.size + 1, 0, none⟩) 1 1, .slice (some ⟨w.heap.size + 1 + 1, 0, none⟩) 1 1, .slice (some ⟨w.heap.size + 1 + 1 + 1, 0, none⟩) 2 2, .slice (some ⟨w.heap.size + 1 + 1 + 1 + 1, 0, none⟩) 2 2, .slice (some ⟨w.heap.size + 1 + 1 + 1 + 1 + 1 + 1, 0, none⟩) 10 c] 25 (0, 0)] = os := ⟨_, rfl⟩
  have hW : W = allocs w os := by rw [← hos]; rfl
  have hl : os.length = 8 := by rw [← hos]; rfl
  have hat := allocs_at w os
  have hbel := allocs_below w os
  have hsz := allocs_size w os
  rw [← hW] at hat hbel hsz
  rw [hl] at hsz
  have hd : ∀ p, W.drew.cell? p = W.cell? p := fun _ => rfl
  have h0 := (hat 0).trans (by rw [← hos]; rfl : _ = some (Obj.cells #[.int .u8 255, .int .u8 255, .int .u8 255, .int .u8 255, .int .u8 255, .int .u8 255, .int .u8 255, .int .u8 255, .int .u8 255] 5 (0, 0)))
  have h1 : W.heap[w.heap.size + 1]? = some (.cells #[.int .u8 0] 5 (0, 0)) := (hat 1).trans (by rw [← hos]; rfl)
  have h2 : W.heap[w.heap.size + 1 + 1]? = some (.cells #[.int .u8 127] 5 (0, 0)) := (hat 2).trans (by rw [← hos]; rfl)
  have h3 : W.heap[w.heap.size + 1 + 1 + 1]? = some (.cells #[.int .u8 128, .int .u8 1] 5 (0, 0)) := (hat 3).trans (by rw [← hos]; rfl)
  have h4 : W.heap[w.heap.size + 1 + 1 + 1 + 1]? = some (.cells #[.int .u8 172, .int .u8 2] 5 (0, 0)) := (hat 4).trans (by rw [← hos]; rfl)
  have h6 : W.heap[w.heap.size + 1 + 1 + 1 + 1 + 1 + 1]? = some (.cells (#[.int .u8 255, .int .u8 255, .int .u8 255, .int .u8 255, .int .u8 255, .int .u8 255, .int .u8 255, .int .u8 255, .int .u8 255, .int .u8 1] ++ r) 5 (0, 0)) := (hat 6).trans (by rw [← hos]; rfl)
  have h7' : W.heap[w.heap.size + 1 + 1 + 1 + 1 + 1 + 1 + 1]? = some (.cells #[.slice (some ⟨w.heap.size + 1, 0, none⟩) 1 1, .slice (some ⟨w.heap.size + 1 + 1, 0, none⟩) 1 1, .slice (some ⟨w.heap.size + 1 + 1 + 1, 0, none⟩) 2 2, .slice (some ⟨w.heap.size + 1 + 1 + 1 + 1, 0, none⟩) 2 2, .slice (some ⟨w.heap.size + 1 + 1 + 1 + 1 + 1 + 1, 0, none⟩) 10 c] 25 (0, 0)) := (hat 7).trans (by rw [← hos]; rfl)
  have h7 : ∀ j, W.cell? ⟨w.heap.size + 1 + 1 + 1 + 1 + 1 + 1 + 1, j, none⟩ = #[Value.slice (some ⟨w.heap.size + 1, 0, none⟩) 1 1, .slice (some ⟨w.heap.size + 1 + 1, 0, none⟩) 1 1, .slice (some ⟨w.heap.size + 1 + 1 + 1, 0, none⟩) 2 2, .slice (some ⟨w.heap.size + 1 + 1 + 1 + 1, 0, none⟩) 2 2, .slice (some ⟨w.heap.size + 1 + 1 + 1 + 1 + 1 + 1, 0, none⟩) 10 c][j]? := fun j => by
    simp [World.cell?, h7']
  have hS : ∀ {b : Nat} {cs : Array Value} {xs : List Nat}, W.heap[b]? = some (.cells cs 5 (0, 0)) → (∀ (i x : Nat), xs[i]? = some x → cs[0 + i]? = some (.int .u8 x)) → Seen W.drew W.heap.size .u8 (some ⟨b, 0, none⟩) xs := fun h hx => Seen.of_block h hx
  refine ⟨⟨by show _ < W.heap.size; rw [hsz]; omega, fun k xs hk => ?_⟩, ?_, h0⟩
  · simp only [hd, h7]
    match k, hk with
    | 0, hk => simp [rows1] at hk; subst hk; exact ⟨_, _, rfl, hS h1 (fun i x hx => by match i, hx with | 0, hx => simp at hx; subst hx; rfl)⟩
    | 1, hk => simp [rows1] at hk; subst hk; exact ⟨_, _, rfl, hS h2 (fun i x hx => by match i, hx with | 0, hx => simp at hx; subst hx; rfl)⟩
    | 2, hk => simp [rows1] at hk; subst hk; exact ⟨_, _, rfl, hS h3 (fun i x hx => by match i, hx with | 0, hx => (simp at hx; subst hx; rfl) | 1, hx => (simp at hx; subst hx; rfl))⟩
    | 3, hk => simp [rows1] at hk; subst hk; exact ⟨_, _, rfl, hS h4 (fun i x hx => by match i, hx with | 0, hx => (simp at hx; subst hx; rfl) | 1, hx => (simp at hx; subst hx; rfl))⟩
    | 4, hk =>
      simp [rows1] at hk
      subst hk
      refine ⟨_, _, rfl, hS h6 (fun i x hx => ?_)⟩
      have hi : i < 10 := (List.getElem?_eq_some_iff.1 hx).1
      rw [Nat.zero_add, Array.getElem?_append_left (by simpa using hi)]
      match i, hx with
      | 0, hx | 1, hx | 2, hx | 3, hx | 4, hx | 5, hx | 6, hx | 7, hx | 8, hx | 9, hx => simp at hx; subst hx; rfl
    | k + 5, hk => simp [rows1] at hk
  · exact hbel.drew

theorem zz0 : zz 0 = 0 := by decide
theorem zz1 : zz (-1) = 1 := by decide
theorem zz2 : zz 1 = 2 := by decide
theorem zz3 : zz (-2) = 3 := by decide
theorem zz4 : zz (-9223372036854775808) = 18446744073709551615 := by decide
def rows2 : List (List Nat) := [[], [128], [255, 255, 255, 255, 255, 255, 255, 255, 255, 2], [128, 0]]
def errs : List Int := [10, 10, 11, 12]
theorem rows2_errs {k : Nat} (hk : k < 4) : ∃ xs er, rows2[k]? = some xs ∧ errs[k]? = some er ∧ Vi.read xs = (0, 0, er) ∧ (∀ y ∈ xs, y < 256) ∧ xs.length ≤ 10 := by
  match k, hk with
  | 0, _ => exact ⟨_, _, rfl, rfl, by decide +kernel, by simp, by simp⟩
  | 1, _ => exact ⟨_, _, rfl, rfl, by decide +kernel, by simp, by simp⟩
  | 2, _ => exact ⟨_, _, rfl, rfl, by decide +kernel, by simp, by simp⟩
  | 3, _ => exact ⟨_, _, rfl, rfl, by decide +kernel, by simp, by simp⟩
theorem nines_cell {W W' : World} {b : Nat} (h : W.heap[b]? = some (.cells #[.int .u8 255, .int .u8 255, .int .u8 255, .int .u8 255, .int .u8 255, .int .u8 255, .int .u8 255, .int .u8 255, .int .u8 255] 5 (0, 0))) (hW : W'.heap[b]? = W.heap[b]?) :
    ∀ b', some (⟨b, 0, none⟩ : Addr) = some b' → ∀ j u, nines[j]? = some u → W'.cell? (b'.add j) = some u := by
  intro b' hb j u hu
  cases hb
  rw [h] at hW
  have hj : j < 9 := by have := (List.getElem?_eq_some_iff.1 hu).1; simpa [nines] using this
  have hu2 : u = .int .u8 255 := List.eq_of_mem_replicate (List.mem_of_getElem? hu)
  subst hu2
  by_cases h0 : j = 0
  · subst h0; simp [Addr.add, World.cell?, hW]
  · simp only [Addr.add, World.cell?, hW, Nat.zero_add, if_neg h0]
    match j, hj with
    | 0, _ | 1, _ | 2, _ | 3, _ | 4, _ | 5, _ | 6, _ | 7, _ | 8, _ => rfl
theorem tab2 (w3 w4 : World) (base g2 cap2 : Nat)
    (hgrow : ((w3.alloc (.cells #[.int .u8 128] 5)).alloc (.cells #[.int .u8 2] 5)).grownBy w4 none)
    (hown : w4.ownsRow base 5 1 (.slice (some ⟨g2, 0, none⟩) 10 cap2) 10 (nines ++ [.int .u8 2])) :
    let W := ((w4.alloc (.cells #[.int .u8 128, .int .u8 0] 5)).alloc (.cells #[.slice none 0 0, .slice (some ⟨w3.heap.size, 0, none⟩) 1 1, .slice (some ⟨g2, 0, none⟩) 10 cap2, .slice (some ⟨w4.heap.size, 0, none⟩) 2 2] 25))
    Tab W W.heap.size .u8 (w4.heap.size + 1) rows2 ∧ Below w3.heap.size w3 W := by
  intro W
  obtain ⟨os, hos⟩ : ∃ os : List Obj, [Obj.cells #[.int .u8 128, .int .u8 0] 5 (0, 0), .cells #[.slice none 0 0, .slice (some ⟨w3.heap.size, 0, none⟩) 1 1, .slice (some ⟨g2, 0, none⟩) 10 cap2, .slice (some ⟨w4.heap.size, 0, none⟩) 2 2] 25 (0, 0)] = os := ⟨_, rfl⟩
  have hW : W = allocs w4 os := by rw [← hos]; rfl
  have hl : os.length = 2 := by rw [← hos]; rfl
  have hat := allocs_at w4 os
  have hbel := allocs_below w4 os
  have hsz := allocs_size w4 os
  rw [← hW] at hat hbel hsz
  rw [hl] at hsz
  have hB34 : Below w3.heap.size w3 w4 := (((Below.refl _ w3).alloc (Nat.le_refl _) _).alloc (by simp) _).grown hgrow (by simp; omega) (fun k e => by cases e)
  have hb0 : w4.heap[w3.heap.size]? = some (.cells #[.int .u8 128] 5 (0, 0)) := by
    rw [hgrow.block w3.heap.size (by simp; omega) (by simp), Below.heap_alloc _ _ _ (by simp)]
    exact World.alloc_heap_new _ _
  have hb1 : W.heap[w3.heap.size]? = some (.cells #[.int .u8 128] 5 (0, 0)) := (hbel.block _ (Array.getElem?_eq_some_iff.1 hb0).1).trans hb0
  have hb3 : W.heap[w4.heap.size]? = some (.cells #[.int .u8 128, .int .u8 0] 5 (0, 0)) := (hat 0).trans (by rw [← hos]; rfl)
  have h7' : W.heap[w4.heap.size + 1]? = some (.cells #[.slice none 0 0, .slice (some ⟨w3.heap.size, 0, none⟩) 1 1, .slice (some ⟨g2, 0, none⟩) 10 cap2, .slice (some ⟨w4.heap.size, 0, none⟩) 2 2] 25 (0, 0)) := (hat 1).trans (by rw [← hos]; rfl)
  have h7 : ∀ j, W.cell? ⟨w4.heap.size + 1, j, none⟩ = #[Value.slice none 0 0, .slice (some ⟨w3.heap.size, 0, none⟩) 1 1, .slice (some ⟨g2, 0, none⟩) 10 cap2, .slice (some ⟨w4.heap.size, 0, none⟩) 2 2][j]? := fun j => by
    simp [World.cell?, h7']
  refine ⟨⟨by rw [hsz]; omega, fun k xs hk => ?_⟩, hB34.trans (hbel.mono hB34.size)⟩
  simp only [h7]
  match k, hk with
  | 0, hk => simp [rows2] at hk; subst hk; exact ⟨_, _, rfl, Seen.nil _ _ _ _⟩
  | 1, hk => simp [rows2] at hk; subst hk; exact ⟨_, _, rfl, Seen.of_block hb1 (fun i x hx => by match i, hx with | 0, hx => simp at hx; subst hx; rfl)⟩
  | 2, hk =>
    simp [rows2] at hk
    subst hk
    have hs := Seen.of_own (k := .u8) (xs := [255, 255, 255, 255, 255, 255, 255, 255, 255, 2]) hown
    exact ⟨_, _, rfl, (hs.below hbel).more (by rw [hsz]; omega)⟩
  | 3, hk => simp [rows2] at hk; subst hk; exact ⟨_, _, rfl, Seen.of_block hb3 (fun i x hx => by match i, hx with | 0, hx => (simp at hx; subst hx; rfl) | 1, hx => (simp at hx; subst hx; rfl))⟩
  | k + 4, hk => simp [rows2] at hk

set_option maxRecDepth 100000 in
set_option maxHeartbeats 2000000 in
theorem awake_any (w : World) : Calls Try.prog 13 #[] w fun e w' => e = .returned (.bool true) ∧ Below w.heap.size w w' := by
  go_enter Try.func13, Try.ntmps13
  go_wp2
  obtain ⟨cap, hcap⟩ : ∃ c, (Question.appendCap 10 9 5).cut (w.tape w.drawn (Question.appendCap 10 9 5)) = c := ⟨_, rfl⟩
  rw [hcap]
  obtain ⟨zs, hzs⟩ : ∃ z, Builtin.zeroCells #[Value.int IntKind.u8 0] (cap - 10) = z := ⟨_, rfl⟩
  rw [hzs]
  obtain ⟨ht1, ht2, ht3⟩ := tab1 w cap zs
  obtain ⟨W0, hW0⟩ := name_world ht2
  rw [hW0] at ht1 ht2 ht3 ⊢
  obtain ⟨G, hG⟩ : ∃ G, w.heap.size + 1 + 1 + 1 + 1 + 1 + 1 + 1 = G := ⟨_, rfl⟩
  rw [hG] at ht1 ⊢
  clear hW0 hcap hzs
  go_loopw [23] (fun i wr => ∃ k : Nat, k ≤ 5 ∧ i = .int .i64 k ∧ Below W0.heap.size W0 wr) (fun i _ => 5 - (intOf i).toNat)
  case atStart => exact ⟨0, by omega, rfl, Below.refl _ _⟩
  case round =>
    obtain ⟨k, hk, rfl, hB⟩ := hrel
    by_cases hlt : k < 5
    · obtain ⟨x, hx⟩ : ∃ x, nums[k]? = some x := ⟨_, List.getElem?_eq_getElem (by simpa [nums] using hlt)⟩
      obtain ⟨hr, hx64⟩ := nums_rows hx
      obtain ⟨a, c, hc, hS⟩ := (ht1.below hB).2 k _ hr
      have hnum : ([Value.int .u64 0, .int .u64 127, .int .u64 128, .int .u64 300, .int .u64 18446744073709551615] : List Value)[k]'(by simpa using hlt) = .int .u64 x := by
        match k, hlt, hx with
        | 0, _, hx | 1, _, hx | 2, _, hx | 3, _, hx | 4, _, hx => simp [nums] at hx; subst hx; rfl
      have hl10 := Vi.form_len10 x hx64
      have hlp := Vi.form_pos x
      have hgl := ht1.1
      clear hr hx
      have hfl : (Vi.form x).length ≤ maxLen := by unfold maxLen; omega
      go_wp2_with (first | (go_at_call 16; refine (write_any x hx64 _).mono ?_; rintro e w' ⟨v, rfl, hown, hBw⟩; obtain ⟨g', cap', rfl⟩ := own_form hown hlp) | (go_at_call 19; refine (sameBytes_any _ _ _ _ (Vi.form x) (Vi.form x) w'.heap.size _ (Seen.of_own hown) (((hS.alloc hB.size _).below (hBw.mono (by have := hB.size; simp; omega))).more (by have := hB.size; have := hBw.size; simp at this; omega)) hfl hfl).mono ?_; rintro e w2 ⟨rfl, hB2⟩; rw [decide_eq_true (rfl : Vi.form x = Vi.form x)]))
      exact ⟨⟨k + 1, by omega, by go_num, hB.trans ((((Below.refl _ wr).alloc (Nat.le_refl _) _).trans ((hBw.mono (by simp)).trans (hB2.mono (by have := hBw.size; simp at this; omega)))).mono hB.size)⟩, by simp [intOf]; omega⟩
    · obtain rfl : k = 5 := by omega
      have h9 := hB.block _ (Array.getElem?_eq_some_iff.1 ht3).1
      rw [ht3] at h9
      have HB9 := Lib.hid h9
      have hwb : w.heap.size < wr.heap.size := (Array.getElem?_eq_some_iff.1 h9).1
      clear ht1 ht3 h9 hlt
      have hBwr : Below w.heap.size w wr := ht2.trans (hB.mono ht2.size)
      clear hB ht2
      obtain ⟨i0, hi, hz0, hz1, hz2⟩ := info_parts infoSl
      have hSr : Seen (wr.alloc (.cells #[.int .u8 172, .int .u8 2, .int .u8 7] 5)) (wr.alloc (.cells #[.int .u8 172, .int .u8 2, .int .u8 7] 5)).heap.size .u8 (some ⟨wr.heap.size, 0, none⟩) [172, 2, 7] :=
        Seen.of_block (World.alloc_heap_new _ _) (fun i x hx => by match i, hx with | 0, hx => (simp at hx; subst hx; rfl) | 1, hx => (simp at hx; subst hx; rfl) | 2, hx => (simp at hx; subst hx; rfl))
      have hR := read_any _ _ 3 [172, 2, 7] (by simp) hSr (by unfold maxLen; simp)
      rw [show Vi.read [172, 2, 7] = (300, 2, 0) from by decide +kernel] at hR
      go_wp2_with (first | (go_at_call 18; refine hR.mono ?_; rintro e w3 ⟨rfl, hB3⟩) | (at_builtin; refine wpList_append_grows _ rfl _ _ 25 rfl 5 i0 (.int .u8 0) 1 1 Try.underlying25 hi hz0 hz1 hz2 rfl (by decide) (some ⟨w.heap.size, 0, none⟩) 9 9 nines rfl (by simp) rfl ?_ ⟨w3.heap.size + 1, 0, none⟩ 1 1 [.int .u8 2] rfl rfl ?_ (by simp [Value.oneCell']) (by decide) (by unfold maxLen; decide) (by decide) ?_; exact nines_cell HB9.out (by rw [Below.heap_alloc _ _ _ (by have := hB3.size; simp at this ⊢; omega), Below.heap_alloc _ _ _ (by have := hB3.size; simp at this; omega)]; rw [hB3.block _ (by simp; omega), Below.heap_alloc _ _ _ hwb]); (have := cell_one_new (w3.alloc (.cells #[.int .u8 128] 5)) (.int .u8 2) 5; rw [World.size_alloc] at this; exact this); intro v2 w4 hown4 hgrow4; obtain ⟨g2, cap2, rfl⟩ := own_form hown4 (by decide)))
      obtain ⟨ht1, ht2⟩ := tab2 w3 w4 _ g2 cap2 hgrow4 hown4
      obtain ⟨W2, hW2⟩ := name_world ht2
      rw [hW2] at ht1 ht2 ⊢
      have hBW2 : Below w.heap.size w W2 := (((hBwr.alloc hBwr.size _).trans (hB3.mono (by have := hBwr.size; simp; omega)))).trans (ht2.mono (by have := hBwr.size; have := hB3.size; simp at this; omega))
      clear hW2 hown4 hgrow4 HB9 hSr hR hB3 hBwr
      go_loopw [61] (fun i wr => ∃ k : Nat, k ≤ 4 ∧ i = .int .i64 k ∧ Below W2.heap.size W2 wr) (fun i _ => 4 - (intOf i).toNat)
      case atStart => exact ⟨0, by omega, rfl, Below.refl _ _⟩
      case round =>
        obtain ⟨k, hk, rfl, hB⟩ := hrel
        by_cases hlt : k < 4
        · obtain ⟨xs, er, hr, he, hrd, h256, hl⟩ := rows2_errs hlt
          obtain ⟨a, c, hc, hS⟩ := (ht1.below hB).2 k _ hr
          have hgl := ht1.1
          have hR := read_any _ a c xs h256 (hS.more hB.size) (by unfold maxLen; omega)
          rw [hrd] at hR
          have herr : ([Value.int .i64 10, .int .i64 10, .int .i64 11, .int .i64 12] : List Value)[k]'(by simpa using hlt) = .int .i64 er := by
            match k, hlt, he with
            | 0, _, he | 1, _, he | 2, _, he | 3, _, he => simp [errs] at he; subst he; rfl
          have HR := Lib.hid hR
          clear hr he hrd hR
          go_wp2_with (go_at_call 18; refine HR.out.mono ?_; rintro e w5 ⟨rfl, hB5⟩)
          exact ⟨⟨k + 1, by omega, by go_num, (hB.trans (hB5.mono hB.size)).alloc (by have := hB.size; have := hB5.size; omega) _⟩, by simp [intOf]; omega⟩
        · obtain rfl : k = 4 := by omega
          clear ht1 hlt
          have hBf : Below w.heap.size w wr := hBW2.trans (hB.mono hBW2.size)
          clear hB hBW2 ht2
          go_wp2_with (go_at_call 23; refine (zigzag_any _ (by decide) (by decide) _).mono ?_; rintro e w' ⟨rfl, rfl⟩; simp only [zz0, zz1, zz2, zz3, zz4])
          go_ret
          exact ⟨rfl, hBf⟩

end Go.Proofs.Ythcagiamieeggaa
