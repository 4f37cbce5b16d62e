/-
  A slice of calls that comes in.
-/
import Derived.OpenShut
import Derived.Deep.Slices
import Derived.Deep.Fields
import Derived.ChangeSame
import Derived.Test.YtdemlifjhlpclaaReadsC
namespace Go.Proofs.Ytdemlifjhlpclaa
open Go.RowKit Go.ChangeShapes Go.WideShapes Go.Deep
set_option linter.unusedVariables false

/-- What is known of a slice of calls that came in. -/
def ActsIn (w : World) (a : Option Addr) (len cap : Nat) : Prop :=
  len ≤ cap ∧ cap ≤ maxLen ∧ ∃ l : List Act0, l.length = len ∧ Acts w w.heap.size a l ∧ ∀ t ∈ l, t.ok ∧ ∃ zs, IsRow .u8 w t.sa t.sn t.sc zs

set_option maxRecDepth 100000 in
set_option maxHeartbeats 1000000 in
theorem acts_open {H : Type} {enc : TypeId × Value → H} {W : World} {fuel : Nat} {a : Option Addr} {len cap : Nat} {x : DataW H × List MemPlace}
    (h : DataW.trod enc Try.prog W 0 (fun _ => true) true fuel 23 [.slice a len cap] = some x) : ActsIn W a len cap := by
  rcases open_slice Try.underlying23 h with ⟨hcs, _⟩ | ⟨ad, l', c', m, n, D, Pl, hcs, _, hl, hm, hmm, _, hi⟩
  · simp at hcs
    obtain ⟨rfl, rfl, rfl⟩ := hcs
    exact ⟨Nat.le_refl _, by unfold maxLen; omega, [], rfl, fun i t ht => by simp at ht, by simp⟩
  · simp at hcs
    obtain ⟨rfl, rfl, rfl⟩ := hcs
    rw [if_pos rfl] at hmm
    subst hmm
    have hC : Try.prog.cellsOf 30 = 5 := by kernel_rfl
    refine ⟨hl, hm, ?_⟩
    have hex : ∀ i, i < len → ∃ t : Act0, (∃ b off, ad = ⟨b, off, none⟩ ∧ b < W.heap.size ∧ W.cell? ⟨b, off + i * 5, none⟩ = some (.int .u8 t.kd) ∧ W.cell? ⟨b, off + i * 5 + 1, none⟩ = some (.int .i64 t.N) ∧ W.cell? ⟨b, off + i * 5 + 2, none⟩ = some (.int .i64 t.M) ∧ W.cell? ⟨b, off + i * 5 + 3, none⟩ = some (.int .u64 t.X) ∧ W.cell? ⟨b, off + i * 5 + 4, none⟩ = some (.slice t.sa t.sn t.sc)) ∧ t.ok ∧ ∃ zs, IsRow .u8 W t.sa t.sn t.sc zs := by
      intro i hil
      obtain ⟨cs, hc, ht⟩ := hi i (by omega)
      rw [hC] at hc
      obtain ⟨_, hlen, hcell⟩ := World.cells?_some hc
      obtain ⟨xs, n', _, _, _, hxl, hg⟩ := DataW.trod_struct Try.underlying30 ht
      match cs, hlen with
      | [v0, v1, v2, v3, v4], _ =>
        match xs, hxl with
        | [y0, y1, y2, y3, y4], _ =>
          have g0 : DataW.trod enc Try.prog W 0 (fun _ => true) true n' 5 [v0] = some y0 := hg 0 _ rfl
          have g1 : DataW.trod enc Try.prog W 0 (fun _ => true) true n' 3 [v1] = some y1 := hg 1 _ rfl
          have g2 : DataW.trod enc Try.prog W 0 (fun _ => true) true n' 3 [v2] = some y2 := hg 2 _ rfl
          have g3 : DataW.trod enc Try.prog W 0 (fun _ => true) true n' 28 [v3] = some y3 := hg 3 _ rfl
          have g4 : DataW.trod enc Try.prog W 0 (fun _ => true) true n' 22 [v4] = some y4 := hg 4 _ rfl
          obtain ⟨k0, e0, _, wf0⟩ := DataW.trod_int Try.underlying5 g0
          obtain ⟨k1, e1, _, wf1⟩ := DataW.trod_int Try.underlying3 g1
          obtain ⟨k2, e2, _, wf2⟩ := DataW.trod_int Try.underlying3 g2
          obtain ⟨k3, e3, _, wf3⟩ := DataW.trod_int Try.underlying28 g3
          simp at e0 e1 e2 e3
          subst e0; subst e1; subst e2; subst e3
          have hs4 : ∃ sa sn sc zs, v4 = .slice sa sn sc ∧ IsRow .u8 W sa sn sc zs := by
            rcases open_ints Try.underlying22 Try.underlying5 (by kernel_rfl) g4 with ⟨hcs, _⟩ | ⟨x, l, c, zs, hcs, _, hl, hm, hz, _, hcell, hwz⟩
            · simp at hcs
              exact ⟨none, 0, 0, [], hcs, .inl ⟨rfl, rfl, rfl, rfl⟩⟩
            · simp at hcs
              exact ⟨_, _, _, zs, hcs, .inr ⟨_, rfl, hl, hm, by simpa using hz, hcell, hwz⟩⟩
          obtain ⟨sa, sn, sc, zs, rfl, hrow⟩ := hs4
          have b0 := bounds_u8 wf0
          have b1 := bounds_i64 wf1
          have b2 := bounds_i64 wf2
          have b3 := bounds_u64 wf3
          obtain ⟨kd, rfl⟩ := Int.eq_ofNat_of_zero_le b0.1
          obtain ⟨kx, rfl⟩ := Int.eq_ofNat_of_zero_le b3.1
          have hc0 : W.cell? ((ad.add (i * 5)).add 0) = some (.int .u8 (kd : Int)) := hcell 0 (by omega)
          have hc1 : W.cell? ((ad.add (i * 5)).add 1) = some (.int .i64 k1) := hcell 1 (by omega)
          have hc2 : W.cell? ((ad.add (i * 5)).add 2) = some (.int .i64 k2) := hcell 2 (by omega)
          have hc3 : W.cell? ((ad.add (i * 5)).add 3) = some (.int .u64 (kx : Int)) := hcell 3 (by omega)
          have hc4 : W.cell? ((ad.add (i * 5)).add 4) = some (.slice sa sn sc) := hcell 4 (by omega)
          obtain ⟨b, off, spot⟩ := ad
          have hs : spot = none := by
            obtain ⟨cz, hz, _⟩ := hi 0 (by omega)
            rw [hC] at hz
            obtain ⟨_, hzl, hzc⟩ := World.cells?_some hz
            have h1 := hzc 0 (by omega)
            rw [List.getElem?_eq_getElem (by omega)] at h1
            simpa [Addr.add] using World.cell?_spot h1
          subst hs
          simp only [Addr.add_lit] at hc0 hc1 hc2 hc3 hc4
          have hb : b < W.heap.size := World.block_lt_of_cell? W _ hc0
          exact ⟨⟨kd, k1, k2, kx, sa, sn, sc⟩, ⟨b, off, rfl, hb, hc0, hc1, hc2, hc3, hc4⟩, ⟨by show kd < 256; omega, b1.1, b1.2, b2.1, b2.2, by show kx < 2 ^ 64; omega⟩, zs, hrow⟩
    have hch : ∃ f : Nat → Act0, ∀ i, i < len → (∃ b off, ad = ⟨b, off, none⟩ ∧ b < W.heap.size ∧ W.cell? ⟨b, off + i * 5, none⟩ = some (.int .u8 (f i).kd) ∧ W.cell? ⟨b, off + i * 5 + 1, none⟩ = some (.int .i64 (f i).N) ∧ W.cell? ⟨b, off + i * 5 + 2, none⟩ = some (.int .i64 (f i).M) ∧ W.cell? ⟨b, off + i * 5 + 3, none⟩ = some (.int .u64 (f i).X) ∧ W.cell? ⟨b, off + i * 5 + 4, none⟩ = some (.slice (f i).sa (f i).sn (f i).sc)) ∧ (f i).ok ∧ ∃ zs, IsRow .u8 W (f i).sa (f i).sn (f i).sc zs := by
      refine ⟨fun i => if h : i < len then Classical.choose (hex i h) else ⟨0, 0, 0, 0, none, 0, 0⟩, fun i h => ?_⟩
      simp only [dif_pos h]
      exact Classical.choose_spec (hex i h)
    obtain ⟨f, hf⟩ := hch
    refine ⟨(List.range len).map f, by simp, fun i t ht => ?_, fun t ht => ?_⟩
    · have hil : i < len := by have := (List.getElem?_eq_some_iff.1 ht).1; simpa using this
      have e : t = f i := by simp [hil] at ht; exact ht.symm
      subst e
      obtain ⟨⟨b, off, rfl, hrest⟩, _⟩ := hf i hil
      exact ⟨b, off, rfl, hrest⟩
    · simp only [List.mem_map, List.mem_range] at ht
      obtain ⟨i, hil, rfl⟩ := ht
      exact (hf i hil).2

end Go.Proofs.Ytdemlifjhlpclaa
