/-
  The reference writer: PutFixed; both writers in one form.
-/
import Derived.Test.YtdemlifjhlpclaaPut
import Derived.Test.YtdemlifjhlpclaaCReads
namespace Go.Proofs.Ytdemlifjhlpclaa
open Go.RowKit
set_option linter.unusedVariables false

/-- What is written: the bytes, and the error. -/
def wput (lim : Nat) (xs ys : List Nat) : List Nat × Int := if xs.length + ys.length ≤ lim then (xs ++ ys, 0) else (xs, 4)
def wfixed (lim : Nat) (xs : List Nat) (x : Nat) (n : Int) : List Nat × Int := if n < 1 ∨ 8 < n ∨ x / 256 ^ n.toNat ≠ 0 then (xs, 2) else wput lim xs (leB n.toNat x)

/-- Put, in one form. -/
theorem refPut_any (w : World) (lim : Nat) (a : Option Addr) (n c : Nat) (xs : List Nat) (hxn : xs.length = n) (hnc : n ≤ c) (hcm : c ≤ maxLen) (N : Nat) (hS : Seen w N .u8 a xs) (hN : N ≤ w.heap.size) (b : Option Addr) (m d : Nat) (ys : List Nat) (hym : ys.length = m) (hT : Seen w N .u8 b ys) (hn : n ≤ 100000000) (hm : m ≤ 100000000) (zs : List Nat) (er : Int) (hr : wput lim xs ys = (zs, er)) (k : Nat) (hk : zs.length = k) :
    Calls Try.prog 40 #[wv lim a n c, .slice b m d] w fun e w' => ∃ a' c', e = .returned (.tuple #[wv lim a' k c', .int .i64 er]) ∧ k ≤ c' ∧ c' ≤ maxLen ∧ Seen w' w'.heap.size .u8 a' zs ∧ ((a' = a ∧ zs = xs) ∨ ∀ g off, a' = some ⟨g, off, none⟩ → w.heap.size ≤ g) ∧ Below w.heap.size w w' := by
  subst hk
  unfold wput at hr
  by_cases h : xs.length + ys.length ≤ lim
  · rw [if_pos h] at hr
    cases hr
    refine (refPut_ok w lim a n c xs hxn N hS hN b m d ys hym hT hn hm (by omega)).mono ?_
    rintro e w' ⟨a', c', rfl, hown, hB⟩
    obtain ⟨a2, c2, h2, S2, _, hc, hcm'⟩ := own_slice hown
    cases h2
    rw [List.length_append, hxn, hym]
    exact ⟨_, _, rfl, hc, hcm', S2, .inr fun g off e => by subst e; exact (hown.lt g rfl).1, hB⟩
  · rw [if_neg h] at hr
    cases hr
    refine (refPut_full w lim a n c b m d hn hm (by omega)).mono ?_
    rintro e w' ⟨rfl, hB⟩
    rw [hxn]
    exact ⟨_, _, rfl, hnc, hcm, ((hS.more hN).below hB).more hB.size, .inl ⟨rfl, rfl⟩, hB⟩

/-- A writer's call, in one form. -/
def Wrote (w : World) (base B lim : Nat) (v : Value) (zs : List Nat) (er : Int) (e : Ending) (w' : World) : Prop := ∃ v', e = .returned (.int .i64 er) ∧ Wtr w' base B lim v' zs ∧ Chg (WS B v) w w' ∧ Moved w v v'
theorem wrote_put {f : FuncId} {args : Array Value} {w : World} {base B lim : Nat} {v : Value} {xs ys : List Nat}
    (hok : xs.length + ys.length ≤ lim → Calls Try.prog f args w fun e w' => ∃ v', e = .returned (.int .i64 0) ∧ Wtr w' base B lim v' (xs ++ ys) ∧ Chg (WS B v) w w' ∧ Moved w v v')
    (hno : lim < xs.length + ys.length → Calls Try.prog f args w fun e w' => e = .returned (.int .i64 4) ∧ Wtr w' base B lim v xs ∧ Below w.heap.size w w')
    (zs : List Nat) (er : Int) (hr : wput lim xs ys = (zs, er)) : Calls Try.prog f args w (Wrote w base B lim v zs er) := by
  unfold wput at hr
  by_cases h : xs.length + ys.length ≤ lim
  · rw [if_pos h] at hr
    cases hr
    exact hok h
  · rw [if_neg h] at hr
    cases hr
    refine (hno (by omega)).mono ?_
    rintro e w' ⟨rfl, hW, hB⟩
    exact ⟨v, rfl, hW, Chg.of_below _ hB, .inl rfl⟩
section
variable (w : World) (base B lim : Nat) (v : Value) (xs : List Nat) (hW : Wtr w base B lim v xs) (hbase : base ≤ w.heap.size) (zs : List Nat) (er : Int)
include hW hbase
theorem wrote_bytes (a : Option Addr) (m c : Nat) (ys : List Nat) (hy : ys.length = m) (N : Nat) (hS : Seen w N .u8 a ys) (hr : wput lim xs ys = (zs, er)) :
    Calls Try.prog 30 #[.pointer (some ⟨B, 0, none⟩), .slice a m c] w (Wrote w base B lim v zs er) :=
  wrote_put (fun h => wBytes_ok w base B lim v xs hW hbase a m c ys hy N hS (by omega)) (fun h => (wBytes_full w base B lim v xs hW a m c (by omega)).mono fun e w' ⟨he, q, hq⟩ => ⟨he, by subst hq; exact hW, by subst hq; exact below_drewN (Below.refl _ _) q⟩) zs er hr
theorem wrote_byte (x : Nat) (hr : wput lim xs [x] = (zs, er)) :
    Calls Try.prog 31 #[.pointer (some ⟨B, 0, none⟩), .int .u8 x] w (Wrote w base B lim v zs er) :=
  wrote_put (fun h => wByte_ok w base B lim v xs hW hbase x x rfl h) (fun h => wByte_full w base B lim v xs hW hbase x x rfl h) zs er hr
theorem wrote_number (x : Nat) (hx : x < 2 ^ 64) (hr : wput lim xs (Vi.form x) = (zs, er)) :
    Calls Try.prog 34 #[.pointer (some ⟨B, 0, none⟩), .int .u64 x] w (Wrote w base B lim v zs er) :=
  wrote_put (fun h => wNumber_ok w base B lim v xs hW hbase x x rfl hx _ rfl h) (fun h => wNumber_full w base B lim v xs hW hbase x x rfl hx _ rfl h) zs er hr
theorem wrote_fixed (x : Nat) (n : Int) (hr : wfixed lim xs x n = (zs, er)) :
    Calls Try.prog 29 #[.pointer (some ⟨B, 0, none⟩), .int .u64 x, .int .i64 n] w (Wrote w base B lim v zs er) := by
  unfold wfixed at hr
  by_cases h : n < 1 ∨ 8 < n ∨ x / 256 ^ n.toNat ≠ 0
  · rw [if_pos h] at hr
    cases hr
    refine (wFixed_bad w base B lim v xs hW x n h).mono ?_
    rintro e w' ⟨rfl, rfl⟩
    exact ⟨v, rfl, hW, Chg.refl _ _, .inl rfl⟩
  · rw [if_neg h] at hr
    obtain ⟨k, rfl⟩ := Int.eq_ofNat_of_zero_le (a := n) (by omega)
    rw [Int.toNat_natCast] at h hr
    have hx0 : x / 256 ^ k = 0 := by
      rcases Nat.eq_zero_or_pos (x / 256 ^ k) with h0 | h0
      · exact h0
      · exact absurd (.inr (.inr (by omega))) h
    exact wrote_put (fun hh => wFixed_ok w base B lim v xs hW hbase x k (by omega) (by omega) hx0 (by rw [leB_len] at hh; exact hh)) (fun hh => wFixed_full w base B lim v xs hW hbase x k (by omega) (by omega) hx0 (by rw [leB_len] at hh; exact hh)) zs er hr
end

end Go.Proofs.Ytdemlifjhlpclaa
