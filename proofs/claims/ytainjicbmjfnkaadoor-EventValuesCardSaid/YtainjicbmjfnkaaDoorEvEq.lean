/-
  Two events that are compared; start; put.
-/
import Derived.Test.YtainjicbmjfnkaaDoorWithin
import Derived.Laws.StructEq
namespace Go.Proofs.YtainjicbmjfnkaaDoor
open Go.RowKit
set_option linter.unusedVariables false

set_option maxRecDepth 100000 in
set_option maxHeartbeats 2000000 in
theorem run_eq_ev (sq tm : Int) (cp kd : Nat) (tk gr to_ wg tc : Int) (mk : Nat) (gt : Int) (sq2 tm2 : Int) (cp2 kd2 : Nat) (tk2 gr2 to2_ wg2 tc2 : Int) (mk2 : Nat) (gt2 : Int) (w : World) : (Op.equalIn 10000 24 (.agg #[.int .i64 sq, .int .i64 tm, .int .u8 cp, .int .u8 kd, .int .i64 tk, .int .i64 gr, .int .i64 to_, .int .i64 wg, .int .i64 tc, .int .u64 mk, .int .i64 gt]) (.agg #[.int .i64 sq2, .int .i64 tm2, .int .u8 cp2, .int .u8 kd2, .int .i64 tk2, .int .i64 gr2, .int .i64 to2_, .int .i64 wg2, .int .i64 tc2, .int .u64 mk2, .int .i64 gt2])).run Tryd.prog w = .ok ((sq == sq2) && ((tm == tm2) && (((cp : Int) == (cp2 : Int)) && (((kd : Int) == (kd2 : Int)) && ((tk == tk2) && ((gr == gr2) && ((to_ == to2_) && ((wg == wg2) && ((tc == tc2) && (((mk : Int) == (mk2 : Int)) && ((gt == gt2)))))))))))) w := by
  have hU : Tryd.prog.underlying 24 = some (.struct (Tryd.prog.fieldsOf 24)) := by kernel_rfl
  have hF : (Tryd.prog.fieldsOf 24).toList.map (fun f => (f.name, f.type, f.offset)) = [("Seq", 3, 0), ("Time", 3, 1), ("Cpu", 5, 2), ("Kind", 5, 3), ("Task", 3, 4), ("Group", 3, 5), ("To", 3, 6), ("Weight", 3, 7), ("Ticks", 3, 8), ("Mask", 22, 9), ("Got", 3, 10)] := by kernel_rfl
  have hi : ∀ (a b : Int) (w : World), (Op.equalIn 9999 3 (.int .i64 a) (.int .i64 b)).run Tryd.prog w = .ok (a == b) w := fun a b w => run_equalIn_int (P := Tryd.prog) w 9998 3 .i64 .i64 a b Tryd.underlying3
  have hu : ∀ (a b : Int) (w : World), (Op.equalIn 9999 5 (.int .u8 a) (.int .u8 b)).run Tryd.prog w = .ok (a == b) w := fun a b w => run_equalIn_int (P := Tryd.prog) w 9998 5 .u8 .u8 a b Tryd.underlying5
  have hm : ∀ (a b : Int) (w : World), (Op.equalIn 9999 22 (.int .u64 a) (.int .u64 b)).run Tryd.prog w = .ok (a == b) w := fun a b w => run_equalIn_int (P := Tryd.prog) w 9998 22 .u64 .u64 a b Tryd.underlying22
  show (Op.equalIn (9999 + 1) _ _ _).run _ _ = _
  rw [run_equalIn_struct w 9999 _ _ _ hU (by kernel_rfl)]
  obtain ⟨f0, f1, f2, f3, f4, f5, f6, f7, f8, f9, f10, hl⟩ : ∃ f0 f1 f2 f3 f4 f5 f6 f7 f8 f9 f10, (Tryd.prog.fieldsOf 24).toList = [f0, f1, f2, f3, f4, f5, f6, f7, f8, f9, f10] := by
    have hlen : (Tryd.prog.fieldsOf 24).toList.length = 11 := by kernel_rfl
    match (Tryd.prog.fieldsOf 24).toList, hlen with
    | [f0, f1, f2, f3, f4, f5, f6, f7, f8, f9, f10], _ => exact ⟨f0, f1, f2, f3, f4, f5, f6, f7, f8, f9, f10, rfl⟩
  rw [hl] at hF ⊢
  simp only [List.map_cons, List.map_nil, List.cons.injEq, Prod.mk.injEq, and_true] at hF
  obtain ⟨⟨a0, b0, d0⟩, ⟨a1, b1, d1⟩, ⟨a2, b2, d2⟩, ⟨a3, b3, d3⟩, ⟨a4, b4, d4⟩, ⟨a5, b5, d5⟩, ⟨a6, b6, d6⟩, ⟨a7, b7, d7⟩, ⟨a8, b8, d8⟩, ⟨a9, b9, d9⟩, ⟨a10, b10, d10⟩⟩ := hF
  simp only [Op.eqFields, a0, b0, d0, a1, b1, d1, a2, b2, d2, a3, b3, d3, a4, b4, d4, a5, b5, d5, a6, b6, d6, a7, b7, d7, a8, b8, d8, a9, b9, d9, a10, b10, d10]
  simp [part, Tryd.underlying3, Tryd.underlying5, Tryd.underlying22, run_underlying, isAgg, hi, hu, hm, go_sem]
  (repeat' split) <;> simp_all
end Go.Proofs.YtainjicbmjfnkaaDoor
