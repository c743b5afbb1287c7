/-
  Two spans compared.
-/
import Derived.Test.YtidiikmpgpnmpaaF2
import Derived.Laws.StructEq
namespace Go.Proofs.Ytidiikmpgpnmpaa
open Go.RowKit

theorem fields_span : Try.prog.underlying 23 = some (.struct (Try.prog.fieldsOf 23)) := by kernel_rfl
theorem held_span : Try.prog.stoodInHeld 23 = false := by kernel_rfl
theorem guard_span : Try.prog.eqGuardType Try.prog.depth 23 = false := by kernel_rfl
theorem list_span : (Try.prog.fieldsOf 23).toList.map (fun f => (f.name, f.type, f.offset)) = [("Lo", 3, 0), ("Hi", 3, 1)] := by kernel_rfl
theorem equal_span (x x' y y' : Int) (w : World) : (Op.equalIn 10000 23 (.agg #[.int .i64 x, .int .i64 x']) (.agg #[.int .i64 y, .int .i64 y'])).run Try.prog w = .ok (x == y && x' == y') w := by
  rw [run_equalIn_agg w 9999 _ _ _ fields_span held_span]
  have h := list_span
  match hf : (Try.prog.fieldsOf 23).toList, h with
  | [f, g], h =>
    simp only [List.map_cons, List.map_nil, List.cons.injEq, Prod.mk.injEq, and_true] at h
    obtain ⟨⟨h1, h2, h3⟩, h4, h5, h6⟩ := h
    simp [Op.eqFields, h1, h2, h3, h4, h5, h6, go_sem]
    by_cases e1 : x = y <;> by_cases e2 : x' = y' <;> simp [e1, e2]
  | [], h => simp at h
  | [_], h => simp at h
  | _ :: _ :: _ :: _, h => simp at h
theorem neq_span (x x' y y' : Int) (w : World) : (binOp .neq 23 (.agg #[.int .i64 x, .int .i64 x']) (.agg #[.int .i64 y, .int .i64 y'])).run Try.prog w = .ok (.bool (!(x == y && x' == y'))) w := by
  rw [run_neq_struct, equal_span]
  rfl
theorem eql_span (x x' y y' : Int) (w : World) : (binOp .eql 23 (.agg #[.int .i64 x, .int .i64 x']) (.agg #[.int .i64 y, .int .i64 y'])).run Try.prog w = .ok (.bool (x == y && x' == y')) w := by
  rw [run_eql_struct, equal_span]
  rfl
end Go.Proofs.Ytidiikmpgpnmpaa
