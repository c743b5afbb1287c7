/-
  WarmMore: two readings compared; its text from a region on.
-/
import Derived.Test.YtmhpgjlegajpeaaM3
import Derived.Test.YtmhpgjlegajpeaaI0
import Derived.Test.YtmhpgjlegajpeaaF4
import Derived.Deep.DeepCutAuto
import Derived.Laws.StructEq
namespace Go.Proofs.Ytmhpgjlegajpeaa
open Go.RowKit

/-- The code from a region on that is the first of a sequence, or the first of the first of one. -/
def codeMo (n : Nat) : Code → Option Code
  | .seq a c => (match a with | .region i _ _ => if i == n then some (.seq a c) else none | _ => codeMo n a) <|> codeMo n c
  | .block _ b => codeMo n b
  | .loop b => codeMo n b
  | .cond _ a b => codeMo n a <|> codeMo n b
  | .scope b => codeMo n b
  | _ => none
def codeMt (n : Nat) : Code → Option Code
  | .seq a c => (match a with | .seq (.region i _ _) _ => if i == n then some (.seq a c) else codeMt n a | _ => codeMt n a) <|> codeMt n c
  | .block _ b => codeMt n b
  | .loop b => codeMt n b
  | .cond _ a b => codeMt n a <|> codeMt n b
  | .scope b => codeMt n b
  | _ => none
/-- A region of the code. -/
def codeMa (n : Nat) : Code → Option Code
  | .seq a c => codeMa n a <|> codeMa n c
  | .region i o b => if i == n then some (.region i o b) else none
  | .block _ b => codeMa n b
  | .loop b => codeMa n b
  | .cond _ a b => codeMa n a <|> codeMa n b
  | .scope b => codeMa n b
  | _ => none
theorem wp_mo {P : Program} {c c' : Code} {Q : Exit → Act → World → Prop} {a : Act} {w : World} (h : c' = c) (hh : Code.wp P c' Q a w) : Code.wp P c Q a w := h ▸ hh
noncomputable def more_from (n : Nat) : Code := ((Try.f12.body).bind (codeMo n)).getD .skip
noncomputable def more_at (n : Nat) : Code := ((Try.f12.body).bind (codeMa n)).getD .skip
noncomputable def more_two (n : Nat) : Code := ((Try.f12.body).bind (codeMt n)).getD .skip
theorem fields_wread : Try.prog.underlying 53 = some (.struct (Try.prog.fieldsOf 53)) := by kernel_rfl
theorem held_wread : Try.prog.stoodInHeld 53 = false := by kernel_rfl
theorem guard_wread : Try.prog.eqGuardType Try.prog.depth 53 = false := by kernel_rfl
theorem list_wread : (Try.prog.fieldsOf 53).toList.map (fun f => (f.name, f.type, f.offset)) = [("Warm", 23, 0), ("Shows", 23, 2)] := by kernel_rfl
theorem equal_span_d (d : Nat) (x y : Int) (w : World) : (Op.equalIn (d + 1 + 1) 23 (.agg #[.int .i64 x, .int .i64 y]) (.agg #[.int .i64 x, .int .i64 y])).run Try.prog w = .ok true w := by
  rw [run_equalIn_agg w (d + 1) _ _ _ fields_span held_span]
  have h := list_span
  match hf : (Try.prog.fieldsOf 23).toList, h with
  | [f, g], h =>
    simp only [List.map_cons, List.map_nil, List.cons.injEq, Prod.mk.injEq, and_true] at h
    obtain ⟨⟨h1, h2, h3⟩, h4, h5, h6⟩ := h
    simp [Op.eqFields, h1, h2, h3, h4, h5, h6, go_sem]
  | [], h => simp at h
  | [_], h => simp at h
  | _ :: _ :: _ :: _, h => simp at h
theorem equal_wread (a b c d : Int) (w : World) : (Op.equalIn 10000 53 (.agg #[.int .i64 a, .int .i64 b, .int .i64 c, .int .i64 d]) (.agg #[.int .i64 a, .int .i64 b, .int .i64 c, .int .i64 d])).run Try.prog w = .ok true w := by
  rw [run_equalIn_agg w 9999 _ _ _ fields_wread held_wread]
  have h := list_wread
  have hs := fun x y w => equal_span_d 9997 x y w
  match hf : (Try.prog.fieldsOf 53).toList, h with
  | [f, g], h =>
    simp only [List.map_cons, List.map_nil, List.cons.injEq, Prod.mk.injEq, and_true] at h
    obtain ⟨⟨h1, h2, h3⟩, h4, h5, h6⟩ := h
    simp [Op.eqFields, h1, h2, h3, h4, h5, h6, go_sem, hs]
  | [], h => simp at h
  | [_], h => simp at h
  | _ :: _ :: _ :: _, h => simp at h
theorem neq_wread (a b c d : Int) (w : World) : (binOp .neq 53 (.agg #[.int .i64 a, .int .i64 b, .int .i64 c, .int .i64 d]) (.agg #[.int .i64 a, .int .i64 b, .int .i64 c, .int .i64 d])).run Try.prog w = .ok (.bool false) w := by
  rw [run_neq_struct, equal_wread]
  rfl
end Go.Proofs.Ytmhpgjlegajpeaa
