/-
  FringeMore: two readings compared; its text from a region on.
-/
import Derived.Test.YtoidnbpbeblokaaMb
import Derived.Test.YtoidnbpbeblokaaZn
import Derived.Deep.DeepCutAuto
import Derived.Laws.StructEq
namespace Go.Proofs.Ytoidnbpbeblokaa
open Go.RowKit Go.Shelf

/-- What follows in a function's text from a region on. -/
def codeOn (n : Nat) : Code → Option Code
  | .seq a c => (match a with | .region i _ _ => if i == n then some (.seq a c) else none | _ => codeOn n a) <|> codeOn n c
  | .block _ b => codeOn n b
  | .loop b => codeOn n b
  | .cond _ a b => codeOn n a <|> codeOn n b
  | .scope b => codeOn n b
  | _ => none
theorem wp_on {P : Program} {c c' : Code} {Q : Exit → Act → World → Prop} {a : Act} {w : World} (h : c' = c) (hh : Code.wp P c' Q a w) : Code.wp P c Q a w := h ▸ hh
/-- FringeMore from its region n on. -/
noncomputable def more_from (n : Nat) : Code := ((Try.f11.body).bind (codeOn n)).getD .skip
theorem fields_read : Try.prog.underlying 41 = some (.struct (Try.prog.fieldsOf 41)) := by kernel_rfl
theorem held_read : Try.prog.stoodInHeld 41 = false := by kernel_rfl
theorem guard_read : Try.prog.eqGuardType Try.prog.depth 41 = false := by kernel_rfl
theorem list_read : (Try.prog.fieldsOf 41).toList.map (fun f => (f.name, f.type, f.offset)) = [("Colour", 3, 0), ("Part", 24, 1)] := by kernel_rfl
theorem equal_span_d (d : Nat) (x y : Int) (w : World) : (Op.equalIn (d + 1 + 1) 24 (.agg #[.int .i64 x, .int .i64 y]) (.agg #[.int .i64 x, .int .i64 y])).run Try.prog w = .ok true w := by
  rw [run_equalIn_agg w (d + 1) _ _ _ fields_span held_span]
  have h := list_span
  match hf : (Try.prog.fieldsOf 24).toList, h with
  | [f, g], h =>
    simp only [List.map_cons, List.map_nil, List.cons.injEq, Prod.mk.injEq, and_true] at h
    obtain ⟨⟨h1, h2, h3⟩, h4, h5, h6⟩ := h
    simp [Op.eqFields, h1, h2, h3, h4, h5, h6, go_sem]
  | [], h => simp at h
  | [_], h => simp at h
  | _ :: _ :: _ :: _, h => simp at h
theorem equal_read (c x y : Int) (w : World) : (Op.equalIn 10000 41 (.agg #[.int .i64 c, .int .i64 x, .int .i64 y]) (.agg #[.int .i64 c, .int .i64 x, .int .i64 y])).run Try.prog w = .ok true w := by
  rw [run_equalIn_agg w 9999 _ _ _ fields_read held_read]
  have h := list_read
  have hs := fun w => equal_span_d 9997 x y w
  match hf : (Try.prog.fieldsOf 41).toList, h with
  | [f, g], h =>
    simp only [List.map_cons, List.map_nil, List.cons.injEq, Prod.mk.injEq, and_true] at h
    obtain ⟨⟨h1, h2, h3⟩, h4, h5, h6⟩ := h
    simp [Op.eqFields, h1, h2, h3, h4, h5, h6, go_sem, hs]
  | [], h => simp at h
  | [_], h => simp at h
  | _ :: _ :: _ :: _, h => simp at h
theorem neq_read (c x y : Int) (w : World) : (binOp .neq 41 (.agg #[.int .i64 c, .int .i64 x, .int .i64 y]) (.agg #[.int .i64 c, .int .i64 x, .int .i64 y])).run Try.prog w = .ok (.bool false) w := by
  rw [run_neq_struct, equal_read]
  rfl
end Go.Proofs.Ytoidnbpbeblokaa
