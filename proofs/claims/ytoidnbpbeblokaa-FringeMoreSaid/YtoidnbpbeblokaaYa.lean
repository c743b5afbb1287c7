/-
  A MAP OF FRACTIONS TO BOOLS: its keys; a look-up; the set that it stands for.
-/
import Derived.Maps.OwnIn
import Derived.Maps.Views
import Derived.DeepKeys3
import Derived.DeepKeys4
import Derived.Test.YtoidnbpbeblokaaWi
namespace Go.Proofs.Ytoidnbpbeblokaa
open Go.RowKit Go.Maps

theorem frac_law : Go.WideMaps.KeyLaw Try.prog 110 := deep_law (m := 3) (by omega) (by kernel_rfl) (by kernel_rfl) (by kernel_rfl)
theorem frac_keyed : Keyed Try.prog 110 := Keyed.of_law frac_law
theorem frac_formed (x y : Int) : Value.formed Try.prog 110 (.agg #[.int .i64 x, .int .i64 y]) = true := by kernel_rfl
theorem frac_keyType : Try.prog.keyType 110 = true := by kernel_rfl
theorem frac_cells : Try.prog.cellsOf 110 = 2 := by kernel_rfl
theorem int_cells : Try.prog.cellsOf 3 = 1 := by kernel_rfl
theorem int_lits (d : Nat) (n : Int) (h : (Lit.int .i64 n).wf = true) : Try.prog.keyLits (d + 1) 3 [.int .i64 n] = some [.int .i64 n] := by
  unfold Program.keyLits
  rw [Try.underlying3]
  simp [h]
theorem frac_lits (d : Nat) (x y : Int) (h1 : (Lit.int .i64 x).wf = true) (h2 : (Lit.int .i64 y).wf = true) : Try.prog.keyLits (d + 2) 110 [.int .i64 x, .int .i64 y] = some [.int .i64 x, .int .i64 y] := by
  unfold Program.keyLits
  rw [Try.underlying110]
  simp [frac_cells, int_cells, int_lits d _ h1, int_lits d _ h2]
theorem types_size : ∃ d, Try.prog.types.size + 1 = d + 2 := by
  have h : decide (1 ≤ Try.prog.types.size) = true := by kernel_rfl
  have := of_decide_eq_true h
  exact ⟨Try.prog.types.size - 1, by omega⟩
/-- A fraction, as a key. -/
def frL (x : Int × Int) : Lit := .string (keyBytes [.int .i64 x.1, .int .i64 x.2])
def frV (x : Int × Int) : Value := .agg #[.int .i64 x.1, .int .i64 x.2]
def okF (x : Int × Int) : Prop := (Lit.int .i64 x.1).wf = true ∧ (Lit.int .i64 x.2).wf = true
theorem frac_key (x : Int × Int) (h : okF x) : keyOf Try.prog 110 (frV x) = some (frL x) := by
  obtain ⟨d, hd⟩ := types_size
  unfold keyOf
  rw [Try.underlying110]
  simp only [frac_keyType, frV, frac_formed, Bool.and_self, if_true]
  rw [hd]
  show Option.map _ (Try.prog.keyLits (d + 2) 110 [.int .i64 x.1, .int .i64 x.2]) = _
  rw [frac_lits d x.1 x.2 h.1 h.2]
  rfl
theorem frac_inj {x y : Int × Int} (hx : okF x) (hy : okF y) (h : frL x = frL y) : x = y := by
  have := frac_law.inj (frac_key x hx) (h ▸ frac_key y hy)
  simp only [frV, Value.agg.injEq] at this
  have h2 := congrArg Array.toList this
  simp only [List.cons.injEq, Value.int.injEq, true_and, and_true] at h2
  exact Prod.ext h2.1 h2.2

theorem bool_inv {P : Program} {e : TypeId} (he : P.underlying e = some .bool) {v : Value} {x : Bool} {ps : List MemPlace} (h : plainElem (H := Nat) P e v = some (.lit (.bool x), ps)) : v = .bool x := by
  unfold plainElem at h
  rw [he] at h
  cases v <;> simp at h
  rw [h.1]
theorem isMap_owns {w : World} {P : Program} {k : TypeId} {R : Value → Option (DataW Nat × List MemPlace)} {b n : Nat} {D : DataW Nat} (h : w.ownsMap P k R b n D) : IsMap D := by
  obtain ⟨es, clock, _, _, _, rfl⟩ := h
  exact ⟨_, rfl⟩
/-- Block b is a map that holds true at the fractions of l, and nothing else. -/
def Seen (w : World) (b : Nat) (l : List (Int × Int)) : Prop :=
  ∃ D : DataW Nat, w.ownsMap Try.prog 110 (plainElem Try.prog 4) b l.length D ∧ IsMap D ∧ ∀ x, okF x → D.atKey (frL x) (.lit (.bool false)) = .lit (.bool (decide (x ∈ l)))
theorem Seen.kept {w w' : World} {row : Option Nat} {b : Nat} {l : List (Int × Int)} (h : Seen w b l) (hg : w.grownBy w' row) (hne : some b ≠ row) : Seen w' b l := by
  obtain ⟨D, h1, h2⟩ := h
  exact ⟨D, h1.kept hg hne, h2⟩
theorem Seen.look {w : World} {b : Nat} {l : List (Int × Int)} (h : Seen w b l) {x : Int × Int} (hx : okF x) :
    (Instr.lookup 153 (.map (some b)) (frV x) false).run Try.prog w = .ok (.bool (decide (x ∈ l))) w := by
  obtain ⟨D, h1, h2, h3⟩ := h
  obtain ⟨v, ps, hrun, hv⟩ := h1.lookup frac_keyed Try.underlying153 (Try.zeroValue4 w) (plainElem_bool Try.underlying4 false) (frac_key x hx)
  rw [h3 x hx] at hv
  rw [hrun, bool_inv Try.underlying4 hv]
theorem Seen.put {w : World} {b : Nat} {l : List (Int × Int)} (h : Seen w b l) {x : Int × Int} (hx : okF x) (hl : l.length < maxLen) :
    ∃ w', (Instr.mapUpdate 153 (.map (some b)) (frV x) (.bool true)).run Try.prog w = .ok () w' ∧ Seen w' b (l ++ [x]) ∧ w.grownBy w' (some b) := by
  obtain ⟨D, h1, h2, h3⟩ := h
  obtain ⟨w', hrun, ho, hg⟩ := h1.update frac_keyed Try.underlying153 hl (frac_key x hx) (plainElem_bool Try.underlying4 true)
  refine ⟨w', hrun, ⟨_, by simpa using ho, ?_, ?_⟩, hg⟩
  · exact isMap_owns ho
  · intro y hy
    by_cases e : y = x
    · subst e
      rw [atKey_put_same h2 (show WideAt.IsKeyLit (frL y) from trivial)]
      simp
    · rw [atKey_put_other (fun h => e (frac_inj hy hx h)), h3 y hy]
      simp [e]
theorem Seen.made (w : World) : Seen (w.alloc (.map #[] 0)) w.heap.size [] := by
  exact ⟨.map [], World.ownsMap_made w _ _ _, isMap_empty, fun x _ => by rw [WideAt.atKey_none _ (fun p hp => absurd hp List.not_mem_nil)]; simp⟩
end Go.Proofs.Ytoidnbpbeblokaa
