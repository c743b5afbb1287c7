/-
  A REGION OF READS AND OF CALLS THAT KEEP WHAT LAY THERE, in whatever order, in a round or not: one walk in the text's order serves every order, as long as each operation gives the same value in every world of C, and leaves C.
-/
import Derived.Test.YtidiikmpgpnmpaaR
import Derived.Sort.BigQuietIn
import Derived.Test.YtidiikmpgpnmpaaK
namespace Go.Proofs.Ytidiikmpgpnmpaa
section
variable {F : Fence} {n : Nat} {P : Program}

theorem region_keep {id : Nat} {Q : Exit → Act → World → Prop} {a : Act} {w : World} {l : List Oper} (C : World → Prop) (h0 : C w.drew) (hd : noDefer l = true) (hm : P.follows .mixedOrders = true) (hB : Region.lexB .any l.toArray = true)
    (h : wpQuietIn F n P l.toArray C (fun a' => ∀ w', C w' → Q .normal a' w') l a) : (Code.region id l.toArray true).wpIn F n P Q a w := by
  simp only [Region.lexB, Bool.and_eq_true] at hB
  refine wpIn_region_any hm (quiet_any_round (C := C) (Q := fun a' => ∀ w', C w' → Q .normal a' w') (fun i o ho => noDefer_at hd (by simpa using ho)) (fun _ w' hw' h => h w' hw') _ _ _ _ h0 ?_)
  have := wpAnyQIn_lex (F := F) (n := n) (P := P) (ops := l.toArray) (C := C) (md := .any) hB.1 l 0 (Array.replicate l.toArray.size false) a (by simp) (by simpa using hB.2) h
  simpa using this
/-- A world in which all that lay in w lies as it lay. -/
structure Since (w : World) where
  W : World
  keeps : Keeps w W
theorem Since.some (w : World) : Nonempty (Since w) := ⟨⟨w, Keeps.refl w⟩⟩
end
end Go.Proofs.Ytidiikmpgpnmpaa
