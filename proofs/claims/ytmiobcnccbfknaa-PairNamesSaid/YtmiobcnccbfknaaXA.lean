/-
  ENGINE, tenth part: small laws for the values.
-/
import Derived.Test.YtmiobcnccbfknaaX9
import Derived.IntWalk
namespace Go.Proofs.Ytmiobcnccbfknaa
open Go.RowKit

def isDraw' (k : List KI) : Bool :=
  match k with
  | .code (.region _ _ true) :: _ => true
  | _ => false
def drawOps (k : List KI) : Array Oper :=
  match k with
  | .code (.region _ ops true) :: _ => ops
  | _ => #[]
/-- A region that draws its order, as the texts use it. -/
theorem draw {X : Cx} {k : List KI} {st : St} (n : Nat) (pl : List Stp) (A : List (List Nat)) (hm : X.P.follows .mixedOrders = true) (hk : isDraw' k = true) (hn : (drawOps k).size = n) (hok : Rg.ok ⟨drawOps k, st, pl, A⟩ X.N = true) (ks hk' : List Nat) (hd : distinct hk' = true)
    (T : AllB n fun i => Rg.Tri ⟨drawOps k, st, pl, A⟩ X k.tail i) (S : (Nat → Nat) → St) (hS : ∀ β, Rg.fin ⟨drawOps k, st, pl, A⟩ β ks hk' = S β) (hr : ∀ β, Run X k.tail (S β)) : Run X k st := by
  unfold isDraw' at hk
  split at hk
  · rename_i id ops k1
    exact run_draw pl A hm (k' := k1) (ops := ops) rfl hok ks hk' hd (fun i hi => allB T i (by rw [← hn]; exact hi)) fun β => by
      have h := hr β
      rw [← hS β] at h
      exact h
  · cases hk

theorem wr {x : Int} (h1 : -9223372036854775808 ≤ x) (h2 : x ≤ 9223372036854775807) : Value.int .i64 (IntKind.i64.wrap x) = .int .i64 x := congrArg _ (IntWalk.i64_in _ ⟨h1, h2⟩)
theorem bt {p : Prop} [Decidable p] (h : p) : Value.bool (decide p) = .bool true := congrArg _ (decide_eq_true h)
theorem bf {p : Prop} [Decidable p] (h : ¬p) : Value.bool (decide p) = .bool false := congrArg _ (decide_eq_false h)
theorem bo {b c : Bool} (h : b = c) : Value.bool b = .bool c := congrArg _ h
theorem io {k : IntKind} {b c : Int} (h : b = c) : Value.int k b = .int k c := congrArg _ h
theorem qt {x : Int} (c : Int) (hc : 0 < c) (h0 : 0 ≤ x) (h2 : x ≤ 9223372036854775807) : Value.int .i64 (IntKind.i64.wrap (x.tdiv c)) = .int .i64 (x / c) := by
  have e : x.tdiv c = x / c := Int.tdiv_eq_ediv_of_nonneg h0
  rw [e]
  have h3 : 0 ≤ x / c := Int.ediv_nonneg h0 (by omega)
  have h4 : x / c ≤ x := Int.ediv_le_self c h0
  exact wr (by omega) (by omega)
theorem rm {x : Int} (c : Int) (h0 : 0 ≤ x) : Value.int .i64 (x.tmod c) = .int .i64 (x % c) := congrArg _ (Int.tmod_eq_emod_of_nonneg h0)
theorem mn (k : IntKind) (x y : Int) : Value.int k (if y < x then y else x) = .int k (min x y) := congrArg _ (by rw [Int.min_def]; split <;> split <;> omega)
theorem mx (k : IntKind) (x y : Int) : Value.int k (if x < y then y else x) = .int k (max x y) := congrArg _ (by rw [Int.max_def]; split <;> split <;> omega)
/-- An element of a slice. -/
theorem idx_run {P : Program} {t e : TypeId} {n : Nat} (hu : P.underlying t = some (.slice e)) (hs : tySize P e = some n) (b o : Nat) (len cap : Nat) (k : IntKind) (i : Nat) (hi : i < len) (w : World) :
    (Instr.indexAt t (.slice (some ⟨b, o, none⟩) len cap) (.int k (i : Int)) >>= fun v => pure (Next.value v)).run P w = .ok (.value (.pointer (some ⟨b, o + i * n, none⟩))) w := by
  have h1 := sizeOf_run hs w
  have h2 : (0 : Int) ≤ (i : Int) ∧ (i : Int) < (len : Int) := ⟨by omega, by omega⟩
  simp only [Instr.indexAt, asIntOf, Go.underlying, program, Sem.run_bind, Sem.run_pure, Result.andThen]
  simp [Sem.run, hu, h1, Result.andThen, add_none]
  simp [hi]
/-- A load of memory that came in. -/
theorem load_in {P : Program} {t : TypeId} {M : Nat → Prop} {B w : World} (k : Kept M B w) {b base off : Nat} (hM : ¬ M b) (c : List Value) (hc : ∀ i u, c[i]? = some u → B.cell? ⟨b, base + i, none⟩ = some u) {v : Value} (hv : loadV P t c off = some v) : (Instr.loadAt t (.pointer (some ⟨b, base + off, none⟩)) >>= fun v => pure (Next.value v)).run P w = .ok (.value v) w := by
  have h := load_cells (P := P) (w := w) (t := t) (fun i u hi => k.cell (hc i u hi) hM) hv
  simp only [Sem.run_bind, h, Result.andThen, Sem.run_pure]
end Go.Proofs.Ytmiobcnccbfknaa
