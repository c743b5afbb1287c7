/-
  WARM: a map of pairs to bools: its keys; the set that it stands for.
-/
import Derived.Maps.OwnIn
import Derived.Maps.Views
import Derived.DeepKeys3
import Derived.DeepKeys4
import Derived.Sort.MapsRangeIn
import Derived.Test.YtidiikmpgpnmpaaB5
namespace Go.Proofs.Ytidiikmpgpnmpaa
open Go.RowKit Go.Maps

theorem pair_law : Go.WideMaps.KeyLaw Try.prog 85 := deep_law (m := 3) (by omega) (by kernel_rfl) (by kernel_rfl) (by kernel_rfl)
theorem pair_keyed : Keyed Try.prog 85 := Keyed.of_law pair_law
theorem pair_formed (m x y : Int) : Value.formed Try.prog 85 (.agg #[.int .i64 m, .int .i64 x, .int .i64 y]) = true := by kernel_rfl
theorem pair_keyType : Try.prog.keyType 85 = true := by kernel_rfl
theorem int_cells : Try.prog.cellsOf 3 = 1 := by kernel_rfl
theorem pair_cells : Try.prog.cellsOf 85 = 3 := by kernel_rfl
theorem int_lits (d : Nat) (n : Int) (h : (Lit.int .i64 n).wf = true) : Try.prog.keyLits (d + 1) 3 [.int .i64 n] = some [.int .i64 n] := by
  unfold Program.keyLits
  rw [Try.underlying3]
  simp [h]
theorem pair_lits (d : Nat) (m x y : Int) (h0 : (Lit.int .i64 m).wf = true) (h1 : (Lit.int .i64 x).wf = true) (h2 : (Lit.int .i64 y).wf = true) : Try.prog.keyLits (d + 2) 85 [.int .i64 m, .int .i64 x, .int .i64 y] = some [.int .i64 m, .int .i64 x, .int .i64 y] := by
  unfold Program.keyLits
  rw [Try.underlying85]
  simp [pair_cells, int_cells, int_lits d _ h0, int_lits d _ h1, int_lits d _ h2]
theorem types_size : ∃ d, Try.prog.types.size + 1 = d + 2 := by
  have h : decide (1 ≤ Try.prog.types.size) = true := by kernel_rfl
  have := of_decide_eq_true h
  exact ⟨Try.prog.types.size - 1, by omega⟩
theorem int_wf {x : Int} (h1 : -100000 ≤ x) (h2 : x ≤ 100000) : (Lit.int .i64 x).wf = true := by
  have e1 : IntKind.i64.min = -9223372036854775808 := rfl
  have e2 : IntKind.i64.max = 9223372036854775807 := rfl
  simp only [Lit.wf, Bool.and_eq_true, decide_eq_true_eq]
  omega
/-- A pair, as a key. -/
def prK (m : Int) (p : Pr) : Lit := .string (keyBytes [.int .i64 m, .int .i64 p.1.1, .int .i64 p.1.2])
theorem pair_key {m : Int} (m1 : 1 ≤ m) (m2 : m ≤ 100) (p : Pr) : keyOf Try.prog 85 (pV m p) = some (prK m p) := by
  obtain ⟨⟨x, y⟩, h1, h2, h3, h4⟩ := p
  dsimp only at h1 h2 h3 h4
  obtain ⟨d, hd⟩ := types_size
  unfold keyOf
  rw [Try.underlying85]
  simp only [pair_keyType, pV, pair_formed, Bool.and_self, if_true]
  rw [hd]
  show Option.map _ (Try.prog.keyLits (d + 2) 85 [.int .i64 m, .int .i64 x, .int .i64 y]) = _
  rw [pair_lits d m x y (int_wf (by omega) (by omega)) (int_wf (by omega) (by omega)) (int_wf (by omega) (by omega))]
  rfl
theorem pV_inj {m : Int} {p q : Pr} (h : pV m p = pV m q) : p = q := by
  simp only [pV, Value.agg.injEq] at h
  have h2 := congrArg Array.toList h
  simp only [List.cons.injEq, Value.int.injEq, true_and, and_true] at h2
  exact Subtype.ext (Prod.ext h2.1 h2.2)
theorem prK_inj {m : Int} (m1 : 1 ≤ m) (m2 : m ≤ 100) {p q : Pr} (h : prK m p = prK m q) : p = q :=
  pV_inj (pair_law.inj (pair_key m1 m2 p) (h ▸ pair_key m1 m2 q))
theorem bool_inv {P : Program} {e : TypeId} (he : P.underlying e = some .bool) {v : Value} {x : Bool} {ps : List MemPlace} (h : plainElem (H := Nat) P e v = some (.lit (.bool x), ps)) : v = .bool x := by
  unfold plainElem at h
  rw [he] at h
  cases v <;> simp at h
  rw [h.1]
/-- Block b is a map whose keys are the pairs of l. -/
def Pset (w : World) (b : Nat) (m : Int) (l : List Pr) : Prop :=
  ∃ D : DataW Nat, w.ownsMap Try.prog 85 (plainElem Try.prog 4) b l.length D ∧ l.Nodup ∧ Maps.size D = l.length ∧ ∀ kl, Maps.has D kl = true ↔ ∃ p ∈ l, kl = prK m p
theorem Pset.of_block {w w' : World} {b : Nat} {m : Int} {l : List Pr} (h : Pset w b m l) (e : w'.heap[b]? = w.heap[b]?) : Pset w' b m l := by
  obtain ⟨D, ⟨es, clock, h1, h2⟩, h3⟩ := h
  exact ⟨D, ⟨es, clock, e.trans h1, h2⟩, h3⟩
theorem Pset.lt {w : World} {b : Nat} {m : Int} {l : List Pr} (h : Pset w b m l) : b < w.heap.size := by
  obtain ⟨D, h1, _⟩ := h
  exact h1.lt
theorem Pset.keep {w w' : World} {b : Nat} {m : Int} {l : List Pr} (h : Pset w b m l) (k : Keeps w w') : Pset w' b m l := h.of_block (k.heap h.lt)
theorem Pset.made (w : World) (m : Int) : Pset (w.alloc (.map #[] 0)) w.heap.size m [] :=
  ⟨.map [], World.ownsMap_made w _ _ _, List.nodup_nil, rfl, fun kl => by simp [Maps.has_eq]⟩
theorem Pset.kept {w w' : World} {row : Option Nat} {b : Nat} {m : Int} {l : List Pr} (h : Pset w b m l) (hg : w.grownBy w' row) (hne : some b ≠ row) : Pset w' b m l := by
  obtain ⟨D, h1, h2⟩ := h
  exact ⟨D, h1.kept hg hne, h2⟩
theorem ownsMap_tight {w : World} {P : Program} {k : TypeId} {R : Value → Option (DataW Nat × List MemPlace)} {b n : Nat} {D : DataW Nat} (h : w.ownsMap P k R b n D) : w.ownsMap P k R b (Maps.size D) D := by
  obtain ⟨es, clock, h1, F, hs, hD⟩ := h
  refine ⟨es, clock, h1, F, ?_, hD⟩
  rw [hD, Maps.size_eq, length_read]
  exact Nat.le_refl _
/-- A list, with one more if it is not there yet. -/
def addP (l : List Pr) (p : Pr) : List Pr := if p ∈ l then l else l ++ [p]
theorem Pset.put {w : World} {b : Nat} {m : Int} (m1 : 1 ≤ m) (m2 : m ≤ 100) {l : List Pr} (h : Pset w b m l) (p : Pr) (hl : l.length < maxLen) :
    ∃ w', (Instr.mapUpdate 80 (.map (some b)) (pV m p) (.bool true)).run Try.prog w = .ok () w' ∧ Pset w' b m (addP l p) ∧ w.grownBy w' (some b) := by
  obtain ⟨D, h1, hn, h2, h3⟩ := h
  have ht := h1.tidy pair_keyed
  obtain ⟨w', hrun, ho, hg⟩ := h1.update pair_keyed Try.underlying80 hl (pair_key m1 m2 p) (plainElem_bool Try.underlying4 true)
  replace ho := ownsMap_tight ho
  refine ⟨w', hrun, ?_, hg⟩
  by_cases hp : p ∈ l
  · have hin : Maps.has D (prK m p) = true := (h3 _).2 ⟨p, hp, rfl⟩
    rw [addP, if_pos hp]
    have hsz : Maps.size (D.put (prK m p) (.lit (.bool true))) = l.length := by rw [Maps.size_put ht, hin, h2]; simp
    refine ⟨_, by rw [← hsz]; exact ho, hn, hsz, fun kl => ?_⟩
    by_cases e : kl = prK m p
    · subst e
      rw [Maps.has_put_same ht.isMap (show WideAt.IsKeyLit (prK m p) from trivial), ← h3, hin]
    · rw [Maps.has_put_other e, h3]
  · have hnew : Maps.has D (prK m p) = false := by
      cases e : Maps.has D (prK m p) with
      | false => rfl
      | true =>
        obtain ⟨q, hq, e2⟩ := (h3 _).1 e
        exact absurd (prK_inj m1 m2 e2 ▸ hq) hp
    rw [addP, if_neg hp]
    have hsz : Maps.size (D.put (prK m p) (.lit (.bool true))) = (l ++ [p]).length := by rw [Maps.size_put ht, hnew, h2]; simp
    refine ⟨_, by rw [← hsz]; exact ho, ?_, hsz, ?_⟩
    · rw [List.nodup_append]
      exact ⟨hn, by simp, by
        intro a ha c hc e
        rw [List.mem_singleton] at hc
        exact hp (hc ▸ e ▸ ha)⟩
    · intro kl
      by_cases e : kl = prK m p
      · subst e
        rw [Maps.has_put_same ht.isMap (show WideAt.IsKeyLit (prK m p) from trivial)]
        simp
      · rw [Maps.has_put_other e, h3]
        constructor
        · rintro ⟨q, hq, e2⟩; exact ⟨q, by simp [hq], e2⟩
        · rintro ⟨q, hq, e2⟩
          rcases List.mem_append.1 hq with h | h
          · exact ⟨q, h, e2⟩
          · rw [List.mem_singleton] at h; exact absurd (h ▸ e2) e
theorem Pset.len {w : World} {b : Nat} {m : Int} {l : List Pr} (h : Pset w b m l) (ty : TypeId) : (Builtin.len_ #[80] ty #[.map (some b)]).run Try.prog w = .ok (.int .i64 l.length) w := by
  obtain ⟨D, h1, hn, h2, h3⟩ := h
  rw [h1.len Try.underlying80 ty, h2]
end Go.Proofs.Ytidiikmpgpnmpaa
