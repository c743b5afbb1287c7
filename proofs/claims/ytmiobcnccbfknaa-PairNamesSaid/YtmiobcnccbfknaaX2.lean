/-
  ENGINE, second part: memory of the call's own, and the run itself.
-/
import Derived.Test.YtmiobcnccbfknaaX1
import Derived.Laws.CopyRow
namespace Go.Proofs.Ytmiobcnccbfknaa
open Go.RowKit

/-- How many cells a type has, and whether it is a struct or an array. -/
def tySize (P : Program) (t : TypeId) : Option Nat := (P.info? t).map (·.size)
def tyAgg (P : Program) (t : TypeId) : Option Bool :=
  match P.underlying t with
  | some (.struct _) | some (.array _ _) => some true
  | some _ => some false
  | none => none
theorem isAgg_run {P : Program} {t : TypeId} {b : Bool} (h : tyAgg P t = some b) (w : World) : (isAgg t).run P w = .ok b w := by
  unfold tyAgg at h
  cases hu : P.underlying t with
  | none => rw [hu] at h; cases h
  | some d =>
    rw [hu] at h
    cases d <;> (injection h with h; subst h; simp [isAgg, Go.underlying, program, hu, Sem.run, bind, Sem.bind, pure])
theorem sizeOf_run {P : Program} {t : TypeId} {n : Nat} (h : tySize P t = some n) (w : World) : (Go.sizeOf t).run P w = .ok n w := by
  unfold tySize at h
  cases hi : P.info? t with
  | none => rw [hi] at h; cases h
  | some i =>
    rw [hi] at h
    injection h with h
    subst h
    simp [Go.sizeOf, typeInfo, program, hi, Sem.run, bind, Sem.bind, pure]

def loadV (P : Program) (t : TypeId) (c : List Value) (off : Nat) : Option Value :=
  match tyAgg P t, tySize P t with
  | some true, some n => bif Nat.ble (off + n) c.length then some (.agg ((c.drop off).take n).toArray) else none
  | some false, _ => c[off]?
  | _, _ => none
theorem add_none (b o i : Nat) : (⟨b, o, none⟩ : Addr).add i = ⟨b, o + i, none⟩ := by unfold Addr.add; split <;> simp_all
/-- A load of memory whose cells are known. -/
theorem load_cells {P : Program} {t : TypeId} {c : List Value} {b base off : Nat} {v : Value} {w : World} (hc : ∀ i u, c[i]? = some u → w.cell? ⟨b, base + i, none⟩ = some u) (hv : loadV P t c off = some v) : (Instr.loadAt t (.pointer (some ⟨b, base + off, none⟩))).run P w = .ok v w := by
  unfold loadV at hv
  cases ha : tyAgg P t with
  | none => rw [ha] at hv; cases hv
  | some g =>
    rw [ha] at hv
    have h1 := isAgg_run ha w
    cases g with
    | false =>
      have hv : c[off]? = some v := hv
      have h2 := hc off v hv
      simp [Instr.loadAt, Instr.sureAddr, loadVar, h1, Result.andThen, h2]
    | true =>
      cases hs : tySize P t with
      | none => rw [hs] at hv; cases hv
      | some n =>
        rw [hs] at hv
        dsimp only at hv
        cases hle : Nat.ble (off + n) c.length with
        | false => rw [hle] at hv; cases hv
        | true =>
          rw [hle] at hv
          injection hv with hv
          have hle := Nat.le_of_ble_eq_true hle
          have h2 := sizeOf_run hs w
          have hl : ((c.drop off).take n).length = n := by rw [List.length_take, List.length_drop]; omega
          have h3 := run_loadCells_list (P := P) w ⟨b, base + off, none⟩ ((c.drop off).take n) (fun j u hj => by
            rw [add_none, Nat.add_assoc]
            refine hc (off + j) u ?_
            rw [List.getElem?_take] at hj
            split at hj
            · rwa [List.getElem?_drop] at hj
            · cases hj)
          rw [hl] at h3
          simp [Instr.loadAt, Instr.sureAddr, loadVar, h1, h2, h3, Result.andThen, ← hv]
theorem cells_of_heap {w : World} {b : Nat} {c : List Value} {e : TypeId} {fr : Nat × Nat} (h : w.heap[b]? = some (.cells c.toArray e fr)) : ∀ i u, c[i]? = some u → w.cell? ⟨b, i, none⟩ = some u := by
  intro i u hi
  simp [World.cell?, h, hi]

def storeV (P : Program) (t : TypeId) (c : List Value) (off : Nat) (v : Value) : Option (List Value) :=
  match tySize P t with
  | some n => bif v.cells.toList.length == n && Nat.ble (off + n) c.length && v.cells.toList.all (·.oneCell') then some (c.take off ++ v.cells.toList ++ c.drop (off + n)) else none
  | none => none
theorem store_own {P : Program} {t : TypeId} {c c' : List Value} {b off : Nat} {e : TypeId} {v : Value} {w : World} (h : w.heap[b]? = some (.cells c.toArray e (0, 0))) (hs : storeV P t c off v = some c') : (Instr.storeAt t (.pointer (some ⟨b, off, none⟩)) v).run P w = .ok () (w.setRow b c'.toArray) := by
  unfold storeV at hs
  cases hn : tySize P t with
  | none => rw [hn] at hs; cases hs
  | some n =>
    rw [hn] at hs
    dsimp only at hs
    cases hb : (v.cells.toList.length == n && Nat.ble (off + n) c.length && v.cells.toList.all (·.oneCell')) with
    | false => rw [hb] at hs; cases hs
    | true =>
      rw [hb] at hs
      injection hs with hs
      simp only [Bool.and_eq_true, beq_iff_eq, List.all_eq_true] at hb
      obtain ⟨⟨h1, h2⟩, h3⟩ := hb
      have h2 := Nat.le_of_ble_eq_true h2
      have h4 := sizeOf_run hn w
      have h5 := run_storeCells_at P b off e v.cells.toList 0 c.toArray w h (by simp; simp at h1; omega) h3
      have hsz : v.cells.size = n := by simpa using h1
      simp only [Nat.add_zero] at h5
      simp [Instr.storeAt, Instr.sureAddr, storeVar, h4, hsz, Result.andThen, h5, ← hs]

theorem Kept.setRow {M : Nat → Prop} {B w : World} (h : Kept M B w) {b : Nat} {c : Array Value} (hb : b < B.heap.size → M b) : Kept M B (w.setRow b c) :=
  ⟨h.os, h.tape, h.output, by simpa [World.setRow] using h.size, fun k hk hn => by
    have hne : k ≠ b := fun e => by subst e; exact hn (hb hk)
    exact (setRow_other w b k c hne).trans (h.block k hk hn)⟩
theorem pairwise_ne {α : Type} {l : List (Nat × α)} (h : l.Pairwise fun p q => p.1 ≠ q.1) {i j : Nat} {p q : Nat × α} (hi : l[i]? = some p) (hj : l[j]? = some q) (hn : i ≠ j) : p.1 ≠ q.1 := by
  obtain ⟨h1, h2⟩ := List.getElem?_eq_some_iff.1 hi
  obtain ⟨h3, h4⟩ := List.getElem?_eq_some_iff.1 hj
  rw [List.pairwise_iff_getElem] at h
  rcases Nat.lt_or_ge i j with hl | hl
  · have := h i j h1 h3 hl
    rwa [h2, h4] at this
  · have := h j i h3 h1 (by omega)
    rw [h2, h4] at this
    exact Ne.symm this
theorem pairwise_set {α : Type} {l : List (Nat × α)} (h : l.Pairwise fun p q => p.1 ≠ q.1) {j : Nat} {b : Nat} {o o' : α} (hj : l[j]? = some (b, o)) : (l.set j (b, o')).Pairwise fun p q => p.1 ≠ q.1 := by
  have hm : (l.set j (b, o')).map (·.1) = l.map (·.1) := by
    rw [List.map_set]
    apply List.ext_getElem?
    intro i
    rw [List.getElem?_set]
    split
    · rename_i e
      subst e
      have hlt : j < (l.map (·.1)).length := by simpa using (List.getElem?_eq_some_iff.1 hj).1
      rw [if_pos hlt, List.getElem?_map, hj]
      rfl
    · rfl
  have e1 : ∀ l : List (Nat × α), (l.Pairwise fun p q => p.1 ≠ q.1) ↔ (l.map (·.1)).Pairwise (· ≠ ·) := fun l => by rw [List.pairwise_map]
  rw [e1, hm, ← e1]
  exact h
/-- A store into a block of the call's own. -/
theorem G.setRow {X : Cx} {st : St} {a : Act} {w : World} (h : G X st a w) {j b : Nat} {c : Array Value} {e : TypeId} {fr : Nat × Nat} (hj : st.hp[j]? = some (b, .cells c e fr)) (c' : Array Value) : G X ⟨st.sl, st.hp.set j (b, .cells c' e fr)⟩ a (w.setRow b c') := by
  have hb := h.hp _ (List.mem_of_getElem? hj)
  refine ⟨h.df.turn fun D hD => setRow_other _ _ _ _ (fun e => by subst e; rw [hb.1] at hD; cases hD), h.sz, h.sl, fun p hp => ?_, pairwise_set h.ne hj, fun p hp => ?_, h.kp.setRow hb.2, ?_⟩
  rotate_left
  · rcases List.mem_or_eq_of_mem_set hp with hp | rfl
    · exact h.nd p hp
    · rfl
  · refine ⟨X.E.stab _ _ h.ex.J ((Kept.refl _ w).setRow fun _ => h.ex.hp _ (List.mem_of_getElem? hj)), fun p hp => ?_, by simpa [World.setRow] using h.ex.n0⟩
    rcases List.mem_or_eq_of_mem_set hp with hp | rfl
    · exact h.ex.hp p hp
    · exact h.ex.hp (b, .cells c e fr) (List.mem_of_getElem? hj)
  obtain ⟨i, hi⟩ := List.mem_iff_getElem?.1 hp
  rw [List.getElem?_set] at hi
  split at hi
  · rename_i e
    split at hi
    · injection hi with hi
      subst hi
      exact ⟨setRow_heap _ _ _ _ _ _ hb.1, hb.2⟩
    · cases hi
  · rename_i hne
    have hpp := h.hp p (List.mem_of_getElem? hi)
    exact ⟨(setRow_other _ _ _ _ (pairwise_ne h.ne hi hj (Ne.symm hne))).trans hpp.1, hpp.2⟩

theorem Kept.alloc {M : Nat → Prop} {B w : World} (h : Kept M B w) (o : Obj) : Kept M B (w.alloc o) := h.then ((Keeps.refl w).alloc o)
/-- A new block. -/
theorem G.alloc {X : Cx} {st : St} {a : Act} {w : World} (h : G X st a w) (o : Obj) (hod : isDef o = false) : G X ⟨st.sl, (w.heap.size, o) :: st.hp⟩ a (w.alloc o) := by
  have hlt : ∀ p ∈ st.hp, p.1 < w.heap.size := fun p hp => (Array.getElem?_eq_some_iff.1 (h.hp p hp).1).1
  refine ⟨h.df.turn fun D hD => Below.heap_alloc _ _ _ (Array.getElem?_eq_some_iff.1 hD).1, h.sz, h.sl, fun p hp => ?_, List.pairwise_cons.2 ⟨fun q hq e => ?_, h.ne⟩, fun p hp => ?_, h.kp.alloc o, ⟨X.E.stab _ _ h.ex.J (Kept.of ((Keeps.refl w).alloc o)), fun p hp => ?_, Nat.le_trans h.ex.n0 ((Keeps.refl w).alloc o).size⟩⟩
  · rcases List.mem_cons.1 hp with rfl | hp
    · refine ⟨?_, fun hl => absurd hl (Nat.not_lt.2 h.kp.size)⟩
      show (w.heap.push o)[w.heap.size]? = some o
      simp
    · exact ⟨(Below.heap_alloc _ _ _ (hlt p hp)).trans (h.hp p hp).1, (h.hp p hp).2⟩
  · have := hlt q hq
    have e : w.heap.size = q.1 := e
    omega
  · rcases List.mem_cons.1 hp with rfl | hp
    · exact hod
    · exact h.nd p hp
  · rcases List.mem_cons.1 hp with rfl | hp
    · exact ⟨h.ex.n0, fun hd => Nat.lt_irrefl _ (X.E.lt _ _ h.ex.J hd)⟩
    · exact h.ex.hp p hp
end Go.Proofs.Ytmiobcnccbfknaa
