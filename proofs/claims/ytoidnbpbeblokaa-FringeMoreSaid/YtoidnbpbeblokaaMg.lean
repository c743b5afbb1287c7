/-
  FringeMore: what lies in other blocks than the one that is written; ints and readings appended.
-/
import Derived.Test.YtoidnbpbeblokaaMe
import Derived.Test.YtoidnbpbeblokaaMf
import Derived.Lib.BufferWrite
import Derived.Deep.RegionLaw
namespace Go.Proofs.Ytoidnbpbeblokaa
open Go.RowKit Go.Shelf

/-- The address is in another block. -/
def Away (b : Nat) (a : Option Addr) : Prop := ∀ b' o, a = some ⟨b', o, none⟩ → b' ≠ b
theorem grown_cell {W W' : World} {b b' o : Nat} {v : Value} (hg : W.grownBy W' (some b)) (hne : b' ≠ b) (h : W.cell? ⟨b', o, none⟩ = some v) : W'.cell? ⟨b', o, none⟩ = some v :=
  (World.cell?_of_block (hg.block b' (lt_of_cell h) (by simpa using hne))).trans h
theorem Ints.grown {W W' : World} {b : Nat} {a : Option Addr} {xs : List Int} (h : Ints W a xs) (hg : W.grownBy W' (some b)) (ha : xs ≠ [] → Away b a) : Ints W' a xs := fun hne => by
  obtain ⟨b', o, e, hc⟩ := h hne
  exact ⟨b', o, e, fun i hi => grown_cell hg (ha hne _ _ e) (hc i hi)⟩
theorem Rds.grown {W W' : World} {b : Nat} {a : Option Addr} {rs : List Rd} (h : Rds W a rs) (hg : W.grownBy W' (some b)) (ha : rs ≠ [] → Away b a) : Rds W' a rs := fun hne => by
  obtain ⟨b', o, e, hc⟩ := h hne
  exact ⟨b', o, e, fun i hi => ⟨grown_cell hg (ha hne _ _ e) (hc i hi).1, grown_cell hg (ha hne _ _ e) (hc i hi).2.1, grown_cell hg (ha hne _ _ e) (hc i hi).2.2⟩⟩
theorem Fr.Box.grown {F : Fr} {W W' : World} {b b' : Nat} (h : F.Box W b') (hg : W.grownBy W' (some b)) (hne : b' ≠ b) : F.Box W' b' :=
  ⟨grown_cell hg hne h.c0, grown_cell hg hne h.c1, grown_cell hg hne h.c2, grown_cell hg hne h.c3⟩
theorem Fr.In.grown {F : Fr} {W W' : World} {b : Nat} (h : F.In W) (hg : W.grownBy W' (some b)) (h1 : F.ws ≠ [] → Away b F.wa) (h2 : F.rs ≠ [] → Away b F.ra) : F.In W' := ⟨h.ints.grown hg h1, h.rds.grown hg h2, h.wl, h.rl⟩
/-- Written in b, then grown in a row behind it: as written in b. -/
theorem grown_row {W W1 W2 : World} {b : Nat} {row : Option Nat} (h : W.grownBy W1 (some b)) (k : W1.grownBy W2 row) (hr : ∀ j, row = some j → W.heap.size ≤ j ∨ j = b) : W.grownBy W2 (some b) :=
  ⟨k.os.trans h.os, k.tape.trans h.tape, k.output.trans h.output, Nat.le_trans h.size k.size, fun i hi hne => by
    rw [k.block i (Nat.lt_of_lt_of_le hi h.size) (fun e => by
      rcases hr i e.symm with h1 | h1
      · omega
      · subst h1; exact hne rfl)]
    exact h.block i hi hne⟩
theorem grown_set {W W1 : World} {b : Nat} (h : W.grownBy W1 (some b)) (o : Nat) (v : Value) : W.grownBy (W1.setCell ⟨b, o, none⟩ v) (some b) := grown_row h (Lib.grownBy_setCell W1 b o v) (fun j e => by cases e; exact .inr rfl)
theorem grown_draw {W W1 : World} {b : Nat} (h : W.grownBy W1 (some b)) (n : Nat) : W.grownBy (W1.drewN n) (some b) := ⟨h.os, h.tape, h.output, h.size, h.block⟩
theorem grown_alloc {W W1 : World} {b : Nat} (h : W.grownBy W1 (some b)) (o : Obj) : W.grownBy (W1.alloc o) (some b) := grown_row h (World.grownBy_alloc W1 o none) (fun j e => by cases e)
theorem grown_keeps {W W1 W2 : World} {b : Nat} (h : W.grownBy W1 (some b)) (k : Keeps W1 W2) : W.grownBy W2 (some b) := grown_row h (k.grown none) (fun j e => by cases e)
theorem grown_refl (W : World) (b : Nat) : W.grownBy W (some b) := grownBy_refl W _
theorem Keeps.of_grown {w W W' : World} {b : Nat} (k : Keeps w W) (hg : W.grownBy W' (some b)) (hb : w.heap.size ≤ b) : Keeps w W' := Below.grown k hg k.size (fun j e => by cases e; exact hb)
theorem ints_one (l : List Int) : ∀ u ∈ l.map (Value.int .i64), u.oneCell' = true := by
  intro u hu
  obtain ⟨x, _, rfl⟩ := List.mem_map.1 hu
  rfl
/-- Ints appended to a row of the call's own, whatever they lie in. -/
theorem append_ints (w : World) (base : Nat) (ty : TypeId) (v : Value) (n : Nat) (l : List Value) (hown : w.ownsRow base 3 1 v n l) (a : Option Addr) (c : Nat) (xs : List Int) (hx : Ints w a xs) (hn : n + xs.length ≤ 100) (hbase : base ≤ w.heap.size) :
    ∃ v' w', (Builtin.append_ #[22, 22] ty #[v, .slice a xs.length c]).run Try.prog w = .ok v' w' ∧ (w'.ownsRow base 3 1 v' (n + xs.length) (l ++ xs.map (Value.int .i64)) ∧ w.grownBy w' v.ownBlock) := by
  obtain ⟨i0, hi, hz0, hz1, hz2⟩ := info_parts info_int
  have own := fun (a : Addr) (hnews : ∀ j u, (xs.map (Value.int .i64))[j]? = some u → w.cell? (a.add j) = some u) => run_append_own (P := Try.prog) w base 22 ty 3 i0 (.int .i64 0) 1 8 Try.underlying22 hi hz0 hz1 hz2 rfl (by decide) v n l hown a xs.length c (xs.map (Value.int .i64)) (by simp) hnews (ints_one xs) (by unfold maxLen; omega) (by omega) hbase
  by_cases hne : xs = []
  · subst hne
    cases a with
    | some a =>
      obtain ⟨v', w', h1, h2, h3, _⟩ := own a (fun j u hu => by simp at hu)
      exact ⟨v', w', h1, ⟨h2, h3⟩⟩
    | none =>
      refine ⟨v, w, ?_, ⟨by simpa using hown, grownBy_refl w _⟩⟩
      rcases hown.2 with ⟨rfl, rfl⟩ | ⟨g, cap, cur, rfl, _, _, hnc, _⟩
      · simp [Builtin.append_, run_underlying Try.underlying22, sizeOf, typeInfo, hi, Builtin.lenOf, Builtin.firstCells]
      · simp [Builtin.append_, run_underlying Try.underlying22, sizeOf, typeInfo, hi, Builtin.lenOf, Builtin.firstCells, hnc, storeCells]
  · obtain ⟨b, o, rfl, hc⟩ := hx hne
    obtain ⟨v', w', h1, h2, h3, _⟩ := own ⟨b, o, none⟩ (fun j u hu => by
      have hadd : (⟨b, o, none⟩ : Addr).add j = ⟨b, o + j, none⟩ := by unfold Addr.add; split <;> simp_all
      rw [hadd]
      have hj : j < xs.length := by have := (List.getElem?_eq_some_iff.1 hu).1; simpa using this
      rw [hc j hj]
      rw [List.getElem?_map, List.getElem?_eq_getElem hj] at hu
      rw [List.getElem?_eq_getElem hj]
      simpa using hu)
    exact ⟨v', w', h1, ⟨h2, h3⟩⟩
end Go.Proofs.Ytoidnbpbeblokaa
