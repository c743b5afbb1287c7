/-
  ENGINE: a call that makes blocks and writes to one of its caller's.
-/
import Derived.Test.YthnhcacoegmdfaaHXQ
namespace Go.Proofs.Ythnhcacoegmdfaa
open Go.RowKit

/-- It returns a value with new blocks, and the block b has turned into O. -/
def NwW {α : Type} (V : α → Value) (New : α → List (Nat × Obj)) (b : Nat) (O : α → Obj) (I : α → Prop) (w : World) (e : Ending) (w' : World) : Prop :=
  ∃ x, I x ∧ e = .returned (V x) ∧ Kept (fun k => k = b) w w' ∧ w'.heap[b]? = some (O x) ∧ (∀ p ∈ New x, w'.heap[p.1]? = some p.2 ∧ w.heap.size ≤ p.1) ∧ (New x).Pairwise fun p q => p.1 ≠ q.1
theorem run_nww {X : Cx} {k : List KI} {st : St} (f : FuncId) (args : Array Value) (d : Option Tmp) {α : Type} (V : α → Value) (New : α → List (Nat × Obj)) (j b : Nat) (o : Obj) (O : α → Obj) (I : α → Prop) (h : headCall X.P X.N k st = some (f, args, d)) (hj : st.hp[j]? = some (b, o)) (hO : ∀ x, isDef (O x) = false) (ho : ∀ x, ∀ p ∈ New x, isDef p.2 = false) (hc : ∀ w, Kept X.M X.B w → Hp st.hp w → Calls X.P f args w (NwW V New b O I w))
    (hr : ∀ x, I x → (∀ p ∈ New x, X.B.heap.size ≤ p.1) → Run X (nextK k) ((⟨st.sl, New x ++ st.hp.set j (b, O x)⟩ : St).put d (V x))) : Run X k st := by
  refine run_call f args d h V (fun x => New x ++ st.hp.set j (b, O x)) (fun x => I x ∧ ∀ p ∈ New x, X.B.heap.size ≤ p.1) (fun w k1 k2 k3 => (hc w k1 k2).mono fun e w' ⟨x, hx, he, hk, hb, hn, hp⟩ => ⟨x, ⟨hx, fun p hp => Nat.le_trans k1.size (hn p hp).2⟩, he, ?_⟩) (fun hnd x _ p hp => ?_) (fun x hx => hr x hx.1 hx.2)
  · refine ⟨hk.mono fun x hx => ⟨o, hx ▸ List.mem_of_getElem? hj⟩, fun p hpm => ?_, ?_⟩
    · rcases List.mem_append.1 hpm with hpm | hpm
      · exact ⟨(hn p hpm).1, .inr (hn p hpm).2⟩
      · obtain ⟨i, hi⟩ := List.mem_iff_getElem?.1 hpm
        rw [List.getElem?_set] at hi
        split at hi
        · split at hi
          · injection hi with hi
            subst hi
            exact ⟨hb, .inl ⟨o, List.mem_of_getElem? hj⟩⟩
          · cases hi
        · rename_i hne
          have hpp := k2 p (List.mem_of_getElem? hi)
          exact ⟨(hk.block p.1 (Array.getElem?_eq_some_iff.1 hpp).1 (pairwise_ne k3 hi hj (Ne.symm hne))).trans hpp, .inl ⟨p.2, List.mem_of_getElem? hi⟩⟩
    · refine List.pairwise_append.2 ⟨hp, pairwise_set k3 hj, fun p hpm q hqm => ?_⟩
      have h1 := (hn p hpm).2
      have h2 : q.1 < w.heap.size := by
        obtain ⟨i, hi⟩ := List.mem_iff_getElem?.1 hqm
        rw [List.getElem?_set] at hi
        split at hi
        · split at hi
          · injection hi with hi
            subst hi
            exact (Array.getElem?_eq_some_iff.1 (k2 _ (List.mem_of_getElem? hj))).1
          · cases hi
        · exact (Array.getElem?_eq_some_iff.1 (k2 q (List.mem_of_getElem? hi))).1
      omega
  · rcases List.mem_append.1 hp with hp | hp
    · exact ho x p hp
    · rcases List.mem_or_eq_of_mem_set hp with hp | rfl
      · exact hnd p hp
      · exact hO x
end Go.Proofs.Ythnhcacoegmdfaa
