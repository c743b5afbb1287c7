/-
  WARM: setsOf: its iterator's contract.
-/
import Derived.Laws.EntriesVeiled
import Derived.Test.YtidiikmpgpnmpaaD5
namespace Go.Proofs.Ytidiikmpgpnmpaa
open Go.RowKit Go.Shelf
attribute [local go_sem] Oper.semAt_some

set_option maxHeartbeats 1600000 in
theorem setsOf_stops (n : Nat) (b1 b2 : Nat) (X : Nat → Prop) (m c : Nat) (hm : m ≤ 5) (hc : c ≤ 6) (w : World) (hX : ∀ k, X k → k < w.heap.size)
    (h1 : w.cell? ⟨b1, 0, none⟩ = some (.int .i64 ((m : Nat) : Int))) (h2 : w.cell? ⟨b2, 0, none⟩ = some (.int .i64 ((c : Nat) : Int))) :
    SeqStopsK Fence.wide n Try.prog 114 #[.pointer (some ⟨b1, 0, none⟩), .pointer (some ⟨b2, 0, none⟩)] (fun x : Fin 32 => #[.int .i64 ((x.val : Nat) : Int)]) (KeepX X) (fun ys => ys.map (·.val) = growL m 0 c) (fun pre => pre.map (·.val) <+: growL m 0 c) (growL m 0 c).length w := by
  intro l J Jx W hW hJ _ hY h0
  have kW : Keeps w W := hW
  have c1 := kW.cell h1
  have c2 := kW.cell h2
  have hWs := kW.size
  have G := Lib.hid (fun W1 h0 c1 c2 => grow_in l W.heap.size (W.heap.size + 1) X (growL m 0 c).length W.heap.size (fun ls W2 => ∃ ys : List (Fin 32), ys.map (·.val) = ls ∧ J ys W2) (fun ls W2 => ∃ ys : List (Fin 32), ys.map (·.val) = ls ∧ Jx ys W2)
    (fun ls A C row hs hg hr => by obtain ⟨ys, e, h⟩ := hs; exact ⟨ys, e, hJ ys A C row h hg hr⟩)
    (fun n' pre x W1 hx hj hl => by
      obtain ⟨ys, rfl, hj⟩ := hj
      obtain ⟨fn, tmps, assign, body, e1, e2⟩ := hY ys ⟨x, hx⟩ W1 hj (by simpa using hl)
      refine yieldAt_wide (n := n - 1) ⟨fn, tmps, assign, body, e1, e2.mono ?_⟩
      rintro e W' (⟨rfl, h1, h2⟩ | ⟨rfl, h1⟩)
      · exact .inl ⟨rfl, ⟨_, by simp, h1⟩, h2⟩
      · exact .inr ⟨rfl, _, by simp, h1⟩) (fun h => by have := hX _ h; omega) (fun h => by have := hX _ h; omega)
    m hm 2 0 c [] W1 (by omega) hc ⟨[], rfl, h0⟩ (by simp) c1 c2)
  have HJ := Lib.hid hJ
  have H0 := Lib.hid h0
  have hl1 := lt_of_cell c1
  have hl2 := lt_of_cell c2
  clear hY hJ h0 hX h1 h2 hW
  have hfw : ∀ f, Fence.wide.fn f := fun _ => trivial
  have hen := enter_grow
  have hmf : ∀ (fn : Fn) (first cap : Array Value) (w : World), (Instr.makeFunc fn first cap).run Try.prog w = .ok (.func fn first cap) w := fun _ _ _ _ => rfl
  refine (callsIn_wide (n := n)).2 ((callsIn_wide (n := 3)).1 ?_)
  refine callsIn_of_wp Try.func114 rfl trivial ?_
  simp only [Try.ntmps114, List.size_toArray, List.length_cons, List.length_nil, Nat.reduceAdd, Nat.reduceSub, Array.replicate_succ, Array.replicate_zero, List.push_toArray, List.append_toArray, List.nil_append, List.cons_append]
  gi_wp2_with fail
  have k0 := ((Keeps.refl W).alloc (.cells #[.func (.yield l) #[] #[]] 151)).alloc (.cells #[.func (.func 115) #[] #[.pointer (some ⟨W.heap.size, 0, none⟩), .pointer (some ⟨W.heap.size + 1, 0, none⟩)]] 152)
  refine (G.out _ (HJ.out _ W _ none H0.out (k0.grown none) (fun r e => by cases e)) (by simp [go_sem]) (by simp [go_sem, grF])).mono ?_
  rintro e W3 (⟨rfl, hJ3, _⟩ | ⟨rfl, q, hq, hJx3⟩)
  · gi_wp2_with fail
    refine bodyPost_end (results_none rfl _ _ _) rfl ?_
    obtain ⟨ys, e, hJ3⟩ := hJ3
    exact ⟨⟨_, rfl⟩, .inl ⟨ys, e, hJ3⟩⟩
  · gi_wp2_with fail
    refine bodyPost_end (results_none rfl _ _ _) rfl ?_
    obtain ⟨ys, e, hJx3⟩ := hJx3
    exact ⟨⟨_, rfl⟩, .inr ⟨ys, by rw [e]; exact hq, hJx3⟩⟩
theorem setsOf_any (s r : Int) (w : World) : Calls Try.prog 106 #[.int .i64 s, .int .i64 r] w fun e w' => e = .returned (.func (.func 114) #[] #[.pointer (some ⟨w.heap.size + 1, 0, none⟩), .pointer (some ⟨w.heap.size, 0, none⟩)]) ∧ Keeps w w' ∧
    w'.cell? ⟨w.heap.size + 1, 0, none⟩ = some (.int .i64 r) ∧ w'.cell? ⟨w.heap.size, 0, none⟩ = some (.int .i64 s) := by
  have hmf : ∀ (fn : Fn) (first cap : Array Value) (w : World), (Instr.makeFunc fn first cap).run Try.prog w = .ok (.func fn first cap) w := fun _ _ _ _ => rfl
  have k0 := ((Keeps.refl w).alloc (.cells #[.int .i64 s] 3)).alloc (.cells #[.int .i64 r] 3)
  go_enter Try.func106, Try.ntmps106
  go_wp2
  go_ret
  exact ⟨rfl, k0, by simp [go_sem], by simp [go_sem]⟩
end Go.Proofs.Ytidiikmpgpnmpaa
