/-
  LAW: PairTrue: a span around a number, by what is drawn.
-/
import Derived.Test.YthnhcacoegmdfaaHH1
namespace Go.Proofs.Ythnhcacoegmdfaa
open Go.RowKit Go.Proofs.Try


theorem kept_at {M : Nat → Prop} {B w : World} (h : Kept M B w) {b : Nat} {o : Obj} (hb : B.heap[b]? = some o) (hm : ¬ M b) : w.heap[b]? = some o := (h.block b (Array.getElem?_eq_some_iff.1 hb).1 hm).trans hb
set_option maxRecDepth 100000 in
set_option maxHeartbeats 4000000 in
theorem around_any (ba bb bd i cap : Nat) (L : List Int) (aa : Option Addr) (n wd ms : Int) (wd1 : 1 ≤ wd) (wd2 : wd ≤ 50) (n1 : -100 ≤ n) (n2 : n ≤ 100) (ms1 : 0 ≤ ms) (ms2 : ms ≤ 100) (i2 : i ≤ 50000) (w : World) (hw : w.heap[ba]? = some (.cells #[.int .i64 ((i : Int))] 3 (0, 0))) (hbb : w.heap[bb]? = some (.cells #[.slice aa L.length cap] 42 (0, 0))) (hL : Us w aa L ba) (hlm : L.length ≤ maxLen) (hbd : w.heap[bd]? = some (.cells #[.func (.func 57) #[] #[.pointer (some ⟨ba, 0, none⟩), .pointer (some ⟨bb, 0, none⟩)]] 43 (0, 0))) : Calls Try.prog 58 #[.int .i64 n, .int .i64 wd, .int .i64 ms, .pointer (some ⟨bd, 0, none⟩)] w (Wr ba (.agg #[.int .i64 (max (-ms) (n - dw L i wd)), .int .i64 (min ms (n + dw L (i + 1) wd))]) (.cells #[.int .i64 (((i + 1 + 1 : Nat) : Int))] 3 (0, 0)) w) := by
  have hbM : ¬ bb = ba := fun h => by rw [h, hw] at hbb; cases hbb
  have hdM : ¬ bd = ba := fun h => by rw [h, hw] at hbd; cases hbd
  have hd1 := dw_bd L i wd1
  have hd2 := dw_bd L (i + 1) wd1
  refine calls_run (fn := f58) (c := (f58.body).getD .skip) [.int .i64 n, .int .i64 wd, .int .i64 ms, .pointer (some ⟨bd, 0, none⟩)] func58 (by kernel_rfl) (fun x => x = ba) [(ba, .cells #[.int .i64 (i : Int)] 3 (0, 0))] (fun p hp => by rcases List.mem_singleton.1 hp with rfl; exact ⟨hw, rfl, rfl⟩) (List.pairwise_singleton _ _) 24 (by kernel_rfl) (by simp) ?_
  refine run_auto [] 2 [] [] [0, 1, 2, 3] [0] (st' := ⟨[(0, iV n), (1, iV wd), (2, iV ms), (3, pA bd)], [(ba, aO #[iV (i : Int)] 3)]⟩) (acc := []) (by kernel_rfl) (by kernel_rfl) trivial ?_
  refine run_new (aO #[iV 0, iV 0] 23) (fun b1 => pA b1) (some 7) (fun _ => by kernel_rfl) (fun b1 hb1 => ?_)
  refine run_auto [] 2 [] [] [0, 1, 2, 3, 7] [0, 1] (st' := ⟨[(0, iV n), (1, iV wd), (2, iV ms), (3, pA bd), (7, pA b1)], [(b1, aO #[iV 0, iV 0] 23), (ba, aO #[iV (i : Int)] 3)]⟩) (acc := []) (by kernel_rfl) (by kernel_rfl) trivial ?_
  refine drawW 17 [{ val := fun _ => iV ms, slots := [2] },
      { val := fun _ => iV (-ms), slots := [8] },
      { val := fun _ => iV n, slots := [0] },
      { val := fun _ => .func (.func 57) #[] #[pA ba, pA bb], slots := [3] },
      { val := fun _ => iV wd, slots := [1] },
      { val := fun _ => iV (dw L i wd), upd := [(1, fun l => aO #[iV ((i + 1 : Nat) : Int)] 3)], slots := [11, 12], reads := [1] },
      { val := fun _ => iV (n - (dw L i wd)), slots := [10, 13] },
      { val := fun _ => iV (max (-ms) (n - (dw L i wd))), slots := [9, 14] },
      { val := fun _ => iV ms, slots := [2] },
      { val := fun _ => iV n, slots := [0] },
      { val := fun _ => .func (.func 57) #[] #[pA ba, pA bb], slots := [3] },
      { val := fun _ => iV wd, slots := [1] },
      { val := fun _ => iV (dw L (i + 1 : Nat) wd), upd := [(1, fun l => aO #[iV (((i + 1 : Nat) + 1 : Nat) : Int)] 3)], slots := [18, 19], reads := [1] },
      { val := fun _ => iV (n + (dw L (i + 1 : Nat) wd)), slots := [17, 20] },
      { val := fun _ => iV (min ms (n + (dw L (i + 1 : Nat) wd))), slots := [16, 21] },
      { val := fun _ => .agg #[iV (max (-ms) (n - (dw L i wd))), iV (min ms (n + (dw L (i + 1 : Nat) wd)))], slots := [15, 22] },
      { upd := [(0, fun l => aO #[iV (max (-ms) (n - (dw L i wd))), iV (min ms (n + (dw L (i + 1 : Nat) wd)))] 23)], slots := [7, 23], reads := [0] }] [[], [0], [], [], [], [3, 4], [2, 3, 4, 5], [0, 1, 2, 3, 4, 5, 6], [], [], [], [], [3, 4, 5, 10, 11], [3, 4, 5, 9, 10, 11, 12], [3, 4, 5, 8, 9, 10, 11, 12, 13], [0, 1, 2, 3, 4, 5, 6, 7, 8, 9, 10, 11, 12, 13, 14], [0, 1, 2, 3, 4, 5, 6, 7, 8, 9, 10, 11, 12, 13, 14, 15]] (by kernel_rfl) (by kernel_rfl) (by kernel_rfl) (by kernel_rfl) [7] [0, 1] (by kernel_rfl)
      ⟨⟨⟨⟨⟨⟨⟨⟨⟨⟨⟨⟨⟨⟨⟨⟨⟨trivial,
      tri_quietW (fun β => []) [] [] (fun β => []) (by kernel_rfl) (fun β extra => by kernel_rfl) (by kernel_rfl) (fun β => trivial)⟩,
      tri_quietW (fun β => [(9, iV (-ms))]) [] [] (fun β => [(iV (IntKind.i64.wrap (0 - ms)), iV (-ms))]) (by kernel_rfl) (fun β extra => by kernel_rfl) (by kernel_rfl) (fun β => ⟨((wr (by omega) (by omega)).trans (io (by omega))), trivial⟩)⟩,
      tri_quietW (fun β => []) [] [] (fun β => []) (by kernel_rfl) (fun β extra => by kernel_rfl) (by kernel_rfl) (fun β => trivial)⟩,
      tri_vVW (fun β => .func (.func 57) #[] #[pA ba, pA bb]) (fun β => by kernel_rfl) (fun β => (Instr.loadAt 43 (pA bd) >>= fun v => pure (Next.value v))) (by kernel_rfl) (fun β extra => by kernel_rfl) (fun β => by kernel_rfl) (fun β w1 k1 h1 => load_in (base := 0) (off := 0) k1 hdM [.func (.func 57) #[] #[pA ba, pA bb]] (fun i u hi => by rw [Nat.zero_add]; exact cells_of_heap hbd i u hi) (by kernel_rfl))⟩,
      tri_quietW (fun β => []) [] [] (fun β => []) (by kernel_rfl) (fun β extra => by kernel_rfl) (by kernel_rfl) (fun β => trivial)⟩,
      tri_wrW (fun β => ba) (fun β => aO #[iV (i : Int)] 3) (fun β => aO #[iV ((i + 1 : Nat) : Int)] 3) (fun β => []) (fun β => iV (dw L i wd)) 57 (fun β => #[iV wd, pA ba, pA bb]) (by kernel_rfl) (fun β extra => by kernel_rfl) (fun β => by kernel_rfl) (fun β => by kernel_rfl) (fun β => by kernel_rfl) (fun β => by kernel_rfl) (fun β w1 k1 h1 => draw_any ba bb i cap wd L aa (by omega) (by omega) (by omega) w1 (h1 (ba, aO #[iV (i : Int)] 3) (List.mem_of_getElem? (i := 0) (by kernel_rfl))) (kept_at k1 hbb hbM) (hL.keep k1) hlm)⟩,
      tri_quietW (fun β => [(14, iV (n - (dw L i wd)))]) [] [] (fun β => [(iV (IntKind.i64.wrap (n - (dw L i wd))), iV (n - (dw L i wd)))]) (by kernel_rfl) (fun β extra => by kernel_rfl) (by kernel_rfl) (fun β => ⟨(wr (by omega) (by omega)), trivial⟩)⟩,
      tri_quietW (fun β => [(15, iV (max (-ms) (n - (dw L i wd))))]) [] [] (fun β => [(iV (if (n - (dw L i wd)) > (-ms) then (n - (dw L i wd)) else (-ms)), iV (max (-ms) (n - (dw L i wd))))]) (by kernel_rfl) (fun β extra => by kernel_rfl) (by kernel_rfl) (fun β => ⟨(mx _ _ _), trivial⟩)⟩,
      tri_quietW (fun β => []) [] [] (fun β => []) (by kernel_rfl) (fun β extra => by kernel_rfl) (by kernel_rfl) (fun β => trivial)⟩,
      tri_quietW (fun β => []) [] [] (fun β => []) (by kernel_rfl) (fun β extra => by kernel_rfl) (by kernel_rfl) (fun β => trivial)⟩,
      tri_vVW (fun β => .func (.func 57) #[] #[pA ba, pA bb]) (fun β => by kernel_rfl) (fun β => (Instr.loadAt 43 (pA bd) >>= fun v => pure (Next.value v))) (by kernel_rfl) (fun β extra => by kernel_rfl) (fun β => by kernel_rfl) (fun β w1 k1 h1 => load_in (base := 0) (off := 0) k1 hdM [.func (.func 57) #[] #[pA ba, pA bb]] (fun i u hi => by rw [Nat.zero_add]; exact cells_of_heap hbd i u hi) (by kernel_rfl))⟩,
      tri_quietW (fun β => []) [] [] (fun β => []) (by kernel_rfl) (fun β extra => by kernel_rfl) (by kernel_rfl) (fun β => trivial)⟩,
      tri_wrW (fun β => ba) (fun β => aO #[iV ((i + 1 : Nat) : Int)] 3) (fun β => aO #[iV (((i + 1 : Nat) + 1 : Nat) : Int)] 3) (fun β => []) (fun β => iV (dw L (i + 1 : Nat) wd)) 57 (fun β => #[iV wd, pA ba, pA bb]) (by kernel_rfl) (fun β extra => by kernel_rfl) (fun β => by kernel_rfl) (fun β => by kernel_rfl) (fun β => by kernel_rfl) (fun β => by kernel_rfl) (fun β w1 k1 h1 => draw_any ba bb (i + 1 : Nat) cap wd L aa (by omega) (by omega) (by omega) w1 (h1 (ba, aO #[iV ((i + 1 : Nat) : Int)] 3) (List.mem_of_getElem? (i := 0) (by kernel_rfl))) (kept_at k1 hbb hbM) (hL.keep k1) hlm)⟩,
      tri_quietW (fun β => [(21, iV (n + (dw L (i + 1 : Nat) wd)))]) [] [] (fun β => [(iV (IntKind.i64.wrap (n + (dw L (i + 1 : Nat) wd))), iV (n + (dw L (i + 1 : Nat) wd)))]) (by kernel_rfl) (fun β extra => by kernel_rfl) (by kernel_rfl) (fun β => ⟨(wr (by omega) (by omega)), trivial⟩)⟩,
      tri_quietW (fun β => [(22, iV (min ms (n + (dw L (i + 1 : Nat) wd))))]) [] [] (fun β => [(iV (if (n + (dw L (i + 1 : Nat) wd)) < ms then (n + (dw L (i + 1 : Nat) wd)) else ms), iV (min ms (n + (dw L (i + 1 : Nat) wd))))]) (by kernel_rfl) (fun β extra => by kernel_rfl) (by kernel_rfl) (fun β => ⟨(mn _ _ _), trivial⟩)⟩,
      tri_callVW (fun β => .agg #[iV (max (-ms) (n - (dw L i wd))), iV (min ms (n + (dw L (i + 1 : Nat) wd)))]) (fun β => by kernel_rfl) 20 (fun β => #[iV (max (-ms) (n - (dw L i wd))), iV (min ms (n + (dw L (i + 1 : Nat) wd)))]) (by kernel_rfl) (fun β extra => by kernel_rfl) (fun β => by kernel_rfl) (fun β w1 k1 h1 => span_any (max (-ms) (n - (dw L i wd))) (min ms (n + (dw L (i + 1 : Nat) wd))) w1)⟩,
      tri_quietW (fun β => []) [0] [0] (fun β => [(pA b1, pA b1)]) (by kernel_rfl) (fun β extra => by kernel_rfl) (by kernel_rfl) (fun β => ⟨rfl, trivial⟩)⟩
      (fun β => ⟨[(7, pA b1)], [(b1, aO #[iV (max (-ms) (n - (dw L i wd))), iV (min ms (n + (dw L (i + 1 : Nat) wd)))] 23), (ba, aO #[iV (((i + 1 : Nat) + 1 : Nat) : Int)] 3)]⟩) (fun β => by kernel_rfl) (fun β2 => ?_)
  refine run_end (fn := f58) rfl (Nat.le_refl _) (by kernel_rfl) [0] [.agg #[iV (max (-ms) (n - (dw L i wd))), iV (min ms (n + (dw L (i + 1 : Nat) wd)))]] (e := [(pA b1, pA b1)]) (by kernel_rfl) ⟨rfl, trivial⟩ (fun w1 k1 h1 => ?_)
  exact ⟨rfl, k1, h1 (ba, _) (List.mem_of_getElem? (i := 1) rfl)⟩

end Go.Proofs.Ythnhcacoegmdfaa
