/-
  PAIR: the longest blocks.
-/
import Derived.Test.YtmiobcnccbfknaaB8
namespace Go.Proofs.Ytmiobcnccbfknaa
open Go.RowKit Go.Proofs.Try


theorem entF_ok : ∀ (s p : List ((Int × Int) × Gp)) (es : Array MapEntry), es.size = p.length → (∀ e ∈ es.toList, ∃ k, p[e.born]? = some k ∧ e.key = .agg #[.int .i64 k.1.1, .int .i64 k.1.2] ∧ e.val = .agg (gc k.2).toArray) → ∀ e ∈ (s.foldl entK es).toList, ∃ k, (p ++ s)[e.born]? = some k ∧ e.key = .agg #[.int .i64 k.1.1, .int .i64 k.1.2] ∧ e.val = .agg (gc k.2).toArray
  | [], p, es, _, h, e, he => by rw [List.append_nil]; exact h e he
  | k :: s, p, es, hs, h, e, he => by
    have h2 := entF_ok s (p ++ [k]) (entK es k) (by simp [entK, hs]) (fun x hx => ?_) e he
    · rwa [List.append_assoc] at h2
    · unfold entK at hx
      rw [Array.toList_push, List.mem_append] at hx
      rcases hx with hx | hx
      · obtain ⟨q, h3, h4⟩ := h x hx
        exact ⟨q, by rw [List.getElem?_append_left (List.getElem?_eq_some_iff.1 h3).1]; exact h3, h4⟩
      · rw [List.mem_singleton] at hx
        subst hx
        exact ⟨k, by dsimp only; rw [hs]; simp, rfl, rfl⟩
theorem entF_at {s : List ((Int × Int) × Gp)} {e : MapEntry} (h : e ∈ (entF s).toList) : ∃ k, s[e.born]? = some k ∧ e.key = .agg #[.int .i64 k.1.1, .int .i64 k.1.2] ∧ e.val = .agg (gc k.2).toArray := by
  have := entF_ok s [] #[] rfl (fun e he => by simp at he) e h
  rwa [List.nil_append] at this
theorem entF_bi (s : List ((Int × Int) × Gp)) : ∀ i (h : i < (entF s).size), (entF s)[i].born = i := by
  have : ∀ (s : List ((Int × Int) × Gp)) (es : Array MapEntry), (∀ i (h : i < es.size), es[i].born = i) → ∀ i (h : i < (s.foldl entK es).size), (s.foldl entK es)[i].born = i := by
    intro s
    induction s with
    | nil => exact fun es h => h
    | cons k s ih =>
      intro es h
      refine ih (entK es k) fun i hi => ?_
      unfold entK at hi ⊢
      rw [Array.getElem_push]
      split
      · exact h _ _
      · have : i = es.size := by simp at hi; omega
        exact this.symm
  exact this s #[] (fun i h => by simp at h)
def gOf (s : List ((Int × Int) × Gp)) (e : MapEntry) : Gp := ((s[e.born]?).map (·.2)).getD fun _ _ => 0
theorem gOf_all (s : List ((Int × Int) × Gp)) : (entF s).toList.map (gOf s) = s.map (·.2) := by
  apply List.ext_getElem
  · simp [entF_size]
  · intro i h1 h2
    have hi : i < (entF s).size := by simpa using h1
    have hs : i < s.length := by simpa using h2
    simp only [List.getElem_map, Array.getElem_toList]
    unfold gOf
    rw [entF_bi s i hi, List.getElem?_eq_getElem hs]
    rfl
/-- What has been found by these entries. -/
def LS (p : Pr) (L : List MapEntry) : Nat × Nat := longS p.bs.length (2 ^ p.bs.length - 1, 0) (L.map (gOf p.n.known))
theorem LS_next (p : Pr) (L : List MapEntry) {e : MapEntry} {g : Gp} (hg : gOf p.n.known e = g) : LS p (L ++ [e]) = ((LS p L).1 &&& thoseL p.bs.length (fun k => ((List.range 5).all fun o => decide (g o k ≤ 0))), (LS p L).2 ||| thoseL p.bs.length (fun k => ((List.range 5).all fun o => decide (0 ≤ g k o)))) := by
  unfold LS longS
  rw [List.map_append, List.foldl_append, ← hg]
  rfl
theorem LS_lt (p : Pr) (h : p.bs.length ≤ 5) (L : List MapEntry) : (LS p L).1 < 256 ∧ (LS p L).2 < 256 := by
  have key : ∀ (l : List Gp) (s : Nat × Nat), s.1 < 256 ∧ s.2 < 256 → (longS p.bs.length s l).1 < 256 ∧ (longS p.bs.length s l).2 < 256 := by
    intro l
    induction l with
    | nil => exact fun s h => h
    | cons g l ih =>
      intro s hs
      refine ih _ ⟨Nat.lt_of_le_of_lt Nat.and_le_left hs.1, Nat.or_lt_two_pow (n := 8) hs.2 (those_lt (by omega) _)⟩
  have h2 := pow_le5 (n := p.bs.length) (by omega)
  exact key _ _ ⟨by dsimp only; omega, by dsimp only; omega⟩
theorem LS_done {p : Pr} {L : List MapEntry} (h : L.Perm (entF p.n.known).toList) : LS p L = p.n.longA := by
  unfold LS Prn.longA
  rw [← gOf_all]
  exact longS_perm (List.Perm.map _ h) _
set_option maxRecDepth 100000 in
theorem longestOf_any (p : Pr) (bm : Nat) (w : World) (hF : p.Fine) (hmp : w.heap[bm]? = some (.map (entF p.n.known) p.n.known.length)) : Calls Try.prog 61 #[.int .i64 (p.bs.length : Int), .map (some bm)] w (Ret (.agg #[.int .i64 (p.n.longA.1 : Int), .int .i64 (p.n.longA.2 : Int)]) w) := by
  have h5 := hF.b5
  refine calls_run (fn := f61) (c := (f61.body).getD .skip) [.int .i64 (p.bs.length : Int), .map (some bm)] func61 (by kernel_rfl) (fun _ => False) [] (fun _ h => by cases h) (List.Pairwise.nil) 34 (by kernel_rfl) (by simp) ?_
  refine run_auto [] 2 [] [] [0, 1] [] (st' := ⟨[(0, .int .i64 (p.bs.length : Int)), (1, .map (some bm))], []⟩) (acc := []) (by kernel_rfl) (by kernel_rfl) trivial ?_
  refine run_new (.cells #[.int .i64 0, .int .i64 0] 106 (0, 0)) (fun b1 => .pointer (some ⟨b1, 0, none⟩)) (some 4) (fun _ => by kernel_rfl) (fun b1 hb1 => ?_)
  refine run_auto [] 4 [] [] [0, 1, 4, 8] [0] (st' := ⟨[(0, .int .i64 (p.bs.length : Int)), (1, .map (some bm)), (4, .pointer (some ⟨b1, 0, none⟩)), (8, .int .i64 (p.bs.length : Int))], [(b1, .cells #[.int .i64 0, .int .i64 0] 106 (0, 0))]⟩) (acc := []) (by kernel_rfl) (by kernel_rfl) trivial ?_
  refine run_ret1 90 #[.int .i64 (p.bs.length : Int)] (some 9) (.int .i64 ((2 ^ p.bs.length - 1 : Nat) : Int)) (by kernel_rfl) (fun w1 k1 h1 => fullSet_any p.bs.length (by omega) w1) ?_
  refine run_auto [] 1 [] [] [0, 1, 4, 10] [0] (st' := ⟨[(0, .int .i64 (p.bs.length : Int)), (1, .map (some bm)), (4, .pointer (some ⟨b1, 0, none⟩)), (10, .agg #[.int .i64 ((2 ^ p.bs.length - 1 : Nat) : Int), .int .i64 0])], [(b1, .cells #[.int .i64 0, .int .i64 0] 106 (0, 0))]⟩) (acc := []) (by kernel_rfl) (by kernel_rfl) trivial ?_
  refine run_new (.cells #[.int .i64 0, .int .i64 0] 106 (0, 0)) (fun b2 => .pointer (some ⟨b2, 0, none⟩)) (some 5) (fun _ => by kernel_rfl) (fun b2 hb2 => ?_)
  refine run_auto [] 6 [] [0] [0, 4, 5, 11] [0, 1] (st' := ⟨[(0, .int .i64 (p.bs.length : Int)), (4, .pointer (some ⟨b1, 0, none⟩)), (5, .pointer (some ⟨b2, 0, none⟩)), (11, .map (some bm))], [(b2, .cells #[.int .i64 ((2 ^ p.bs.length - 1 : Nat) : Int), .int .i64 0] 106 (0, 0)), (b1, .cells #[.int .i64 0, .int .i64 0] 106 (0, 0))]⟩) (acc := [(.pointer (some ⟨b2, 0, none⟩), .pointer (some ⟨b2, 0, none⟩))]) (by kernel_rfl) (by kernel_rfl) ⟨rfl, trivial⟩ ?_
  refine run_rangeMap (some 12) 77 79 70 bm (entF p.n.known) p.n.known.length (by kernel_rfl) (by kernel_rfl) (fun w1 k1 h1 => (k1.block bm (Array.getElem?_eq_some_iff.1 hmp).1 (fun h => h)).trans hmp) (fun b3 hb3 => ?_)
  refine run_auto [] 2 [] [] [0, 4, 5, 12] [0, 1, 2] (st' := ⟨[(0, .int .i64 (p.bs.length : Int)), (4, .pointer (some ⟨b1, 0, none⟩)), (5, .pointer (some ⟨b2, 0, none⟩)), (12, .pointer (some ⟨b3, 0, none⟩))], [(b3, .mapIter (some bm) p.n.known.length #[] p.n.known.length), (b2, .cells #[.int .i64 ((2 ^ p.bs.length - 1 : Nat) : Int), .int .i64 0] 106 (0, 0)), (b1, .cells #[.int .i64 0, .int .i64 0] 106 (0, 0))]⟩) (acc := []) (by kernel_rfl) (by kernel_rfl) trivial ?_
  refine run_auto [] 0 [] [] [0, 4, 5, 12] [0, 1, 2] (st' := ⟨[(0, .int .i64 (p.bs.length : Int)), (4, .pointer (some ⟨b1, 0, none⟩)), (5, .pointer (some ⟨b2, 0, none⟩)), (12, .pointer (some ⟨b3, 0, none⟩))], [(b3, .mapIter (some bm) p.n.known.length #[] p.n.known.length), (b2, .cells #[.int .i64 ((2 ^ p.bs.length - 1 : Nat) : Int), .int .i64 0] 106 (0, 0)), (b1, .cells #[.int .i64 0, .int .i64 0] 106 (0, 0))]⟩) (acc := []) (by kernel_rfl) (by kernel_rfl) trivial ?_
  refine run_loop (S := fun (L : List MapEntry) => ⟨[(0, .int .i64 (p.bs.length : Int)), (4, .pointer (some ⟨b1, 0, none⟩)), (5, .pointer (some ⟨b2, 0, none⟩)), (12, .pointer (some ⟨b3, 0, none⟩))], [(b3, .mapIter (some bm) p.n.known.length (bornsL L) p.n.known.length), (b2, .cells #[.int .i64 ((LS p L).1 : Int), .int .i64 ((LS p L).2 : Int)] 106 (0, 0)), (b1, .cells #[.int .i64 0, .int .i64 0] 106 (0, 0))]⟩) (fun L => MapIn (entF p.n.known) L) (fun L => (leftOf (entF p.n.known) (bornsL L)).size) ([]) (by kernel_rfl) (MapIn.start _) (by kernel_rfl) (fun L hI0 J0 hJ0 => ?_)
  refine run_auto [] 2 [] [] [0, 4, 5, 12] [0, 1, 2] (st' := ⟨[(0, .int .i64 (p.bs.length : Int)), (4, .pointer (some ⟨b1, 0, none⟩)), (5, .pointer (some ⟨b2, 0, none⟩)), (12, .pointer (some ⟨b3, 0, none⟩))], [(b3, .mapIter (some bm) p.n.known.length (bornsL L) p.n.known.length), (b2, .cells #[.int .i64 ((LS p L).1 : Int), .int .i64 ((LS p L).2 : Int)] 106 (0, 0)), (b1, .cells #[.int .i64 0, .int .i64 0] 106 (0, 0))]⟩) (acc := []) (by kernel_rfl) (by kernel_rfl) trivial ?_
  refine run_nextMap (some 13) 0 b3 bm p.n.known.length p.n.known.length (bornsL L) (entF p.n.known) p.n.known.length 0 (by kernel_rfl) (by kernel_rfl) (fun w1 k1 h1 => (k1.block bm (Array.getElem?_eq_some_iff.1 hmp).1 (fun h => h)).trans hmp) (entF_born p.n.known) (Nat.le_refl _) (fun hno => ?_) (fun e he => ?_)
  · skip
    refine run_auto [] 10 [false] [1, 2] [4] [2] (st' := ⟨[(4, .pointer (some ⟨b1, 0, none⟩))], [(b1, .cells #[.int .i64 ((LS p L).1 : Int), .int .i64 ((LS p L).2 : Int)] 106 (0, 0))]⟩) (acc := [(.pointer (some ⟨b1, 0, none⟩), .pointer (some ⟨b1, 0, none⟩)), (.pointer (some ⟨b2, 0, none⟩), .pointer (some ⟨b2, 0, none⟩)), (.bool false, .bool false)]) (by kernel_rfl) (by kernel_rfl) ⟨rfl, rfl, rfl, trivial⟩ ?_
    refine run_end (fn := f61) rfl (Nat.le_refl _) (by kernel_rfl) [0] [.agg #[.int .i64 ((LS p L).1 : Int), .int .i64 ((LS p L).2 : Int)]] (e := [(.pointer (some ⟨b1, 0, none⟩), .pointer (some ⟨b1, 0, none⟩))]) (by kernel_rfl) ⟨rfl, trivial⟩ (fun w1 k1 h1 => ?_)
    exact ⟨by rw [← LS_done (hI0.done hno)]; rfl, k1.keeps (fun _ h => h)⟩
  · skip
    obtain ⟨k, hk, hek, hev⟩ := entF_at (MapIn.mem he)
    have hg : gOf p.n.known e = k.2 := by unfold gOf; rw [hk]; rfl
    rw [hek, hev]
    have hLS := LS_lt p (by omega) L
    refine run_auto [] 8 [true] [] [0, 4, 5, 12] [0, 1, 2] (st' := ⟨[(0, .int .i64 (p.bs.length : Int)), (4, .pointer (some ⟨b1, 0, none⟩)), (5, .pointer (some ⟨b2, 0, none⟩)), (12, .pointer (some ⟨b3, 0, none⟩))], [(b3, .mapIter (some bm) p.n.known.length ((bornsL L).push e.born) p.n.known.length), (b2, .cells #[.int .i64 ((LS p L).1 : Int), .int .i64 ((LS p L).2 : Int)] 106 (0, 0)), (b1, .cells #[.int .i64 0, .int .i64 0] 106 (0, 0))]⟩) (acc := [(.bool true, .bool true)]) (by kernel_rfl) (by kernel_rfl) ⟨rfl, trivial⟩ ?_
    refine run_v (Instr.entry (.pointer (some ⟨b3, 0, none⟩)) >>= fun v => pure (Next.value v)) (some 15) (.tuple #[.agg #[.int .i64 k.1.1, .int .i64 k.1.2], .agg (gc k.2).toArray]) (by kernel_rfl) (fun w1 k1 h1 => entry_run (e := e) (h1 (b3, .mapIter (some bm) p.n.known.length ((bornsL L).push e.born) p.n.known.length) (List.mem_of_getElem? (i := 0) (by kernel_rfl))) ((k1.block bm (Array.getElem?_eq_some_iff.1 hmp).1 (fun h => h)).trans hmp) (MapIn.mem he) (entF_nodup p.n.known) hek hev) ?_
    refine run_auto [] 1 [] [] [0, 4, 5, 12, 16] [0, 1, 2] (st' := ⟨[(0, .int .i64 (p.bs.length : Int)), (4, .pointer (some ⟨b1, 0, none⟩)), (5, .pointer (some ⟨b2, 0, none⟩)), (12, .pointer (some ⟨b3, 0, none⟩)), (16, .agg (gc k.2).toArray)], [(b3, .mapIter (some bm) p.n.known.length ((bornsL L).push e.born) p.n.known.length), (b2, .cells #[.int .i64 ((LS p L).1 : Int), .int .i64 ((LS p L).2 : Int)] 106 (0, 0)), (b1, .cells #[.int .i64 0, .int .i64 0] 106 (0, 0))]⟩) (acc := []) (by kernel_rfl) (by kernel_rfl) trivial ?_
    refine run_new (.cells #[.int .i64 0, .int .i64 0, .int .i64 0, .int .i64 0, .int .i64 0, .int .i64 0, .int .i64 0, .int .i64 0, .int .i64 0, .int .i64 0, .int .i64 0, .int .i64 0, .int .i64 0, .int .i64 0, .int .i64 0, .int .i64 0, .int .i64 0, .int .i64 0, .int .i64 0, .int .i64 0, .int .i64 0, .int .i64 0, .int .i64 0, .int .i64 0, .int .i64 0, .int .i64 0, .int .i64 0, .int .i64 0, .int .i64 0, .int .i64 0, .int .i64 0, .int .i64 0, .int .i64 0, .int .i64 0, .int .i64 0, .int .i64 0] 70 (0, 0)) (fun b4 => .pointer (some ⟨b4, 0, none⟩)) (some 7) (fun _ => by kernel_rfl) (fun b4 hb4 => ?_)
    refine run_auto [] 3 [] [0] [0, 4, 5, 12, 7] [0, 1, 2, 3] (st' := ⟨[(0, .int .i64 (p.bs.length : Int)), (4, .pointer (some ⟨b1, 0, none⟩)), (5, .pointer (some ⟨b2, 0, none⟩)), (12, .pointer (some ⟨b3, 0, none⟩)), (7, .pointer (some ⟨b4, 0, none⟩))], [(b4, .cells (gc k.2).toArray 70 (0, 0)), (b3, .mapIter (some bm) p.n.known.length ((bornsL L).push e.born) p.n.known.length), (b2, .cells #[.int .i64 ((LS p L).1 : Int), .int .i64 ((LS p L).2 : Int)] 106 (0, 0)), (b1, .cells #[.int .i64 0, .int .i64 0] 106 (0, 0))]⟩) (acc := [(.pointer (some ⟨b4, 0, none⟩), .pointer (some ⟨b4, 0, none⟩))]) (by kernel_rfl) (by kernel_rfl) ⟨rfl, trivial⟩ ?_
    refine draw 9 [{ val := fun _ => .pointer (some ⟨b2, 0, none⟩), slots := [5] },
          { val := fun _ => .int .i64 ((LS p L).1 : Int), slots := [17], reads := [2] },
          { val := fun _ => .int .i64 (p.bs.length : Int), slots := [0] },
          { val := fun _ => .agg (gc k.2).toArray, slots := [7], reads := [0] },
          { val := fun _ => .func (.func 94) #[.agg (gc k.2).toArray] #[], slots := [20] },
          { val := fun _ => .int .i64 (((thoseL p.bs.length (fun q => ((List.range 5).all fun o => decide (k.2 o q ≤ 0)))) : Nat) : Int), slots := [19, 21] },
          { val := fun _ => .int .i64 (((LS p L).1 &&& ((thoseL p.bs.length (fun q => ((List.range 5).all fun o => decide (k.2 o q ≤ 0)))) : Nat) : Nat) : Int), slots := [18, 22] },
          { val := fun _ => .pointer (some ⟨b2, 0, none⟩), slots := [5] },
          { upd := [(2, fun l => .cells #[.int .i64 (((LS p L).1 &&& ((thoseL p.bs.length (fun q => ((List.range 5).all fun o => decide (k.2 o q ≤ 0)))) : Nat) : Nat) : Int), .int .i64 ((LS p L).2 : Int)] 106 (0, 0))], slots := [23, 24], reads := [2] }] [[], [0], [], [], [3], [2, 3, 4], [0, 1, 2, 3, 4, 5], [0, 1, 2, 3, 4, 5, 6], [0, 1, 2, 3, 4, 5, 6, 7]] (by kernel_rfl) (by kernel_rfl) (by kernel_rfl) (by kernel_rfl) [0, 4, 5, 12, 7] [0, 1, 2, 3] (by kernel_rfl)
          ⟨⟨⟨⟨⟨⟨⟨⟨⟨trivial,
          tri_quiet (fun β => []) [] [] (fun β => []) (by kernel_rfl) (fun β extra => by kernel_rfl) (by kernel_rfl) (fun β => trivial)⟩,
          tri_quiet (fun β => []) [0] [0] (fun β => [(.pointer (some ⟨b2, 0, none⟩), .pointer (some ⟨b2, 0, none⟩))]) (by kernel_rfl) (fun β extra => by kernel_rfl) (by kernel_rfl) (fun β => ⟨rfl, trivial⟩)⟩,
          tri_quiet (fun β => []) [] [] (fun β => []) (by kernel_rfl) (fun β extra => by kernel_rfl) (by kernel_rfl) (fun β => trivial)⟩,
          tri_quiet (fun β => []) [0] [0] (fun β => [(.pointer (some ⟨b4, 0, none⟩), .pointer (some ⟨b4, 0, none⟩))]) (by kernel_rfl) (fun β extra => by kernel_rfl) (by kernel_rfl) (fun β => ⟨rfl, trivial⟩)⟩,
          tri_quiet (fun β => []) [] [] (fun β => []) (by kernel_rfl) (fun β extra => by kernel_rfl) (by kernel_rfl) (fun β => trivial)⟩,
          tri_call 93 (fun β => #[.int .i64 (p.bs.length : Int), .func (.func 94) #[.agg (gc k.2).toArray] #[]]) (by kernel_rfl) (fun β extra => by kernel_rfl) (fun β => by kernel_rfl) (fun β w1 k1 h1 => those_surelyLongest k.2 p.bs.length (by omega) w1)⟩,
          tri_quiet (fun β => [(23, .int .i64 (((LS p L).1 &&& ((thoseL p.bs.length (fun q => ((List.range 5).all fun o => decide (k.2 o q ≤ 0)))) : Nat) : Nat) : Int))]) [] [] (fun β => [(.int .i64 (bits .and .i64 ((LS p L).1 : Int) (((thoseL p.bs.length (fun q => ((List.range 5).all fun o => decide (k.2 o q ≤ 0)))) : Nat) : Int)), .int .i64 (((LS p L).1 &&& ((thoseL p.bs.length (fun q => ((List.range 5).all fun o => decide (k.2 o q ≤ 0)))) : Nat) : Nat) : Int))]) (by kernel_rfl) (fun β extra => by kernel_rfl) (by kernel_rfl) (fun β => ⟨(and_nat (LS p L).1 ((thoseL p.bs.length (fun q => ((List.range 5).all fun o => decide (k.2 o q ≤ 0)))) : Nat) (by omega) (by have := those_lt (n := p.bs.length) (by omega) (fun q => ((List.range 5).all fun o => decide (k.2 o q ≤ 0))); omega)), trivial⟩)⟩,
          tri_quiet (fun β => []) [] [] (fun β => []) (by kernel_rfl) (fun β extra => by kernel_rfl) (by kernel_rfl) (fun β => trivial)⟩,
          tri_quiet (fun β => []) [0] [0] (fun β => [(.pointer (some ⟨b2, 0, none⟩), .pointer (some ⟨b2, 0, none⟩))]) (by kernel_rfl) (fun β extra => by kernel_rfl) (by kernel_rfl) (fun β => ⟨rfl, trivial⟩)⟩
          (fun β => ⟨[(0, .int .i64 (p.bs.length : Int)), (4, .pointer (some ⟨b1, 0, none⟩)), (5, .pointer (some ⟨b2, 0, none⟩)), (12, .pointer (some ⟨b3, 0, none⟩)), (7, .pointer (some ⟨b4, 0, none⟩))], [(b4, .cells (gc k.2).toArray 70 (0, 0)), (b3, .mapIter (some bm) p.n.known.length ((bornsL L).push e.born) p.n.known.length), (b2, .cells #[.int .i64 (((LS p L).1 &&& ((thoseL p.bs.length (fun q => ((List.range 5).all fun o => decide (k.2 o q ≤ 0)))) : Nat) : Nat) : Int), .int .i64 ((LS p L).2 : Int)] 106 (0, 0)), (b1, .cells #[.int .i64 0, .int .i64 0] 106 (0, 0))]⟩) (fun β => by kernel_rfl) (fun β5 => ?_)
    refine draw 9 [{ val := fun _ => .pointer (some ⟨b2, 1, none⟩), slots := [5] },
          { val := fun _ => .int .i64 ((LS p L).2 : Int), slots := [25], reads := [2] },
          { val := fun _ => .int .i64 (p.bs.length : Int), slots := [0] },
          { val := fun _ => .agg (gc k.2).toArray, slots := [7], reads := [0] },
          { val := fun _ => .func (.func 95) #[.agg (gc k.2).toArray] #[], slots := [28] },
          { val := fun _ => .int .i64 (((thoseL p.bs.length (fun q => ((List.range 5).all fun o => decide (0 ≤ k.2 q o)))) : Nat) : Int), slots := [27, 29] },
          { val := fun _ => .int .i64 (((LS p L).2 ||| ((thoseL p.bs.length (fun q => ((List.range 5).all fun o => decide (0 ≤ k.2 q o)))) : Nat) : Nat) : Int), slots := [26, 30] },
          { val := fun _ => .pointer (some ⟨b2, 1, none⟩), slots := [5] },
          { upd := [(2, fun l => .cells #[.int .i64 (((LS p L).1 &&& ((thoseL p.bs.length (fun q => ((List.range 5).all fun o => decide (k.2 o q ≤ 0)))) : Nat) : Nat) : Int), .int .i64 (((LS p L).2 ||| ((thoseL p.bs.length (fun q => ((List.range 5).all fun o => decide (0 ≤ k.2 q o)))) : Nat) : Nat) : Int)] 106 (0, 0))], slots := [31, 32], reads := [2] }] [[], [0], [], [], [3], [2, 3, 4], [0, 1, 2, 3, 4, 5], [0, 1, 2, 3, 4, 5, 6], [0, 1, 2, 3, 4, 5, 6, 7]] (by kernel_rfl) (by kernel_rfl) (by kernel_rfl) (by kernel_rfl) [0, 4, 5, 12] [1, 2, 3] (by kernel_rfl)
          ⟨⟨⟨⟨⟨⟨⟨⟨⟨trivial,
          tri_quiet (fun β => []) [] [] (fun β => []) (by kernel_rfl) (fun β extra => by kernel_rfl) (by kernel_rfl) (fun β => trivial)⟩,
          tri_quiet (fun β => []) [0] [0] (fun β => [(.pointer (some ⟨b2, 0, none⟩), .pointer (some ⟨b2, 0, none⟩))]) (by kernel_rfl) (fun β extra => by kernel_rfl) (by kernel_rfl) (fun β => ⟨rfl, trivial⟩)⟩,
          tri_quiet (fun β => []) [] [] (fun β => []) (by kernel_rfl) (fun β extra => by kernel_rfl) (by kernel_rfl) (fun β => trivial)⟩,
          tri_quiet (fun β => []) [0] [0] (fun β => [(.pointer (some ⟨b4, 0, none⟩), .pointer (some ⟨b4, 0, none⟩))]) (by kernel_rfl) (fun β extra => by kernel_rfl) (by kernel_rfl) (fun β => ⟨rfl, trivial⟩)⟩,
          tri_quiet (fun β => []) [] [] (fun β => []) (by kernel_rfl) (fun β extra => by kernel_rfl) (by kernel_rfl) (fun β => trivial)⟩,
          tri_call 93 (fun β => #[.int .i64 (p.bs.length : Int), .func (.func 95) #[.agg (gc k.2).toArray] #[]]) (by kernel_rfl) (fun β extra => by kernel_rfl) (fun β => by kernel_rfl) (fun β w1 k1 h1 => those_perhapsLongest k.2 p.bs.length (by omega) w1)⟩,
          tri_quiet (fun β => [(31, .int .i64 (((LS p L).2 ||| ((thoseL p.bs.length (fun q => ((List.range 5).all fun o => decide (0 ≤ k.2 q o)))) : Nat) : Nat) : Int))]) [] [] (fun β => [(.int .i64 (bits .or .i64 ((LS p L).2 : Int) (((thoseL p.bs.length (fun q => ((List.range 5).all fun o => decide (0 ≤ k.2 q o)))) : Nat) : Int)), .int .i64 (((LS p L).2 ||| ((thoseL p.bs.length (fun q => ((List.range 5).all fun o => decide (0 ≤ k.2 q o)))) : Nat) : Nat) : Int))]) (by kernel_rfl) (fun β extra => by kernel_rfl) (by kernel_rfl) (fun β => ⟨(or_nat (LS p L).2 ((thoseL p.bs.length (fun q => ((List.range 5).all fun o => decide (0 ≤ k.2 q o)))) : Nat) (by omega) (by have := those_lt (n := p.bs.length) (by omega) (fun q => ((List.range 5).all fun o => decide (0 ≤ k.2 q o))); omega)), trivial⟩)⟩,
          tri_quiet (fun β => []) [] [] (fun β => []) (by kernel_rfl) (fun β extra => by kernel_rfl) (by kernel_rfl) (fun β => trivial)⟩,
          tri_quiet (fun β => []) [0] [0] (fun β => [(.pointer (some ⟨b2, 0, none⟩), .pointer (some ⟨b2, 0, none⟩))]) (by kernel_rfl) (fun β extra => by kernel_rfl) (by kernel_rfl) (fun β => ⟨rfl, trivial⟩)⟩
          (fun β => ⟨[(0, .int .i64 (p.bs.length : Int)), (4, .pointer (some ⟨b1, 0, none⟩)), (5, .pointer (some ⟨b2, 0, none⟩)), (12, .pointer (some ⟨b3, 0, none⟩))], [(b3, .mapIter (some bm) p.n.known.length ((bornsL L).push e.born) p.n.known.length), (b2, .cells #[.int .i64 (((LS p L).1 &&& ((thoseL p.bs.length (fun q => ((List.range 5).all fun o => decide (k.2 o q ≤ 0)))) : Nat) : Nat) : Int), .int .i64 (((LS p L).2 ||| ((thoseL p.bs.length (fun q => ((List.range 5).all fun o => decide (0 ≤ k.2 q o)))) : Nat) : Nat) : Int)] 106 (0, 0)), (b1, .cells #[.int .i64 0, .int .i64 0] 106 (0, 0))]⟩) (fun β => by kernel_rfl) (fun β6 => ?_)
    refine run_auto [] 1 [] [] [0, 4, 5, 12] [0, 1, 2] (st' := ⟨[(0, .int .i64 (p.bs.length : Int)), (4, .pointer (some ⟨b1, 0, none⟩)), (5, .pointer (some ⟨b2, 0, none⟩)), (12, .pointer (some ⟨b3, 0, none⟩))], [(b3, .mapIter (some bm) p.n.known.length ((bornsL L).push e.born) p.n.known.length), (b2, .cells #[.int .i64 (((LS p L).1 &&& ((thoseL p.bs.length (fun q => ((List.range 5).all fun o => decide (k.2 o q ≤ 0)))) : Nat) : Nat) : Int), .int .i64 (((LS p L).2 ||| ((thoseL p.bs.length (fun q => ((List.range 5).all fun o => decide (0 ≤ k.2 q o)))) : Nat) : Nat) : Int)] 106 (0, 0)), (b1, .cells #[.int .i64 0, .int .i64 0] 106 (0, 0))]⟩) (acc := []) (by kernel_rfl) (by kernel_rfl) trivial ?_
    have hj := hJ0 (L ++ [e]) (hI0.next (entF_nodup _) he) (MapIn.less he)
    rw [LS_next p L hg, ← bornsL_push] at hj
    exact run_round (by kernel_rfl) hj

end Go.Proofs.Ytmiobcnccbfknaa
