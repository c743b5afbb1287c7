/-
  PAIR: truths: the map of what is known.
  PAIR: maps.Values and maps.Keys of what is known.
  PAIR: the least and the greatest that is told.
  PAIR: answer: what the work returns, or the error that it panics with.
  PAIR: Known, Differ, Shows.
  PAIR: the two blocks that are known least of one another.
-/
import Derived.Test.YthnhcacoegmdfaaGe
import Derived.Test.YthnhcacoegmdfaaGb
import Derived.Laws.StructEq
import Derived.Test.YthnhcacoegmdfaaGd
import Derived.WalkKit
import Derived.OwnWalk
import Derived.RegionTactic
import Derived.ChangeAlike
import Derived.Deep.QuietTactic
import Derived.BigQuiet
import Derived.BigGuardPart
import Derived.WalkLawsBesides
import Derived.Defers
import Derived.Recover
import Derived.Test.YthnhcacoegmdfaaGc
namespace Go.Proofs.Ythnhcacoegmdfaa
open Go.RowKit Go.Proofs.Try


theorem fields_comp : Try.prog.underlying 79 = some (.struct (Try.prog.fieldsOf 79)) := by kernel_rfl
theorem held_comp : Try.prog.stoodInHeld 79 = false := by kernel_rfl
theorem list_comp : (Try.prog.fieldsOf 79).toList.map (fun f => (f.name, f.type, f.offset)) = [("zero", 3, 0), ("rate", 3, 1)] := by kernel_rfl
theorem equal_comp (x x' y y' : Int) (w : World) : (Op.equalIn 10000 79 (.agg #[.int .i64 x, .int .i64 x']) (.agg #[.int .i64 y, .int .i64 y'])).run Try.prog w = .ok (x == y && x' == y') w := by
  rw [run_equalIn_agg w 9999 _ _ _ fields_comp held_comp]
  have h := list_comp
  match hf : (Try.prog.fieldsOf 79).toList, h with
  | [f, g], h =>
    simp only [List.map_cons, List.map_nil, List.cons.injEq, Prod.mk.injEq, and_true] at h
    obtain ⟨⟨h1, h2, h3⟩, h4, h5, h6⟩ := h
    simp [Op.eqFields, h1, h2, h3, h4, h5, h6, go_sem]
    by_cases e1 : x = y <;> by_cases e2 : x' = y' <;> simp [e1, e2]
  | [], h => simp at h
  | [_], h => simp at h
  | _ :: _ :: _ :: _, h => simp at h
/-- What is known, as entries of a map. -/
def entK (es : Array MapEntry) (k : (Int × Int) × Gp) : Array MapEntry := es.push { key := .agg #[.int .i64 k.1.1, .int .i64 k.1.2], val := .agg (gc k.2).toArray, born := es.size }
def entF (s : List ((Int × Int) × Gp)) : Array MapEntry := s.foldl entK #[]
theorem entF_next (s : List ((Int × Int) × Gp)) (k : (Int × Int) × Gp) : entF (s ++ [k]) = entK (entF s) k := by
  unfold entF
  rw [List.foldl_append]
  rfl
theorem entF_fold : ∀ (s : List ((Int × Int) × Gp)) (es : Array MapEntry), (s.foldl entK es).size = es.size + s.length ∧ ∀ e ∈ (s.foldl entK es).toList, e ∈ es.toList ∨ ∃ k ∈ s, e.key = .agg #[.int .i64 k.1.1, .int .i64 k.1.2] ∧ e.val = .agg (gc k.2).toArray ∧ e.born < es.size + s.length
  | [], es => ⟨rfl, fun e h => .inl h⟩
  | k :: s, es => by
    obtain ⟨h1, h2⟩ := entF_fold s (entK es k)
    have hs : (entK es k).size = es.size + 1 := by simp [entK]
    refine ⟨by rw [List.foldl_cons, h1, hs, List.length_cons]; omega, fun e he => ?_⟩
    rw [List.foldl_cons] at he
    rcases h2 e he with h | ⟨q, hq, h3, h4, h5⟩
    · unfold entK at h
      rw [Array.toList_push, List.mem_append] at h
      rcases h with h | h
      · exact .inl h
      · rw [List.mem_singleton] at h
        subst h
        exact .inr ⟨k, List.mem_cons_self, rfl, rfl, by simp⟩
    · exact .inr ⟨q, List.mem_cons_of_mem _ hq, h3, h4, by rw [hs] at h5; rw [List.length_cons]; omega⟩
theorem entF_size (s : List ((Int × Int) × Gp)) : (entF s).size = s.length := by
  have := (entF_fold s #[]).1
  simpa [entF] using this
theorem entF_mem {s : List ((Int × Int) × Gp)} {e : MapEntry} (h : e ∈ (entF s).toList) : ∃ k ∈ s, e.key = .agg #[.int .i64 k.1.1, .int .i64 k.1.2] ∧ e.val = .agg (gc k.2).toArray ∧ e.born < s.length := by
  rcases (entF_fold s #[]).2 e h with h | ⟨q, hq, h1, h2, h3⟩
  · simp at h
  · exact ⟨q, hq, h1, h2, by simpa using h3⟩
theorem known_keys (p : Prn) : (p.known.map (·.1)).Nodup := by
  have h : (p.known.map (·.1)).Sublist p.comps := by
    unfold Prn.known
    generalize p.comps = l
    induction l with
    | nil => exact List.Sublist.refl _
    | cons c l ih =>
      rw [List.filterMap_cons]
      cases p.left c with
      | none => exact ih.cons c
      | some g => exact ih.cons_cons c
  exact h.nodup p.comps_nodup
theorem kn_next {p : Pr} {s : List ((Int × Int) × Gp)} {x : List Value} (hs : s <+: p.n.known) (h : s.map knV ++ [x] <+: p.knL) : ∃ k, x = knV k ∧ s ++ [k] <+: p.n.known := by
  obtain ⟨r, hr⟩ := hs
  obtain ⟨t, ht⟩ := h
  unfold Pr.knL at ht
  rw [← hr, List.map_append, List.append_assoc] at ht
  have ht := List.append_cancel_left ht
  cases r with
  | nil => simp at ht
  | cons k r =>
    simp at ht
    exact ⟨k, ht.1, r, by rw [← hr]; simp⟩
theorem kn_fresh {p : Pr} {s : List ((Int × Int) × Gp)} {k : (Int × Int) × Gp} (h : s ++ [k] <+: p.n.known) : ∀ e ∈ (entF s).toList, ∀ w, (Op.equal 79 (.agg #[.int .i64 k.1.1, .int .i64 k.1.2]) e.key).run Try.prog w = .ok false w := by
  intro e he w
  obtain ⟨q, hq, h1, _⟩ := entF_mem he
  rw [h1]
  refine (equal_comp _ _ _ _ w).trans (congrArg (fun b => Result.ok b w) ?_)
  obtain ⟨t, ht⟩ := h
  have hn := known_keys p.n
  rw [← ht, List.map_append, List.map_append] at hn
  have hn := (List.nodup_append.1 (List.nodup_append.1 hn).1).2.2 q.1 (List.mem_map.2 ⟨q, hq, rfl⟩) k.1 (by simp)
  cases hb : (k.1.1 == q.1.1 && k.1.2 == q.1.2) with
  | false => rfl
  | true =>
    simp only [Bool.and_eq_true, beq_iff_eq] at hb
    exact absurd (Prod.ext hb.1.symm hb.2.symm) hn
theorem kn_done {p : Pr} {s : List ((Int × Int) × Gp)} (hs : s <+: p.n.known) (h : p.knL = s.map knV) : s = p.n.known := by
  have hl := congrArg List.length h
  unfold Pr.knL at hl
  rw [List.length_map, List.length_map] at hl
  exact hs.eq_of_length hl.symm
theorem entF_obj (s : List ((Int × Int) × Gp)) (k : (Int × Int) × Gp) : Obj.map ((entF s).push { key := .agg #[.int .i64 k.1.1, .int .i64 k.1.2], val := .agg (gc k.2).toArray, born := s.length }) (s.length + 1) = .map (entF (s ++ [k])) (s ++ [k]).length := by
  rw [entF_next]
  unfold entK
  rw [entF_size]
  simp

/-- What truths gives. -/
def Truths (p : Pr) (w : World) (e : Ending) (w' : World) : Prop := if p.n.known = [] then Pan 10 w e w' else Nw (α := Unit) (fun _ b => .map (some b)) (fun _ => .map (entF p.n.known) p.n.known.length) (fun _ => True) w e w'
set_option maxRecDepth 100000 in
theorem truths_any (p : Pr) (w : World) (hp : p.In w) (hF : p.Fine) : Calls Try.prog 40 #[.agg #[.slice p.ba p.bs.length p.bc, .int .i64 p.zlo, .int .i64 p.zhi, .int .i64 p.rlo, .int .i64 p.rhi, .slice p.ra p.rs.length p.rc]] w (Truths p w) := by
  refine calls_run (fn := f40) (c := (f40.body).getD .skip) [.agg #[.slice p.ba p.bs.length p.bc, .int .i64 p.zlo, .int .i64 p.zhi, .int .i64 p.rlo, .int .i64 p.rhi, .slice p.ra p.rs.length p.rc]] func40 (by kernel_rfl) (fun _ => False) [] (fun _ h => by cases h) (List.Pairwise.nil) 19 (by kernel_rfl) (by simp) ?_
  refine run_auto [] 2 [] [] [0] [] (st' := ⟨[(0, .agg #[.slice p.ba p.bs.length p.bc, iV p.zlo, iV p.zhi, iV p.rlo, iV p.rhi, .slice p.ra p.rs.length p.rc])], []⟩) (acc := []) (by kernel_rfl) (by kernel_rfl) trivial ?_
  refine run_new (aO #[.slice p.ba p.bs.length p.bc, iV p.zlo, iV p.zhi, iV p.rlo, iV p.rhi, .slice p.ra p.rs.length p.rc] 30) (fun b1 => pA b1) (some 1) (fun _ => by kernel_rfl) (fun b1 hb1 => ?_)
  refine run_auto [] 4 [] [] [1, 2] [0] (st' := ⟨[(1, pA b1), (2, .map none)], [(b1, aO #[.slice p.ba p.bs.length p.bc, iV p.zlo, iV p.zhi, iV p.rlo, iV p.rhi, .slice p.ra p.rs.length p.rc] 30)]⟩) (acc := []) (by kernel_rfl) (by kernel_rfl) trivial ?_
  refine run_new (.map #[] 0) (fun b2 => .map (some b2)) (some 6) (fun _ => by kernel_rfl) (fun b2 hb2 => ?_)
  refine run_new (aO #[.map none] 77) (fun b3 => pA b3) (some 3) (fun _ => by kernel_rfl) (fun b3 hb3 => ?_)
  refine run_auto [] 6 [] [0, 2] [2, 3, 7] [0, 1] (st' := ⟨[(2, .map none), (3, pA b3), (7, .agg #[.slice p.ba p.bs.length p.bc, iV p.zlo, iV p.zhi, iV p.rlo, iV p.rhi, .slice p.ra p.rs.length p.rc])], [(b3, aO #[.map (some b2)] 77), (b2, .map #[] 0)]⟩) (acc := [(pA b1, pA b1), (pA b3, pA b3)]) (by kernel_rfl) (by kernel_rfl) ⟨rfl, rfl, trivial⟩ ?_
  refine run_nw 77 #[.agg #[.slice p.ba p.bs.length p.bc, iV p.zlo, iV p.zhi, iV p.rlo, iV p.rhi, .slice p.ra p.rs.length p.rc]] (some 8) (α := Unit) (fun _u b4 => .func (.func 97) #[] #[pA b4]) (fun _u => aO #[.slice p.ba p.bs.length p.bc, iV p.zlo, iV p.zhi, iV p.rlo, iV p.rhi, .slice p.ra p.rs.length p.rc] 30) (fun _u => True) (by kernel_rfl) (fun _ => rfl) (fun w1 k1 h1 => possible_any p w1) (fun _u b4 hIb4 hb4 => ?_)
  refine run_auto [] 2 [] [] [2, 3, 8] [0, 1, 2] (st' := ⟨[(2, .map none), (3, pA b3), (8, .func (.func 97) #[] #[pA b4])], [(b4, aO #[.slice p.ba p.bs.length p.bc, iV p.zlo, iV p.zhi, iV p.rlo, iV p.rhi, .slice p.ra p.rs.length p.rc] 30), (b3, aO #[.map (some b2)] 77), (b2, .map #[] 0)]⟩) (acc := []) (by kernel_rfl) (by kernel_rfl) trivial ?_
  refine run_auto [] 0 [] [] [2, 3, 8] [0, 1, 2] (st' := ⟨[(2, .map none), (3, pA b3), (8, .func (.func 97) #[] #[pA b4])], [(b4, aO #[.slice p.ba p.bs.length p.bc, iV p.zlo, iV p.zhi, iV p.rlo, iV p.rhi, .slice p.ra p.rs.length p.rc] 30), (b3, aO #[.map (some b2)] 77), (b2, .map #[] 0)]⟩) (acc := []) (by kernel_rfl) (by kernel_rfl) trivial ?_
  refine run_range (σ := List ((Int × Int) × Gp)) (τ := Unit) 97 #[pA b4] [9, 10] [(b4, aO #[.slice p.ba p.bs.length p.bc, iV p.zlo, iV p.zhi, iV p.rlo, iV p.rhi, .slice p.ra p.rs.length p.rc] 30)] [(b3, aO #[.map (some b2)] 77), (b2, .map #[] 0)] p.InD (fun l => l <+: p.knL) (fun l => l = p.knL) (by kernel_rfl) rfl rfl (fun l => by kernel_rfl) rfl (by kernel_rfl) (fun pre x hx => by obtain ⟨c, g, rfl, _⟩ := kn_in (x := x) (List.IsPrefix.subset hx (by simp)); rfl) (possible_give p hF b4) (fun D w1 k1 hD => (Pr.In.inD hp (fun b hb h => hD b hb h)).kept k1 (fun _ h => h))
    (fun s => [(b3, aO #[.map (some b2)] 77), (b2, .map (entF s) s.length)]) (fun s => Ext.none) (fun pre s => s <+: p.n.known ∧ pre = s.map knV) (fun y => []) (fun y => Ext.none) (fun c y => False) ([]) (⟨List.nil_prefix, rfl⟩) rfl rfl (fun _ _ _ => ⟨rfl, fun _ _ h => h.elim⟩) (fun _ _ _ => rfl)
    (fun pre x s hpre hI l0 ms ro ob w0 Jb Jn Je hkk hll hbeg hnext hexit => ?_) (fun ys s hys hI => ?_) (fun c y hI => ?_)
  · skip
    have hpre : pre ++ [x] <+: p.knL := hpre
    obtain ⟨hs, rfl⟩ := hI
    obtain ⟨k, rfl, hk⟩ := kn_next hs hpre
    refine run_auto [] 2 [] [] [2, 3, 9, 10] [0, 1] (st' := ⟨[(2, .map none), (3, pA b3), (9, .agg #[iV k.1.1, iV k.1.2]), (10, .agg (gc k.2).toArray)], [(b3, aO #[.map (some b2)] 77), (b2, .map (entF s) s.length)]⟩) (acc := []) (by kernel_rfl) (by kernel_rfl) trivial ?_
    refine run_new (aO #[iV 0, iV 0] 79) (fun b5 => pA b5) (some 4) (fun _ => by kernel_rfl) (fun b5 hb5 => ?_)
    refine run_auto [] 3 [] [0] [2, 3, 10, 4] [0, 1, 2] (st' := ⟨[(2, .map none), (3, pA b3), (10, .agg (gc k.2).toArray), (4, pA b5)], [(b5, aO #[iV k.1.1, iV k.1.2] 79), (b3, aO #[.map (some b2)] 77), (b2, .map (entF s) s.length)]⟩) (acc := [(pA b5, pA b5)]) (by kernel_rfl) (by kernel_rfl) ⟨rfl, trivial⟩ ?_
    refine run_new (aO #[iV 0, iV 0, iV 0, iV 0, iV 0, iV 0, iV 0, iV 0, iV 0, iV 0, iV 0, iV 0, iV 0, iV 0, iV 0, iV 0, iV 0, iV 0, iV 0, iV 0, iV 0, iV 0, iV 0, iV 0, iV 0, iV 0, iV 0, iV 0, iV 0, iV 0, iV 0, iV 0, iV 0, iV 0, iV 0, iV 0] 70) (fun b6 => pA b6) (some 5) (fun _ => by kernel_rfl) (fun b6 hb6 => ?_)
    refine run_auto [] 2 [] [0] [2, 3, 4, 5] [0, 1, 2, 3] (st' := ⟨[(2, .map none), (3, pA b3), (4, pA b5), (5, pA b6)], [(b6, cO (gc k.2) 70), (b5, aO #[iV k.1.1, iV k.1.2] 79), (b3, aO #[.map (some b2)] 77), (b2, .map (entF s) s.length)]⟩) (acc := [(pA b6, pA b6)]) (by kernel_rfl) (by kernel_rfl) ⟨rfl, trivial⟩ ?_
    refine run_round rfl (hbeg _ ?_)
    refine run_auto [] 5 [] [2, 1, 0] [2, 11, 12, 13] [2, 3] (st' := ⟨[(2, .map none), (11, .map (some b2)), (12, .agg #[iV k.1.1, iV k.1.2]), (13, .agg (gc k.2).toArray)], [(b3, aO #[.map (some b2)] 77), (b2, .map (entF s) s.length)]⟩) (acc := [(pA b6, pA b6), (pA b5, pA b5), (pA b3, pA b3)]) (by kernel_rfl) (by kernel_rfl) ⟨rfl, rfl, rfl, trivial⟩ ?_
    refine run_mapNew 1 b2 77 79 70 (entF s) (s.length) (.agg #[iV k.1.1, iV k.1.2]) (.agg (gc k.2).toArray) (by kernel_rfl) (by kernel_rfl) (by kernel_rfl) (by kernel_rfl) (fun w => by kernel_rfl) (kn_fresh hk) ?_
    refine run_auto [] 2 [] [] [] [0, 1] (st' := ⟨[], [(b3, aO #[.map (some b2)] 77), (b2, .map ((entF s).push { key := .agg #[iV k.1.1, iV k.1.2], val := .agg (gc k.2).toArray, born := s.length }) (s.length + 1))]⟩) (acc := []) (by kernel_rfl) (by kernel_rfl) trivial ?_
    rw [entF_obj s k]
    exact run_nil rfl (fun a w1 g => hnext (s ++ [k]) _ ⟨hk, by rw [List.map_append]; rfl⟩ (fun b h => h.elim) a w1 g)
  · skip
    obtain rfl : ys = p.knL := hys
    obtain ⟨hs, hs2⟩ := hI
    have hs := kn_done hs hs2
    clear hs2
    subst hs
    refine run_auto [] 5 [] [0] [2, 3, 14] [0, 1] (st' := ⟨[(2, .map none), (3, pA b3), (14, .map (some b2))], [(b3, aO #[.map (some b2)] 77), (b2, .map (entF p.n.known) p.n.known.length)]⟩) (acc := [(pA b3, pA b3)]) (by kernel_rfl) (by kernel_rfl) ⟨rfl, trivial⟩ ?_
    refine run_v (Builtin.len_ #[77] 3 #[.map (some b2)] >>= fun v => pure (Next.value v)) (some 15) (iV ((entF p.n.known).size : Int)) (by kernel_rfl) (fun w1 k1 h1 => len_map (kt := 79) (et := 70) (by kernel_rfl) (h1 (b2, .map (entF p.n.known) p.n.known.length) (List.mem_of_getElem? (i := 1) (by kernel_rfl)))) ?_
    cases hd1 : (((entF p.n.known).size : Int) == 0) with
    | false =>
      have hp1 : ¬ ((entF p.n.known).size : Int) = 0 := by simpa using hd1
      refine run_auto [(16, .bool false)] 9 [false] [0] [2] [1] (st' := ⟨[(2, .map (some b2))], [(b2, .map (entF p.n.known) p.n.known.length)]⟩) (acc := [(pA b3, pA b3), (.bool false, .bool false), (.bool (((entF p.n.known).size : Int) == 0), .bool false)]) (by kernel_rfl) (by kernel_rfl) ⟨rfl, rfl, (bo hd1), trivial⟩ ?_
      refine run_end (fn := f40) rfl (Nat.le_refl _) (by kernel_rfl) [] [.map (some b2)] (e := []) (by kernel_rfl) trivial (fun w1 k1 h1 => ?_)
      unfold Truths
      rw [if_neg (by intro h; rw [h] at hp1; exact hp1 rfl)]
      exact ⟨(), b2, trivial, hb2, rfl, k1.keeps (fun _ h => h), h1 (b2, _) (List.mem_of_getElem? (i := 0) rfl)⟩
    | true =>
      have hp1 : ((entF p.n.known).size : Int) = 0 := by simpa using hd1
      refine run_auto [(16, .bool true)] 5 [true] [] [2, 3, 17] [0, 1] (st' := ⟨[(2, .map none), (3, pA b3), (17, .iface 24 (iV 10))], [(b3, aO #[.map (some b2)] 77), (b2, .map (entF p.n.known) p.n.known.length)]⟩) (acc := [(.bool true, .bool true), (.bool (((entF p.n.known).size : Int) == 0), .bool true)]) (by kernel_rfl) (by kernel_rfl) ⟨rfl, (bo hd1), trivial⟩ ?_
      have hnil : p.n.known = [] := List.length_eq_zero_iff.1 (by have := entF_size p.n.known; omega)
      exact run_panic rfl (Nat.le_refl _) (Instr.panic (.iface 24 (iV 10)) >>= fun v => pure (Next.value v)) none (.iface 24 (iV 10)) (by kernel_rfl) (fun w => by kernel_rfl) (fun w1 k1 h1 => (by unfold Truths; rw [if_pos hnil]; exact ⟨rfl, k1.keeps (fun _ h => h)⟩))
  · skip
    exact hI.elim

end Go.Proofs.Ythnhcacoegmdfaa

namespace Go.Proofs.Ythnhcacoegmdfaa
open Go.RowKit Go.Proofs.Try


theorem entF_nodup (s : List ((Int × Int) × Gp)) : ((entF s).toList.map (·.born)).Nodup := by
  have : ∀ (s : List ((Int × Int) × Gp)) (es : Array MapEntry), (∀ i (h : i < es.size), es[i].born = i) → ∀ i (h : i < (s.foldl entK es).size), (s.foldl entK es)[i].born = i := by
    intro s
    induction s with
    | nil => exact fun es h => h
    | cons k s ih =>
      intro es h
      refine ih (entK es k) fun i hi => ?_
      unfold entK at hi ⊢
      rw [Array.getElem_push]
      split
      · exact h _ _
      · have : i = es.size := by simp at hi; omega
        exact this.symm
  have h := this s #[] (fun i h => by simp at h)
  unfold List.Nodup
  rw [List.pairwise_iff_getElem]
  intro i j hi hj hlt
  simp only [List.getElem_map, Array.getElem_toList]
  have e1 := h i (by simpa [entF] using hi)
  have e2 := h j (by simpa [entF] using hj)
  unfold entF
  omega
theorem entF_born (s : List ((Int × Int) × Gp)) : ∀ x ∈ (entF s).toList, x.born < s.length := fun _ hx => by
  obtain ⟨_, _, _, _, h⟩ := entF_mem hx
  exact h
def valV (e : MapEntry) : List Value := [e.val]
def keyV (e : MapEntry) : List Value := [e.key]
/-- The map and what holds it lie where nobody writes. -/
def MapPin (s : List ((Int × Int) × Gp)) (b bm : Nat) (D : Nat → Prop) (w : World) : Prop := w.heap[b]? = some (.cells #[.map (some bm)] 77 (0, 0)) ∧ w.heap[bm]? = some (.map (entF s) s.length) ∧ ¬ D b ∧ ¬ D bm
/-- A list that goes on to one of these elements in some order. -/
def PrePerm (xs l : List (List Value)) : Prop := ∃ r, (l ++ r).Perm xs
def FinPerm (xs l : List (List Value)) : Prop := l.Perm xs
theorem pre_perm {es : Array MapEntry} {l : List MapEntry} (V : MapEntry → List Value) (hn : (es.toList.map (·.born)).Nodup) (h : MapIn es l) {e : MapEntry} (he : e ∈ (leftOf es (bornsL l)).toList) : PrePerm (es.toList.map V) (l.map V ++ [V e]) := by
  have h2 := h.next hn he
  exact ⟨(leftOf es (bornsL (l ++ [e]))).toList.map V, by have := List.Perm.map V h2; simpa using this⟩
set_option maxRecDepth 100000 in
theorem values_any (bm : Nat) (w : World)  : Calls Try.prog 39 #[.map (some bm)] w (Nw (α := Unit) (fun _ b => .func (.func 76) #[] #[.pointer (some ⟨b, 0, none⟩)]) (fun _ => .cells #[.map (some bm)] 77 (0, 0)) (fun _ => True) w) := by
  refine calls_run (fn := f39) (c := (f39.body).getD .skip) [.map (some bm)] func39 (by kernel_rfl) (fun _ => False) [] (fun _ h => by cases h) (List.Pairwise.nil) 4 (by kernel_rfl) (by simp) ?_
  refine run_auto [] 2 [] [] [0] [] (st' := ⟨[(0, .map (some bm))], []⟩) (acc := []) (by kernel_rfl) (by kernel_rfl) trivial ?_
  refine run_new (aO #[.map (some bm)] 77) (fun b1 => pA b1) (some 1) (fun _ => by kernel_rfl) (fun b1 hb1 => ?_)
  refine run_auto [] 7 [] [] [2] [0] (st' := ⟨[(2, .func (.func 76) #[] #[pA b1])], [(b1, aO #[.map (some bm)] 77)]⟩) (acc := []) (by kernel_rfl) (by kernel_rfl) trivial ?_
  refine run_end (fn := f39) rfl (Nat.le_refl _) (by kernel_rfl) [] [.func (.func 76) #[] #[pA b1]] (e := []) (by kernel_rfl) trivial (fun w1 k1 h1 => ?_)
  exact ⟨(), b1, trivial, hb1, rfl, k1.keeps (fun _ h => h), h1 (b1, _) (List.mem_of_getElem? (i := 0) rfl)⟩

set_option maxRecDepth 100000 in
theorem keys_any (bm : Nat) (w : World)  : Calls Try.prog 46 #[.map (some bm)] w (Nw (α := Unit) (fun _ b => .func (.func 79) #[] #[.pointer (some ⟨b, 0, none⟩)]) (fun _ => .cells #[.map (some bm)] 77 (0, 0)) (fun _ => True) w) := by
  refine calls_run (fn := f46) (c := (f46.body).getD .skip) [.map (some bm)] func46 (by kernel_rfl) (fun _ => False) [] (fun _ h => by cases h) (List.Pairwise.nil) 4 (by kernel_rfl) (by simp) ?_
  refine run_auto [] 2 [] [] [0] [] (st' := ⟨[(0, .map (some bm))], []⟩) (acc := []) (by kernel_rfl) (by kernel_rfl) trivial ?_
  refine run_new (aO #[.map (some bm)] 77) (fun b1 => pA b1) (some 1) (fun _ => by kernel_rfl) (fun b1 hb1 => ?_)
  refine run_auto [] 7 [] [] [2] [0] (st' := ⟨[(2, .func (.func 79) #[] #[pA b1])], [(b1, aO #[.map (some bm)] 77)]⟩) (acc := []) (by kernel_rfl) (by kernel_rfl) trivial ?_
  refine run_end (fn := f46) rfl (Nat.le_refl _) (by kernel_rfl) [] [.func (.func 79) #[] #[pA b1]] (e := []) (by kernel_rfl) trivial (fun w1 k1 h1 => ?_)
  exact ⟨(), b1, trivial, hb1, rfl, k1.keeps (fun _ h => h), h1 (b1, _) (List.mem_of_getElem? (i := 0) rfl)⟩

set_option maxRecDepth 100000 in
theorem values_give (s : List ((Int × Int) × Gp)) (b bm : Nat) : Gives Try.prog 76 #[.pointer (some ⟨b, 0, none⟩)] [] (MapPin s b bm) (PrePerm ((entF s).toList.map valV)) (FinPerm ((entF s).toList.map valV)) := by
  intro l J Jx E0 w hE0 hst hJw hown hdis hpin hy
  obtain ⟨hb, hm, hnd, hmnd⟩ := hpin
  have hmlt : bm < w.heap.size := (Array.getElem?_eq_some_iff.1 hm).1
  refine calls_runE (fn := f76) (c := (f76.body).getD .skip) [.func (.yield l) #[] #[], .pointer (some ⟨b, 0, none⟩)] func76 (by kernel_rfl) E0 hE0 hJw 15 (by kernel_rfl) (by simp) ?_
  refine run_auto [] 2 [] [] [0, 1] [] (st' := ⟨[(0, .func (.yield l) #[] #[]), (1, .pointer (some ⟨b, 0, none⟩))], []⟩) (acc := []) (by kernel_rfl) (by kernel_rfl) trivial ?_
  refine run_v (Instr.loadAt 77 (.pointer (some ⟨b, 0, none⟩)) >>= fun v => pure (Next.value v)) (some 5) (.map (some bm)) (by kernel_rfl) (fun w1 k1 h1 => load_in (base := 0) (off := 0) k1 hnd [.map (some bm)] (fun i u hi => by rw [Nat.zero_add]; exact cells_of_heap hb i u hi) (by kernel_rfl)) ?_
  refine run_rangeMap (some 6) 77 79 70 bm (entF s) s.length (by kernel_rfl) (by kernel_rfl) (fun w1 k1 h1 => (k1.block bm hmlt hmnd).trans hm) (fun b1 hb1 => ?_)
  refine run_auto [] 2 [] [] [0, 6] [0] (st' := ⟨[(0, .func (.yield l) #[] #[]), (6, .pointer (some ⟨b1, 0, none⟩))], [(b1, .mapIter (some bm) s.length #[] s.length)]⟩) (acc := []) (by kernel_rfl) (by kernel_rfl) trivial ?_
  refine run_auto [] 0 [] [] [0, 6] [0] (st' := ⟨[(0, .func (.yield l) #[] #[]), (6, .pointer (some ⟨b1, 0, none⟩))], [(b1, .mapIter (some bm) s.length #[] s.length)]⟩) (acc := []) (by kernel_rfl) (by kernel_rfl) trivial ?_
  refine run_loopE (σ := List MapEntry × Ext) (S := fun (x : List MapEntry × Ext) => ⟨[(0, .func (.yield l) #[] #[]), (6, .pointer (some ⟨b1, 0, none⟩))], [(b1, .mapIter (some bm) s.length (bornsL x.1) s.length)]⟩) (fun (x : List MapEntry × Ext) => x.2) (fun (x : List MapEntry × Ext) => MapIn (entF s) x.1 ∧ J (x.1.map valV) x.2 ∧ x.2.n0 = E0.n0 ∧ (∀ b, b < w.heap.size → x.2.D b → E0.D b)) (fun (x : List MapEntry × Ext) => (leftOf (entF s) (bornsL x.1)).size) (([], E0)) (by kernel_rfl) (⟨MapIn.start _, hst, rfl, fun _ _ h => h⟩) (by kernel_rfl) rfl (fun x hI0 J0 hJ0 => ?_)
  obtain ⟨L, Ea⟩ := x
  obtain ⟨hI1, hI2, hI3, hI4⟩ := hI0
  dsimp only at hI1 hI2 hI3 hI4 hJ0
  refine run_auto [] 2 [] [] [0, 6] [0] (st' := ⟨[(0, .func (.yield l) #[] #[]), (6, .pointer (some ⟨b1, 0, none⟩))], [(b1, .mapIter (some bm) s.length (bornsL L) s.length)]⟩) (acc := []) (by kernel_rfl) (by kernel_rfl) trivial ?_
  refine run_nextMap (some 7) 0 b1 bm s.length s.length (bornsL L) (entF s) s.length 0 (by kernel_rfl) (by kernel_rfl) (fun w1 k1 h1 => (k1.block bm hmlt hmnd).trans hm) (entF_born s) (Nat.le_refl _) (fun hno => ?_) (fun e he => ?_)
  · skip
    refine run_auto [] 5 [false] [] [] [] (st' := ⟨[], []⟩) (acc := [(.bool false, .bool false)]) (by kernel_rfl) (by kernel_rfl) ⟨rfl, trivial⟩ ?_
    refine run_endE (fn := f76) rfl (Nat.le_refl _) (by kernel_rfl) [] [] (e := []) (by kernel_rfl) trivial (fun w1 k1 h1 hE1 => ?_)
    exact ⟨rfl, Ea, hI3, hE1, .inl ⟨L.map valV, List.Perm.map valV (hI1.done hno), hI2⟩⟩
  · skip
    obtain ⟨k, hk, hek, hev, _⟩ := entF_mem (MapIn.mem he)
    rw [hek, hev]
    refine run_auto [] 8 [true] [] [0, 6] [0] (st' := ⟨[(0, .func (.yield l) #[] #[]), (6, .pointer (some ⟨b1, 0, none⟩))], [(b1, .mapIter (some bm) s.length ((bornsL L).push e.born) s.length)]⟩) (acc := [(.bool true, .bool true)]) (by kernel_rfl) (by kernel_rfl) ⟨rfl, trivial⟩ ?_
    refine run_v (Instr.entry (.pointer (some ⟨b1, 0, none⟩)) >>= fun v => pure (Next.value v)) (some 9) (.tuple #[.agg #[.int .i64 k.1.1, .int .i64 k.1.2], .agg (gc k.2).toArray]) (by kernel_rfl) (fun w1 k1 h1 => entry_run (e := e) (h1 (b1, .mapIter (some bm) s.length ((bornsL L).push e.born) s.length) (List.mem_of_getElem? (i := 0) (by kernel_rfl))) ((k1.block bm hmlt hmnd).trans hm) (MapIn.mem he) (entF_nodup s) hek hev) ?_
    refine run_auto [] 1 [] [] [0, 6, 10] [0] (st' := ⟨[(0, .func (.yield l) #[] #[]), (6, .pointer (some ⟨b1, 0, none⟩)), (10, .agg (gc k.2).toArray)], [(b1, .mapIter (some bm) s.length ((bornsL L).push e.born) s.length)]⟩) (acc := []) (by kernel_rfl) (by kernel_rfl) trivial ?_
    refine run_new (.cells #[.int .i64 0, .int .i64 0, .int .i64 0, .int .i64 0, .int .i64 0, .int .i64 0, .int .i64 0, .int .i64 0, .int .i64 0, .int .i64 0, .int .i64 0, .int .i64 0, .int .i64 0, .int .i64 0, .int .i64 0, .int .i64 0, .int .i64 0, .int .i64 0, .int .i64 0, .int .i64 0, .int .i64 0, .int .i64 0, .int .i64 0, .int .i64 0, .int .i64 0, .int .i64 0, .int .i64 0, .int .i64 0, .int .i64 0, .int .i64 0, .int .i64 0, .int .i64 0, .int .i64 0, .int .i64 0, .int .i64 0, .int .i64 0] 70 (0, 0)) (fun b2 => .pointer (some ⟨b2, 0, none⟩)) (some 4) (fun _ => by kernel_rfl) (fun b2 hb2 => ?_)
    refine run_auto [] 6 [] [0, 0] [0, 6, 11, 12] [1] (st' := ⟨[(0, .func (.yield l) #[] #[]), (6, .pointer (some ⟨b1, 0, none⟩)), (11, .func (.yield l) #[] #[]), (12, .agg (gc k.2).toArray)], [(b1, .mapIter (some bm) s.length ((bornsL L).push e.born) s.length)]⟩) (acc := [(.pointer (some ⟨b2, 0, none⟩), .pointer (some ⟨b2, 0, none⟩)), (.pointer (some ⟨b2, 0, none⟩), .pointer (some ⟨b2, 0, none⟩))]) (by kernel_rfl) (by kernel_rfl) ⟨rfl, rfl, trivial⟩ ?_
    have hpre : PrePerm ((entF s).toList.map valV) (L.map valV ++ [valV e]) := pre_perm valV (entF_nodup s) hI1 he
    refine run_yield l #[.agg (gc k.2).toArray] (some 13) (by kernel_rfl) hI4 (Yt (J (L.map valV ++ [valV e])) Jx) (fun w1 hJ1 k1 => by have h := Ygives.out (Ygives.of (E := Ea) (hy _ (valV e) Ea w1 hpre hI2 hI3 hJ1) hI3); rw [show (valV e).toArray = #[.agg (gc k.2).toArray] from (by unfold valV; rw [hev])] at h; exact h) (fun E3 t hok hn3 hs3 => ?_)
    have hs4 : ∀ b, b < w.heap.size → E3.D b → E0.D b := fun b hb h => (hs3 b h).elim (hI4 b hb) (fun h => absurd hb (Nat.not_lt.2 h))
    cases hd1 : t with
    | false =>
      rw [hd1] at hok
      dsimp only [Yt] at hok
      refine run_auto [(14, .bool true)] 3 [true] [] [0, 6] [0] (st' := ⟨[(0, .func (.yield l) #[] #[]), (6, .pointer (some ⟨b1, 0, none⟩))], [(b1, .mapIter (some bm) s.length ((bornsL L).push e.born) s.length)]⟩) (acc := [(.bool true, .bool true), (.bool true, .bool true)]) (by kernel_rfl) (by kernel_rfl) ⟨rfl, rfl, trivial⟩ ?_
      refine run_endE (fn := f76) rfl (Nat.le_refl _) (by kernel_rfl) [] [] (e := []) (by kernel_rfl) trivial (fun w1 k1 h1 hE1 => ?_)
      exact ⟨rfl, E3, hn3.trans hI3, hE1, .inr hok⟩
    | true =>
      rw [hd1] at hok
      dsimp only [Yt] at hok
      refine run_auto [(14, .bool false)] 5 [false] [] [0, 6] [0] (st' := ⟨[(0, .func (.yield l) #[] #[]), (6, .pointer (some ⟨b1, 0, none⟩))], [(b1, .mapIter (some bm) s.length ((bornsL L).push e.born) s.length)]⟩) (acc := [(.bool false, .bool false), (.bool false, .bool false)]) (by kernel_rfl) (by kernel_rfl) ⟨rfl, rfl, trivial⟩ ?_
      rw [bornsL_push]
      exact run_round (by kernel_rfl) (hJ0 ((L ++ [e], E3)) (⟨hI1.next (entF_nodup s) he, by rw [List.map_append]; exact hok, hn3.trans hI3, hs4⟩) (MapIn.less he))
set_option maxRecDepth 100000 in
theorem keys_give (s : List ((Int × Int) × Gp)) (b bm : Nat) : Gives Try.prog 79 #[.pointer (some ⟨b, 0, none⟩)] [] (MapPin s b bm) (PrePerm ((entF s).toList.map keyV)) (FinPerm ((entF s).toList.map keyV)) := by
  intro l J Jx E0 w hE0 hst hJw hown hdis hpin hy
  obtain ⟨hb, hm, hnd, hmnd⟩ := hpin
  have hmlt : bm < w.heap.size := (Array.getElem?_eq_some_iff.1 hm).1
  refine calls_runE (fn := f79) (c := (f79.body).getD .skip) [.func (.yield l) #[] #[], .pointer (some ⟨b, 0, none⟩)] func79 (by kernel_rfl) E0 hE0 hJw 14 (by kernel_rfl) (by simp) ?_
  refine run_auto [] 2 [] [] [0, 1] [] (st' := ⟨[(0, .func (.yield l) #[] #[]), (1, .pointer (some ⟨b, 0, none⟩))], []⟩) (acc := []) (by kernel_rfl) (by kernel_rfl) trivial ?_
  refine run_v (Instr.loadAt 77 (.pointer (some ⟨b, 0, none⟩)) >>= fun v => pure (Next.value v)) (some 4) (.map (some bm)) (by kernel_rfl) (fun w1 k1 h1 => load_in (base := 0) (off := 0) k1 hnd [.map (some bm)] (fun i u hi => by rw [Nat.zero_add]; exact cells_of_heap hb i u hi) (by kernel_rfl)) ?_
  refine run_rangeMap (some 5) 77 79 70 bm (entF s) s.length (by kernel_rfl) (by kernel_rfl) (fun w1 k1 h1 => (k1.block bm hmlt hmnd).trans hm) (fun b1 hb1 => ?_)
  refine run_auto [] 2 [] [] [0, 5] [0] (st' := ⟨[(0, .func (.yield l) #[] #[]), (5, .pointer (some ⟨b1, 0, none⟩))], [(b1, .mapIter (some bm) s.length #[] s.length)]⟩) (acc := []) (by kernel_rfl) (by kernel_rfl) trivial ?_
  refine run_auto [] 0 [] [] [0, 5] [0] (st' := ⟨[(0, .func (.yield l) #[] #[]), (5, .pointer (some ⟨b1, 0, none⟩))], [(b1, .mapIter (some bm) s.length #[] s.length)]⟩) (acc := []) (by kernel_rfl) (by kernel_rfl) trivial ?_
  refine run_loopE (σ := List MapEntry × Ext) (S := fun (x : List MapEntry × Ext) => ⟨[(0, .func (.yield l) #[] #[]), (5, .pointer (some ⟨b1, 0, none⟩))], [(b1, .mapIter (some bm) s.length (bornsL x.1) s.length)]⟩) (fun (x : List MapEntry × Ext) => x.2) (fun (x : List MapEntry × Ext) => MapIn (entF s) x.1 ∧ J (x.1.map keyV) x.2 ∧ x.2.n0 = E0.n0 ∧ (∀ b, b < w.heap.size → x.2.D b → E0.D b)) (fun (x : List MapEntry × Ext) => (leftOf (entF s) (bornsL x.1)).size) (([], E0)) (by kernel_rfl) (⟨MapIn.start _, hst, rfl, fun _ _ h => h⟩) (by kernel_rfl) rfl (fun x hI0 J0 hJ0 => ?_)
  obtain ⟨L, Ea⟩ := x
  obtain ⟨hI1, hI2, hI3, hI4⟩ := hI0
  dsimp only at hI1 hI2 hI3 hI4 hJ0
  refine run_auto [] 2 [] [] [0, 5] [0] (st' := ⟨[(0, .func (.yield l) #[] #[]), (5, .pointer (some ⟨b1, 0, none⟩))], [(b1, .mapIter (some bm) s.length (bornsL L) s.length)]⟩) (acc := []) (by kernel_rfl) (by kernel_rfl) trivial ?_
  refine run_nextMap (some 6) 0 b1 bm s.length s.length (bornsL L) (entF s) s.length 0 (by kernel_rfl) (by kernel_rfl) (fun w1 k1 h1 => (k1.block bm hmlt hmnd).trans hm) (entF_born s) (Nat.le_refl _) (fun hno => ?_) (fun e he => ?_)
  · skip
    refine run_auto [] 5 [false] [] [] [] (st' := ⟨[], []⟩) (acc := [(.bool false, .bool false)]) (by kernel_rfl) (by kernel_rfl) ⟨rfl, trivial⟩ ?_
    refine run_endE (fn := f79) rfl (Nat.le_refl _) (by kernel_rfl) [] [] (e := []) (by kernel_rfl) trivial (fun w1 k1 h1 hE1 => ?_)
    exact ⟨rfl, Ea, hI3, hE1, .inl ⟨L.map keyV, List.Perm.map keyV (hI1.done hno), hI2⟩⟩
  · skip
    obtain ⟨k, hk, hek, hev, _⟩ := entF_mem (MapIn.mem he)
    rw [hek, hev]
    refine run_auto [] 8 [true] [] [0, 5] [0] (st' := ⟨[(0, .func (.yield l) #[] #[]), (5, .pointer (some ⟨b1, 0, none⟩))], [(b1, .mapIter (some bm) s.length ((bornsL L).push e.born) s.length)]⟩) (acc := [(.bool true, .bool true)]) (by kernel_rfl) (by kernel_rfl) ⟨rfl, trivial⟩ ?_
    refine run_v (Instr.entry (.pointer (some ⟨b1, 0, none⟩)) >>= fun v => pure (Next.value v)) (some 8) (.tuple #[.agg #[.int .i64 k.1.1, .int .i64 k.1.2], .agg (gc k.2).toArray]) (by kernel_rfl) (fun w1 k1 h1 => entry_run (e := e) (h1 (b1, .mapIter (some bm) s.length ((bornsL L).push e.born) s.length) (List.mem_of_getElem? (i := 0) (by kernel_rfl))) ((k1.block bm hmlt hmnd).trans hm) (MapIn.mem he) (entF_nodup s) hek hev) ?_
    refine run_auto [] 1 [] [] [0, 5, 9] [0] (st' := ⟨[(0, .func (.yield l) #[] #[]), (5, .pointer (some ⟨b1, 0, none⟩)), (9, .agg #[.int .i64 k.1.1, .int .i64 k.1.2])], [(b1, .mapIter (some bm) s.length ((bornsL L).push e.born) s.length)]⟩) (acc := []) (by kernel_rfl) (by kernel_rfl) trivial ?_
    refine run_new (.cells #[.int .i64 0, .int .i64 0] 79 (0, 0)) (fun b2 => .pointer (some ⟨b2, 0, none⟩)) (some 3) (fun _ => by kernel_rfl) (fun b2 hb2 => ?_)
    refine run_auto [] 6 [] [0, 0] [0, 5, 10, 11] [1] (st' := ⟨[(0, .func (.yield l) #[] #[]), (5, .pointer (some ⟨b1, 0, none⟩)), (10, .func (.yield l) #[] #[]), (11, .agg #[.int .i64 k.1.1, .int .i64 k.1.2])], [(b1, .mapIter (some bm) s.length ((bornsL L).push e.born) s.length)]⟩) (acc := [(.pointer (some ⟨b2, 0, none⟩), .pointer (some ⟨b2, 0, none⟩)), (.pointer (some ⟨b2, 0, none⟩), .pointer (some ⟨b2, 0, none⟩))]) (by kernel_rfl) (by kernel_rfl) ⟨rfl, rfl, trivial⟩ ?_
    have hpre : PrePerm ((entF s).toList.map keyV) (L.map keyV ++ [keyV e]) := pre_perm keyV (entF_nodup s) hI1 he
    refine run_yield l #[.agg #[.int .i64 k.1.1, .int .i64 k.1.2]] (some 12) (by kernel_rfl) hI4 (Yt (J (L.map keyV ++ [keyV e])) Jx) (fun w1 hJ1 k1 => by have h := Ygives.out (Ygives.of (E := Ea) (hy _ (keyV e) Ea w1 hpre hI2 hI3 hJ1) hI3); rw [show (keyV e).toArray = #[.agg #[.int .i64 k.1.1, .int .i64 k.1.2]] from (by unfold keyV; rw [hek])] at h; exact h) (fun E3 t hok hn3 hs3 => ?_)
    have hs4 : ∀ b, b < w.heap.size → E3.D b → E0.D b := fun b hb h => (hs3 b h).elim (hI4 b hb) (fun h => absurd hb (Nat.not_lt.2 h))
    cases hd1 : t with
    | false =>
      rw [hd1] at hok
      dsimp only [Yt] at hok
      refine run_auto [(13, .bool true)] 3 [true] [] [0, 5] [0] (st' := ⟨[(0, .func (.yield l) #[] #[]), (5, .pointer (some ⟨b1, 0, none⟩))], [(b1, .mapIter (some bm) s.length ((bornsL L).push e.born) s.length)]⟩) (acc := [(.bool true, .bool true), (.bool true, .bool true)]) (by kernel_rfl) (by kernel_rfl) ⟨rfl, rfl, trivial⟩ ?_
      refine run_endE (fn := f79) rfl (Nat.le_refl _) (by kernel_rfl) [] [] (e := []) (by kernel_rfl) trivial (fun w1 k1 h1 hE1 => ?_)
      exact ⟨rfl, E3, hn3.trans hI3, hE1, .inr hok⟩
    | true =>
      rw [hd1] at hok
      dsimp only [Yt] at hok
      refine run_auto [(13, .bool false)] 5 [false] [] [0, 5] [0] (st' := ⟨[(0, .func (.yield l) #[] #[]), (5, .pointer (some ⟨b1, 0, none⟩))], [(b1, .mapIter (some bm) s.length ((bornsL L).push e.born) s.length)]⟩) (acc := [(.bool false, .bool false), (.bool false, .bool false)]) (by kernel_rfl) (by kernel_rfl) ⟨rfl, rfl, trivial⟩ ?_
      rw [bornsL_push]
      exact run_round (by kernel_rfl) (hJ0 ((L ++ [e], E3)) (⟨hI1.next (entF_nodup s) he, by rw [List.map_append]; exact hok, hn3.trans hI3, hs4⟩) (MapIn.less he))
end Go.Proofs.Ythnhcacoegmdfaa

namespace Go.Proofs.Ythnhcacoegmdfaa
open Go.RowKit Go.Proofs.Try


/-- What gaps tell of two. -/
def tellV (a b : Nat) (x : List Value) : Int × Int := match x with
  | [.agg c] => (-(intV (c.getD (b * 6 + a) undef)), intV (c.getD (a * 6 + b) undef))
  | _ => (0, 0)
def gV (k : (Int × Int) × Gp) : List Value := [.agg (gc k.2).toArray]
theorem tellV_is {a b : Nat} (ha : a < 6) (hb : b < 6) (k : (Int × Int) × Gp) : tellV a b (gV k) = (-(k.2 b a), k.2 a b) := by
  unfold tellV gV
  have h1 := gc_at k.2 ha hb
  have h2 := gc_at k.2 hb ha
  simp only [Array.getD_eq_getD_getElem?, List.getElem?_toArray, h1, h2]
  rfl
/-- What a comparator tells at a minute. -/
def tellM (m : Int) (x : List Value) : Int × Int := match x with
  | [.agg c] => (shw (intV (c.getD 0 undef), intV (c.getD 1 undef)) m, shw (intV (c.getD 0 undef), intV (c.getD 1 undef)) m)
  | _ => (0, 0)
def cV (k : (Int × Int) × Gp) : List Value := [.agg #[.int .i64 k.1.1, .int .i64 k.1.2]]
theorem tellM_is (m : Int) (k : (Int × Int) × Gp) : tellM m (cV k) = (shw k.1 m, shw k.1 m) := rfl
theorem entF_list : ∀ (s : List ((Int × Int) × Gp)) (es : Array MapEntry), (s.foldl entK es).toList.map valV = es.toList.map valV ++ s.map gV ∧ (s.foldl entK es).toList.map keyV = es.toList.map keyV ++ s.map cV
  | [], es => by simp
  | k :: s, es => by
    obtain ⟨h1, h2⟩ := entF_list s (entK es k)
    rw [List.foldl_cons, h1, h2]
    unfold entK
    simp [valV, gV, keyV, cV]
theorem vals_are (s : List ((Int × Int) × Gp)) : (entF s).toList.map valV = s.map gV := by
  have := (entF_list s #[]).1
  simpa [entF] using this
theorem keys_are (s : List ((Int × Int) × Gp)) : (entF s).toList.map keyV = s.map cV := by
  have := (entF_list s #[]).2
  simpa [entF] using this
theorem hull_next (f : List Value → Int × Int) (l : List (List Value)) (x : List Value) : hullS hull0 ((l ++ [x]).map f) = (min (hullS hull0 (l.map f)).1 (f x).1, max (hullS hull0 (l.map f)).2 (f x).2) := by
  unfold hullS
  rw [List.map_append, List.foldl_append]
  rfl
theorem pre_in {s : List ((Int × Int) × Gp)} {V : MapEntry → List Value} {G : ((Int × Int) × Gp) → List Value} (h : (entF s).toList.map V = s.map G) {pre : List (List Value)} {x : List Value} (hp : PrePerm ((entF s).toList.map V) (pre ++ [x])) : ∃ k ∈ s, x = G k := by
  obtain ⟨r, hr⟩ := hp
  rw [h] at hr
  have := hr.mem_iff.1 (show x ∈ pre ++ [x] ++ r by simp)
  obtain ⟨k, hk, e⟩ := List.mem_map.1 this
  exact ⟨k, hk, e.symm⟩
theorem hull_end {s : List ((Int × Int) × Gp)} {V : MapEntry → List Value} {G : ((Int × Int) × Gp) → List Value} (h : (entF s).toList.map V = s.map G) {ys : List (List Value)} (hy : FinPerm ((entF s).toList.map V) ys) (f : List Value → Int × Int) : hullS hull0 (ys.map f) = hullS hull0 (s.map fun k => f (G k)) := by
  unfold FinPerm at hy
  rw [h] at hy
  rw [hullS_perm (List.Perm.map f hy), List.map_map]
  rfl
/-- Gaps that keep to limits. -/
def Mild (s : List ((Int × Int) × Gp)) : Prop := ∀ k ∈ s, (∀ i j, i < 6 → j < 6 → -1000 ≤ k.2 i j ∧ k.2 i j ≤ 1000) ∧ (-10 ≤ k.1.1 ∧ k.1.1 ≤ 10) ∧ -5 ≤ k.1.2 ∧ k.1.2 ≤ 5

theorem hull_gaps {a b : Nat} (ha : a < 6) (hb : b < 6) (kn : List ((Int × Int) × Gp)) : hullS hull0 (kn.map fun k => tellV a b (gV k)) = hullS hull0 (kn.map fun k => (-k.2 b a, k.2 a b)) := by
  congr 1
  exact List.map_congr_left fun k _ => tellV_is ha hb k
set_option maxRecDepth 100000 in
theorem reach_gaps (kn : List ((Int × Int) × Gp)) (bq bm a b : Nat) (w : World) (hS : Mild kn) (hq : w.heap[bq]? = some (.cells #[.map (some bm)] 77 (0, 0))) (hmp : w.heap[bm]? = some (.map (entF kn) kn.length)) (ha : a < 6) (hb : b < 6) : Calls Try.prog 38 #[.func (.func 76) #[] #[.pointer (some ⟨bq, 0, none⟩)], .agg #[.func (.func 41) #[] #[], .int .i64 (a : Int), .int .i64 (b : Int)]] w (Ret (.agg #[.int .i64 (hullS hull0 (kn.map fun k => (-k.2 b a, k.2 a b))).1, .int .i64 (hullS hull0 (kn.map fun k => (-k.2 b a, k.2 a b))).2]) w) := by
  refine calls_run (fn := f38) (c := (f38.body).getD .skip) [.func (.func 76) #[] #[.pointer (some ⟨bq, 0, none⟩)], .agg #[.func (.func 41) #[] #[], .int .i64 (a : Int), .int .i64 (b : Int)]] func38 (by kernel_rfl) (fun _ => False) [] (fun _ h => by cases h) (List.Pairwise.nil) 29 (by kernel_rfl) (by simp) ?_
  refine run_auto [] 2 [] [] [0, 1] [] (st' := ⟨[(0, .func (.func 76) #[] #[pA bq]), (1, .agg #[.func (.func 41) #[] #[], iV (a : Int), iV (b : Int)])], []⟩) (acc := []) (by kernel_rfl) (by kernel_rfl) trivial ?_
  refine run_new (aO #[.func (.func 41) #[] #[], iV (a : Int), iV (b : Int)] 84) (fun b1 => pA b1) (some 3) (fun _ => by kernel_rfl) (fun b1 hb1 => ?_)
  refine run_new (aO #[iV 0, iV 0] 23) (fun b2 => pA b2) (some 4) (fun _ => by kernel_rfl) (fun b2 hb2 => ?_)
  refine run_auto [] 4 [] [] [0, 3, 4, 8] [0, 1] (st' := ⟨[(0, .func (.func 76) #[] #[pA bq]), (3, pA b1), (4, pA b2), (8, .agg #[iV 9223372036854775807, iV (-9223372036854775808)])], [(b2, aO #[iV 0, iV 0] 23), (b1, aO #[.func (.func 41) #[] #[], iV (a : Int), iV (b : Int)] 84)]⟩) (acc := []) (by kernel_rfl) (by kernel_rfl) trivial ?_
  refine run_new (aO #[iV 0, iV 0] 23) (fun b3 => pA b3) (some 5) (fun _ => by kernel_rfl) (fun b3 hb3 => ?_)
  refine run_auto [] 8 [] [0] [3, 4, 5, 9] [0, 1, 2] (st' := ⟨[(3, pA b1), (4, pA b2), (5, pA b3), (9, .func (.func 76) #[] #[pA bq])], [(b3, aO #[iV 9223372036854775807, iV (-9223372036854775808)] 23), (b2, aO #[iV 0, iV 0] 23), (b1, aO #[.func (.func 41) #[] #[], iV (a : Int), iV (b : Int)] 84)]⟩) (acc := [(pA b3, pA b3)]) (by kernel_rfl) (by kernel_rfl) ⟨rfl, trivial⟩ ?_
  refine run_auto [] 0 [] [] [3, 4, 5, 9] [0, 1, 2] (st' := ⟨[(3, pA b1), (4, pA b2), (5, pA b3), (9, .func (.func 76) #[] #[pA bq])], [(b3, aO #[iV 9223372036854775807, iV (-9223372036854775808)] 23), (b2, aO #[iV 0, iV 0] 23), (b1, aO #[.func (.func 41) #[] #[], iV (a : Int), iV (b : Int)] 84)]⟩) (acc := []) (by kernel_rfl) (by kernel_rfl) trivial ?_
  refine run_range (σ := List (List Value)) (τ := Unit) 76 #[pA bq] [10] [] [(b3, aO #[iV 9223372036854775807, iV (-9223372036854775808)] 23), (b2, aO #[iV 0, iV 0] 23), (b1, aO #[.func (.func 41) #[] #[], iV (a : Int), iV (b : Int)] 84)] (MapPin kn bq bm) (PrePerm ((entF kn).toList.map valV)) (FinPerm ((entF kn).toList.map valV)) (by kernel_rfl) rfl rfl (fun l => by kernel_rfl) rfl (by kernel_rfl) (fun pre x hx => by obtain ⟨k, _, rfl⟩ := pre_in (vals_are kn) hx; rfl) (values_give kn bq bm) (fun D w1 k1 hD => ⟨(k1.block bq (Array.getElem?_eq_some_iff.1 hq).1 (fun h => h)).trans hq, (k1.block bm (Array.getElem?_eq_some_iff.1 hmp).1 (fun h => h)).trans hmp, fun h => hD _ (Array.getElem?_eq_some_iff.1 hq).1 h, fun h => hD _ (Array.getElem?_eq_some_iff.1 hmp).1 h⟩)
    (fun s => [(b3, aO #[iV ((hullS hull0 (s.map (tellV a b))).1), iV ((hullS hull0 (s.map (tellV a b))).2)] 23), (b2, aO #[iV 0, iV 0] 23), (b1, aO #[.func (.func 41) #[] #[], iV (a : Int), iV (b : Int)] 84)]) (fun s => Ext.none) (fun pre s => s = pre) (fun y => []) (fun y => Ext.none) (fun c y => False) ([]) (rfl) rfl rfl (fun _ _ _ => ⟨rfl, fun _ _ h => h.elim⟩) (fun _ _ _ => rfl)
    (fun pre x s hpre hI l0 ms ro ob w0 Jb Jn Je hkk hll hbeg hnext hexit => ?_) (fun ys s hys hI => ?_) (fun c y hI => ?_)
  · skip
    obtain rfl : pre = s := hI.symm
    obtain ⟨k, hk, rfl⟩ := pre_in (vals_are kn) hpre
    have hm := hS k hk
    refine run_auto [] 1 [] [] [3, 4, 5, 10] [0, 1, 2] (st' := ⟨[(3, pA b1), (4, pA b2), (5, pA b3), (10, .agg (gc k.2).toArray)], [(b3, aO #[iV ((hullS hull0 (pre.map (tellV a b))).1), iV ((hullS hull0 (pre.map (tellV a b))).2)] 23), (b2, aO #[iV 0, iV 0] 23), (b1, aO #[.func (.func 41) #[] #[], iV (a : Int), iV (b : Int)] 84)]⟩) (acc := []) (by kernel_rfl) (by kernel_rfl) trivial ?_
    refine run_new (aO #[iV 0, iV 0, iV 0, iV 0, iV 0, iV 0, iV 0, iV 0, iV 0, iV 0, iV 0, iV 0, iV 0, iV 0, iV 0, iV 0, iV 0, iV 0, iV 0, iV 0, iV 0, iV 0, iV 0, iV 0, iV 0, iV 0, iV 0, iV 0, iV 0, iV 0, iV 0, iV 0, iV 0, iV 0, iV 0, iV 0] 70) (fun b4 => pA b4) (some 6) (fun _ => by kernel_rfl) (fun b4 hb4 => ?_)
    refine run_auto [] 2 [] [0] [3, 4, 5, 6] [0, 1, 2, 3] (st' := ⟨[(3, pA b1), (4, pA b2), (5, pA b3), (6, pA b4)], [(b4, cO (gc k.2) 70), (b3, aO #[iV ((hullS hull0 (pre.map (tellV a b))).1), iV ((hullS hull0 (pre.map (tellV a b))).2)] 23), (b2, aO #[iV 0, iV 0] 23), (b1, aO #[.func (.func 41) #[] #[], iV (a : Int), iV (b : Int)] 84)]⟩) (acc := [(pA b4, pA b4)]) (by kernel_rfl) (by kernel_rfl) ⟨rfl, trivial⟩ ?_
    refine run_round rfl (hbeg _ ?_)
    refine run_auto [] 8 [] [3, 0, 3] [4, 5, 12, 13, 15] [1, 2, 3] (st' := ⟨[(4, pA b2), (5, pA b3), (12, .func (.func 41) #[] #[]), (13, .agg (gc k.2).toArray), (15, .agg #[iV (a : Int), iV (b : Int)])], [(b3, aO #[iV ((hullS hull0 (pre.map (tellV a b))).1), iV ((hullS hull0 (pre.map (tellV a b))).2)] 23), (b2, aO #[iV 0, iV 0] 23), (b1, aO #[.func (.func 41) #[] #[], iV (a : Int), iV (b : Int)] 84)]⟩) (acc := [(pA b1, pA b1), (pA b4, pA b4), (pA b1, pA b1)]) (by kernel_rfl) (by kernel_rfl) ⟨rfl, rfl, rfl, trivial⟩ ?_
    refine run_ret1 41 #[.agg (gc k.2).toArray, .agg #[iV (a : Int), iV (b : Int)]] (some 16) (.agg #[iV (-(k.2 b a)), iV (k.2 a b)]) (by kernel_rfl) (fun w1 k1 h1 => differ_any (k.2) a b ha hb (hm.1 b a hb ha).1 (hm.1 b a hb ha).2 w1) ?_
    refine run_new (aO #[iV 0, iV 0] 23) (fun b5 => pA b5) (some 7) (fun _ => by kernel_rfl) (fun b5 hb5 => ?_)
    refine run_auto [(21, iV (min ((hullS hull0 (pre.map (tellV a b))).1) (-(k.2 b a)))), (26, iV (max ((hullS hull0 (pre.map (tellV a b))).2) (k.2 a b)))] 17 [] [0, 1, 0, 1, 0, 1] [] [1, 2, 3] (st' := ⟨[], [(b3, aO #[iV (min ((hullS hull0 (pre.map (tellV a b))).1) (-(k.2 b a))), iV (max ((hullS hull0 (pre.map (tellV a b))).2) (k.2 a b))] 23), (b2, aO #[iV 0, iV 0] 23), (b1, aO #[.func (.func 41) #[] #[], iV (a : Int), iV (b : Int)] 84)]⟩) (acc := [(pA b3, pA b3), (iV (if (k.2 a b) > ((hullS hull0 (pre.map (tellV a b))).2) then (k.2 a b) else ((hullS hull0 (pre.map (tellV a b))).2)), iV (max ((hullS hull0 (pre.map (tellV a b))).2) (k.2 a b))), (pA b5, pA b5), (pA b3, pA b3), (iV (if (-(k.2 b a)) < ((hullS hull0 (pre.map (tellV a b))).1) then (-(k.2 b a)) else ((hullS hull0 (pre.map (tellV a b))).1)), iV (min ((hullS hull0 (pre.map (tellV a b))).1) (-(k.2 b a)))), (pA b5, pA b5), (pA b3, pA b3), (pA b5, pA b5)]) (by kernel_rfl) (by kernel_rfl) ⟨rfl, (mx _ _ _), rfl, rfl, (mn _ _ _), rfl, rfl, rfl, trivial⟩ ?_
    have hx := hull_next (tellV a b) pre (gV k)
    rw [tellV_is ha hb] at hx
    dsimp only at hx
    exact run_nil rfl (fun a w1 g => hnext (pre ++ [gV k]) _ rfl (fun b h => h.elim) a w1 (by rw [hx]; exact g))
  · skip
    obtain rfl : ys = s := hI.symm
    have hz := hull_end (vals_are kn) hys (tellV a b)
    rw [hull_gaps ha hb kn] at hz
    refine run_auto [] 6 [] [0, 1] [4] [1] (st' := ⟨[(4, pA b2)], [(b2, aO #[iV ((hullS hull0 (ys.map (tellV a b))).1), iV ((hullS hull0 (ys.map (tellV a b))).2)] 23)]⟩) (acc := [(pA b2, pA b2), (pA b3, pA b3)]) (by kernel_rfl) (by kernel_rfl) ⟨rfl, rfl, trivial⟩ ?_
    refine run_end (fn := f38) rfl (Nat.le_refl _) (by kernel_rfl) [0] [.agg #[iV ((hullS hull0 (ys.map (tellV a b))).1), iV ((hullS hull0 (ys.map (tellV a b))).2)]] (e := [(pA b2, pA b2)]) (by kernel_rfl) ⟨rfl, trivial⟩ (fun w1 k1 h1 => ?_)
    exact ⟨by rw [hz]; rfl, k1.keeps (fun _ h => h)⟩
  · skip
    exact hI.elim

set_option maxRecDepth 100000 in
theorem reach_comp (kn : List ((Int × Int) × Gp)) (bq bm : Nat) (m : Int) (m1 : 0 ≤ m) (m2 : m ≤ 60) (w : World) (hS : Mild kn) (hq : w.heap[bq]? = some (.cells #[.map (some bm)] 77 (0, 0))) (hmp : w.heap[bm]? = some (.map (entF kn) kn.length)) : Calls Try.prog 45 #[.func (.func 79) #[] #[.pointer (some ⟨bq, 0, none⟩)], .agg #[.func (.func 47) #[] #[], .int .i64 m]] w (Ret (.agg #[.int .i64 (hullS hull0 (kn.map fun k => (shw k.1 m, shw k.1 m))).1, .int .i64 (hullS hull0 (kn.map fun k => (shw k.1 m, shw k.1 m))).2]) w) := by
  refine calls_run (fn := f45) (c := (f45.body).getD .skip) [.func (.func 79) #[] #[.pointer (some ⟨bq, 0, none⟩)], .agg #[.func (.func 47) #[] #[], .int .i64 m]] func45 (by kernel_rfl) (fun _ => False) [] (fun _ h => by cases h) (List.Pairwise.nil) 29 (by kernel_rfl) (by simp) ?_
  refine run_auto [] 2 [] [] [0, 1] [] (st' := ⟨[(0, .func (.func 79) #[] #[pA bq]), (1, .agg #[.func (.func 47) #[] #[], iV m])], []⟩) (acc := []) (by kernel_rfl) (by kernel_rfl) trivial ?_
  refine run_new (aO #[.func (.func 47) #[] #[], iV m] 94) (fun b1 => pA b1) (some 3) (fun _ => by kernel_rfl) (fun b1 hb1 => ?_)
  refine run_new (aO #[iV 0, iV 0] 23) (fun b2 => pA b2) (some 4) (fun _ => by kernel_rfl) (fun b2 hb2 => ?_)
  refine run_auto [] 4 [] [] [0, 3, 4, 8] [0, 1] (st' := ⟨[(0, .func (.func 79) #[] #[pA bq]), (3, pA b1), (4, pA b2), (8, .agg #[iV 9223372036854775807, iV (-9223372036854775808)])], [(b2, aO #[iV 0, iV 0] 23), (b1, aO #[.func (.func 47) #[] #[], iV m] 94)]⟩) (acc := []) (by kernel_rfl) (by kernel_rfl) trivial ?_
  refine run_new (aO #[iV 0, iV 0] 23) (fun b3 => pA b3) (some 5) (fun _ => by kernel_rfl) (fun b3 hb3 => ?_)
  refine run_auto [] 8 [] [0] [3, 4, 5, 9] [0, 1, 2] (st' := ⟨[(3, pA b1), (4, pA b2), (5, pA b3), (9, .func (.func 79) #[] #[pA bq])], [(b3, aO #[iV 9223372036854775807, iV (-9223372036854775808)] 23), (b2, aO #[iV 0, iV 0] 23), (b1, aO #[.func (.func 47) #[] #[], iV m] 94)]⟩) (acc := [(pA b3, pA b3)]) (by kernel_rfl) (by kernel_rfl) ⟨rfl, trivial⟩ ?_
  refine run_auto [] 0 [] [] [3, 4, 5, 9] [0, 1, 2] (st' := ⟨[(3, pA b1), (4, pA b2), (5, pA b3), (9, .func (.func 79) #[] #[pA bq])], [(b3, aO #[iV 9223372036854775807, iV (-9223372036854775808)] 23), (b2, aO #[iV 0, iV 0] 23), (b1, aO #[.func (.func 47) #[] #[], iV m] 94)]⟩) (acc := []) (by kernel_rfl) (by kernel_rfl) trivial ?_
  refine run_range (σ := List (List Value)) (τ := Unit) 79 #[pA bq] [10] [] [(b3, aO #[iV 9223372036854775807, iV (-9223372036854775808)] 23), (b2, aO #[iV 0, iV 0] 23), (b1, aO #[.func (.func 47) #[] #[], iV m] 94)] (MapPin kn bq bm) (PrePerm ((entF kn).toList.map keyV)) (FinPerm ((entF kn).toList.map keyV)) (by kernel_rfl) rfl rfl (fun l => by kernel_rfl) rfl (by kernel_rfl) (fun pre x hx => by obtain ⟨k, _, rfl⟩ := pre_in (keys_are kn) hx; rfl) (keys_give kn bq bm) (fun D w1 k1 hD => ⟨(k1.block bq (Array.getElem?_eq_some_iff.1 hq).1 (fun h => h)).trans hq, (k1.block bm (Array.getElem?_eq_some_iff.1 hmp).1 (fun h => h)).trans hmp, fun h => hD _ (Array.getElem?_eq_some_iff.1 hq).1 h, fun h => hD _ (Array.getElem?_eq_some_iff.1 hmp).1 h⟩)
    (fun s => [(b3, aO #[iV ((hullS hull0 (s.map (tellM m))).1), iV ((hullS hull0 (s.map (tellM m))).2)] 23), (b2, aO #[iV 0, iV 0] 23), (b1, aO #[.func (.func 47) #[] #[], iV m] 94)]) (fun s => Ext.none) (fun pre s => s = pre) (fun y => []) (fun y => Ext.none) (fun c y => False) ([]) (rfl) rfl rfl (fun _ _ _ => ⟨rfl, fun _ _ h => h.elim⟩) (fun _ _ _ => rfl)
    (fun pre x s hpre hI l0 ms ro ob w0 Jb Jn Je hkk hll hbeg hnext hexit => ?_) (fun ys s hys hI => ?_) (fun c y hI => ?_)
  · skip
    obtain rfl : pre = s := hI.symm
    obtain ⟨k, hk, rfl⟩ := pre_in (keys_are kn) hpre
    have hm := hS k hk
    have hm2 := hm.2
    refine run_auto [] 1 [] [] [3, 4, 5, 10] [0, 1, 2] (st' := ⟨[(3, pA b1), (4, pA b2), (5, pA b3), (10, .agg #[iV k.1.1, iV k.1.2])], [(b3, aO #[iV ((hullS hull0 (pre.map (tellM m))).1), iV ((hullS hull0 (pre.map (tellM m))).2)] 23), (b2, aO #[iV 0, iV 0] 23), (b1, aO #[.func (.func 47) #[] #[], iV m] 94)]⟩) (acc := []) (by kernel_rfl) (by kernel_rfl) trivial ?_
    refine run_new (aO #[iV 0, iV 0] 79) (fun b4 => pA b4) (some 6) (fun _ => by kernel_rfl) (fun b4 hb4 => ?_)
    refine run_auto [] 2 [] [0] [3, 4, 5, 6] [0, 1, 2, 3] (st' := ⟨[(3, pA b1), (4, pA b2), (5, pA b3), (6, pA b4)], [(b4, aO #[iV k.1.1, iV k.1.2] 79), (b3, aO #[iV ((hullS hull0 (pre.map (tellM m))).1), iV ((hullS hull0 (pre.map (tellM m))).2)] 23), (b2, aO #[iV 0, iV 0] 23), (b1, aO #[.func (.func 47) #[] #[], iV m] 94)]⟩) (acc := [(pA b4, pA b4)]) (by kernel_rfl) (by kernel_rfl) ⟨rfl, trivial⟩ ?_
    refine run_round rfl (hbeg _ ?_)
    refine run_auto [] 8 [] [3, 0, 3] [4, 5, 12, 13, 15] [1, 2, 3] (st' := ⟨[(4, pA b2), (5, pA b3), (12, .func (.func 47) #[] #[]), (13, .agg #[iV k.1.1, iV k.1.2]), (15, iV m)], [(b3, aO #[iV ((hullS hull0 (pre.map (tellM m))).1), iV ((hullS hull0 (pre.map (tellM m))).2)] 23), (b2, aO #[iV 0, iV 0] 23), (b1, aO #[.func (.func 47) #[] #[], iV m] 94)]⟩) (acc := [(pA b1, pA b1), (pA b4, pA b4), (pA b1, pA b1)]) (by kernel_rfl) (by kernel_rfl) ⟨rfl, rfl, rfl, trivial⟩ ?_
    refine run_ret1 47 #[.agg #[iV k.1.1, iV k.1.2], iV m] (some 16) (.agg #[iV (shw (k.1.1, k.1.2) m), iV (shw (k.1.1, k.1.2) m)]) (by kernel_rfl) (fun w1 k1 h1 => tells_any k.1.1 k.1.2 m (by omega) (by omega) (by omega) (by omega) (by omega) (by omega) w1) ?_
    refine run_new (aO #[iV 0, iV 0] 23) (fun b5 => pA b5) (some 7) (fun _ => by kernel_rfl) (fun b5 hb5 => ?_)
    refine run_auto [(21, iV (min ((hullS hull0 (pre.map (tellM m))).1) (shw (k.1.1, k.1.2) m))), (26, iV (max ((hullS hull0 (pre.map (tellM m))).2) (shw (k.1.1, k.1.2) m)))] 17 [] [0, 1, 0, 1, 0, 1] [] [1, 2, 3] (st' := ⟨[], [(b3, aO #[iV (min ((hullS hull0 (pre.map (tellM m))).1) (shw (k.1.1, k.1.2) m)), iV (max ((hullS hull0 (pre.map (tellM m))).2) (shw (k.1.1, k.1.2) m))] 23), (b2, aO #[iV 0, iV 0] 23), (b1, aO #[.func (.func 47) #[] #[], iV m] 94)]⟩) (acc := [(pA b3, pA b3), (iV (if (shw (k.1.1, k.1.2) m) > ((hullS hull0 (pre.map (tellM m))).2) then (shw (k.1.1, k.1.2) m) else ((hullS hull0 (pre.map (tellM m))).2)), iV (max ((hullS hull0 (pre.map (tellM m))).2) (shw (k.1.1, k.1.2) m))), (pA b5, pA b5), (pA b3, pA b3), (iV (if (shw (k.1.1, k.1.2) m) < ((hullS hull0 (pre.map (tellM m))).1) then (shw (k.1.1, k.1.2) m) else ((hullS hull0 (pre.map (tellM m))).1)), iV (min ((hullS hull0 (pre.map (tellM m))).1) (shw (k.1.1, k.1.2) m))), (pA b5, pA b5), (pA b3, pA b3), (pA b5, pA b5)]) (by kernel_rfl) (by kernel_rfl) ⟨rfl, (mx _ _ _), rfl, rfl, (mn _ _ _), rfl, rfl, rfl, trivial⟩ ?_
    have hx := hull_next (tellM m) pre (cV k)
    rw [tellM_is] at hx
    dsimp only at hx
    exact run_nil rfl (fun a w1 g => hnext (pre ++ [cV k]) _ rfl (fun b h => h.elim) a w1 (by rw [hx]; exact g))
  · skip
    obtain rfl : ys = s := hI.symm
    have hz := hull_end (keys_are kn) hys (tellM m)
    rw [show (kn.map fun k => tellM m (cV k)) = kn.map fun k => (shw k.1 m, shw k.1 m) from rfl] at hz
    refine run_auto [] 6 [] [0, 1] [4] [1] (st' := ⟨[(4, pA b2)], [(b2, aO #[iV ((hullS hull0 (ys.map (tellM m))).1), iV ((hullS hull0 (ys.map (tellM m))).2)] 23)]⟩) (acc := [(pA b2, pA b2), (pA b3, pA b3)]) (by kernel_rfl) (by kernel_rfl) ⟨rfl, rfl, trivial⟩ ?_
    refine run_end (fn := f45) rfl (Nat.le_refl _) (by kernel_rfl) [0] [.agg #[iV ((hullS hull0 (ys.map (tellM m))).1), iV ((hullS hull0 (ys.map (tellM m))).2)]] (e := [(pA b2, pA b2)]) (by kernel_rfl) ⟨rfl, trivial⟩ (fun w1 k1 h1 => ?_)
    exact ⟨by rw [hz]; rfl, k1.keeps (fun _ h => h)⟩
  · skip
    exact hI.elim

end Go.Proofs.Ythnhcacoegmdfaa

namespace Go.Proofs.Ythnhcacoegmdfaa
open Go.RowKit Go.Proofs.Try

theorem run_errno (k : Int) (w : World) : (Instr.typeAssert (.iface 24 (.int .i64 k)) 20 24 true).run Try.prog w = .ok (.tuple #[.int .i64 k, .bool true]) w := by kernel_rfl
set_option maxHeartbeats 400000 in
theorem errorOf_any (k : Int) (w : World) : Calls Try.prog 70 #[.iface 24 (.int .i64 k)] w fun e w' => e = .returned (.int .i64 k) ∧ w = w' := by
  have h := run_errno k
  go_enter Try.func70, Try.ntmps70
  go_wp2
  go_ret
  exact ⟨rfl, rfl⟩

theorem catch_pan_int (p : Addr) (k : Int) (older : List PanicEntry) (w : World) (hc : w.cell? p = some (.int .i64 0)) (hz : w.frozen? p = false) :
    CallsD Try.prog 81 #[.pointer (some p)] (.panicking ({ v := .iface 24 (.int .i64 k), recovered := false } :: older)) w fun e u' w' =>
      e = .returned (.tuple #[]) ∧ u' = .panicking ({ v := .iface 24 (.int .i64 k), recovered := true } :: older) ∧ w' = w.setCell p (.int .i64 k) := by
  refine callsD_of_wpS Try.func81 rfl fun c₀ cs hu => ?_
  apply wpS_seq
  apply wpS_region
  simp [wpOpsS, go_sem, recoverD, hu, Try.ntmps81, Exit.thenS]
  refine wpS_of_wp ?_
  go_wp2_with (go_at_call 70; refine (errorOf_any k _).mono ?_; rintro e w' ⟨rfl, rfl⟩)
  simp [bodyPostS, results, Try.results81]
theorem catch_idle_int (p : Addr) (w : World) :
    CallsD Try.prog 81 #[.pointer (some p)] .returning w fun e u' w' => e = .returned (.tuple #[]) ∧ u' = .returning ∧ w = w' := by
  refine callsD_of_wpS Try.func81 rfl fun c₀ cs hu => ?_
  apply wpS_seq
  apply wpS_region
  simp [wpOpsS, go_sem, recoverD, hu, Try.ntmps81, Exit.thenS]
  refine wpS_of_wp ?_
  go_wp2_with fail
  cases c₀
  simp_all [bodyPostS, results, Try.results81]
set_option maxHeartbeats 400000 in
theorem answer_ok_int (K : Nat) (caps : Array Value) (w : World) (R : Value → World → Prop) (hcf : ∀ w, (callFunc K caps).run Try.prog w = .ok (.enter K caps) w)
    (hR : ∀ v wa u, R v wa → R v (wa.setCell ⟨w.heap.size, 0, none⟩ u))
    (h : Calls Try.prog K caps (w.alloc (.cells #[.int .i64 0] 24)) (fun e w' => ∃ v, e = .returned v ∧ R v w' ∧ Keeps (w.alloc (.cells #[.int .i64 0] 24)) w')) :
    Calls Try.prog 48 #[.func (.func K) #[] caps] w (fun e w' => ∃ v, e = .returned (.tuple #[v, .int .i64 0]) ∧ R v w' ∧ Keeps w w') := by
  have hmf : ∀ (fn : Fn) (first cap : Array Value) (w : World), (Instr.makeFunc fn first cap).run Try.prog w = .ok (.func fn first cap) w := fun _ _ _ _ => rfl
  have HR := Lib.hid hR
  clear hR
  go_enter_defers Try.func48, Try.ntmps48
  go_wp2_with fail
  refine h.mono ?_
  rintro e w1 ⟨v, rfl, hR1, hk⟩
  have hc1 := hk.cells
  have hz1 : w.heap.size < w1.heap.size := by have := hk.size; simp at this; omega
  go_wp2_with fail
  refine leaves_cons (f := 81) (args := #[.pointer (some ⟨w.heap.size, 0, none⟩)]) (by simp) (by simp [go_sem]) ?_
  refine (catch_idle_int ⟨w.heap.size, 0, none⟩ _).mono ?_
  rintro e u' w'' ⟨rfl, rfl, rfl⟩
  refine ⟨.tuple #[v, .int .i64 0], ?_, v, rfl, HR.out _ _ _ hR1, (((Keeps.refl _).alloc _).trans hk).setCell _ (Nat.le_refl _)⟩
  have hc2 : (w1.setCell ⟨w.heap.size, 0, none⟩ (.int .i64 0)).cell? ⟨w.heap.size, 0, none⟩ = some (.int .i64 0) := World.cell?_setCell_same' _ _ _ (by rw [hc1.1 _ _ (by simp)]; simp)
  simp [results, Try.results48, go_sem, hc2]
set_option maxHeartbeats 400000 in
theorem answer_pan_int (K : Nat) (caps : Array Value) (w : World) (k : Int) (hcf : ∀ w, (callFunc K caps).run Try.prog w = .ok (.enter K caps) w)
    (h : Calls Try.prog K caps (w.alloc (.cells #[.int .i64 0] 24)) (Pan k (w.alloc (.cells #[.int .i64 0] 24)))) :
    Calls Try.prog 48 #[.func (.func K) #[] caps] w (Ret (.tuple #[.int .i64 0, .int .i64 k]) w) := by
  have hmf : ∀ (fn : Fn) (first cap : Array Value) (w : World), (Instr.makeFunc fn first cap).run Try.prog w = .ok (.func fn first cap) w := fun _ _ _ _ => rfl
  go_enter_defers Try.func48, Try.ntmps48
  go_wp2_with fail
  refine h.mono ?_
  rintro e w1 ⟨rfl, hk⟩
  have hc1 := hk.cells
  have hz1 : w.heap.size < w1.heap.size := by have := hk.size; simp at this; omega
  refine leaves_cons (f := 81) (args := #[.pointer (some ⟨w.heap.size, 0, none⟩)]) (by simp) (by simp [go_sem]) ?_
  refine (catch_pan_int ⟨w.heap.size, 0, none⟩ k [] _ ?_ ?_).mono ?_
  · rw [hc1.1 _ _ (by simp)]; simp [go_sem]
  · rw [hc1.2 _ _ (by simp)]; simp [go_sem]
  rintro e u' w'' ⟨rfl, rfl, rfl⟩
  refine ⟨.tuple #[.int .i64 0, .int .i64 k], ?_, rfl, (((Keeps.refl _).alloc _).trans hk).setCell _ (Nat.le_refl _)⟩
  have hc2 : (w1.setCell ⟨w.heap.size, 0, none⟩ (.int .i64 k)).cell? ⟨w.heap.size, 0, none⟩ = some (.int .i64 k) := World.cell?_setCell_same' _ _ _ (by rw [hc1.1 _ _ (by simp)]; simp [go_sem])
  simp [results, Try.results48, go_sem, hc2]
theorem catch_pan_span (p : Addr) (k : Int) (older : List PanicEntry) (w : World) (hc : w.cell? p = some (.int .i64 0)) (hz : w.frozen? p = false) :
    CallsD Try.prog 69 #[.pointer (some p)] (.panicking ({ v := .iface 24 (.int .i64 k), recovered := false } :: older)) w fun e u' w' =>
      e = .returned (.tuple #[]) ∧ u' = .panicking ({ v := .iface 24 (.int .i64 k), recovered := true } :: older) ∧ w' = w.setCell p (.int .i64 k) := by
  refine callsD_of_wpS Try.func69 rfl fun c₀ cs hu => ?_
  apply wpS_seq
  apply wpS_region
  simp [wpOpsS, go_sem, recoverD, hu, Try.ntmps69, Exit.thenS]
  refine wpS_of_wp ?_
  go_wp2_with (go_at_call 70; refine (errorOf_any k _).mono ?_; rintro e w' ⟨rfl, rfl⟩)
  simp [bodyPostS, results, Try.results69]
theorem catch_idle_span (p : Addr) (w : World) :
    CallsD Try.prog 69 #[.pointer (some p)] .returning w fun e u' w' => e = .returned (.tuple #[]) ∧ u' = .returning ∧ w = w' := by
  refine callsD_of_wpS Try.func69 rfl fun c₀ cs hu => ?_
  apply wpS_seq
  apply wpS_region
  simp [wpOpsS, go_sem, recoverD, hu, Try.ntmps69, Exit.thenS]
  refine wpS_of_wp ?_
  go_wp2_with fail
  cases c₀
  simp_all [bodyPostS, results, Try.results69]
set_option maxHeartbeats 400000 in
theorem answer_ok_span (K : Nat) (caps : Array Value) (w : World) (x y : Int) (hcf : ∀ w, (callFunc K caps).run Try.prog w = .ok (.enter K caps) w)
    (h : Calls Try.prog K caps ((w.alloc (.cells #[.int .i64 0, .int .i64 0] 23)).alloc (.cells #[.int .i64 0] 24)) (Ret (.agg #[.int .i64 x, .int .i64 y]) ((w.alloc (.cells #[.int .i64 0, .int .i64 0] 23)).alloc (.cells #[.int .i64 0] 24)))) :
    Calls Try.prog 34 #[.func (.func K) #[] caps] w (Ret (.tuple #[.agg #[.int .i64 x, .int .i64 y], .int .i64 0]) w) := by
  have hmf : ∀ (fn : Fn) (first cap : Array Value) (w : World), (Instr.makeFunc fn first cap).run Try.prog w = .ok (.func fn first cap) w := fun _ _ _ _ => rfl
  go_enter_defers Try.func34, Try.ntmps34
  go_wp2_with fail
  refine h.mono ?_
  rintro e w1 ⟨rfl, hk⟩
  have hc1 := hk.cells
  have hz1 : w.heap.size < w1.heap.size := by have := hk.size; simp at this; omega
  have hz2 : w.heap.size + 1 < w1.heap.size := by have := hk.size; simp at this; omega
  go_wp2_with fail
  refine leaves_cons (f := 69) (args := #[.pointer (some ⟨w.heap.size + 1, 0, none⟩)]) (by simp) (by simp [go_sem]) ?_
  refine (catch_idle_span ⟨w.heap.size + 1, 0, none⟩ _).mono ?_
  rintro e u' w'' ⟨rfl, rfl, rfl⟩
  refine ⟨.tuple #[.agg #[.int .i64 x, .int .i64 y], .int .i64 0], ?_, rfl, ((((((Keeps.refl _).alloc _).alloc _).trans hk).setCell _ (Nat.le_refl _)).setCell _ (Nat.le_refl _)).setCell _ (Nat.le_succ _)⟩
  have s0 : (w1.cell? ⟨w.heap.size, 0, none⟩).isSome = true := by rw [hc1.1 _ _ (by simp; omega)]; simp [go_sem]
  have s1 : (w1.cell? ⟨w.heap.size, 1, none⟩).isSome = true := by rw [hc1.1 _ _ (by simp; omega)]; simp [go_sem]
  have s2 : (w1.cell? ⟨w.heap.size + 1, 0, none⟩).isSome = true := by rw [hc1.1 _ _ (by simp)]; simp [go_sem]
  have q0 : (((w1.setCell ⟨w.heap.size, 0, none⟩ (.int .i64 x)).setCell ⟨w.heap.size, 1, none⟩ (.int .i64 y)).setCell ⟨w.heap.size + 1, 0, none⟩ (.int .i64 0)).cell? ⟨w.heap.size, 0, none⟩ = some (.int .i64 x) := by
    exact (cell_set_other (by omega)).trans ((cell_set_other (by omega)).trans (cell_set_same s0))
  have q1 : (((w1.setCell ⟨w.heap.size, 0, none⟩ (.int .i64 x)).setCell ⟨w.heap.size, 1, none⟩ (.int .i64 y)).setCell ⟨w.heap.size + 1, 0, none⟩ (.int .i64 0)).cell? ⟨w.heap.size, 1, none⟩ = some (.int .i64 y) := by
    exact (cell_set_other (by omega)).trans (cell_set_same (by rw [cell_set_other (by omega)]; exact s1))
  have q2 : (((w1.setCell ⟨w.heap.size, 0, none⟩ (.int .i64 x)).setCell ⟨w.heap.size, 1, none⟩ (.int .i64 y)).setCell ⟨w.heap.size + 1, 0, none⟩ (.int .i64 0)).cell? ⟨w.heap.size + 1, 0, none⟩ = some (.int .i64 0) := by
    exact cell_set_same (by rw [cell_set_other (by omega), cell_set_other (by omega)]; exact s2)
  simp [results, Try.results34, go_sem, q0, q1, q2]
set_option maxHeartbeats 400000 in
theorem answer_pan_span (K : Nat) (caps : Array Value) (w : World) (k : Int) (hcf : ∀ w, (callFunc K caps).run Try.prog w = .ok (.enter K caps) w)
    (h : Calls Try.prog K caps ((w.alloc (.cells #[.int .i64 0, .int .i64 0] 23)).alloc (.cells #[.int .i64 0] 24)) (Pan k ((w.alloc (.cells #[.int .i64 0, .int .i64 0] 23)).alloc (.cells #[.int .i64 0] 24)))) :
    Calls Try.prog 34 #[.func (.func K) #[] caps] w (Ret (.tuple #[.agg #[.int .i64 0, .int .i64 0], .int .i64 k]) w) := by
  have hmf : ∀ (fn : Fn) (first cap : Array Value) (w : World), (Instr.makeFunc fn first cap).run Try.prog w = .ok (.func fn first cap) w := fun _ _ _ _ => rfl
  go_enter_defers Try.func34, Try.ntmps34
  go_wp2_with fail
  refine h.mono ?_
  rintro e w1 ⟨rfl, hk⟩
  have hc1 := hk.cells
  have hz1 : w.heap.size < w1.heap.size := by have := hk.size; simp at this; omega
  refine leaves_cons (f := 69) (args := #[.pointer (some ⟨w.heap.size + 1, 0, none⟩)]) (by simp) (by simp [go_sem]) ?_
  refine (catch_pan_span ⟨w.heap.size + 1, 0, none⟩ k [] _ ?_ ?_).mono ?_
  · rw [hc1.1 _ _ (by simp)]; simp [go_sem]
  · rw [hc1.2 _ _ (by simp)]; simp [go_sem]
  rintro e u' w'' ⟨rfl, rfl, rfl⟩
  refine ⟨.tuple #[.agg #[.int .i64 0, .int .i64 0], .int .i64 k], ?_, rfl, ((((Keeps.refl _).alloc _).alloc _).trans hk).setCell _ (Nat.le_succ _)⟩
  have hc2 : (w1.setCell ⟨w.heap.size + 1, 0, none⟩ (.int .i64 k)).cell? ⟨w.heap.size + 1, 0, none⟩ = some (.int .i64 k) := World.cell?_setCell_same' _ _ _ (by rw [hc1.1 _ _ (by simp)]; simp [go_sem])
  have q0 : (w1.setCell ⟨w.heap.size + 1, 0, none⟩ (.int .i64 k)).cell? ⟨w.heap.size, 0, none⟩ = some (.int .i64 0) := by
    rw [cell_set_other (by omega), hc1.1 _ _ (by simp; omega)]; simp [go_sem]
  have q1 : (w1.setCell ⟨w.heap.size + 1, 0, none⟩ (.int .i64 k)).cell? ⟨w.heap.size, 1, none⟩ = some (.int .i64 0) := by
    rw [cell_set_other (by omega), hc1.1 _ _ (by simp; omega)]; simp [go_sem]
  simp [results, Try.results34, go_sem, hc2, q0, q1]
theorem catch_pan_set (p : Addr) (k : Int) (older : List PanicEntry) (w : World) (hc : w.cell? p = some (.int .i64 0)) (hz : w.frozen? p = false) :
    CallsD Try.prog 84 #[.pointer (some p)] (.panicking ({ v := .iface 24 (.int .i64 k), recovered := false } :: older)) w fun e u' w' =>
      e = .returned (.tuple #[]) ∧ u' = .panicking ({ v := .iface 24 (.int .i64 k), recovered := true } :: older) ∧ w' = w.setCell p (.int .i64 k) := by
  refine callsD_of_wpS Try.func84 rfl fun c₀ cs hu => ?_
  apply wpS_seq
  apply wpS_region
  simp [wpOpsS, go_sem, recoverD, hu, Try.ntmps84, Exit.thenS]
  refine wpS_of_wp ?_
  go_wp2_with (go_at_call 70; refine (errorOf_any k _).mono ?_; rintro e w' ⟨rfl, rfl⟩)
  simp [bodyPostS, results, Try.results84]
theorem catch_idle_set (p : Addr) (w : World) :
    CallsD Try.prog 84 #[.pointer (some p)] .returning w fun e u' w' => e = .returned (.tuple #[]) ∧ u' = .returning ∧ w = w' := by
  refine callsD_of_wpS Try.func84 rfl fun c₀ cs hu => ?_
  apply wpS_seq
  apply wpS_region
  simp [wpOpsS, go_sem, recoverD, hu, Try.ntmps84, Exit.thenS]
  refine wpS_of_wp ?_
  go_wp2_with fail
  cases c₀
  simp_all [bodyPostS, results, Try.results84]
set_option maxHeartbeats 400000 in
theorem answer_ok_set (K : Nat) (caps : Array Value) (w : World) (R : Value → World → Prop) (hcf : ∀ w, (callFunc K caps).run Try.prog w = .ok (.enter K caps) w)
    (hR : ∀ v wa u, R v wa → R v (wa.setCell ⟨w.heap.size, 0, none⟩ u))
    (h : Calls Try.prog K caps (w.alloc (.cells #[.int .i64 0] 24)) (fun e w' => ∃ v, e = .returned v ∧ R v w' ∧ Keeps (w.alloc (.cells #[.int .i64 0] 24)) w')) :
    Calls Try.prog 51 #[.func (.func K) #[] caps] w (fun e w' => ∃ v, e = .returned (.tuple #[v, .int .i64 0]) ∧ R v w' ∧ Keeps w w') := by
  have hmf : ∀ (fn : Fn) (first cap : Array Value) (w : World), (Instr.makeFunc fn first cap).run Try.prog w = .ok (.func fn first cap) w := fun _ _ _ _ => rfl
  have HR := Lib.hid hR
  clear hR
  go_enter_defers Try.func51, Try.ntmps51
  go_wp2_with fail
  refine h.mono ?_
  rintro e w1 ⟨v, rfl, hR1, hk⟩
  have hc1 := hk.cells
  have hz1 : w.heap.size < w1.heap.size := by have := hk.size; simp at this; omega
  go_wp2_with fail
  refine leaves_cons (f := 84) (args := #[.pointer (some ⟨w.heap.size, 0, none⟩)]) (by simp) (by simp [go_sem]) ?_
  refine (catch_idle_set ⟨w.heap.size, 0, none⟩ _).mono ?_
  rintro e u' w'' ⟨rfl, rfl, rfl⟩
  refine ⟨.tuple #[v, .int .i64 0], ?_, v, rfl, HR.out _ _ _ hR1, (((Keeps.refl _).alloc _).trans hk).setCell _ (Nat.le_refl _)⟩
  have hc2 : (w1.setCell ⟨w.heap.size, 0, none⟩ (.int .i64 0)).cell? ⟨w.heap.size, 0, none⟩ = some (.int .i64 0) := World.cell?_setCell_same' _ _ _ (by rw [hc1.1 _ _ (by simp)]; simp)
  simp [results, Try.results51, go_sem, hc2]
set_option maxHeartbeats 400000 in
theorem answer_pan_set (K : Nat) (caps : Array Value) (w : World) (k : Int) (hcf : ∀ w, (callFunc K caps).run Try.prog w = .ok (.enter K caps) w)
    (h : Calls Try.prog K caps (w.alloc (.cells #[.int .i64 0] 24)) (Pan k (w.alloc (.cells #[.int .i64 0] 24)))) :
    Calls Try.prog 51 #[.func (.func K) #[] caps] w (Ret (.tuple #[.int .i64 0, .int .i64 k]) w) := by
  have hmf : ∀ (fn : Fn) (first cap : Array Value) (w : World), (Instr.makeFunc fn first cap).run Try.prog w = .ok (.func fn first cap) w := fun _ _ _ _ => rfl
  go_enter_defers Try.func51, Try.ntmps51
  go_wp2_with fail
  refine h.mono ?_
  rintro e w1 ⟨rfl, hk⟩
  have hc1 := hk.cells
  have hz1 : w.heap.size < w1.heap.size := by have := hk.size; simp at this; omega
  refine leaves_cons (f := 84) (args := #[.pointer (some ⟨w.heap.size, 0, none⟩)]) (by simp) (by simp [go_sem]) ?_
  refine (catch_pan_set ⟨w.heap.size, 0, none⟩ k [] _ ?_ ?_).mono ?_
  · rw [hc1.1 _ _ (by simp)]; simp [go_sem]
  · rw [hc1.2 _ _ (by simp)]; simp [go_sem]
  rintro e u' w'' ⟨rfl, rfl, rfl⟩
  refine ⟨.tuple #[.int .i64 0, .int .i64 k], ?_, rfl, (((Keeps.refl _).alloc _).trans hk).setCell _ (Nat.le_refl _)⟩
  have hc2 : (w1.setCell ⟨w.heap.size, 0, none⟩ (.int .i64 k)).cell? ⟨w.heap.size, 0, none⟩ = some (.int .i64 k) := World.cell?_setCell_same' _ _ _ (by rw [hc1.1 _ _ (by simp)]; simp [go_sem])
  simp [results, Try.results51, go_sem, hc2]
theorem catch_pan_longest (p : Addr) (k : Int) (older : List PanicEntry) (w : World) (hc : w.cell? p = some (.int .i64 0)) (hz : w.frozen? p = false) :
    CallsD Try.prog 92 #[.pointer (some p)] (.panicking ({ v := .iface 24 (.int .i64 k), recovered := false } :: older)) w fun e u' w' =>
      e = .returned (.tuple #[]) ∧ u' = .panicking ({ v := .iface 24 (.int .i64 k), recovered := true } :: older) ∧ w' = w.setCell p (.int .i64 k) := by
  refine callsD_of_wpS Try.func92 rfl fun c₀ cs hu => ?_
  apply wpS_seq
  apply wpS_region
  simp [wpOpsS, go_sem, recoverD, hu, Try.ntmps92, Exit.thenS]
  refine wpS_of_wp ?_
  go_wp2_with (go_at_call 70; refine (errorOf_any k _).mono ?_; rintro e w' ⟨rfl, rfl⟩)
  simp [bodyPostS, results, Try.results92]
theorem catch_idle_longest (p : Addr) (w : World) :
    CallsD Try.prog 92 #[.pointer (some p)] .returning w fun e u' w' => e = .returned (.tuple #[]) ∧ u' = .returning ∧ w = w' := by
  refine callsD_of_wpS Try.func92 rfl fun c₀ cs hu => ?_
  apply wpS_seq
  apply wpS_region
  simp [wpOpsS, go_sem, recoverD, hu, Try.ntmps92, Exit.thenS]
  refine wpS_of_wp ?_
  go_wp2_with fail
  cases c₀
  simp_all [bodyPostS, results, Try.results92]
set_option maxHeartbeats 400000 in
theorem answer_ok_longest (K : Nat) (caps : Array Value) (w : World) (x y : Int) (hcf : ∀ w, (callFunc K caps).run Try.prog w = .ok (.enter K caps) w)
    (h : Calls Try.prog K caps ((w.alloc (.cells #[.int .i64 0, .int .i64 0] 106)).alloc (.cells #[.int .i64 0] 24)) (Ret (.agg #[.int .i64 x, .int .i64 y]) ((w.alloc (.cells #[.int .i64 0, .int .i64 0] 106)).alloc (.cells #[.int .i64 0] 24)))) :
    Calls Try.prog 59 #[.func (.func K) #[] caps] w (Ret (.tuple #[.agg #[.int .i64 x, .int .i64 y], .int .i64 0]) w) := by
  have hmf : ∀ (fn : Fn) (first cap : Array Value) (w : World), (Instr.makeFunc fn first cap).run Try.prog w = .ok (.func fn first cap) w := fun _ _ _ _ => rfl
  go_enter_defers Try.func59, Try.ntmps59
  go_wp2_with fail
  refine h.mono ?_
  rintro e w1 ⟨rfl, hk⟩
  have hc1 := hk.cells
  have hz1 : w.heap.size < w1.heap.size := by have := hk.size; simp at this; omega
  have hz2 : w.heap.size + 1 < w1.heap.size := by have := hk.size; simp at this; omega
  go_wp2_with fail
  refine leaves_cons (f := 92) (args := #[.pointer (some ⟨w.heap.size + 1, 0, none⟩)]) (by simp) (by simp [go_sem]) ?_
  refine (catch_idle_longest ⟨w.heap.size + 1, 0, none⟩ _).mono ?_
  rintro e u' w'' ⟨rfl, rfl, rfl⟩
  refine ⟨.tuple #[.agg #[.int .i64 x, .int .i64 y], .int .i64 0], ?_, rfl, ((((((Keeps.refl _).alloc _).alloc _).trans hk).setCell _ (Nat.le_refl _)).setCell _ (Nat.le_refl _)).setCell _ (Nat.le_succ _)⟩
  have s0 : (w1.cell? ⟨w.heap.size, 0, none⟩).isSome = true := by rw [hc1.1 _ _ (by simp; omega)]; simp [go_sem]
  have s1 : (w1.cell? ⟨w.heap.size, 1, none⟩).isSome = true := by rw [hc1.1 _ _ (by simp; omega)]; simp [go_sem]
  have s2 : (w1.cell? ⟨w.heap.size + 1, 0, none⟩).isSome = true := by rw [hc1.1 _ _ (by simp)]; simp [go_sem]
  have q0 : (((w1.setCell ⟨w.heap.size, 0, none⟩ (.int .i64 x)).setCell ⟨w.heap.size, 1, none⟩ (.int .i64 y)).setCell ⟨w.heap.size + 1, 0, none⟩ (.int .i64 0)).cell? ⟨w.heap.size, 0, none⟩ = some (.int .i64 x) := by
    exact (cell_set_other (by omega)).trans ((cell_set_other (by omega)).trans (cell_set_same s0))
  have q1 : (((w1.setCell ⟨w.heap.size, 0, none⟩ (.int .i64 x)).setCell ⟨w.heap.size, 1, none⟩ (.int .i64 y)).setCell ⟨w.heap.size + 1, 0, none⟩ (.int .i64 0)).cell? ⟨w.heap.size, 1, none⟩ = some (.int .i64 y) := by
    exact (cell_set_other (by omega)).trans (cell_set_same (by rw [cell_set_other (by omega)]; exact s1))
  have q2 : (((w1.setCell ⟨w.heap.size, 0, none⟩ (.int .i64 x)).setCell ⟨w.heap.size, 1, none⟩ (.int .i64 y)).setCell ⟨w.heap.size + 1, 0, none⟩ (.int .i64 0)).cell? ⟨w.heap.size + 1, 0, none⟩ = some (.int .i64 0) := by
    exact cell_set_same (by rw [cell_set_other (by omega), cell_set_other (by omega)]; exact s2)
  simp [results, Try.results59, go_sem, q0, q1, q2]
set_option maxHeartbeats 400000 in
theorem answer_pan_longest (K : Nat) (caps : Array Value) (w : World) (k : Int) (hcf : ∀ w, (callFunc K caps).run Try.prog w = .ok (.enter K caps) w)
    (h : Calls Try.prog K caps ((w.alloc (.cells #[.int .i64 0, .int .i64 0] 106)).alloc (.cells #[.int .i64 0] 24)) (Pan k ((w.alloc (.cells #[.int .i64 0, .int .i64 0] 106)).alloc (.cells #[.int .i64 0] 24)))) :
    Calls Try.prog 59 #[.func (.func K) #[] caps] w (Ret (.tuple #[.agg #[.int .i64 0, .int .i64 0], .int .i64 k]) w) := by
  have hmf : ∀ (fn : Fn) (first cap : Array Value) (w : World), (Instr.makeFunc fn first cap).run Try.prog w = .ok (.func fn first cap) w := fun _ _ _ _ => rfl
  go_enter_defers Try.func59, Try.ntmps59
  go_wp2_with fail
  refine h.mono ?_
  rintro e w1 ⟨rfl, hk⟩
  have hc1 := hk.cells
  have hz1 : w.heap.size < w1.heap.size := by have := hk.size; simp at this; omega
  refine leaves_cons (f := 92) (args := #[.pointer (some ⟨w.heap.size + 1, 0, none⟩)]) (by simp) (by simp [go_sem]) ?_
  refine (catch_pan_longest ⟨w.heap.size + 1, 0, none⟩ k [] _ ?_ ?_).mono ?_
  · rw [hc1.1 _ _ (by simp)]; simp [go_sem]
  · rw [hc1.2 _ _ (by simp)]; simp [go_sem]
  rintro e u' w'' ⟨rfl, rfl, rfl⟩
  refine ⟨.tuple #[.agg #[.int .i64 0, .int .i64 0], .int .i64 k], ?_, rfl, ((((Keeps.refl _).alloc _).alloc _).trans hk).setCell _ (Nat.le_succ _)⟩
  have hc2 : (w1.setCell ⟨w.heap.size + 1, 0, none⟩ (.int .i64 k)).cell? ⟨w.heap.size + 1, 0, none⟩ = some (.int .i64 k) := World.cell?_setCell_same' _ _ _ (by rw [hc1.1 _ _ (by simp)]; simp [go_sem])
  have q0 : (w1.setCell ⟨w.heap.size + 1, 0, none⟩ (.int .i64 k)).cell? ⟨w.heap.size, 0, none⟩ = some (.int .i64 0) := by
    rw [cell_set_other (by omega), hc1.1 _ _ (by simp; omega)]; simp [go_sem]
  have q1 : (w1.setCell ⟨w.heap.size + 1, 0, none⟩ (.int .i64 k)).cell? ⟨w.heap.size, 1, none⟩ = some (.int .i64 0) := by
    rw [cell_set_other (by omega), hc1.1 _ _ (by simp; omega)]; simp [go_sem]
  simp [results, Try.results59, go_sem, hc2, q0, q1]
theorem catch_pan_farthest (p : Addr) (k : Int) (older : List PanicEntry) (w : World) (hc : w.cell? p = some (.int .i64 0)) (hz : w.frozen? p = false) :
    CallsD Try.prog 96 #[.pointer (some p)] (.panicking ({ v := .iface 24 (.int .i64 k), recovered := false } :: older)) w fun e u' w' =>
      e = .returned (.tuple #[]) ∧ u' = .panicking ({ v := .iface 24 (.int .i64 k), recovered := true } :: older) ∧ w' = w.setCell p (.int .i64 k) := by
  refine callsD_of_wpS Try.func96 rfl fun c₀ cs hu => ?_
  apply wpS_seq
  apply wpS_region
  simp [wpOpsS, go_sem, recoverD, hu, Try.ntmps96, Exit.thenS]
  refine wpS_of_wp ?_
  go_wp2_with (go_at_call 70; refine (errorOf_any k _).mono ?_; rintro e w' ⟨rfl, rfl⟩)
  simp [bodyPostS, results, Try.results96]
theorem catch_idle_farthest (p : Addr) (w : World) :
    CallsD Try.prog 96 #[.pointer (some p)] .returning w fun e u' w' => e = .returned (.tuple #[]) ∧ u' = .returning ∧ w = w' := by
  refine callsD_of_wpS Try.func96 rfl fun c₀ cs hu => ?_
  apply wpS_seq
  apply wpS_region
  simp [wpOpsS, go_sem, recoverD, hu, Try.ntmps96, Exit.thenS]
  refine wpS_of_wp ?_
  go_wp2_with fail
  cases c₀
  simp_all [bodyPostS, results, Try.results96]
set_option maxHeartbeats 400000 in
theorem answer_ok_farthest (K : Nat) (caps : Array Value) (w : World) (x0 x1 x2 : Int) (hcf : ∀ w, (callFunc K caps).run Try.prog w = .ok (.enter K caps) w)
    (h : Calls Try.prog K caps ((w.alloc (.cells #[.int .i64 0, .int .i64 0, .int .i64 0] 115)).alloc (.cells #[.int .i64 0] 24)) (Ret (.agg #[.int .i64 x0, .int .i64 x1, .int .i64 x2]) ((w.alloc (.cells #[.int .i64 0, .int .i64 0, .int .i64 0] 115)).alloc (.cells #[.int .i64 0] 24)))) :
    Calls Try.prog 66 #[.func (.func K) #[] caps] w (Ret (.tuple #[.agg #[.int .i64 x0, .int .i64 x1, .int .i64 x2], .int .i64 0]) w) := by
  have hmf : ∀ (fn : Fn) (first cap : Array Value) (w : World), (Instr.makeFunc fn first cap).run Try.prog w = .ok (.func fn first cap) w := fun _ _ _ _ => rfl
  go_enter_defers Try.func66, Try.ntmps66
  go_wp2_with fail
  refine h.mono ?_
  rintro e w1 ⟨rfl, hk⟩
  have hc1 := hk.cells
  have hz1 : w.heap.size < w1.heap.size := by have := hk.size; simp at this; omega
  have hz2 : w.heap.size + 1 < w1.heap.size := by have := hk.size; simp at this; omega
  go_wp2_with fail
  refine leaves_cons (f := 96) (args := #[.pointer (some ⟨w.heap.size + 1, 0, none⟩)]) (by simp) (by simp [go_sem]) ?_
  refine (catch_idle_farthest ⟨w.heap.size + 1, 0, none⟩ _).mono ?_
  rintro e u' w'' ⟨rfl, rfl, rfl⟩
  refine ⟨.tuple #[.agg #[.int .i64 x0, .int .i64 x1, .int .i64 x2], .int .i64 0], ?_, rfl, (((((((Keeps.refl _).alloc _).alloc _).trans hk).setCell _ (Nat.le_refl _)).setCell _ (Nat.le_refl _)).setCell _ (Nat.le_refl _)).setCell _ (Nat.le_succ _)⟩
  have s0 : (w1.cell? ⟨w.heap.size, 0, none⟩).isSome = true := by rw [hc1.1 _ _ (by simp; omega)]; simp [go_sem]
  have s1 : (w1.cell? ⟨w.heap.size, 1, none⟩).isSome = true := by rw [hc1.1 _ _ (by simp; omega)]; simp [go_sem]
  have s2 : (w1.cell? ⟨w.heap.size, 2, none⟩).isSome = true := by rw [hc1.1 _ _ (by simp; omega)]; simp [go_sem]
  have se : (w1.cell? ⟨w.heap.size + 1, 0, none⟩).isSome = true := by rw [hc1.1 _ _ (by simp)]; simp [go_sem]
  have q0 : ((((w1.setCell ⟨w.heap.size, 0, none⟩ (.int .i64 x0)).setCell ⟨w.heap.size, 1, none⟩ (.int .i64 x1)).setCell ⟨w.heap.size, 2, none⟩ (.int .i64 x2)).setCell ⟨w.heap.size + 1, 0, none⟩ (.int .i64 0)).cell? ⟨w.heap.size, 0, none⟩ = some (.int .i64 x0) := (cell_set_other (by omega)).trans ((cell_set_other (by omega)).trans ((cell_set_other (by omega)).trans (cell_set_same (by exact s0))))
  have q1 : ((((w1.setCell ⟨w.heap.size, 0, none⟩ (.int .i64 x0)).setCell ⟨w.heap.size, 1, none⟩ (.int .i64 x1)).setCell ⟨w.heap.size, 2, none⟩ (.int .i64 x2)).setCell ⟨w.heap.size + 1, 0, none⟩ (.int .i64 0)).cell? ⟨w.heap.size, 1, none⟩ = some (.int .i64 x1) := (cell_set_other (by omega)).trans ((cell_set_other (by omega)).trans (cell_set_same (by rw [cell_set_other (by omega)]; exact s1)))
  have q2 : ((((w1.setCell ⟨w.heap.size, 0, none⟩ (.int .i64 x0)).setCell ⟨w.heap.size, 1, none⟩ (.int .i64 x1)).setCell ⟨w.heap.size, 2, none⟩ (.int .i64 x2)).setCell ⟨w.heap.size + 1, 0, none⟩ (.int .i64 0)).cell? ⟨w.heap.size, 2, none⟩ = some (.int .i64 x2) := (cell_set_other (by omega)).trans (cell_set_same (by rw [cell_set_other (by omega)]; rw [cell_set_other (by omega)]; exact s2))
  have qe : ((((w1.setCell ⟨w.heap.size, 0, none⟩ (.int .i64 x0)).setCell ⟨w.heap.size, 1, none⟩ (.int .i64 x1)).setCell ⟨w.heap.size, 2, none⟩ (.int .i64 x2)).setCell ⟨w.heap.size + 1, 0, none⟩ (.int .i64 0)).cell? ⟨w.heap.size + 1, 0, none⟩ = some (.int .i64 0) := cell_set_same (by rw [cell_set_other (by omega)]; rw [cell_set_other (by omega)]; rw [cell_set_other (by omega)]; exact se)
  simp [results, Try.results66, go_sem, q0, q1, q2, qe]
set_option maxHeartbeats 400000 in
theorem answer_pan_farthest (K : Nat) (caps : Array Value) (w : World) (k : Int) (hcf : ∀ w, (callFunc K caps).run Try.prog w = .ok (.enter K caps) w)
    (h : Calls Try.prog K caps ((w.alloc (.cells #[.int .i64 0, .int .i64 0, .int .i64 0] 115)).alloc (.cells #[.int .i64 0] 24)) (Pan k ((w.alloc (.cells #[.int .i64 0, .int .i64 0, .int .i64 0] 115)).alloc (.cells #[.int .i64 0] 24)))) :
    Calls Try.prog 66 #[.func (.func K) #[] caps] w (Ret (.tuple #[.agg #[.int .i64 0, .int .i64 0, .int .i64 0], .int .i64 k]) w) := by
  have hmf : ∀ (fn : Fn) (first cap : Array Value) (w : World), (Instr.makeFunc fn first cap).run Try.prog w = .ok (.func fn first cap) w := fun _ _ _ _ => rfl
  go_enter_defers Try.func66, Try.ntmps66
  go_wp2_with fail
  refine h.mono ?_
  rintro e w1 ⟨rfl, hk⟩
  have hc1 := hk.cells
  have hz1 : w.heap.size < w1.heap.size := by have := hk.size; simp at this; omega
  refine leaves_cons (f := 96) (args := #[.pointer (some ⟨w.heap.size + 1, 0, none⟩)]) (by simp) (by simp [go_sem]) ?_
  refine (catch_pan_farthest ⟨w.heap.size + 1, 0, none⟩ k [] _ ?_ ?_).mono ?_
  · rw [hc1.1 _ _ (by simp)]; simp [go_sem]
  · rw [hc1.2 _ _ (by simp)]; simp [go_sem]
  rintro e u' w'' ⟨rfl, rfl, rfl⟩
  refine ⟨.tuple #[.agg #[.int .i64 0, .int .i64 0, .int .i64 0], .int .i64 k], ?_, rfl, ((((Keeps.refl _).alloc _).alloc _).trans hk).setCell _ (Nat.le_succ _)⟩
  have hc2 : (w1.setCell ⟨w.heap.size + 1, 0, none⟩ (.int .i64 k)).cell? ⟨w.heap.size + 1, 0, none⟩ = some (.int .i64 k) := World.cell?_setCell_same' _ _ _ (by rw [hc1.1 _ _ (by simp)]; simp [go_sem])
  have q0 : (w1.setCell ⟨w.heap.size + 1, 0, none⟩ (.int .i64 k)).cell? ⟨w.heap.size, 0, none⟩ = some (.int .i64 0) := by
    rw [cell_set_other (by omega), hc1.1 _ _ (by simp; omega)]; simp [go_sem]
  have q1 : (w1.setCell ⟨w.heap.size + 1, 0, none⟩ (.int .i64 k)).cell? ⟨w.heap.size, 1, none⟩ = some (.int .i64 0) := by
    rw [cell_set_other (by omega), hc1.1 _ _ (by simp; omega)]; simp [go_sem]
  have q2 : (w1.setCell ⟨w.heap.size + 1, 0, none⟩ (.int .i64 k)).cell? ⟨w.heap.size, 2, none⟩ = some (.int .i64 0) := by
    rw [cell_set_other (by omega), hc1.1 _ _ (by simp; omega)]; simp [go_sem]
  simp [results, Try.results66, go_sem, hc2, q0, q1, q2]
end Go.Proofs.Ythnhcacoegmdfaa

namespace Go.Proofs.Ythnhcacoegmdfaa
open Go.RowKit Go.Proofs.Try


theorem mild {p : Pr} (h : p.Fine) : Mild p.n.known := by
  intro k hk
  have h1 := Prn.mem_known.1 hk
  obtain ⟨hd, hs, _⟩ := Prn.left_some h.ok h1.2
  have h2 := Prn.mem_comps.1 h1.1
  have h3 : p.zlo ≤ k.1.1 ∧ k.1.1 ≤ p.zhi := h2.1
  have h4 : p.rlo ≤ k.1.2 ∧ k.1.2 ≤ p.rhi := h2.2
  have hz := h.z
  have hr := h.r
  refine ⟨fun i j hi hj => ?_, by omega, by omega⟩
  have := Gp.low hd hs hi hj
  have := hs i j hi hj
  omega
/-- What work gives: a span, or a panic. -/
def W2 (r : Sum Int (Int × Int)) (w : World) (e : Ending) (w' : World) : Prop := match r with
  | .inl k => Pan k w e w'
  | .inr x => Ret (.agg #[.int .i64 x.1, .int .i64 x.2]) w e w'
def spA (r : Sum Int (Int × Int)) : Int × Int := match r with
  | .inl _ => (0, 0)
  | .inr x => x
def erA {α : Type} (r : Sum Int α) : Int := match r with
  | .inl k => k
  | .inr _ => 0
theorem answer_span (K : Nat) (caps : Array Value) (w : World) (r : Sum Int (Int × Int)) (hcf : ∀ w, (callFunc K caps).run Try.prog w = .ok (.enter K caps) w) (h : ∀ w1, Keeps w w1 → Calls Try.prog K caps w1 (W2 r w1)) : Calls Try.prog 34 #[.func (.func K) #[] caps] w (Ret (.tuple #[.agg #[.int .i64 (spA r).1, .int .i64 (spA r).2], .int .i64 (erA r)]) w) := by
  have h1 := h _ (((Keeps.refl w).alloc (.cells #[.int .i64 0, .int .i64 0] 23)).alloc (.cells #[.int .i64 0] 24))
  cases r with
  | inl k => exact answer_pan_span K caps w k hcf h1
  | inr x => exact answer_ok_span K caps w x.1 x.2 hcf h1
theorem truths_no {p : Pr} {w : World} (hp : p.In w) (hF : p.Fine) (h : p.n.known.isEmpty = true) : Calls Try.prog 40 #[.agg #[.slice p.ba p.bs.length p.bc, .int .i64 p.zlo, .int .i64 p.zhi, .int .i64 p.rlo, .int .i64 p.rhi, .slice p.ra p.rs.length p.rc]] w (Pan 10 w) := (truths_any p w hp hF).mono fun e w' he => by
  unfold Truths at he
  rw [if_pos (List.isEmpty_iff.1 h)] at he
  exact he
theorem truths_yes {p : Pr} {w : World} (hp : p.In w) (hF : p.Fine) (h : p.n.known.isEmpty = false) : Calls Try.prog 40 #[.agg #[.slice p.ba p.bs.length p.bc, .int .i64 p.zlo, .int .i64 p.zhi, .int .i64 p.rlo, .int .i64 p.rhi, .slice p.ra p.rs.length p.rc]] w (Nw (α := Unit) (fun _ b => .map (some b)) (fun _ => .map (entF p.n.known) p.n.known.length) (fun _ => True) w) := (truths_any p w hp hF).mono fun e w' he => by
  unfold Truths at he
  rw [if_neg (fun h0 => by rw [h0] at h; cases h)] at he
  exact he
def knownR (p : Pr) (n : Int) : Sum Int (Int × Int) := bif p.ok then bif blkB n p.bs.length then bif p.n.known.isEmpty then .inl 10 else .inr (p.n.differA n.toNat 5) else .inl 2 else .inl 1
def differR (p : Pr) (a b : Int) : Sum Int (Int × Int) := bif p.ok then bif blkB a p.bs.length then bif blkB b p.bs.length then bif p.n.known.isEmpty then .inl 10 else .inr (p.n.differA a.toNat b.toNat) else .inl 2 else .inl 2 else .inl 1
def showsR (p : Pr) (m : Int) : Sum Int (Int × Int) := bif p.ok then bif minB m then bif p.n.known.isEmpty then .inl 10 else .inr (p.n.showsA m) else .inl 2 else .inl 1
set_option maxRecDepth 100000 in
theorem known1_any (p : Pr) (n : Int) (bp b_n : Nat) (w : World) (hp : p.In w) (hbp : w.heap[bp]? = some (.cells #[.slice p.ba p.bs.length p.bc, .int .i64 p.zlo, .int .i64 p.zhi, .int .i64 p.rlo, .int .i64 p.rhi, .slice p.ra p.rs.length p.rc] 30 (0, 0))) (hb_n : w.heap[b_n]? = some (.cells #[.int .i64 n] 3 (0, 0))) : Calls Try.prog 35 #[.pointer (some ⟨bp, 0, none⟩), .pointer (some ⟨b_n, 0, none⟩)] w (W2 (knownR p n) w) := by
  refine calls_run (fn := f35) (c := (f35.body).getD .skip) [.pointer (some ⟨bp, 0, none⟩), .pointer (some ⟨b_n, 0, none⟩)] func35 (by kernel_rfl) (fun _ => False) [] (fun _ h => by cases h) (List.Pairwise.nil) 15 (by kernel_rfl) (by simp) ?_
  refine run_auto [] 2 [] [] [0, 1] [] (st' := ⟨[(0, pA bp), (1, pA b_n)], []⟩) (acc := []) (by kernel_rfl) (by kernel_rfl) trivial ?_
  refine run_new (aO #[iV 0, iV 0] 23) (fun b1 => pA b1) (some 2) (fun _ => by kernel_rfl) (fun b1 hb1 => ?_)
  refine run_auto [] 3 [] [] [0, 1, 2] [0] (st' := ⟨[(0, pA bp), (1, pA b_n), (2, pA b1)], [(b1, aO #[iV 0, iV 0] 23)]⟩) (acc := []) (by kernel_rfl) (by kernel_rfl) trivial ?_
  refine run_v (Instr.loadAt 30 (pA bp) >>= fun v => pure (Next.value v)) (some 3) (.agg #[.slice p.ba p.bs.length p.bc, iV p.zlo, iV p.zhi, iV p.rlo, iV p.rhi, .slice p.ra p.rs.length p.rc]) (by kernel_rfl) (fun w1 k1 h1 => load_in (base := 0) (off := 0) k1 (fun h => h) [.slice p.ba p.bs.length p.bc, iV p.zlo, iV p.zhi, iV p.rlo, iV p.rhi, .slice p.ra p.rs.length p.rc] (fun i u hi => by rw [Nat.zero_add]; exact cells_of_heap hbp i u hi) (by kernel_rfl)) ?_
  cases hd1 : p.ok with
  | false =>
    exact run_panics rfl (Nat.le_refl _) 36 #[.agg #[.slice p.ba p.bs.length p.bc, iV p.zlo, iV p.zhi, iV p.rlo, iV p.rhi, .slice p.ra p.rs.length p.rc]] (some 4) (pe 1) (by kernel_rfl) (fun w1 k1 h1 => (by have h := needPair_any p w1 (hp.keep (k1.keeps (fun _ h => h))); rw [hd1] at h; exact h)) (fun w1 k1 h1 => (by unfold knownR; rw [hd1]; exact ⟨rfl, k1.keeps (fun _ h => h)⟩))
  | true =>
    have hF := Pr.fine hd1
    have hb5 := hF.b5
    refine run_ret1 36 #[.agg #[.slice p.ba p.bs.length p.bc, iV p.zlo, iV p.zhi, iV p.rlo, iV p.rhi, .slice p.ra p.rs.length p.rc]] (some 4) (.tuple #[]) (by kernel_rfl) (fun w1 k1 h1 => (by have h := needPair_any p w1 (hp.keep (k1.keeps (fun _ h => h))); rw [hd1] at h; exact h)) ?_
    refine run_auto [] 3 [] [] [0, 1, 2] [0] (st' := ⟨[(0, pA bp), (1, pA b_n), (2, pA b1)], [(b1, aO #[iV 0, iV 0] 23)]⟩) (acc := []) (by kernel_rfl) (by kernel_rfl) trivial ?_
    refine run_v (Instr.loadAt 30 (pA bp) >>= fun v => pure (Next.value v)) (some 5) (.agg #[.slice p.ba p.bs.length p.bc, iV p.zlo, iV p.zhi, iV p.rlo, iV p.rhi, .slice p.ra p.rs.length p.rc]) (by kernel_rfl) (fun w1 k1 h1 => load_in (base := 0) (off := 0) k1 (fun h => h) [.slice p.ba p.bs.length p.bc, iV p.zlo, iV p.zhi, iV p.rlo, iV p.rhi, .slice p.ra p.rs.length p.rc] (fun i u hi => by rw [Nat.zero_add]; exact cells_of_heap hbp i u hi) (by kernel_rfl)) ?_
    refine run_v (Instr.loadAt 3 (pA b_n) >>= fun v => pure (Next.value v)) (some 6) (iV n) (by kernel_rfl) (fun w1 k1 h1 => load_in (base := 0) (off := 0) k1 (fun h => h) [iV n] (fun i u hi => by rw [Nat.zero_add]; exact cells_of_heap hb_n i u hi) (by kernel_rfl)) ?_
    cases hd2 : (blkB n (p.bs.length : Int)) with
    | false =>
      exact run_panics rfl (Nat.le_refl _) 37 #[.agg #[.slice p.ba p.bs.length p.bc, iV p.zlo, iV p.zhi, iV p.rlo, iV p.rhi, .slice p.ra p.rs.length p.rc], iV n] (some 7) (pe 2) (by kernel_rfl) (fun w1 k1 h1 => (by have h := needBlock_any p n w1; rw [hd2] at h; exact h)) (fun w1 k1 h1 => (by unfold knownR; rw [hd1, hd2]; exact ⟨rfl, k1.keeps (fun _ h => h)⟩))
    | true =>
      obtain ⟨nn, rfl⟩ : ∃ nn : Nat, n = (nn : Int) := ⟨n.toNat, by have h := hd2; unfold blkB at h; simp only [decide_eq_true_eq] at h; omega⟩
      have hltn : nn < p.bs.length := by have h := hd2; unfold blkB at h; simp only [decide_eq_true_eq] at h; omega
      refine run_ret1 37 #[.agg #[.slice p.ba p.bs.length p.bc, iV p.zlo, iV p.zhi, iV p.rlo, iV p.rhi, .slice p.ra p.rs.length p.rc], iV (nn : Int)] (some 7) (.tuple #[]) (by kernel_rfl) (fun w1 k1 h1 => (by have h := needBlock_any p (nn : Int) w1; rw [hd2] at h; exact h)) ?_
      refine run_auto [] 2 [] [] [0, 1, 2] [0] (st' := ⟨[(0, pA bp), (1, pA b_n), (2, pA b1)], [(b1, aO #[iV 0, iV 0] 23)]⟩) (acc := []) (by kernel_rfl) (by kernel_rfl) trivial ?_
      cases hd3 : p.n.known.isEmpty with
      | false =>
        refine draw 8 [{ val := fun _ => .agg #[.slice p.ba p.bs.length p.bc, iV p.zlo, iV p.zhi, iV p.rlo, iV p.rhi, .slice p.ra p.rs.length p.rc], slots := [0] },
                  { names := [2], val := fun l => .map (some (l.getD 0 0)), upd := [(2, fun l => .map (entF p.n.known) p.n.known.length)], news := [2], slots := [8] },
                  { names := [2, 3], val := fun l => .func (.func 76) #[] #[.pointer (some ⟨(l.getD 1 0), 0, none⟩)], upd := [(3, fun l => aO #[.map (some (l.getD 0 0))] 77)], news := [3], slots := [9] },
                  { val := fun _ => iV (nn : Int), slots := [1] },
                  { val := fun _ => .agg #[iV (nn : Int), iV 5], slots := [11] },
                  { val := fun _ => .agg #[.func (.func 41) #[] #[], iV (nn : Int), iV 5], slots := [12] },
                  { val := fun _ => .agg #[iV (p.n.differA nn 5).1, iV (p.n.differA nn 5).2], slots := [10, 13], reads := [3, 2] },
                  { upd := [(0, fun l => aO #[iV (p.n.differA nn 5).1, iV (p.n.differA nn 5).2] 23)], slots := [2, 14], reads := [0] }] [[], [0], [0, 1], [], [3], [3, 4], [0, 1, 2, 3, 4, 5], [0, 1, 2, 3, 4, 5, 6]] (by kernel_rfl) (by kernel_rfl) (by kernel_rfl) (by kernel_rfl) [2] [0] (by kernel_rfl)
                  ⟨⟨⟨⟨⟨⟨⟨⟨trivial,
                  tri_v (fun β => (Instr.loadAt 30 (pA bp) >>= fun v => pure (Next.value v))) (by kernel_rfl) (fun β extra => by kernel_rfl) (fun β => by kernel_rfl) (fun β w1 k1 h1 => load_in (base := 0) (off := 0) k1 (fun h => h) [.slice p.ba p.bs.length p.bc, iV p.zlo, iV p.zhi, iV p.rlo, iV p.rhi, .slice p.ra p.rs.length p.rc] (fun i u hi => by rw [Nat.zero_add]; exact cells_of_heap hbp i u hi) (by kernel_rfl))⟩,
                  tri_nw 2 (fun β b => .map (some b)) (fun β => .map (entF p.n.known) p.n.known.length) 40 (fun β => #[.agg #[.slice p.ba p.bs.length p.bc, iV p.zlo, iV p.zhi, iV p.rlo, iV p.rhi, .slice p.ra p.rs.length p.rc]]) (by kernel_rfl) (fun β extra => by kernel_rfl) (fun β => by kernel_rfl) (fun β b => by kernel_rfl) (fun β b => by kernel_rfl) (fun β b => by kernel_rfl) (fun β w1 k1 h1 => truths_yes (hp.keep (k1.keeps (fun _ h => h))) hF hd3)⟩,
                  tri_nw 3 (fun β b => .func (.func 76) #[] #[pA b]) (fun β => aO #[.map (some (β 2))] 77) 39 (fun β => #[.map (some (β 2))]) (by kernel_rfl) (fun β extra => by kernel_rfl) (fun β => by kernel_rfl) (fun β b => by kernel_rfl) (fun β b => by kernel_rfl) (fun β b => by kernel_rfl) (fun β w1 k1 h1 => values_any (β 2) w1)⟩,
                  tri_v (fun β => (Instr.loadAt 3 (pA b_n) >>= fun v => pure (Next.value v))) (by kernel_rfl) (fun β extra => by kernel_rfl) (fun β => by kernel_rfl) (fun β w1 k1 h1 => load_in (base := 0) (off := 0) k1 (fun h => h) [iV (nn : Int)] (fun i u hi => by rw [Nat.zero_add]; exact cells_of_heap hb_n i u hi) (by kernel_rfl))⟩,
                  tri_quiet (fun β => []) [] [] (fun β => []) (by kernel_rfl) (fun β extra => by kernel_rfl) (by kernel_rfl) (fun β => trivial)⟩,
                  tri_quiet (fun β => []) [] [] (fun β => []) (by kernel_rfl) (fun β extra => by kernel_rfl) (by kernel_rfl) (fun β => trivial)⟩,
                  tri_call 38 (fun β => #[.func (.func 76) #[] #[.pointer (some ⟨(β 3), 0, none⟩)], .agg #[.func (.func 41) #[] #[], iV (nn : Int), iV 5]]) (by kernel_rfl) (fun β extra => by kernel_rfl) (fun β => by kernel_rfl) (fun β w1 k1 h1 => reach_gaps p.n.known (β 3) (β 2) nn 5 w1 (mild hF) (h1 ((β 3), aO #[.map (some (β 2))] 77) (List.mem_of_getElem? (i := 0) (by kernel_rfl))) (h1 ((β 2), .map (entF p.n.known) p.n.known.length) (List.mem_of_getElem? (i := 1) (by kernel_rfl))) (by omega) (by omega))⟩,
                  tri_quiet (fun β => []) [0] [0] (fun β => [(pA b1, pA b1)]) (by kernel_rfl) (fun β extra => by kernel_rfl) (by kernel_rfl) (fun β => ⟨rfl, trivial⟩)⟩
                  (fun β => ⟨[(2, pA b1)], [(b1, aO #[iV (p.n.differA nn 5).1, iV (p.n.differA nn 5).2] 23)]⟩) (fun β => by kernel_rfl) (fun β2 => ?_)
        refine run_end (fn := f35) rfl (Nat.le_refl _) (by kernel_rfl) [0] [.agg #[iV (p.n.differA nn 5).1, iV (p.n.differA nn 5).2]] (e := [(pA b1, pA b1)]) (by kernel_rfl) ⟨rfl, trivial⟩ (fun w1 k1 h1 => ?_)
        unfold knownR
        rw [hd1, hd2, hd3]
        exact ⟨rfl, k1.keeps (fun _ h => h)⟩
      | true =>
        refine draw 8 [{ val := fun _ => .agg #[.slice p.ba p.bs.length p.bc, iV p.zlo, iV p.zhi, iV p.rlo, iV p.rhi, .slice p.ra p.rs.length p.rc], slots := [0] },
                  { upd := [(2, fun _ => .deferred none)], news := [2], slots := [8] },
                  { reads := [2] },
                  { val := fun _ => iV (nn : Int), slots := [1] },
                  { val := fun _ => .agg #[iV (nn : Int), iV 5], slots := [11] },
                  { val := fun _ => .agg #[.func (.func 41) #[] #[], iV (nn : Int), iV 5], slots := [12] },
                  { reads := [2] },
                  { reads := [2] }] [[], [0], [0, 1], [], [3], [3, 4], [0, 1, 2, 3, 4, 5], [0, 1, 2, 3, 4, 5, 6]] (by kernel_rfl) (by kernel_rfl) (by kernel_rfl) (by kernel_rfl) [] [2] (by kernel_rfl)
                  ⟨⟨⟨⟨⟨⟨⟨⟨trivial,
                  tri_v (fun β => (Instr.loadAt 30 (pA bp) >>= fun v => pure (Next.value v))) (by kernel_rfl) (fun β extra => by kernel_rfl) (fun β => by kernel_rfl) (fun β w1 k1 h1 => load_in (base := 0) (off := 0) k1 (fun h => h) [.slice p.ba p.bs.length p.bc, iV p.zlo, iV p.zhi, iV p.rlo, iV p.rhi, .slice p.ra p.rs.length p.rc] (fun i u hi => by rw [Nat.zero_add]; exact cells_of_heap hbp i u hi) (by kernel_rfl))⟩,
                  tri_panics rfl (Nat.le_refl _) 40 (fun β => #[.agg #[.slice p.ba p.bs.length p.bc, iV p.zlo, iV p.zhi, iV p.rlo, iV p.rhi, .slice p.ra p.rs.length p.rc]]) (pe 10) (fun β extra => by kernel_rfl) (fun β w1 k1 h1 => truths_no (hp.keep (k1.keeps (fun _ h => h))) hF hd3) (fun w1 k1 => (by unfold knownR; rw [hd1, hd2, hd3]; exact ⟨rfl, k1.keeps (fun _ h => h)⟩))⟩,
                  tri_void (fun β => ⟨β 2, [], by kernel_rfl⟩)⟩,
                  tri_v (fun β => (Instr.loadAt 3 (pA b_n) >>= fun v => pure (Next.value v))) (by kernel_rfl) (fun β extra => by kernel_rfl) (fun β => by kernel_rfl) (fun β w1 k1 h1 => load_in (base := 0) (off := 0) k1 (fun h => h) [iV (nn : Int)] (fun i u hi => by rw [Nat.zero_add]; exact cells_of_heap hb_n i u hi) (by kernel_rfl))⟩,
                  tri_quiet (fun β => []) [] [] (fun β => []) (by kernel_rfl) (fun β extra => by kernel_rfl) (by kernel_rfl) (fun β => trivial)⟩,
                  tri_quiet (fun β => []) [] [] (fun β => []) (by kernel_rfl) (fun β extra => by kernel_rfl) (by kernel_rfl) (fun β => trivial)⟩,
                  tri_void (fun β => ⟨β 2, [], by kernel_rfl⟩)⟩,
                  tri_void (fun β => ⟨β 2, [], by kernel_rfl⟩)⟩
                  (fun β => ⟨[], [(β 2, .deferred none)]⟩) (fun β => by kernel_rfl) (fun β2 => run_void)

set_option maxRecDepth 100000 in
theorem differ1_any (p : Pr) (a b : Int) (bp b_a b_b : Nat) (w : World) (hp : p.In w) (hbp : w.heap[bp]? = some (.cells #[.slice p.ba p.bs.length p.bc, .int .i64 p.zlo, .int .i64 p.zhi, .int .i64 p.rlo, .int .i64 p.rhi, .slice p.ra p.rs.length p.rc] 30 (0, 0))) (hb_a : w.heap[b_a]? = some (.cells #[.int .i64 a] 3 (0, 0))) (hb_b : w.heap[b_b]? = some (.cells #[.int .i64 b] 3 (0, 0))) : Calls Try.prog 42 #[.pointer (some ⟨bp, 0, none⟩), .pointer (some ⟨b_a, 0, none⟩), .pointer (some ⟨b_b, 0, none⟩)] w (W2 (differR p a b) w) := by
  refine calls_run (fn := f42) (c := (f42.body).getD .skip) [.pointer (some ⟨bp, 0, none⟩), .pointer (some ⟨b_a, 0, none⟩), .pointer (some ⟨b_b, 0, none⟩)] func42 (by kernel_rfl) (fun _ => False) [] (fun _ h => by cases h) (List.Pairwise.nil) 20 (by kernel_rfl) (by simp) ?_
  refine run_auto [] 2 [] [] [0, 1, 2] [] (st' := ⟨[(0, pA bp), (1, pA b_a), (2, pA b_b)], []⟩) (acc := []) (by kernel_rfl) (by kernel_rfl) trivial ?_
  refine run_new (aO #[iV 0, iV 0] 23) (fun b1 => pA b1) (some 3) (fun _ => by kernel_rfl) (fun b1 hb1 => ?_)
  refine run_auto [] 3 [] [] [0, 1, 2, 3] [0] (st' := ⟨[(0, pA bp), (1, pA b_a), (2, pA b_b), (3, pA b1)], [(b1, aO #[iV 0, iV 0] 23)]⟩) (acc := []) (by kernel_rfl) (by kernel_rfl) trivial ?_
  refine run_v (Instr.loadAt 30 (pA bp) >>= fun v => pure (Next.value v)) (some 4) (.agg #[.slice p.ba p.bs.length p.bc, iV p.zlo, iV p.zhi, iV p.rlo, iV p.rhi, .slice p.ra p.rs.length p.rc]) (by kernel_rfl) (fun w1 k1 h1 => load_in (base := 0) (off := 0) k1 (fun h => h) [.slice p.ba p.bs.length p.bc, iV p.zlo, iV p.zhi, iV p.rlo, iV p.rhi, .slice p.ra p.rs.length p.rc] (fun i u hi => by rw [Nat.zero_add]; exact cells_of_heap hbp i u hi) (by kernel_rfl)) ?_
  cases hd1 : p.ok with
  | false =>
    exact run_panics rfl (Nat.le_refl _) 36 #[.agg #[.slice p.ba p.bs.length p.bc, iV p.zlo, iV p.zhi, iV p.rlo, iV p.rhi, .slice p.ra p.rs.length p.rc]] (some 5) (pe 1) (by kernel_rfl) (fun w1 k1 h1 => (by have h := needPair_any p w1 (hp.keep (k1.keeps (fun _ h => h))); rw [hd1] at h; exact h)) (fun w1 k1 h1 => (by unfold differR; rw [hd1]; exact ⟨rfl, k1.keeps (fun _ h => h)⟩))
  | true =>
    have hF := Pr.fine hd1
    have hb5 := hF.b5
    refine run_ret1 36 #[.agg #[.slice p.ba p.bs.length p.bc, iV p.zlo, iV p.zhi, iV p.rlo, iV p.rhi, .slice p.ra p.rs.length p.rc]] (some 5) (.tuple #[]) (by kernel_rfl) (fun w1 k1 h1 => (by have h := needPair_any p w1 (hp.keep (k1.keeps (fun _ h => h))); rw [hd1] at h; exact h)) ?_
    refine run_auto [] 3 [] [] [0, 1, 2, 3] [0] (st' := ⟨[(0, pA bp), (1, pA b_a), (2, pA b_b), (3, pA b1)], [(b1, aO #[iV 0, iV 0] 23)]⟩) (acc := []) (by kernel_rfl) (by kernel_rfl) trivial ?_
    refine run_v (Instr.loadAt 30 (pA bp) >>= fun v => pure (Next.value v)) (some 6) (.agg #[.slice p.ba p.bs.length p.bc, iV p.zlo, iV p.zhi, iV p.rlo, iV p.rhi, .slice p.ra p.rs.length p.rc]) (by kernel_rfl) (fun w1 k1 h1 => load_in (base := 0) (off := 0) k1 (fun h => h) [.slice p.ba p.bs.length p.bc, iV p.zlo, iV p.zhi, iV p.rlo, iV p.rhi, .slice p.ra p.rs.length p.rc] (fun i u hi => by rw [Nat.zero_add]; exact cells_of_heap hbp i u hi) (by kernel_rfl)) ?_
    refine run_v (Instr.loadAt 3 (pA b_a) >>= fun v => pure (Next.value v)) (some 7) (iV a) (by kernel_rfl) (fun w1 k1 h1 => load_in (base := 0) (off := 0) k1 (fun h => h) [iV a] (fun i u hi => by rw [Nat.zero_add]; exact cells_of_heap hb_a i u hi) (by kernel_rfl)) ?_
    cases hd2 : (blkB a (p.bs.length : Int)) with
    | false =>
      exact run_panics rfl (Nat.le_refl _) 37 #[.agg #[.slice p.ba p.bs.length p.bc, iV p.zlo, iV p.zhi, iV p.rlo, iV p.rhi, .slice p.ra p.rs.length p.rc], iV a] (some 8) (pe 2) (by kernel_rfl) (fun w1 k1 h1 => (by have h := needBlock_any p a w1; rw [hd2] at h; exact h)) (fun w1 k1 h1 => (by unfold differR; rw [hd1, hd2]; exact ⟨rfl, k1.keeps (fun _ h => h)⟩))
    | true =>
      obtain ⟨an, rfl⟩ : ∃ an : Nat, a = (an : Int) := ⟨a.toNat, by have h := hd2; unfold blkB at h; simp only [decide_eq_true_eq] at h; omega⟩
      have hlta : an < p.bs.length := by have h := hd2; unfold blkB at h; simp only [decide_eq_true_eq] at h; omega
      refine run_ret1 37 #[.agg #[.slice p.ba p.bs.length p.bc, iV p.zlo, iV p.zhi, iV p.rlo, iV p.rhi, .slice p.ra p.rs.length p.rc], iV (an : Int)] (some 8) (.tuple #[]) (by kernel_rfl) (fun w1 k1 h1 => (by have h := needBlock_any p (an : Int) w1; rw [hd2] at h; exact h)) ?_
      refine run_auto [] 3 [] [] [0, 1, 2, 3] [0] (st' := ⟨[(0, pA bp), (1, pA b_a), (2, pA b_b), (3, pA b1)], [(b1, aO #[iV 0, iV 0] 23)]⟩) (acc := []) (by kernel_rfl) (by kernel_rfl) trivial ?_
      refine run_v (Instr.loadAt 30 (pA bp) >>= fun v => pure (Next.value v)) (some 9) (.agg #[.slice p.ba p.bs.length p.bc, iV p.zlo, iV p.zhi, iV p.rlo, iV p.rhi, .slice p.ra p.rs.length p.rc]) (by kernel_rfl) (fun w1 k1 h1 => load_in (base := 0) (off := 0) k1 (fun h => h) [.slice p.ba p.bs.length p.bc, iV p.zlo, iV p.zhi, iV p.rlo, iV p.rhi, .slice p.ra p.rs.length p.rc] (fun i u hi => by rw [Nat.zero_add]; exact cells_of_heap hbp i u hi) (by kernel_rfl)) ?_
      refine run_v (Instr.loadAt 3 (pA b_b) >>= fun v => pure (Next.value v)) (some 10) (iV b) (by kernel_rfl) (fun w1 k1 h1 => load_in (base := 0) (off := 0) k1 (fun h => h) [iV b] (fun i u hi => by rw [Nat.zero_add]; exact cells_of_heap hb_b i u hi) (by kernel_rfl)) ?_
      cases hd3 : (blkB b (p.bs.length : Int)) with
      | false =>
        exact run_panics rfl (Nat.le_refl _) 37 #[.agg #[.slice p.ba p.bs.length p.bc, iV p.zlo, iV p.zhi, iV p.rlo, iV p.rhi, .slice p.ra p.rs.length p.rc], iV b] (some 11) (pe 2) (by kernel_rfl) (fun w1 k1 h1 => (by have h := needBlock_any p b w1; rw [hd3] at h; exact h)) (fun w1 k1 h1 => (by unfold differR; rw [hd1, hd2, hd3]; exact ⟨rfl, k1.keeps (fun _ h => h)⟩))
      | true =>
        obtain ⟨bn, rfl⟩ : ∃ bn : Nat, b = (bn : Int) := ⟨b.toNat, by have h := hd3; unfold blkB at h; simp only [decide_eq_true_eq] at h; omega⟩
        have hltb : bn < p.bs.length := by have h := hd3; unfold blkB at h; simp only [decide_eq_true_eq] at h; omega
        refine run_ret1 37 #[.agg #[.slice p.ba p.bs.length p.bc, iV p.zlo, iV p.zhi, iV p.rlo, iV p.rhi, .slice p.ra p.rs.length p.rc], iV (bn : Int)] (some 11) (.tuple #[]) (by kernel_rfl) (fun w1 k1 h1 => (by have h := needBlock_any p (bn : Int) w1; rw [hd3] at h; exact h)) ?_
        refine run_auto [] 2 [] [] [0, 1, 2, 3] [0] (st' := ⟨[(0, pA bp), (1, pA b_a), (2, pA b_b), (3, pA b1)], [(b1, aO #[iV 0, iV 0] 23)]⟩) (acc := []) (by kernel_rfl) (by kernel_rfl) trivial ?_
        cases hd4 : p.n.known.isEmpty with
        | false =>
          refine draw 9 [{ val := fun _ => .agg #[.slice p.ba p.bs.length p.bc, iV p.zlo, iV p.zhi, iV p.rlo, iV p.rhi, .slice p.ra p.rs.length p.rc], slots := [0] },
                      { names := [2], val := fun l => .map (some (l.getD 0 0)), upd := [(2, fun l => .map (entF p.n.known) p.n.known.length)], news := [2], slots := [12] },
                      { names := [2, 3], val := fun l => .func (.func 76) #[] #[.pointer (some ⟨(l.getD 1 0), 0, none⟩)], upd := [(3, fun l => aO #[.map (some (l.getD 0 0))] 77)], news := [3], slots := [13] },
                      { val := fun _ => iV (an : Int), slots := [1] },
                      { val := fun _ => iV (bn : Int), slots := [2] },
                      { val := fun _ => .agg #[iV (an : Int), iV (bn : Int)], slots := [15, 16] },
                      { val := fun _ => .agg #[.func (.func 41) #[] #[], iV (an : Int), iV (bn : Int)], slots := [17] },
                      { val := fun _ => .agg #[iV (p.n.differA an bn).1, iV (p.n.differA an bn).2], slots := [14, 18], reads := [3, 2] },
                      { upd := [(0, fun l => aO #[iV (p.n.differA an bn).1, iV (p.n.differA an bn).2] 23)], slots := [3, 19], reads := [0] }] [[], [0], [0, 1], [], [], [3, 4], [3, 4, 5], [0, 1, 2, 3, 4, 5, 6], [0, 1, 2, 3, 4, 5, 6, 7]] (by kernel_rfl) (by kernel_rfl) (by kernel_rfl) (by kernel_rfl) [3] [0] (by kernel_rfl)
                      ⟨⟨⟨⟨⟨⟨⟨⟨⟨trivial,
                      tri_v (fun β => (Instr.loadAt 30 (pA bp) >>= fun v => pure (Next.value v))) (by kernel_rfl) (fun β extra => by kernel_rfl) (fun β => by kernel_rfl) (fun β w1 k1 h1 => load_in (base := 0) (off := 0) k1 (fun h => h) [.slice p.ba p.bs.length p.bc, iV p.zlo, iV p.zhi, iV p.rlo, iV p.rhi, .slice p.ra p.rs.length p.rc] (fun i u hi => by rw [Nat.zero_add]; exact cells_of_heap hbp i u hi) (by kernel_rfl))⟩,
                      tri_nw 2 (fun β b => .map (some b)) (fun β => .map (entF p.n.known) p.n.known.length) 40 (fun β => #[.agg #[.slice p.ba p.bs.length p.bc, iV p.zlo, iV p.zhi, iV p.rlo, iV p.rhi, .slice p.ra p.rs.length p.rc]]) (by kernel_rfl) (fun β extra => by kernel_rfl) (fun β => by kernel_rfl) (fun β b => by kernel_rfl) (fun β b => by kernel_rfl) (fun β b => by kernel_rfl) (fun β w1 k1 h1 => truths_yes (hp.keep (k1.keeps (fun _ h => h))) hF hd4)⟩,
                      tri_nw 3 (fun β b => .func (.func 76) #[] #[pA b]) (fun β => aO #[.map (some (β 2))] 77) 39 (fun β => #[.map (some (β 2))]) (by kernel_rfl) (fun β extra => by kernel_rfl) (fun β => by kernel_rfl) (fun β b => by kernel_rfl) (fun β b => by kernel_rfl) (fun β b => by kernel_rfl) (fun β w1 k1 h1 => values_any (β 2) w1)⟩,
                      tri_v (fun β => (Instr.loadAt 3 (pA b_a) >>= fun v => pure (Next.value v))) (by kernel_rfl) (fun β extra => by kernel_rfl) (fun β => by kernel_rfl) (fun β w1 k1 h1 => load_in (base := 0) (off := 0) k1 (fun h => h) [iV (an : Int)] (fun i u hi => by rw [Nat.zero_add]; exact cells_of_heap hb_a i u hi) (by kernel_rfl))⟩,
                      tri_v (fun β => (Instr.loadAt 3 (pA b_b) >>= fun v => pure (Next.value v))) (by kernel_rfl) (fun β extra => by kernel_rfl) (fun β => by kernel_rfl) (fun β w1 k1 h1 => load_in (base := 0) (off := 0) k1 (fun h => h) [iV (bn : Int)] (fun i u hi => by rw [Nat.zero_add]; exact cells_of_heap hb_b i u hi) (by kernel_rfl))⟩,
                      tri_quiet (fun β => []) [] [] (fun β => []) (by kernel_rfl) (fun β extra => by kernel_rfl) (by kernel_rfl) (fun β => trivial)⟩,
                      tri_quiet (fun β => []) [] [] (fun β => []) (by kernel_rfl) (fun β extra => by kernel_rfl) (by kernel_rfl) (fun β => trivial)⟩,
                      tri_call 38 (fun β => #[.func (.func 76) #[] #[.pointer (some ⟨(β 3), 0, none⟩)], .agg #[.func (.func 41) #[] #[], iV (an : Int), iV (bn : Int)]]) (by kernel_rfl) (fun β extra => by kernel_rfl) (fun β => by kernel_rfl) (fun β w1 k1 h1 => reach_gaps p.n.known (β 3) (β 2) an bn w1 (mild hF) (h1 ((β 3), aO #[.map (some (β 2))] 77) (List.mem_of_getElem? (i := 0) (by kernel_rfl))) (h1 ((β 2), .map (entF p.n.known) p.n.known.length) (List.mem_of_getElem? (i := 1) (by kernel_rfl))) (by omega) (by omega))⟩,
                      tri_quiet (fun β => []) [0] [0] (fun β => [(pA b1, pA b1)]) (by kernel_rfl) (fun β extra => by kernel_rfl) (by kernel_rfl) (fun β => ⟨rfl, trivial⟩)⟩
                      (fun β => ⟨[(3, pA b1)], [(b1, aO #[iV (p.n.differA an bn).1, iV (p.n.differA an bn).2] 23)]⟩) (fun β => by kernel_rfl) (fun β2 => ?_)
          refine run_end (fn := f42) rfl (Nat.le_refl _) (by kernel_rfl) [0] [.agg #[iV (p.n.differA an bn).1, iV (p.n.differA an bn).2]] (e := [(pA b1, pA b1)]) (by kernel_rfl) ⟨rfl, trivial⟩ (fun w1 k1 h1 => ?_)
          unfold differR
          rw [hd1, hd2, hd3, hd4]
          exact ⟨rfl, k1.keeps (fun _ h => h)⟩
        | true =>
          refine draw 9 [{ val := fun _ => .agg #[.slice p.ba p.bs.length p.bc, iV p.zlo, iV p.zhi, iV p.rlo, iV p.rhi, .slice p.ra p.rs.length p.rc], slots := [0] },
                      { upd := [(2, fun _ => .deferred none)], news := [2], slots := [12] },
                      { reads := [2] },
                      { val := fun _ => iV (an : Int), slots := [1] },
                      { val := fun _ => iV (bn : Int), slots := [2] },
                      { val := fun _ => .agg #[iV (an : Int), iV (bn : Int)], slots := [15, 16] },
                      { val := fun _ => .agg #[.func (.func 41) #[] #[], iV (an : Int), iV (bn : Int)], slots := [17] },
                      { reads := [2] },
                      { reads := [2] }] [[], [0], [0, 1], [], [], [3, 4], [3, 4, 5], [0, 1, 2, 3, 4, 5, 6], [0, 1, 2, 3, 4, 5, 6, 7]] (by kernel_rfl) (by kernel_rfl) (by kernel_rfl) (by kernel_rfl) [] [2] (by kernel_rfl)
                      ⟨⟨⟨⟨⟨⟨⟨⟨⟨trivial,
                      tri_v (fun β => (Instr.loadAt 30 (pA bp) >>= fun v => pure (Next.value v))) (by kernel_rfl) (fun β extra => by kernel_rfl) (fun β => by kernel_rfl) (fun β w1 k1 h1 => load_in (base := 0) (off := 0) k1 (fun h => h) [.slice p.ba p.bs.length p.bc, iV p.zlo, iV p.zhi, iV p.rlo, iV p.rhi, .slice p.ra p.rs.length p.rc] (fun i u hi => by rw [Nat.zero_add]; exact cells_of_heap hbp i u hi) (by kernel_rfl))⟩,
                      tri_panics rfl (Nat.le_refl _) 40 (fun β => #[.agg #[.slice p.ba p.bs.length p.bc, iV p.zlo, iV p.zhi, iV p.rlo, iV p.rhi, .slice p.ra p.rs.length p.rc]]) (pe 10) (fun β extra => by kernel_rfl) (fun β w1 k1 h1 => truths_no (hp.keep (k1.keeps (fun _ h => h))) hF hd4) (fun w1 k1 => (by unfold differR; rw [hd1, hd2, hd3, hd4]; exact ⟨rfl, k1.keeps (fun _ h => h)⟩))⟩,
                      tri_void (fun β => ⟨β 2, [], by kernel_rfl⟩)⟩,
                      tri_v (fun β => (Instr.loadAt 3 (pA b_a) >>= fun v => pure (Next.value v))) (by kernel_rfl) (fun β extra => by kernel_rfl) (fun β => by kernel_rfl) (fun β w1 k1 h1 => load_in (base := 0) (off := 0) k1 (fun h => h) [iV (an : Int)] (fun i u hi => by rw [Nat.zero_add]; exact cells_of_heap hb_a i u hi) (by kernel_rfl))⟩,
                      tri_v (fun β => (Instr.loadAt 3 (pA b_b) >>= fun v => pure (Next.value v))) (by kernel_rfl) (fun β extra => by kernel_rfl) (fun β => by kernel_rfl) (fun β w1 k1 h1 => load_in (base := 0) (off := 0) k1 (fun h => h) [iV (bn : Int)] (fun i u hi => by rw [Nat.zero_add]; exact cells_of_heap hb_b i u hi) (by kernel_rfl))⟩,
                      tri_quiet (fun β => []) [] [] (fun β => []) (by kernel_rfl) (fun β extra => by kernel_rfl) (by kernel_rfl) (fun β => trivial)⟩,
                      tri_quiet (fun β => []) [] [] (fun β => []) (by kernel_rfl) (fun β extra => by kernel_rfl) (by kernel_rfl) (fun β => trivial)⟩,
                      tri_void (fun β => ⟨β 2, [], by kernel_rfl⟩)⟩,
                      tri_void (fun β => ⟨β 2, [], by kernel_rfl⟩)⟩
                      (fun β => ⟨[], [(β 2, .deferred none)]⟩) (fun β => by kernel_rfl) (fun β2 => run_void)

set_option maxRecDepth 100000 in
theorem shows1_any (p : Pr) (m : Int) (bp b_m : Nat) (w : World) (hp : p.In w) (hbp : w.heap[bp]? = some (.cells #[.slice p.ba p.bs.length p.bc, .int .i64 p.zlo, .int .i64 p.zhi, .int .i64 p.rlo, .int .i64 p.rhi, .slice p.ra p.rs.length p.rc] 30 (0, 0))) (hb_m : w.heap[b_m]? = some (.cells #[.int .i64 m] 3 (0, 0))) : Calls Try.prog 43 #[.pointer (some ⟨bp, 0, none⟩), .pointer (some ⟨b_m, 0, none⟩)] w (W2 (showsR p m) w) := by
  refine calls_run (fn := f43) (c := (f43.body).getD .skip) [.pointer (some ⟨bp, 0, none⟩), .pointer (some ⟨b_m, 0, none⟩)] func43 (by kernel_rfl) (fun _ => False) [] (fun _ h => by cases h) (List.Pairwise.nil) 13 (by kernel_rfl) (by simp) ?_
  refine run_auto [] 2 [] [] [0, 1] [] (st' := ⟨[(0, pA bp), (1, pA b_m)], []⟩) (acc := []) (by kernel_rfl) (by kernel_rfl) trivial ?_
  refine run_new (aO #[iV 0, iV 0] 23) (fun b1 => pA b1) (some 2) (fun _ => by kernel_rfl) (fun b1 hb1 => ?_)
  refine run_auto [] 3 [] [] [0, 1, 2] [0] (st' := ⟨[(0, pA bp), (1, pA b_m), (2, pA b1)], [(b1, aO #[iV 0, iV 0] 23)]⟩) (acc := []) (by kernel_rfl) (by kernel_rfl) trivial ?_
  refine run_v (Instr.loadAt 30 (pA bp) >>= fun v => pure (Next.value v)) (some 3) (.agg #[.slice p.ba p.bs.length p.bc, iV p.zlo, iV p.zhi, iV p.rlo, iV p.rhi, .slice p.ra p.rs.length p.rc]) (by kernel_rfl) (fun w1 k1 h1 => load_in (base := 0) (off := 0) k1 (fun h => h) [.slice p.ba p.bs.length p.bc, iV p.zlo, iV p.zhi, iV p.rlo, iV p.rhi, .slice p.ra p.rs.length p.rc] (fun i u hi => by rw [Nat.zero_add]; exact cells_of_heap hbp i u hi) (by kernel_rfl)) ?_
  cases hd1 : p.ok with
  | false =>
    exact run_panics rfl (Nat.le_refl _) 36 #[.agg #[.slice p.ba p.bs.length p.bc, iV p.zlo, iV p.zhi, iV p.rlo, iV p.rhi, .slice p.ra p.rs.length p.rc]] (some 4) (pe 1) (by kernel_rfl) (fun w1 k1 h1 => (by have h := needPair_any p w1 (hp.keep (k1.keeps (fun _ h => h))); rw [hd1] at h; exact h)) (fun w1 k1 h1 => (by unfold showsR; rw [hd1]; exact ⟨rfl, k1.keeps (fun _ h => h)⟩))
  | true =>
    have hF := Pr.fine hd1
    have hb5 := hF.b5
    refine run_ret1 36 #[.agg #[.slice p.ba p.bs.length p.bc, iV p.zlo, iV p.zhi, iV p.rlo, iV p.rhi, .slice p.ra p.rs.length p.rc]] (some 4) (.tuple #[]) (by kernel_rfl) (fun w1 k1 h1 => (by have h := needPair_any p w1 (hp.keep (k1.keeps (fun _ h => h))); rw [hd1] at h; exact h)) ?_
    refine run_auto [] 3 [] [] [0, 1, 2] [0] (st' := ⟨[(0, pA bp), (1, pA b_m), (2, pA b1)], [(b1, aO #[iV 0, iV 0] 23)]⟩) (acc := []) (by kernel_rfl) (by kernel_rfl) trivial ?_
    refine run_v (Instr.loadAt 3 (pA b_m) >>= fun v => pure (Next.value v)) (some 5) (iV m) (by kernel_rfl) (fun w1 k1 h1 => load_in (base := 0) (off := 0) k1 (fun h => h) [iV m] (fun i u hi => by rw [Nat.zero_add]; exact cells_of_heap hb_m i u hi) (by kernel_rfl)) ?_
    cases hd2 : (minB m) with
    | false =>
      exact run_panics rfl (Nat.le_refl _) 44 #[iV m] (some 6) (pe 2) (by kernel_rfl) (fun w1 k1 h1 => (by have h := needMinute_any m w1; rw [hd2] at h; exact h)) (fun w1 k1 h1 => (by unfold showsR; rw [hd1, hd2]; exact ⟨rfl, k1.keeps (fun _ h => h)⟩))
    | true =>
      have hm_m : 0 ≤ m ∧ m ≤ 60 := by have h := hd2; unfold minB at h; simpa using h
      refine run_ret1 44 #[iV m] (some 6) (.tuple #[]) (by kernel_rfl) (fun w1 k1 h1 => (by have h := needMinute_any m w1; rw [hd2] at h; exact h)) ?_
      refine run_auto [] 2 [] [] [0, 1, 2] [0] (st' := ⟨[(0, pA bp), (1, pA b_m), (2, pA b1)], [(b1, aO #[iV 0, iV 0] 23)]⟩) (acc := []) (by kernel_rfl) (by kernel_rfl) trivial ?_
      cases hd3 : p.n.known.isEmpty with
      | false =>
        refine draw 7 [{ val := fun _ => .agg #[.slice p.ba p.bs.length p.bc, iV p.zlo, iV p.zhi, iV p.rlo, iV p.rhi, .slice p.ra p.rs.length p.rc], slots := [0] },
                  { names := [2], val := fun l => .map (some (l.getD 0 0)), upd := [(2, fun l => .map (entF p.n.known) p.n.known.length)], news := [2], slots := [7] },
                  { names := [2, 3], val := fun l => .func (.func 79) #[] #[.pointer (some ⟨(l.getD 1 0), 0, none⟩)], upd := [(3, fun l => aO #[.map (some (l.getD 0 0))] 77)], news := [3], slots := [8] },
                  { val := fun _ => iV m, slots := [1] },
                  { val := fun _ => .agg #[.func (.func 47) #[] #[], iV m], slots := [10] },
                  { val := fun _ => .agg #[iV (p.n.showsA m).1, iV (p.n.showsA m).2], slots := [9, 11], reads := [3, 2] },
                  { upd := [(0, fun l => aO #[iV (p.n.showsA m).1, iV (p.n.showsA m).2] 23)], slots := [2, 12], reads := [0] }] [[], [0], [0, 1], [], [3], [0, 1, 2, 3, 4], [0, 1, 2, 3, 4, 5]] (by kernel_rfl) (by kernel_rfl) (by kernel_rfl) (by kernel_rfl) [2] [0] (by kernel_rfl)
                  ⟨⟨⟨⟨⟨⟨⟨trivial,
                  tri_v (fun β => (Instr.loadAt 30 (pA bp) >>= fun v => pure (Next.value v))) (by kernel_rfl) (fun β extra => by kernel_rfl) (fun β => by kernel_rfl) (fun β w1 k1 h1 => load_in (base := 0) (off := 0) k1 (fun h => h) [.slice p.ba p.bs.length p.bc, iV p.zlo, iV p.zhi, iV p.rlo, iV p.rhi, .slice p.ra p.rs.length p.rc] (fun i u hi => by rw [Nat.zero_add]; exact cells_of_heap hbp i u hi) (by kernel_rfl))⟩,
                  tri_nw 2 (fun β b => .map (some b)) (fun β => .map (entF p.n.known) p.n.known.length) 40 (fun β => #[.agg #[.slice p.ba p.bs.length p.bc, iV p.zlo, iV p.zhi, iV p.rlo, iV p.rhi, .slice p.ra p.rs.length p.rc]]) (by kernel_rfl) (fun β extra => by kernel_rfl) (fun β => by kernel_rfl) (fun β b => by kernel_rfl) (fun β b => by kernel_rfl) (fun β b => by kernel_rfl) (fun β w1 k1 h1 => truths_yes (hp.keep (k1.keeps (fun _ h => h))) hF hd3)⟩,
                  tri_nw 3 (fun β b => .func (.func 79) #[] #[pA b]) (fun β => aO #[.map (some (β 2))] 77) 46 (fun β => #[.map (some (β 2))]) (by kernel_rfl) (fun β extra => by kernel_rfl) (fun β => by kernel_rfl) (fun β b => by kernel_rfl) (fun β b => by kernel_rfl) (fun β b => by kernel_rfl) (fun β w1 k1 h1 => keys_any (β 2) w1)⟩,
                  tri_v (fun β => (Instr.loadAt 3 (pA b_m) >>= fun v => pure (Next.value v))) (by kernel_rfl) (fun β extra => by kernel_rfl) (fun β => by kernel_rfl) (fun β w1 k1 h1 => load_in (base := 0) (off := 0) k1 (fun h => h) [iV m] (fun i u hi => by rw [Nat.zero_add]; exact cells_of_heap hb_m i u hi) (by kernel_rfl))⟩,
                  tri_quiet (fun β => []) [] [] (fun β => []) (by kernel_rfl) (fun β extra => by kernel_rfl) (by kernel_rfl) (fun β => trivial)⟩,
                  tri_call 45 (fun β => #[.func (.func 79) #[] #[.pointer (some ⟨(β 3), 0, none⟩)], .agg #[.func (.func 47) #[] #[], iV m]]) (by kernel_rfl) (fun β extra => by kernel_rfl) (fun β => by kernel_rfl) (fun β w1 k1 h1 => reach_comp p.n.known (β 3) (β 2) m (by omega) (by omega) w1 (mild hF) (h1 ((β 3), aO #[.map (some (β 2))] 77) (List.mem_of_getElem? (i := 0) (by kernel_rfl))) (h1 ((β 2), .map (entF p.n.known) p.n.known.length) (List.mem_of_getElem? (i := 1) (by kernel_rfl))))⟩,
                  tri_quiet (fun β => []) [0] [0] (fun β => [(pA b1, pA b1)]) (by kernel_rfl) (fun β extra => by kernel_rfl) (by kernel_rfl) (fun β => ⟨rfl, trivial⟩)⟩
                  (fun β => ⟨[(2, pA b1)], [(b1, aO #[iV (p.n.showsA m).1, iV (p.n.showsA m).2] 23)]⟩) (fun β => by kernel_rfl) (fun β2 => ?_)
        refine run_end (fn := f43) rfl (Nat.le_refl _) (by kernel_rfl) [0] [.agg #[iV (p.n.showsA m).1, iV (p.n.showsA m).2]] (e := [(pA b1, pA b1)]) (by kernel_rfl) ⟨rfl, trivial⟩ (fun w1 k1 h1 => ?_)
        unfold showsR
        rw [hd1, hd2, hd3]
        exact ⟨rfl, k1.keeps (fun _ h => h)⟩
      | true =>
        refine draw 7 [{ val := fun _ => .agg #[.slice p.ba p.bs.length p.bc, iV p.zlo, iV p.zhi, iV p.rlo, iV p.rhi, .slice p.ra p.rs.length p.rc], slots := [0] },
                  { upd := [(2, fun _ => .deferred none)], news := [2], slots := [7] },
                  { reads := [2] },
                  { val := fun _ => iV m, slots := [1] },
                  { val := fun _ => .agg #[.func (.func 47) #[] #[], iV m], slots := [10] },
                  { reads := [2] },
                  { reads := [2] }] [[], [0], [0, 1], [], [3], [0, 1, 2, 3, 4], [0, 1, 2, 3, 4, 5]] (by kernel_rfl) (by kernel_rfl) (by kernel_rfl) (by kernel_rfl) [] [2] (by kernel_rfl)
                  ⟨⟨⟨⟨⟨⟨⟨trivial,
                  tri_v (fun β => (Instr.loadAt 30 (pA bp) >>= fun v => pure (Next.value v))) (by kernel_rfl) (fun β extra => by kernel_rfl) (fun β => by kernel_rfl) (fun β w1 k1 h1 => load_in (base := 0) (off := 0) k1 (fun h => h) [.slice p.ba p.bs.length p.bc, iV p.zlo, iV p.zhi, iV p.rlo, iV p.rhi, .slice p.ra p.rs.length p.rc] (fun i u hi => by rw [Nat.zero_add]; exact cells_of_heap hbp i u hi) (by kernel_rfl))⟩,
                  tri_panics rfl (Nat.le_refl _) 40 (fun β => #[.agg #[.slice p.ba p.bs.length p.bc, iV p.zlo, iV p.zhi, iV p.rlo, iV p.rhi, .slice p.ra p.rs.length p.rc]]) (pe 10) (fun β extra => by kernel_rfl) (fun β w1 k1 h1 => truths_no (hp.keep (k1.keeps (fun _ h => h))) hF hd3) (fun w1 k1 => (by unfold showsR; rw [hd1, hd2, hd3]; exact ⟨rfl, k1.keeps (fun _ h => h)⟩))⟩,
                  tri_void (fun β => ⟨β 2, [], by kernel_rfl⟩)⟩,
                  tri_v (fun β => (Instr.loadAt 3 (pA b_m) >>= fun v => pure (Next.value v))) (by kernel_rfl) (fun β extra => by kernel_rfl) (fun β => by kernel_rfl) (fun β w1 k1 h1 => load_in (base := 0) (off := 0) k1 (fun h => h) [iV m] (fun i u hi => by rw [Nat.zero_add]; exact cells_of_heap hb_m i u hi) (by kernel_rfl))⟩,
                  tri_quiet (fun β => []) [] [] (fun β => []) (by kernel_rfl) (fun β extra => by kernel_rfl) (by kernel_rfl) (fun β => trivial)⟩,
                  tri_void (fun β => ⟨β 2, [], by kernel_rfl⟩)⟩,
                  tri_void (fun β => ⟨β 2, [], by kernel_rfl⟩)⟩
                  (fun β => ⟨[], [(β 2, .deferred none)]⟩) (fun β => by kernel_rfl) (fun β2 => run_void)

set_option maxRecDepth 100000 in
theorem Known_any (p : Pr) (n : Int) (w : World) (hp : p.In w) : Calls Try.prog 11 #[.agg #[.slice p.ba p.bs.length p.bc, .int .i64 p.zlo, .int .i64 p.zhi, .int .i64 p.rlo, .int .i64 p.rhi, .slice p.ra p.rs.length p.rc], .int .i64 n] w (Ret (.tuple #[.agg #[.int .i64 (spA (knownR p n)).1, .int .i64 (spA (knownR p n)).2], .int .i64 (erA (knownR p n))]) w) := by
  refine calls_run (fn := f11) (c := (f11.body).getD .skip) [.agg #[.slice p.ba p.bs.length p.bc, .int .i64 p.zlo, .int .i64 p.zhi, .int .i64 p.rlo, .int .i64 p.rhi, .slice p.ra p.rs.length p.rc], .int .i64 n] func11 (by kernel_rfl) (fun _ => False) [] (fun _ h => by cases h) (List.Pairwise.nil) 10 (by kernel_rfl) (by simp) ?_
  refine run_auto [] 2 [] [] [0, 1] [] (st' := ⟨[(0, .agg #[.slice p.ba p.bs.length p.bc, iV p.zlo, iV p.zhi, iV p.rlo, iV p.rhi, .slice p.ra p.rs.length p.rc]), (1, iV n)], []⟩) (acc := []) (by kernel_rfl) (by kernel_rfl) trivial ?_
  refine run_new (aO #[.slice p.ba p.bs.length p.bc, iV p.zlo, iV p.zhi, iV p.rlo, iV p.rhi, .slice p.ra p.rs.length p.rc] 30) (fun b1 => pA b1) (some 2) (fun _ => by kernel_rfl) (fun b1 hb1 => ?_)
  refine run_new (aO #[iV n] 3) (fun b2 => pA b2) (some 3) (fun _ => by kernel_rfl) (fun b2 hb2 => ?_)
  refine run_new (aO #[iV 0, iV 0] 23) (fun b3 => pA b3) (some 4) (fun _ => by kernel_rfl) (fun b3 hb3 => ?_)
  refine run_auto [] 5 [] [] [4, 5, 6] [0, 1, 2] (st' := ⟨[(4, pA b3), (5, iV 0), (6, .func (.func 35) #[] #[pA b1, pA b2])], [(b3, aO #[iV 0, iV 0] 23), (b2, aO #[iV n] 3), (b1, aO #[.slice p.ba p.bs.length p.bc, iV p.zlo, iV p.zhi, iV p.rlo, iV p.rhi, .slice p.ra p.rs.length p.rc] 30)]⟩) (acc := []) (by kernel_rfl) (by kernel_rfl) trivial ?_
  refine run_ret1 34 #[.func (.func 35) #[] #[pA b1, pA b2]] (some 7) (.tuple #[.agg #[iV ((spA (knownR p n)).1), iV ((spA (knownR p n)).2)], iV (erA (knownR p n))]) (by kernel_rfl) (fun w1 k1 h1 => answer_span 35 #[pA b1, pA b2] w1 (knownR p n) (fun _ => by kernel_rfl) (fun w2 kk => known1_any p n b1 b2 w2 ((hp.keep (k1.keeps (fun _ h => h))).keep kk) ((kk.heap (Array.getElem?_eq_some_iff.1 (h1 (b1, aO #[.slice p.ba p.bs.length p.bc, iV p.zlo, iV p.zhi, iV p.rlo, iV p.rhi, .slice p.ra p.rs.length p.rc] 30) (List.mem_of_getElem? (i := 2) (by kernel_rfl)))).1).trans (h1 (b1, aO #[.slice p.ba p.bs.length p.bc, iV p.zlo, iV p.zhi, iV p.rlo, iV p.rhi, .slice p.ra p.rs.length p.rc] 30) (List.mem_of_getElem? (i := 2) (by kernel_rfl)))) ((kk.heap (Array.getElem?_eq_some_iff.1 (h1 (b2, aO #[iV n] 3) (List.mem_of_getElem? (i := 1) (by kernel_rfl)))).1).trans (h1 (b2, aO #[iV n] 3) (List.mem_of_getElem? (i := 1) (by kernel_rfl)))))) ?_
  refine run_auto [] 5 [] [0] [4, 5] [0] (st' := ⟨[(4, pA b3), (5, iV (erA (knownR p n)))], [(b3, aO #[iV ((spA (knownR p n)).1), iV ((spA (knownR p n)).2)] 23)]⟩) (acc := [(pA b3, pA b3)]) (by kernel_rfl) (by kernel_rfl) ⟨rfl, trivial⟩ ?_
  refine run_end (fn := f11) rfl (Nat.le_refl _) (by kernel_rfl) [0] [.agg #[iV ((spA (knownR p n)).1), iV ((spA (knownR p n)).2)], iV (erA (knownR p n))] (e := [(pA b3, pA b3)]) (by kernel_rfl) ⟨rfl, trivial⟩ (fun w1 k1 h1 => ?_)
  exact ⟨rfl, k1.keeps (fun _ h => h)⟩

set_option maxRecDepth 100000 in
theorem Differ_any (p : Pr) (a b : Int) (w : World) (hp : p.In w) : Calls Try.prog 13 #[.agg #[.slice p.ba p.bs.length p.bc, .int .i64 p.zlo, .int .i64 p.zhi, .int .i64 p.rlo, .int .i64 p.rhi, .slice p.ra p.rs.length p.rc], .int .i64 a, .int .i64 b] w (Ret (.tuple #[.agg #[.int .i64 (spA (differR p a b)).1, .int .i64 (spA (differR p a b)).2], .int .i64 (erA (differR p a b))]) w) := by
  refine calls_run (fn := f13) (c := (f13.body).getD .skip) [.agg #[.slice p.ba p.bs.length p.bc, .int .i64 p.zlo, .int .i64 p.zhi, .int .i64 p.rlo, .int .i64 p.rhi, .slice p.ra p.rs.length p.rc], .int .i64 a, .int .i64 b] func13 (by kernel_rfl) (fun _ => False) [] (fun _ h => by cases h) (List.Pairwise.nil) 12 (by kernel_rfl) (by simp) ?_
  refine run_auto [] 2 [] [] [0, 1, 2] [] (st' := ⟨[(0, .agg #[.slice p.ba p.bs.length p.bc, iV p.zlo, iV p.zhi, iV p.rlo, iV p.rhi, .slice p.ra p.rs.length p.rc]), (1, iV a), (2, iV b)], []⟩) (acc := []) (by kernel_rfl) (by kernel_rfl) trivial ?_
  refine run_new (aO #[.slice p.ba p.bs.length p.bc, iV p.zlo, iV p.zhi, iV p.rlo, iV p.rhi, .slice p.ra p.rs.length p.rc] 30) (fun b1 => pA b1) (some 3) (fun _ => by kernel_rfl) (fun b1 hb1 => ?_)
  refine run_new (aO #[iV a] 3) (fun b2 => pA b2) (some 4) (fun _ => by kernel_rfl) (fun b2 hb2 => ?_)
  refine run_new (aO #[iV b] 3) (fun b3 => pA b3) (some 5) (fun _ => by kernel_rfl) (fun b3 hb3 => ?_)
  refine run_new (aO #[iV 0, iV 0] 23) (fun b4 => pA b4) (some 6) (fun _ => by kernel_rfl) (fun b4 hb4 => ?_)
  refine run_auto [] 5 [] [] [6, 7, 8] [0, 1, 2, 3] (st' := ⟨[(6, pA b4), (7, iV 0), (8, .func (.func 42) #[] #[pA b1, pA b2, pA b3])], [(b4, aO #[iV 0, iV 0] 23), (b3, aO #[iV b] 3), (b2, aO #[iV a] 3), (b1, aO #[.slice p.ba p.bs.length p.bc, iV p.zlo, iV p.zhi, iV p.rlo, iV p.rhi, .slice p.ra p.rs.length p.rc] 30)]⟩) (acc := []) (by kernel_rfl) (by kernel_rfl) trivial ?_
  refine run_ret1 34 #[.func (.func 42) #[] #[pA b1, pA b2, pA b3]] (some 9) (.tuple #[.agg #[iV ((spA (differR p a b)).1), iV ((spA (differR p a b)).2)], iV (erA (differR p a b))]) (by kernel_rfl) (fun w1 k1 h1 => answer_span 42 #[pA b1, pA b2, pA b3] w1 (differR p a b) (fun _ => by kernel_rfl) (fun w2 kk => differ1_any p a b b1 b2 b3 w2 ((hp.keep (k1.keeps (fun _ h => h))).keep kk) ((kk.heap (Array.getElem?_eq_some_iff.1 (h1 (b1, aO #[.slice p.ba p.bs.length p.bc, iV p.zlo, iV p.zhi, iV p.rlo, iV p.rhi, .slice p.ra p.rs.length p.rc] 30) (List.mem_of_getElem? (i := 3) (by kernel_rfl)))).1).trans (h1 (b1, aO #[.slice p.ba p.bs.length p.bc, iV p.zlo, iV p.zhi, iV p.rlo, iV p.rhi, .slice p.ra p.rs.length p.rc] 30) (List.mem_of_getElem? (i := 3) (by kernel_rfl)))) ((kk.heap (Array.getElem?_eq_some_iff.1 (h1 (b2, aO #[iV a] 3) (List.mem_of_getElem? (i := 2) (by kernel_rfl)))).1).trans (h1 (b2, aO #[iV a] 3) (List.mem_of_getElem? (i := 2) (by kernel_rfl)))) ((kk.heap (Array.getElem?_eq_some_iff.1 (h1 (b3, aO #[iV b] 3) (List.mem_of_getElem? (i := 1) (by kernel_rfl)))).1).trans (h1 (b3, aO #[iV b] 3) (List.mem_of_getElem? (i := 1) (by kernel_rfl)))))) ?_
  refine run_auto [] 5 [] [0] [6, 7] [0] (st' := ⟨[(6, pA b4), (7, iV (erA (differR p a b)))], [(b4, aO #[iV ((spA (differR p a b)).1), iV ((spA (differR p a b)).2)] 23)]⟩) (acc := [(pA b4, pA b4)]) (by kernel_rfl) (by kernel_rfl) ⟨rfl, trivial⟩ ?_
  refine run_end (fn := f13) rfl (Nat.le_refl _) (by kernel_rfl) [0] [.agg #[iV ((spA (differR p a b)).1), iV ((spA (differR p a b)).2)], iV (erA (differR p a b))] (e := [(pA b4, pA b4)]) (by kernel_rfl) ⟨rfl, trivial⟩ (fun w1 k1 h1 => ?_)
  exact ⟨rfl, k1.keeps (fun _ h => h)⟩

set_option maxRecDepth 100000 in
theorem Shows_any (p : Pr) (m : Int) (w : World) (hp : p.In w) : Calls Try.prog 14 #[.agg #[.slice p.ba p.bs.length p.bc, .int .i64 p.zlo, .int .i64 p.zhi, .int .i64 p.rlo, .int .i64 p.rhi, .slice p.ra p.rs.length p.rc], .int .i64 m] w (Ret (.tuple #[.agg #[.int .i64 (spA (showsR p m)).1, .int .i64 (spA (showsR p m)).2], .int .i64 (erA (showsR p m))]) w) := by
  refine calls_run (fn := f14) (c := (f14.body).getD .skip) [.agg #[.slice p.ba p.bs.length p.bc, .int .i64 p.zlo, .int .i64 p.zhi, .int .i64 p.rlo, .int .i64 p.rhi, .slice p.ra p.rs.length p.rc], .int .i64 m] func14 (by kernel_rfl) (fun _ => False) [] (fun _ h => by cases h) (List.Pairwise.nil) 10 (by kernel_rfl) (by simp) ?_
  refine run_auto [] 2 [] [] [0, 1] [] (st' := ⟨[(0, .agg #[.slice p.ba p.bs.length p.bc, iV p.zlo, iV p.zhi, iV p.rlo, iV p.rhi, .slice p.ra p.rs.length p.rc]), (1, iV m)], []⟩) (acc := []) (by kernel_rfl) (by kernel_rfl) trivial ?_
  refine run_new (aO #[.slice p.ba p.bs.length p.bc, iV p.zlo, iV p.zhi, iV p.rlo, iV p.rhi, .slice p.ra p.rs.length p.rc] 30) (fun b1 => pA b1) (some 2) (fun _ => by kernel_rfl) (fun b1 hb1 => ?_)
  refine run_new (aO #[iV m] 3) (fun b2 => pA b2) (some 3) (fun _ => by kernel_rfl) (fun b2 hb2 => ?_)
  refine run_new (aO #[iV 0, iV 0] 23) (fun b3 => pA b3) (some 4) (fun _ => by kernel_rfl) (fun b3 hb3 => ?_)
  refine run_auto [] 5 [] [] [4, 5, 6] [0, 1, 2] (st' := ⟨[(4, pA b3), (5, iV 0), (6, .func (.func 43) #[] #[pA b1, pA b2])], [(b3, aO #[iV 0, iV 0] 23), (b2, aO #[iV m] 3), (b1, aO #[.slice p.ba p.bs.length p.bc, iV p.zlo, iV p.zhi, iV p.rlo, iV p.rhi, .slice p.ra p.rs.length p.rc] 30)]⟩) (acc := []) (by kernel_rfl) (by kernel_rfl) trivial ?_
  refine run_ret1 34 #[.func (.func 43) #[] #[pA b1, pA b2]] (some 7) (.tuple #[.agg #[iV ((spA (showsR p m)).1), iV ((spA (showsR p m)).2)], iV (erA (showsR p m))]) (by kernel_rfl) (fun w1 k1 h1 => answer_span 43 #[pA b1, pA b2] w1 (showsR p m) (fun _ => by kernel_rfl) (fun w2 kk => shows1_any p m b1 b2 w2 ((hp.keep (k1.keeps (fun _ h => h))).keep kk) ((kk.heap (Array.getElem?_eq_some_iff.1 (h1 (b1, aO #[.slice p.ba p.bs.length p.bc, iV p.zlo, iV p.zhi, iV p.rlo, iV p.rhi, .slice p.ra p.rs.length p.rc] 30) (List.mem_of_getElem? (i := 2) (by kernel_rfl)))).1).trans (h1 (b1, aO #[.slice p.ba p.bs.length p.bc, iV p.zlo, iV p.zhi, iV p.rlo, iV p.rhi, .slice p.ra p.rs.length p.rc] 30) (List.mem_of_getElem? (i := 2) (by kernel_rfl)))) ((kk.heap (Array.getElem?_eq_some_iff.1 (h1 (b2, aO #[iV m] 3) (List.mem_of_getElem? (i := 1) (by kernel_rfl)))).1).trans (h1 (b2, aO #[iV m] 3) (List.mem_of_getElem? (i := 1) (by kernel_rfl)))))) ?_
  refine run_auto [] 5 [] [0] [4, 5] [0] (st' := ⟨[(4, pA b3), (5, iV (erA (showsR p m)))], [(b3, aO #[iV ((spA (showsR p m)).1), iV ((spA (showsR p m)).2)] 23)]⟩) (acc := [(pA b3, pA b3)]) (by kernel_rfl) (by kernel_rfl) ⟨rfl, trivial⟩ ?_
  refine run_end (fn := f14) rfl (Nat.le_refl _) (by kernel_rfl) [0] [.agg #[iV ((spA (showsR p m)).1), iV ((spA (showsR p m)).2)], iV (erA (showsR p m))] (e := [(pA b3, pA b3)]) (by kernel_rfl) ⟨rfl, trivial⟩ (fun w1 k1 h1 => ?_)
  exact ⟨rfl, k1.keeps (fun _ h => h)⟩

end Go.Proofs.Ythnhcacoegmdfaa

namespace Go.Proofs.Ythnhcacoegmdfaa
open Go.RowKit Go.Proofs.Try


theorem differ_bd {p : Pr} (h : p.Fine) (hne : p.n.known ≠ []) {a b : Nat} (ha : a < 6) (hb : b < 6) : (-1000 ≤ (p.n.differA a b).1 ∧ (p.n.differA a b).1 ≤ 1000) ∧ -1000 ≤ (p.n.differA a b).2 ∧ (p.n.differA a b).2 ≤ 1000 := by
  have hm := mild h
  have hl : (p.n.known.map fun k => (-k.2 b a, k.2 a b)) ≠ [] := by simpa using hne
  have hbd : ∀ t ∈ p.n.known.map fun k => (-k.2 b a, k.2 a b), (-1000 ≤ t.1 ∧ t.1 ≤ 1000) ∧ -1000 ≤ t.2 ∧ t.2 ≤ 1000 := by
    intro t ht
    obtain ⟨k, hk, rfl⟩ := List.mem_map.1 ht
    have h1 := (hm k hk).1 b a hb ha
    have h2 := (hm k hk).1 a b ha hb
    dsimp only
    omega
  have h3 := hull_is hl fun t ht => by
    have := hbd t ht
    omega
  obtain ⟨_, ⟨t, ht, e1⟩, u, hu, e2⟩ := h3
  have h4 := hbd t ht
  have h5 := hbd u hu
  unfold Prn.differA
  rw [e1, e2]
  exact ⟨h4.1, h5.2⟩
/-- What has been gone through: rows ahead of x, and of row x what lies ahead of y. -/
def tw (n x y : Nat) : List (Nat × Nat) := ((List.range x).flatMap fun a => ((List.range n).filter fun b => decide (a < b)).map fun b => (a, b)) ++ ((List.range y).filter fun b => decide (x < b)).map fun b => (x, b)
theorem tw_zero (n x : Nat) : tw n x 0 = (List.range x).flatMap fun a => ((List.range n).filter fun b => decide (a < b)).map fun b => (a, b) := by simp [tw]
theorem tw_start (n x : Nat) : tw n x (x + 1) = tw n x 0 := by
  have : (List.range (x + 1)).filter (fun b => decide (x < b)) = [] := List.filter_eq_nil_iff.2 fun b hb => by
    have := List.mem_range.1 hb
    simp
    omega
  unfold tw
  rw [this]
  simp
theorem tw_next (n : Nat) {x y : Nat} (h : x < y) : tw n x (y + 1) = tw n x y ++ [(x, y)] := by
  unfold tw
  rw [List.range_succ, List.filter_append, List.map_append, List.append_assoc]
  simp [h]
theorem tw_row (n x : Nat) : tw n x n = tw n (x + 1) 0 := by
  rw [tw_zero, List.range_succ, List.flatMap_append]
  simp [tw]
theorem tw_all (n : Nat) : tw n n 0 = twosL n := tw_zero n n
def FS (p : Prn) (n x y : Nat) : (Nat × Nat) × Int := farS p.wideA ((0, 0), -1) (tw n x y)
theorem FS_next (p : Prn) (n : Nat) {x y : Nat} (h : x < y) : FS p n x (y + 1) = if (FS p n x y).2 < p.wideA (x, y) then ((x, y), p.wideA (x, y)) else FS p n x y := by
  unfold FS farS
  rw [tw_next n h, List.foldl_append]
  rfl
theorem FS_start (p : Prn) (n x : Nat) : FS p n x (x + 1) = FS p n x 0 := by unfold FS; rw [tw_start]
theorem FS_row (p : Prn) (n x : Nat) : FS p n x n = FS p n (x + 1) 0 := by unfold FS; rw [tw_row]
theorem FS_all (p : Prn) : FS p p.bs.length p.bs.length 0 = p.farA := by unfold FS; rw [tw_all]; rfl
set_option maxRecDepth 100000 in
theorem farthestOf_any (p : Pr) (bm : Nat) (w : World) (hF : p.Fine) (hne : p.n.known ≠ []) (hmp : w.heap[bm]? = some (.map (entF p.n.known) p.n.known.length)) : Calls Try.prog 68 #[.int .i64 (p.bs.length : Int), .map (some bm)] w (Ret (.agg #[.int .i64 (p.n.farA.1.1 : Int), .int .i64 (p.n.farA.1.2 : Int), .int .i64 p.n.farA.2]) w) := by
  have h5 := hF.b5
  refine calls_run (fn := f68) (c := (f68.body).getD .skip) [.int .i64 (p.bs.length : Int), .map (some bm)] func68 (by kernel_rfl) (fun _ => False) [] (fun _ h => by cases h) (List.Pairwise.nil) 40 (by kernel_rfl) (by simp) ?_
  refine run_auto [] 2 [] [] [0, 1] [] (st' := ⟨[(0, iV (p.bs.length : Int)), (1, .map (some bm))], []⟩) (acc := []) (by kernel_rfl) (by kernel_rfl) trivial ?_
  refine run_new (aO #[iV 0, iV 0, iV 0] 115) (fun b1 => pA b1) (some 4) (fun _ => by kernel_rfl) (fun b1 hb1 => ?_)
  refine run_auto [] 4 [] [] [0, 1, 4, 10] [0] (st' := ⟨[(0, iV (p.bs.length : Int)), (1, .map (some bm)), (4, pA b1), (10, .agg #[iV 0, iV 0, iV (-1)])], [(b1, aO #[iV 0, iV 0, iV 0] 115)]⟩) (acc := []) (by kernel_rfl) (by kernel_rfl) trivial ?_
  refine run_new (aO #[iV 0, iV 0, iV 0] 115) (fun b2 => pA b2) (some 5) (fun _ => by kernel_rfl) (fun b2 hb2 => ?_)
  refine run_auto [] 9 [] [0] [0, 1, 4, 5, 11, 12] [0, 1] (st' := ⟨[(0, iV (p.bs.length : Int)), (1, .map (some bm)), (4, pA b1), (5, pA b2), (11, iV (p.bs.length : Int)), (12, iV 0)], [(b2, aO #[iV 0, iV 0, iV (-1)] 115), (b1, aO #[iV 0, iV 0, iV 0] 115)]⟩) (acc := [(pA b2, pA b2)]) (by kernel_rfl) (by kernel_rfl) ⟨rfl, trivial⟩ ?_
  refine run_auto [] 0 [] [] [0, 1, 4, 5, 11, 12] [0, 1] (st' := ⟨[(0, iV (p.bs.length : Int)), (1, .map (some bm)), (4, pA b1), (5, pA b2), (11, iV (p.bs.length : Int)), (12, iV 0)], [(b2, aO #[iV 0, iV 0, iV (-1)] 115), (b1, aO #[iV 0, iV 0, iV 0] 115)]⟩) (acc := []) (by kernel_rfl) (by kernel_rfl) trivial ?_
  refine run_loop (S := fun (x : Nat) => ⟨[(0, iV (p.bs.length : Int)), (1, .map (some bm)), (4, pA b1), (5, pA b2), (11, iV (p.bs.length : Int)), (12, iV (x : Int))], [(b2, aO #[iV ((FS p.n p.bs.length x 0).1.1 : Int), iV ((FS p.n p.bs.length x 0).1.2 : Int), iV (FS p.n p.bs.length x 0).2] 115), (b1, aO #[iV 0, iV 0, iV 0] 115)]⟩) (fun x => x ≤ p.bs.length) (fun x => p.bs.length - x) (0) (by kernel_rfl) (Nat.zero_le _) (by kernel_rfl) (fun x hI0 J0 hJ0 => ?_)
  cases hd1 : (decide ((x : Int) < (p.bs.length : Int))) with
  | false =>
    have hp1 := of_decide_eq_false hd1
    refine run_auto [(13, .bool false)] 12 [false] [0, 1] [4] [1] (st' := ⟨[(4, pA b1)], [(b1, aO #[iV ((FS p.n p.bs.length x 0).1.1 : Int), iV ((FS p.n p.bs.length x 0).1.2 : Int), iV (FS p.n p.bs.length x 0).2] 115)]⟩) (acc := [(pA b1, pA b1), (pA b2, pA b2), (.bool false, .bool false), (.bool (decide ((x : Int) < (p.bs.length : Int))), .bool false)]) (by kernel_rfl) (by kernel_rfl) ⟨rfl, rfl, rfl, (bo hd1), trivial⟩ ?_
    refine run_end (fn := f68) rfl (Nat.le_refl _) (by kernel_rfl) [0] [.agg #[iV ((FS p.n p.bs.length x 0).1.1 : Int), iV ((FS p.n p.bs.length x 0).1.2 : Int), iV (FS p.n p.bs.length x 0).2]] (e := [(pA b1, pA b1)]) (by kernel_rfl) ⟨rfl, trivial⟩ (fun w1 k1 h1 => ?_)
    exact ⟨by rw [← FS_all, show x = p.bs.length by omega]; rfl, k1.keeps (fun _ h => h)⟩
  | true =>
    have hp1 := of_decide_eq_true hd1
    refine run_auto [(13, .bool true), (16, iV ((x + 1 : Nat) : Int))] 21 [true] [] [0, 1, 4, 5, 11, 12, 6, 7] [0, 1] (st' := ⟨[(0, iV (p.bs.length : Int)), (1, .map (some bm)), (4, pA b1), (5, pA b2), (11, iV (p.bs.length : Int)), (12, iV (x : Int)), (6, iV (x : Int)), (7, iV ((x + 1 : Nat) : Int))], [(b2, aO #[iV ((FS p.n p.bs.length x 0).1.1 : Int), iV ((FS p.n p.bs.length x 0).1.2 : Int), iV (FS p.n p.bs.length x 0).2] 115), (b1, aO #[iV 0, iV 0, iV 0] 115)]⟩) (acc := [(iV (IntKind.i64.wrap ((x : Int) + 1)), iV ((x + 1 : Nat) : Int)), (.bool true, .bool true), (.bool (decide ((x : Int) < (p.bs.length : Int))), .bool true)]) (by kernel_rfl) (by kernel_rfl) ⟨(wr (by omega) (by omega)), rfl, (bo hd1), trivial⟩ ?_
    refine run_auto [] 0 [] [] [0, 1, 4, 5, 11, 12, 6, 7] [0, 1] (st' := ⟨[(0, iV (p.bs.length : Int)), (1, .map (some bm)), (4, pA b1), (5, pA b2), (11, iV (p.bs.length : Int)), (12, iV (x : Int)), (6, iV (x : Int)), (7, iV ((x + 1 : Nat) : Int))], [(b2, aO #[iV ((FS p.n p.bs.length x 0).1.1 : Int), iV ((FS p.n p.bs.length x 0).1.2 : Int), iV (FS p.n p.bs.length x 0).2] 115), (b1, aO #[iV 0, iV 0, iV 0] 115)]⟩) (acc := []) (by kernel_rfl) (by kernel_rfl) trivial ?_
    refine run_loop (S := fun (y : Nat) => ⟨[(0, iV (p.bs.length : Int)), (1, .map (some bm)), (4, pA b1), (5, pA b2), (11, iV (p.bs.length : Int)), (12, iV (x : Int)), (6, iV (x : Int)), (7, iV (y : Int))], [(b2, aO #[iV ((FS p.n p.bs.length x y).1.1 : Int), iV ((FS p.n p.bs.length x y).1.2 : Int), iV (FS p.n p.bs.length x y).2] 115), (b1, aO #[iV 0, iV 0, iV 0] 115)]⟩) (fun y => x < y ∧ y ≤ p.bs.length) (fun y => p.bs.length - y) (x + 1) (by kernel_rfl) (⟨by omega, by omega⟩) (by rw [FS_start]) (fun y hI1 J1 hJ1 => ?_)
    obtain ⟨hy1, hy2⟩ := hI1
    cases hd2 : (decide ((y : Int) < (p.bs.length : Int))) with
    | false =>
      have hp2 := of_decide_eq_false hd2
      refine run_auto [(19, .bool false), (38, iV ((x + 1 : Nat) : Int))] 14 [false] [] [0, 1, 4, 5, 11, 12] [0, 1] (st' := ⟨[(0, iV (p.bs.length : Int)), (1, .map (some bm)), (4, pA b1), (5, pA b2), (11, iV (p.bs.length : Int)), (12, iV ((x + 1 : Nat) : Int))], [(b2, aO #[iV ((FS p.n p.bs.length x y).1.1 : Int), iV ((FS p.n p.bs.length x y).1.2 : Int), iV (FS p.n p.bs.length x y).2] 115), (b1, aO #[iV 0, iV 0, iV 0] 115)]⟩) (acc := [(iV (IntKind.i64.wrap ((x : Int) + 1)), iV ((x + 1 : Nat) : Int)), (.bool false, .bool false), (.bool (decide ((y : Int) < (p.bs.length : Int))), .bool false)]) (by kernel_rfl) (by kernel_rfl) ⟨(wr (by omega) (by omega)), rfl, (bo hd2), trivial⟩ ?_
      have hj := hJ0 (x + 1) (by omega) (by omega)
      rw [show FS p.n p.bs.length (x + 1) 0 = FS p.n p.bs.length x y from by rw [← FS_row, show y = p.bs.length by omega]] at hj
      exact run_round (by kernel_rfl) hj
    | true =>
      have hp2 := of_decide_eq_true hd2
      have hb5 := hF.b5
      have hbd := differ_bd hF hne (a := x) (b := y) (by omega) (by omega)
      refine run_auto [(19, .bool true)] 16 [true] [] [0, 1, 4, 5, 11, 12, 6, 7, 24] [0, 1] (st' := ⟨[(0, iV (p.bs.length : Int)), (1, .map (some bm)), (4, pA b1), (5, pA b2), (11, iV (p.bs.length : Int)), (12, iV (x : Int)), (6, iV (x : Int)), (7, iV (y : Int)), (24, .agg #[iV (x : Int), iV (y : Int)])], [(b2, aO #[iV ((FS p.n p.bs.length x y).1.1 : Int), iV ((FS p.n p.bs.length x y).1.2 : Int), iV (FS p.n p.bs.length x y).2] 115), (b1, aO #[iV 0, iV 0, iV 0] 115)]⟩) (acc := [(.bool true, .bool true), (.bool (decide ((y : Int) < (p.bs.length : Int))), .bool true)]) (by kernel_rfl) (by kernel_rfl) ⟨rfl, (bo hd2), trivial⟩ ?_
      refine run_new (aO #[iV 0, iV 0] 72) (fun b3 => pA b3) (some 8) (fun _ => by kernel_rfl) (fun b3 hb3 => ?_)
      refine run_auto [] 3 [] [0] [0, 1, 4, 5, 11, 12, 6, 7, 8] [0, 1, 2] (st' := ⟨[(0, iV (p.bs.length : Int)), (1, .map (some bm)), (4, pA b1), (5, pA b2), (11, iV (p.bs.length : Int)), (12, iV (x : Int)), (6, iV (x : Int)), (7, iV (y : Int)), (8, pA b3)], [(b3, aO #[iV (x : Int), iV (y : Int)] 72), (b2, aO #[iV ((FS p.n p.bs.length x y).1.1 : Int), iV ((FS p.n p.bs.length x y).1.2 : Int), iV (FS p.n p.bs.length x y).2] 115), (b1, aO #[iV 0, iV 0, iV 0] 115)]⟩) (acc := [(pA b3, pA b3)]) (by kernel_rfl) (by kernel_rfl) ⟨rfl, trivial⟩ ?_
      refine draw 7 [{ val := fun _ => .map (some bm), slots := [1] },
              { names := [4], val := fun l => .func (.func 76) #[] #[.pointer (some ⟨(l.getD 0 0), 0, none⟩)], upd := [(4, fun l => aO #[.map (some bm)] 77)], news := [4], slots := [25] },
              { val := fun _ => .agg #[iV (x : Int), iV (y : Int)], slots := [8], reads := [0] },
              { val := fun _ => .agg #[.func (.func 41) #[] #[], iV (x : Int), iV (y : Int)], slots := [27] },
              { val := fun _ => .agg #[iV (p.n.differA x y).1, iV (p.n.differA x y).2], slots := [26, 28], reads := [4] },
              { val := fun _ => iV ((p.n.differA x y).2 - (p.n.differA x y).1), slots := [29] },
              { val := fun _ => iV ((p.n.differA x y).2 - (p.n.differA x y).1), slots := [30] }] [[], [0], [], [2], [0, 1, 2, 3], [0, 1, 2, 3, 4], [0, 1, 2, 3, 4, 5]] (by kernel_rfl) (by kernel_rfl) (by kernel_rfl) (by kernel_rfl) [0, 1, 4, 5, 11, 12, 6, 7, 8, 9] [0, 1, 2] (by kernel_rfl)
              ⟨⟨⟨⟨⟨⟨⟨trivial,
              tri_quiet (fun β => []) [] [] (fun β => []) (by kernel_rfl) (fun β extra => by kernel_rfl) (by kernel_rfl) (fun β => trivial)⟩,
              tri_nw 4 (fun β b => .func (.func 76) #[] #[pA b]) (fun β => aO #[.map (some bm)] 77) 39 (fun β => #[.map (some bm)]) (by kernel_rfl) (fun β extra => by kernel_rfl) (fun β => by kernel_rfl) (fun β b => by kernel_rfl) (fun β b => by kernel_rfl) (fun β b => by kernel_rfl) (fun β w1 k1 h1 => values_any bm w1)⟩,
              tri_quiet (fun β => []) [0] [0] (fun β => [(pA b3, pA b3)]) (by kernel_rfl) (fun β extra => by kernel_rfl) (by kernel_rfl) (fun β => ⟨rfl, trivial⟩)⟩,
              tri_quiet (fun β => []) [] [] (fun β => []) (by kernel_rfl) (fun β extra => by kernel_rfl) (by kernel_rfl) (fun β => trivial)⟩,
              tri_call 38 (fun β => #[.func (.func 76) #[] #[.pointer (some ⟨(β 4), 0, none⟩)], .agg #[.func (.func 41) #[] #[], iV (x : Int), iV (y : Int)]]) (by kernel_rfl) (fun β extra => by kernel_rfl) (fun β => by kernel_rfl) (fun β w1 k1 h1 => reach_gaps p.n.known (β 4) bm x y w1 (mild hF) (h1 ((β 4), aO #[.map (some bm)] 77) (List.mem_of_getElem? (i := 0) (by kernel_rfl))) ((k1.block bm (Array.getElem?_eq_some_iff.1 hmp).1 (fun h => h)).trans hmp) (by omega) (by omega))⟩,
              tri_call 73 (fun β => #[.agg #[iV (p.n.differA x y).1, iV (p.n.differA x y).2]]) (by kernel_rfl) (fun β extra => by kernel_rfl) (fun β => by kernel_rfl) (fun β w1 k1 h1 => wide_any (p.n.differA x y).1 (p.n.differA x y).2 (by omega) (by omega) (by omega) (by omega) w1)⟩,
              tri_quiet (fun β => []) [] [] (fun β => []) (by kernel_rfl) (fun β extra => by kernel_rfl) (by kernel_rfl) (fun β => trivial)⟩
              (fun β => ⟨[(0, iV (p.bs.length : Int)), (1, .map (some bm)), (4, pA b1), (5, pA b2), (11, iV (p.bs.length : Int)), (12, iV (x : Int)), (6, iV (x : Int)), (7, iV (y : Int)), (8, pA b3), (9, iV ((p.n.differA x y).2 - (p.n.differA x y).1))], [(b3, aO #[iV (x : Int), iV (y : Int)] 72), (b2, aO #[iV ((FS p.n p.bs.length x y).1.1 : Int), iV ((FS p.n p.bs.length x y).1.2 : Int), iV (FS p.n p.bs.length x y).2] 115), (b1, aO #[iV 0, iV 0, iV 0] 115)]⟩) (fun β => by kernel_rfl) (fun β4 => ?_)
      cases hd3 : (decide ((FS p.n p.bs.length x y).2 < ((p.n.differA x y).2 - (p.n.differA x y).1))) with
      | false =>
        have hp3 := of_decide_eq_false hd3
        refine run_auto [(34, .bool false), (21, iV ((y + 1 : Nat) : Int))] 15 [false] [1] [0, 1, 4, 5, 11, 12, 6, 7] [1, 2] (st' := ⟨[(0, iV (p.bs.length : Int)), (1, .map (some bm)), (4, pA b1), (5, pA b2), (11, iV (p.bs.length : Int)), (12, iV (x : Int)), (6, iV (x : Int)), (7, iV ((y + 1 : Nat) : Int))], [(b2, aO #[iV ((FS p.n p.bs.length x y).1.1 : Int), iV ((FS p.n p.bs.length x y).1.2 : Int), iV (FS p.n p.bs.length x y).2] 115), (b1, aO #[iV 0, iV 0, iV 0] 115)]⟩) (acc := [(iV (IntKind.i64.wrap ((y : Int) + 1)), iV ((y + 1 : Nat) : Int)), (.bool false, .bool false), (.bool (decide ((FS p.n p.bs.length x y).2 < ((p.n.differA x y).2 - (p.n.differA x y).1))), .bool false), (pA b2, pA b2)]) (by kernel_rfl) (by kernel_rfl) ⟨(wr (by omega) (by omega)), rfl, (bo hd3), rfl, trivial⟩ ?_
        have hj := hJ1 (y + 1) (⟨by omega, by omega⟩) (by omega)
        rw [(FS_next p.n p.bs.length (show x < y by omega)).trans (if_neg (of_decide_eq_false hd3))] at hj
        exact run_round (by kernel_rfl) hj
      | true =>
        have hp3 := of_decide_eq_true hd3
        refine run_auto [(34, .bool true), (21, iV ((y + 1 : Nat) : Int))] 20 [true] [1, 0, 1] [0, 1, 4, 5, 11, 12, 6, 7] [1, 2] (st' := ⟨[(0, iV (p.bs.length : Int)), (1, .map (some bm)), (4, pA b1), (5, pA b2), (11, iV (p.bs.length : Int)), (12, iV (x : Int)), (6, iV (x : Int)), (7, iV ((y + 1 : Nat) : Int))], [(b2, aO #[iV (x : Int), iV (y : Int), iV ((p.n.differA x y).2 - (p.n.differA x y).1)] 115), (b1, aO #[iV 0, iV 0, iV 0] 115)]⟩) (acc := [(iV (IntKind.i64.wrap ((y : Int) + 1)), iV ((y + 1 : Nat) : Int)), (pA b2, pA b2), (pA b3, pA b3), (.bool true, .bool true), (.bool (decide ((FS p.n p.bs.length x y).2 < ((p.n.differA x y).2 - (p.n.differA x y).1))), .bool true), (pA b2, pA b2)]) (by kernel_rfl) (by kernel_rfl) ⟨(wr (by omega) (by omega)), rfl, rfl, rfl, (bo hd3), rfl, trivial⟩ ?_
        have hj := hJ1 (y + 1) (⟨by omega, by omega⟩) (by omega)
        rw [(FS_next p.n p.bs.length (show x < y by omega)).trans (if_pos (of_decide_eq_true hd3))] at hj
        exact run_round (by kernel_rfl) hj

end Go.Proofs.Ythnhcacoegmdfaa
