/-
  PAIR: truths: the map of what is known.
-/
import Derived.Test.YtmiobcnccbfknaaA9
import Derived.Test.YtmiobcnccbfknaaXH
import Derived.Laws.StructEq
namespace Go.Proofs.Ytmiobcnccbfknaa
open Go.RowKit Go.Proofs.Try


theorem fields_comp : Try.prog.underlying 79 = some (.struct (Try.prog.fieldsOf 79)) := by kernel_rfl
theorem held_comp : Try.prog.stoodInHeld 79 = false := by kernel_rfl
theorem list_comp : (Try.prog.fieldsOf 79).toList.map (fun f => (f.name, f.type, f.offset)) = [("zero", 3, 0), ("rate", 3, 1)] := by kernel_rfl
theorem equal_comp (x x' y y' : Int) (w : World) : (Op.equalIn 10000 79 (.agg #[.int .i64 x, .int .i64 x']) (.agg #[.int .i64 y, .int .i64 y'])).run Try.prog w = .ok (x == y && x' == y') w := by
  rw [run_equalIn_agg w 9999 _ _ _ fields_comp held_comp]
  have h := list_comp
  match hf : (Try.prog.fieldsOf 79).toList, h with
  | [f, g], h =>
    simp only [List.map_cons, List.map_nil, List.cons.injEq, Prod.mk.injEq, and_true] at h
    obtain ⟨⟨h1, h2, h3⟩, h4, h5, h6⟩ := h
    simp [Op.eqFields, h1, h2, h3, h4, h5, h6, go_sem]
    by_cases e1 : x = y <;> by_cases e2 : x' = y' <;> simp [e1, e2]
  | [], h => simp at h
  | [_], h => simp at h
  | _ :: _ :: _ :: _, h => simp at h
/-- What is known, as entries of a map. -/
def entK (es : Array MapEntry) (k : (Int × Int) × Gp) : Array MapEntry := es.push { key := .agg #[.int .i64 k.1.1, .int .i64 k.1.2], val := .agg (gc k.2).toArray, born := es.size }
def entF (s : List ((Int × Int) × Gp)) : Array MapEntry := s.foldl entK #[]
theorem entF_next (s : List ((Int × Int) × Gp)) (k : (Int × Int) × Gp) : entF (s ++ [k]) = entK (entF s) k := by
  unfold entF
  rw [List.foldl_append]
  rfl
theorem entF_fold : ∀ (s : List ((Int × Int) × Gp)) (es : Array MapEntry), (s.foldl entK es).size = es.size + s.length ∧ ∀ e ∈ (s.foldl entK es).toList, e ∈ es.toList ∨ ∃ k ∈ s, e.key = .agg #[.int .i64 k.1.1, .int .i64 k.1.2] ∧ e.val = .agg (gc k.2).toArray ∧ e.born < es.size + s.length
  | [], es => ⟨rfl, fun e h => .inl h⟩
  | k :: s, es => by
    obtain ⟨h1, h2⟩ := entF_fold s (entK es k)
    have hs : (entK es k).size = es.size + 1 := by simp [entK]
    refine ⟨by rw [List.foldl_cons, h1, hs, List.length_cons]; omega, fun e he => ?_⟩
    rw [List.foldl_cons] at he
    rcases h2 e he with h | ⟨q, hq, h3, h4, h5⟩
    · unfold entK at h
      rw [Array.toList_push, List.mem_append] at h
      rcases h with h | h
      · exact .inl h
      · rw [List.mem_singleton] at h
        subst h
        exact .inr ⟨k, List.mem_cons_self, rfl, rfl, by simp⟩
    · exact .inr ⟨q, List.mem_cons_of_mem _ hq, h3, h4, by rw [hs] at h5; rw [List.length_cons]; omega⟩
theorem entF_size (s : List ((Int × Int) × Gp)) : (entF s).size = s.length := by
  have := (entF_fold s #[]).1
  simpa [entF] using this
theorem entF_mem {s : List ((Int × Int) × Gp)} {e : MapEntry} (h : e ∈ (entF s).toList) : ∃ k ∈ s, e.key = .agg #[.int .i64 k.1.1, .int .i64 k.1.2] ∧ e.val = .agg (gc k.2).toArray ∧ e.born < s.length := by
  rcases (entF_fold s #[]).2 e h with h | ⟨q, hq, h1, h2, h3⟩
  · simp at h
  · exact ⟨q, hq, h1, h2, by simpa using h3⟩
theorem known_keys (p : Prn) : (p.known.map (·.1)).Nodup := by
  have h : (p.known.map (·.1)).Sublist p.comps := by
    unfold Prn.known
    generalize p.comps = l
    induction l with
    | nil => exact List.Sublist.refl _
    | cons c l ih =>
      rw [List.filterMap_cons]
      cases p.left c with
      | none => exact ih.cons c
      | some g => exact ih.cons_cons c
  exact h.nodup p.comps_nodup
theorem kn_next {p : Pr} {s : List ((Int × Int) × Gp)} {x : List Value} (hs : s <+: p.n.known) (h : s.map knV ++ [x] <+: p.knL) : ∃ k, x = knV k ∧ s ++ [k] <+: p.n.known := by
  obtain ⟨r, hr⟩ := hs
  obtain ⟨t, ht⟩ := h
  unfold Pr.knL at ht
  rw [← hr, List.map_append, List.append_assoc] at ht
  have ht := List.append_cancel_left ht
  cases r with
  | nil => simp at ht
  | cons k r =>
    simp at ht
    exact ⟨k, ht.1, r, by rw [← hr]; simp⟩
theorem kn_fresh {p : Pr} {s : List ((Int × Int) × Gp)} {k : (Int × Int) × Gp} (h : s ++ [k] <+: p.n.known) : ∀ e ∈ (entF s).toList, ∀ w, (Op.equal 79 (.agg #[.int .i64 k.1.1, .int .i64 k.1.2]) e.key).run Try.prog w = .ok false w := by
  intro e he w
  obtain ⟨q, hq, h1, _⟩ := entF_mem he
  rw [h1]
  refine (equal_comp _ _ _ _ w).trans (congrArg (fun b => Result.ok b w) ?_)
  obtain ⟨t, ht⟩ := h
  have hn := known_keys p.n
  rw [← ht, List.map_append, List.map_append] at hn
  have hn := (List.nodup_append.1 (List.nodup_append.1 hn).1).2.2 q.1 (List.mem_map.2 ⟨q, hq, rfl⟩) k.1 (by simp)
  cases hb : (k.1.1 == q.1.1 && k.1.2 == q.1.2) with
  | false => rfl
  | true =>
    simp only [Bool.and_eq_true, beq_iff_eq] at hb
    exact absurd (Prod.ext hb.1.symm hb.2.symm) hn
theorem kn_done {p : Pr} {s : List ((Int × Int) × Gp)} (hs : s <+: p.n.known) (h : p.knL = s.map knV) : s = p.n.known := by
  have hl := congrArg List.length h
  unfold Pr.knL at hl
  rw [List.length_map, List.length_map] at hl
  exact hs.eq_of_length hl.symm
theorem entF_obj (s : List ((Int × Int) × Gp)) (k : (Int × Int) × Gp) : Obj.map ((entF s).push { key := .agg #[.int .i64 k.1.1, .int .i64 k.1.2], val := .agg (gc k.2).toArray, born := s.length }) (s.length + 1) = .map (entF (s ++ [k])) (s ++ [k]).length := by
  rw [entF_next]
  unfold entK
  rw [entF_size]
  simp

/-- What truths gives. -/
def Truths (p : Pr) (w : World) (e : Ending) (w' : World) : Prop := if p.n.known = [] then Pan 10 w e w' else Nw (α := Unit) (fun _ b => .map (some b)) (fun _ => .map (entF p.n.known) p.n.known.length) (fun _ => True) w e w'
set_option maxRecDepth 100000 in
theorem truths_any (p : Pr) (w : World) (hp : p.In w) (hF : p.Fine) : Calls Try.prog 40 #[.agg #[.slice p.ba p.bs.length p.bc, .int .i64 p.zlo, .int .i64 p.zhi, .int .i64 p.rlo, .int .i64 p.rhi, .slice p.ra p.rs.length p.rc]] w (Truths p w) := by
  refine calls_run (fn := f40) (c := (f40.body).getD .skip) [.agg #[.slice p.ba p.bs.length p.bc, .int .i64 p.zlo, .int .i64 p.zhi, .int .i64 p.rlo, .int .i64 p.rhi, .slice p.ra p.rs.length p.rc]] func40 (by kernel_rfl) (fun _ => False) [] (fun _ h => by cases h) (List.Pairwise.nil) 19 (by kernel_rfl) (by simp) ?_
  refine run_auto [] 2 [] [] [0] [] (st' := ⟨[(0, .agg #[.slice p.ba p.bs.length p.bc, .int .i64 p.zlo, .int .i64 p.zhi, .int .i64 p.rlo, .int .i64 p.rhi, .slice p.ra p.rs.length p.rc])], []⟩) (acc := []) (by kernel_rfl) (by kernel_rfl) trivial ?_
  refine run_new (.cells #[.slice p.ba p.bs.length p.bc, .int .i64 p.zlo, .int .i64 p.zhi, .int .i64 p.rlo, .int .i64 p.rhi, .slice p.ra p.rs.length p.rc] 30 (0, 0)) (fun b1 => .pointer (some ⟨b1, 0, none⟩)) (some 1) (fun _ => by kernel_rfl) (fun b1 hb1 => ?_)
  refine run_auto [] 4 [] [] [1, 2] [0] (st' := ⟨[(1, .pointer (some ⟨b1, 0, none⟩)), (2, .map none)], [(b1, .cells #[.slice p.ba p.bs.length p.bc, .int .i64 p.zlo, .int .i64 p.zhi, .int .i64 p.rlo, .int .i64 p.rhi, .slice p.ra p.rs.length p.rc] 30 (0, 0))]⟩) (acc := []) (by kernel_rfl) (by kernel_rfl) trivial ?_
  refine run_new (.map #[] 0) (fun b2 => .map (some b2)) (some 6) (fun _ => by kernel_rfl) (fun b2 hb2 => ?_)
  refine run_new (.cells #[.map none] 77 (0, 0)) (fun b3 => .pointer (some ⟨b3, 0, none⟩)) (some 3) (fun _ => by kernel_rfl) (fun b3 hb3 => ?_)
  refine run_auto [] 6 [] [0, 2] [2, 3, 7] [0, 1] (st' := ⟨[(2, .map none), (3, .pointer (some ⟨b3, 0, none⟩)), (7, .agg #[.slice p.ba p.bs.length p.bc, .int .i64 p.zlo, .int .i64 p.zhi, .int .i64 p.rlo, .int .i64 p.rhi, .slice p.ra p.rs.length p.rc])], [(b3, .cells #[.map (some b2)] 77 (0, 0)), (b2, .map #[] 0)]⟩) (acc := [(.pointer (some ⟨b1, 0, none⟩), .pointer (some ⟨b1, 0, none⟩)), (.pointer (some ⟨b3, 0, none⟩), .pointer (some ⟨b3, 0, none⟩))]) (by kernel_rfl) (by kernel_rfl) ⟨rfl, rfl, trivial⟩ ?_
  refine run_nw 77 #[.agg #[.slice p.ba p.bs.length p.bc, .int .i64 p.zlo, .int .i64 p.zhi, .int .i64 p.rlo, .int .i64 p.rhi, .slice p.ra p.rs.length p.rc]] (some 8) (α := Unit) (fun _u b4 => .func (.func 97) #[] #[.pointer (some ⟨b4, 0, none⟩)]) (fun _u => .cells #[.slice p.ba p.bs.length p.bc, .int .i64 p.zlo, .int .i64 p.zhi, .int .i64 p.rlo, .int .i64 p.rhi, .slice p.ra p.rs.length p.rc] 30 (0, 0)) (fun _u => True) (by kernel_rfl) (fun _ => rfl) (fun w1 k1 h1 => possible_any p w1) (fun _u b4 hIb4 hb4 => ?_)
  refine run_auto [] 2 [] [] [2, 3, 8] [0, 1, 2] (st' := ⟨[(2, .map none), (3, .pointer (some ⟨b3, 0, none⟩)), (8, .func (.func 97) #[] #[.pointer (some ⟨b4, 0, none⟩)])], [(b4, .cells #[.slice p.ba p.bs.length p.bc, .int .i64 p.zlo, .int .i64 p.zhi, .int .i64 p.rlo, .int .i64 p.rhi, .slice p.ra p.rs.length p.rc] 30 (0, 0)), (b3, .cells #[.map (some b2)] 77 (0, 0)), (b2, .map #[] 0)]⟩) (acc := []) (by kernel_rfl) (by kernel_rfl) trivial ?_
  refine run_auto [] 0 [] [] [2, 3, 8] [0, 1, 2] (st' := ⟨[(2, .map none), (3, .pointer (some ⟨b3, 0, none⟩)), (8, .func (.func 97) #[] #[.pointer (some ⟨b4, 0, none⟩)])], [(b4, .cells #[.slice p.ba p.bs.length p.bc, .int .i64 p.zlo, .int .i64 p.zhi, .int .i64 p.rlo, .int .i64 p.rhi, .slice p.ra p.rs.length p.rc] 30 (0, 0)), (b3, .cells #[.map (some b2)] 77 (0, 0)), (b2, .map #[] 0)]⟩) (acc := []) (by kernel_rfl) (by kernel_rfl) trivial ?_
  refine run_range (σ := List ((Int × Int) × Gp)) (τ := Unit) 97 #[.pointer (some ⟨b4, 0, none⟩)] [9, 10] [(b4, .cells #[.slice p.ba p.bs.length p.bc, .int .i64 p.zlo, .int .i64 p.zhi, .int .i64 p.rlo, .int .i64 p.rhi, .slice p.ra p.rs.length p.rc] 30 (0, 0))] [(b3, .cells #[.map (some b2)] 77 (0, 0)), (b2, .map #[] 0)] p.InD (fun l => l <+: p.knL) (fun l => l = p.knL) (by kernel_rfl) rfl rfl (fun l => by kernel_rfl) rfl (by kernel_rfl) (fun pre x hx => by obtain ⟨c, g, rfl, _⟩ := kn_in (x := x) (List.IsPrefix.subset hx (by simp)); rfl) (possible_give p hF b4) (fun D w1 k1 hD => (Pr.In.inD hp (fun b hb h => hD b hb h)).kept k1 (fun _ h => h))
    (fun s => [(b3, .cells #[.map (some b2)] 77 (0, 0)), (b2, .map (entF s) s.length)]) (fun s => Ext.none) (fun pre s => s <+: p.n.known ∧ pre = s.map knV) (fun y => []) (fun y => Ext.none) (fun c y => False) ([]) (⟨List.nil_prefix, rfl⟩) rfl rfl (fun _ _ _ => ⟨rfl, fun _ _ h => h.elim⟩) (fun _ _ _ => rfl)
    (fun pre x s hpre hI l0 ms ro ob w0 Jb Jn Je hkk hll hbeg hnext hexit => ?_) (fun ys s hys hI => ?_) (fun c y hI => ?_)
  · skip
    have hpre : pre ++ [x] <+: p.knL := hpre
    obtain ⟨hs, rfl⟩ := hI
    obtain ⟨k, rfl, hk⟩ := kn_next hs hpre
    refine run_auto [] 2 [] [] [2, 3, 9, 10] [0, 1] (st' := ⟨[(2, .map none), (3, .pointer (some ⟨b3, 0, none⟩)), (9, .agg #[.int .i64 k.1.1, .int .i64 k.1.2]), (10, .agg (gc k.2).toArray)], [(b3, .cells #[.map (some b2)] 77 (0, 0)), (b2, .map (entF s) s.length)]⟩) (acc := []) (by kernel_rfl) (by kernel_rfl) trivial ?_
    refine run_new (.cells #[.int .i64 0, .int .i64 0] 79 (0, 0)) (fun b5 => .pointer (some ⟨b5, 0, none⟩)) (some 4) (fun _ => by kernel_rfl) (fun b5 hb5 => ?_)
    refine run_auto [] 3 [] [0] [2, 3, 10, 4] [0, 1, 2] (st' := ⟨[(2, .map none), (3, .pointer (some ⟨b3, 0, none⟩)), (10, .agg (gc k.2).toArray), (4, .pointer (some ⟨b5, 0, none⟩))], [(b5, .cells #[.int .i64 k.1.1, .int .i64 k.1.2] 79 (0, 0)), (b3, .cells #[.map (some b2)] 77 (0, 0)), (b2, .map (entF s) s.length)]⟩) (acc := [(.pointer (some ⟨b5, 0, none⟩), .pointer (some ⟨b5, 0, none⟩))]) (by kernel_rfl) (by kernel_rfl) ⟨rfl, trivial⟩ ?_
    refine run_new (.cells #[.int .i64 0, .int .i64 0, .int .i64 0, .int .i64 0, .int .i64 0, .int .i64 0, .int .i64 0, .int .i64 0, .int .i64 0, .int .i64 0, .int .i64 0, .int .i64 0, .int .i64 0, .int .i64 0, .int .i64 0, .int .i64 0, .int .i64 0, .int .i64 0, .int .i64 0, .int .i64 0, .int .i64 0, .int .i64 0, .int .i64 0, .int .i64 0, .int .i64 0, .int .i64 0, .int .i64 0, .int .i64 0, .int .i64 0, .int .i64 0, .int .i64 0, .int .i64 0, .int .i64 0, .int .i64 0, .int .i64 0, .int .i64 0] 70 (0, 0)) (fun b6 => .pointer (some ⟨b6, 0, none⟩)) (some 5) (fun _ => by kernel_rfl) (fun b6 hb6 => ?_)
    refine run_auto [] 2 [] [0] [2, 3, 4, 5] [0, 1, 2, 3] (st' := ⟨[(2, .map none), (3, .pointer (some ⟨b3, 0, none⟩)), (4, .pointer (some ⟨b5, 0, none⟩)), (5, .pointer (some ⟨b6, 0, none⟩))], [(b6, .cells (gc k.2).toArray 70 (0, 0)), (b5, .cells #[.int .i64 k.1.1, .int .i64 k.1.2] 79 (0, 0)), (b3, .cells #[.map (some b2)] 77 (0, 0)), (b2, .map (entF s) s.length)]⟩) (acc := [(.pointer (some ⟨b6, 0, none⟩), .pointer (some ⟨b6, 0, none⟩))]) (by kernel_rfl) (by kernel_rfl) ⟨rfl, trivial⟩ ?_
    refine run_round rfl (hbeg _ ?_)
    refine run_auto [] 5 [] [2, 1, 0] [2, 11, 12, 13] [2, 3] (st' := ⟨[(2, .map none), (11, .map (some b2)), (12, .agg #[.int .i64 k.1.1, .int .i64 k.1.2]), (13, .agg (gc k.2).toArray)], [(b3, .cells #[.map (some b2)] 77 (0, 0)), (b2, .map (entF s) s.length)]⟩) (acc := [(.pointer (some ⟨b6, 0, none⟩), .pointer (some ⟨b6, 0, none⟩)), (.pointer (some ⟨b5, 0, none⟩), .pointer (some ⟨b5, 0, none⟩)), (.pointer (some ⟨b3, 0, none⟩), .pointer (some ⟨b3, 0, none⟩))]) (by kernel_rfl) (by kernel_rfl) ⟨rfl, rfl, rfl, trivial⟩ ?_
    refine run_mapNew 1 b2 77 79 70 (entF s) (s.length) (.agg #[.int .i64 k.1.1, .int .i64 k.1.2]) (.agg (gc k.2).toArray) (by kernel_rfl) (by kernel_rfl) (by kernel_rfl) (by kernel_rfl) (fun w => by kernel_rfl) (kn_fresh hk) ?_
    refine run_auto [] 2 [] [] [] [0, 1] (st' := ⟨[], [(b3, .cells #[.map (some b2)] 77 (0, 0)), (b2, .map ((entF s).push { key := .agg #[.int .i64 k.1.1, .int .i64 k.1.2], val := .agg (gc k.2).toArray, born := s.length }) (s.length + 1))]⟩) (acc := []) (by kernel_rfl) (by kernel_rfl) trivial ?_
    rw [entF_obj s k]
    exact run_nil rfl (fun a w1 g => hnext (s ++ [k]) _ ⟨hk, by rw [List.map_append]; rfl⟩ (fun b h => h.elim) a w1 g)
  · skip
    obtain rfl : ys = p.knL := hys
    obtain ⟨hs, hs2⟩ := hI
    have hs := kn_done hs hs2
    clear hs2
    subst hs
    refine run_auto [] 5 [] [0] [2, 3, 14] [0, 1] (st' := ⟨[(2, .map none), (3, .pointer (some ⟨b3, 0, none⟩)), (14, .map (some b2))], [(b3, .cells #[.map (some b2)] 77 (0, 0)), (b2, .map (entF p.n.known) p.n.known.length)]⟩) (acc := [(.pointer (some ⟨b3, 0, none⟩), .pointer (some ⟨b3, 0, none⟩))]) (by kernel_rfl) (by kernel_rfl) ⟨rfl, trivial⟩ ?_
    refine run_v (Builtin.len_ #[77] 3 #[.map (some b2)] >>= fun v => pure (Next.value v)) (some 15) (.int .i64 ((entF p.n.known).size : Int)) (by kernel_rfl) (fun w1 k1 h1 => len_map (kt := 79) (et := 70) (by kernel_rfl) (h1 (b2, .map (entF p.n.known) p.n.known.length) (List.mem_of_getElem? (i := 1) (by kernel_rfl)))) ?_
    cases hd1 : (((entF p.n.known).size : Int) == 0) with
    | false =>
      have hp1 : ¬ ((entF p.n.known).size : Int) = 0 := by simpa using hd1
      refine run_auto [(16, .bool false)] 9 [false] [0] [2] [1] (st' := ⟨[(2, .map (some b2))], [(b2, .map (entF p.n.known) p.n.known.length)]⟩) (acc := [(.pointer (some ⟨b3, 0, none⟩), .pointer (some ⟨b3, 0, none⟩)), (.bool false, .bool false), (.bool (((entF p.n.known).size : Int) == 0), .bool false)]) (by kernel_rfl) (by kernel_rfl) ⟨rfl, rfl, (bo hd1), trivial⟩ ?_
      refine run_end (fn := f40) rfl (Nat.le_refl _) (by kernel_rfl) [] [.map (some b2)] (e := []) (by kernel_rfl) trivial (fun w1 k1 h1 => ?_)
      unfold Truths
      rw [if_neg (by intro h; rw [h] at hp1; exact hp1 rfl)]
      exact ⟨(), b2, trivial, hb2, rfl, k1.keeps (fun _ h => h), h1 (b2, _) (List.mem_of_getElem? (i := 0) rfl)⟩
    | true =>
      have hp1 : ((entF p.n.known).size : Int) = 0 := by simpa using hd1
      refine run_auto [(16, .bool true)] 5 [true] [] [2, 3, 17] [0, 1] (st' := ⟨[(2, .map none), (3, .pointer (some ⟨b3, 0, none⟩)), (17, .iface 24 (.int .i64 10))], [(b3, .cells #[.map (some b2)] 77 (0, 0)), (b2, .map (entF p.n.known) p.n.known.length)]⟩) (acc := [(.bool true, .bool true), (.bool (((entF p.n.known).size : Int) == 0), .bool true)]) (by kernel_rfl) (by kernel_rfl) ⟨rfl, (bo hd1), trivial⟩ ?_
      have hnil : p.n.known = [] := List.length_eq_zero_iff.1 (by have := entF_size p.n.known; omega)
      exact run_panic rfl (Nat.le_refl _) (Instr.panic (.iface 24 (.int .i64 10)) >>= fun v => pure (Next.value v)) none (.iface 24 (.int .i64 10)) (by kernel_rfl) (fun w => by kernel_rfl) (fun w1 k1 h1 => (by unfold Truths; rw [if_pos hnil]; exact ⟨rfl, k1.keeps (fun _ h => h)⟩))
  · skip
    exact hI.elim

end Go.Proofs.Ytmiobcnccbfknaa
