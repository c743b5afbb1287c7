/-
  ENGINE, seventeenth part: maps.
-/
import Derived.Test.YtmiobcnccbfknaaXG
import Derived.Maps.RangeRun
namespace Go.Proofs.Ytmiobcnccbfknaa
open Go.RowKit Go.ChangeMaps

theorem setBlock_other {w : World} {b k : Nat} {o : Obj} (h : k ≠ b) : (setBlock w b o).heap[k]? = w.heap[k]? := by
  unfold setBlock
  exact Array.getElem?_setIfInBounds_ne (Ne.symm h)
theorem setBlock_same {w : World} {b : Nat} {o : Obj} (h : b < w.heap.size) : (setBlock w b o).heap[b]? = some o := by
  unfold setBlock
  simp [h]
theorem setBlock_size {w : World} {b : Nat} {o : Obj} : (setBlock w b o).heap.size = w.heap.size := by simp [setBlock]
theorem Kept.setBlock {M : Nat → Prop} {B w : World} (h : Kept M B w) {b : Nat} {o : Obj} (hb : b < B.heap.size → M b) : Kept M B (setBlock w b o) :=
  ⟨h.os, h.tape, h.output, by rw [setBlock_size]; exact h.size, fun k hk hn => by
    have hne : k ≠ b := fun e => by subst e; exact hn (hb hk)
    exact (setBlock_other hne).trans (h.block k hk hn)⟩
/-- A block of the call's own turns. -/
theorem G.setBlock {X : Cx} {st : St} {a : Act} {w : World} (h : G X st a w) {j b : Nat} {o : Obj} (hj : st.hp[j]? = some (b, o)) (o' : Obj) (hd : isDef o' = false) : G X ⟨st.sl, st.hp.set j (b, o')⟩ a (setBlock w b o') := by
  have hb := h.hp _ (List.mem_of_getElem? hj)
  have hbd := h.nd _ (List.mem_of_getElem? hj)
  have hlt : b < w.heap.size := (Array.getElem?_eq_some_iff.1 hb.1).1
  refine ⟨h.df.turn fun D hD => setBlock_other (fun e => by subst e; rw [hb.1] at hD; injection hD with hD; subst hD; cases hbd), h.sz, h.sl, fun p hp => ?_, pairwise_set h.ne hj, fun p hp => ?_, h.kp.setBlock hb.2, ?_⟩
  rotate_left
  · rcases List.mem_or_eq_of_mem_set hp with hp | rfl
    · exact h.nd p hp
    · exact hd
  · refine ⟨X.E.stab _ _ h.ex.J ((Kept.refl _ w).setBlock fun _ => h.ex.hp _ (List.mem_of_getElem? hj)), fun p hp => ?_, by rw [setBlock_size]; exact h.ex.n0⟩
    rcases List.mem_or_eq_of_mem_set hp with hp | rfl
    · exact h.ex.hp p hp
    · exact h.ex.hp (b, o) (List.mem_of_getElem? hj)
  obtain ⟨i, hi⟩ := List.mem_iff_getElem?.1 hp
  rw [List.getElem?_set] at hi
  split at hi
  · rename_i e
    split at hi
    · injection hi with hi
      subst hi
      exact ⟨setBlock_same hlt, hb.2⟩
    · cases hi
  · rename_i hne
    have hpp := h.hp p (List.mem_of_getElem? hi)
    exact ⟨(setBlock_other (pairwise_ne h.ne hi hj (Ne.symm hne))).trans hpp.1, hpp.2⟩
section
variable {P : Program}
theorem findAsking_none {kt : TypeId} {key : Value} {w : World} : ∀ (l : List MapEntry) (i : Nat), (∀ e ∈ l, (Op.equal kt key e.key).run P w = .ok false w) → (Instr.findAsking kt key l i).run P w = .ok none w
  | [], _, _ => rfl
  | e :: l, i, h => by
    have h1 := h e List.mem_cons_self
    have h2 := findAsking_none l (i + 1) fun e he => h e (List.mem_cons_of_mem _ he)
    unfold Instr.findAsking
    simp only [Sem.run_bind, h1, Result.andThen, Bool.false_eq_true, if_false]
    exact h2
theorem findKey_none {kt : TypeId} {key : Value} {w : World} {fs : Array Field} {l : List MapEntry} (hk : P.underlying kt = some (.struct fs)) (h : ∀ e ∈ l, (Op.equal kt key e.key).run P w = .ok false w) : (Instr.findKey kt key l).run P w = .ok none w := by
  have hu : (Go.underlying kt).run P w = .ok (.struct fs) w := by simp [Go.underlying, program, hk, Sem.run, bind, Sem.bind, pure]
  unfold Instr.findKey
  simp only [Sem.run_bind, hu, Result.andThen]
  cases l with
  | nil => rfl
  | cons e l =>
    have : Instr.findNow (.struct fs) key (e :: l) 0 = none := rfl
    rw [this]
    exact findAsking_none _ _ h
theorem run_mapFresh {w : World} {t kt et : TypeId} {fs : Array Field} {b clock : Nat} {es : Array MapEntry} {key val : Value} (ht : P.underlying t = some (.map kt et)) (hk : P.underlying kt = some (.struct fs)) (hb : w.heap[b]? = some (.map es clock)) (hck : (Instr.checkKey false 10000 kt key).run P w = .ok () w) (hne : ∀ e ∈ es.toList, (Op.equal kt key e.key).run P w = .ok false w) :
    (Instr.mapUpdate t (.map (some b)) key val).run P w = .ok () (setBlock w b (.map (es.push { key, val, born := clock }) (clock + 1))) := by
  have hu : (Go.underlying t).run P w = .ok (.map kt et) w := by simp [Go.underlying, program, ht, Sem.run, bind, Sem.bind, pure]
  have hg : (getObj b).run P w = .ok (.map es clock) w := by simp [getObj, Sem.run, hb]
  have hf := findKey_none (P := P) (l := es.toList) hk hne
  have hs : ∀ o, (setObj b o).run P w = .ok () (setBlock w b o) := fun o => by simp [setObj, Sem.run, hb, setBlock]
  unfold Instr.mapUpdate
  simp only [Sem.run_bind, hu, hg, hck, hf, hs, Result.andThen]
end
def isStructT (P : Program) (t : TypeId) : Bool := match P.underlying t with
  | some (.struct _) => true
  | _ => false
theorem isStructT_is {P : Program} {t : TypeId} (h : isStructT P t = true) : ∃ fs, P.underlying t = some (.struct fs) := by
  unfold isStructT at h
  split at h
  · rename_i fs hu
    exact ⟨fs, hu⟩
  · cases h
/-- A new key's entry, in a map of the call's own. -/
theorem run_mapNew {X : Cx} {k : List KI} {st : St} (j b : Nat) (t kt et : TypeId) (es : Array MapEntry) (clock : Nat) (key val : Value) (h : headSem X.N k st = some ((do Instr.mapUpdate t (.map (some b)) key val; pure .skip), none)) (ht : X.P.underlying t = some (.map kt et)) (hk : isStructT X.P kt = true) (hj : st.hp[j]? = some (b, .map es clock)) (hck : ∀ w, (Instr.checkKey false 10000 kt key).run X.P w = .ok () w) (hne : ∀ e ∈ es.toList, ∀ w, (Op.equal kt key e.key).run X.P w = .ok false w)
    (hr : Run X (nextK k) ⟨st.sl, st.hp.set j (b, .map (es.push { key, val, born := clock }) (clock + 1))⟩) : Run X k st := by
  intro a w g
  refine head_at h g ?_
  obtain ⟨fs, hk⟩ := isStructT_is hk
  have hb := (g.hp _ (List.mem_of_getElem? hj)).1
  have hrun := run_mapFresh (val := val) ht hk hb (hck w) (fun e he => hne e he w)
  simp only [Sem.run_bind, hrun, Result.andThen, Sem.run_pure]
  exact hr _ _ (g.setBlock hj _ rfl)
/-- How many entries a map has. -/
theorem len_map {P : Program} {w : World} {t kt et ty : TypeId} {b clock : Nat} {es : Array MapEntry} (ht : P.underlying t = some (.map kt et)) (hb : w.heap[b]? = some (.map es clock)) : (Builtin.len_ #[t] ty #[.map (some b)] >>= fun v => pure (Next.value v)).run P w = .ok (.value (.int .i64 (es.size : Int))) w := by
  have hu : (Go.underlying t).run P w = .ok (.map kt et) w := by simp [Go.underlying, program, ht, Sem.run, bind, Sem.bind, pure]
  have hg : (getObj b).run P w = .ok (.map es clock) w := by simp [getObj, Sem.run, hb]
  simp [Builtin.len_, hu, hg, Result.andThen, goInt]
/-- A loop over a map begins. -/
theorem run_rangeMap {X : Cx} {k : List KI} {st : St} (d : Option Tmp) (t kt et : TypeId) (bm : Nat) (es : Array MapEntry) (clock : Nat) (h : headSem X.N k st = some ((Instr.range t (.map (some bm)) >>= fun v => pure (Next.value v)), d)) (ht : X.P.underlying t = some (.map kt et)) (hb : ∀ w, Kept X.M X.B w → Hp st.hp w → w.heap[bm]? = some (.map es clock))
    (hr : ∀ r, X.B.heap.size ≤ r → Run X (nextK k) ((⟨st.sl, (r, .mapIter (some bm) clock #[] clock) :: st.hp⟩ : St).put d (.pointer (some ⟨r, 0, none⟩)))) : Run X k st := by
  intro a w g
  refine head_at h g ?_
  have hrun := run_range_map (P := X.P) w t kt et bm es clock ht (hb w g.kp g.Hp)
  simp only [Sem.run_bind, hrun, Result.andThen, Sem.run_pure]
  exact hr _ g.kp.size _ _ ((g.alloc _ rfl).put (headSem_dst h) _)
/-- The next entry: any one that was not yet. -/
theorem run_nextMap {X : Cx} {k : List KI} {st : St} (d : Option Tmp) (j r bm since c0 : Nat) (seen : Array Nat) (es : Array MapEntry) (clock : Nat) (ty : TypeId) (h : headSem X.N k st = some ((Instr.next (.pointer (some ⟨r, 0, none⟩)) false ty >>= fun v => pure (Next.value v)), d)) (hj : st.hp[j]? = some (r, .mapIter (some bm) since seen c0)) (hb : ∀ w, Kept X.M X.B w → Hp st.hp w → w.heap[bm]? = some (.map es clock)) (hold : ∀ x ∈ es.toList, x.born < since) (hsc : since ≤ c0)
    (h0 : (leftOf es seen).size = 0 → Run X (nextK k) (st.put d (.tuple #[.bool false])))
    (h1 : ∀ e ∈ (leftOf es seen).toList, Run X (nextK k) ((⟨st.sl, st.hp.set j (r, .mapIter (some bm) since (seen.push e.born) clock)⟩ : St).put d (.tuple #[.bool true, e.key, e.val]))) : Run X k st := by
  intro a w g
  refine head_at h g ?_
  have hrr := (g.hp _ (List.mem_of_getElem? hj)).1
  rcases run_next_at (P := X.P) w ty r bm since c0 seen es clock hrr (hb w g.kp g.Hp) hold hsc with ⟨h2, hrun⟩ | ⟨e, he, w1, hw1, hrun⟩
  · simp only [Sem.run_bind, hrun, Result.andThen, Sem.run_pure]
    exact h0 h2 _ _ (g.put (headSem_dst h) _)
  · simp only [Sem.run_bind, hrun, Result.andThen, Sem.run_pure]
    have g1 : G X st a w1 := by
      rcases hw1 with rfl | rfl
      · exact g
      · exact g.world (Keeps.refl w).drew
    exact h1 e he _ _ ((g1.setBlock hj _ rfl).put (headSem_dst h) _)
theorem entry_run {P : Program} {w : World} {r bm since : Nat} {seen : Array Nat} {es : Array MapEntry} {clock : Nat} {e : MapEntry} {key val : Value} (hr : w.heap[r]? = some (.mapIter (some bm) since (seen.push e.born) clock)) (hb : w.heap[bm]? = some (.map es clock)) (he : e ∈ es.toList) (hn : (es.toList.map (·.born)).Nodup) (hk : e.key = key) (hv : e.val = val) :
    (Instr.entry (.pointer (some ⟨r, 0, none⟩)) >>= fun v => pure (Next.value v)).run P w = .ok (.value (.tuple #[key, val])) w := by
  subst hk hv
  have h := run_entry_at (P := P) w r bm since seen es clock e hr hb he hn
  simp only [Sem.run_bind, h, Result.andThen, Sem.run_pure]
def bornsL (l : List MapEntry) : Array Nat := (l.map (·.born)).toArray
theorem bornsL_push (l : List MapEntry) (e : MapEntry) : (bornsL l).push e.born = bornsL (l ++ [e]) := by simp [bornsL]
theorem left_perm (e : MapEntry) : ∀ (L : List MapEntry), (L.map (·.born)).Nodup → e ∈ L → L.Perm (e :: L.filter fun x => !(x.born == e.born))
  | [], _, h => by cases h
  | x :: L, hn, h => by
    rw [List.map_cons, List.nodup_cons] at hn
    by_cases hx : x.born = e.born
    · have he : x = e := by
        rcases List.mem_cons.1 h with h | h
        · exact h.symm
        · exact absurd (List.mem_map.2 ⟨e, h, hx.symm⟩) hn.1
      subst he
      have hf : (x :: L).filter (fun y => !(y.born == x.born)) = L := by
        rw [List.filter_cons]
        simp only [beq_self_eq_true, Bool.not_true, Bool.false_eq_true, if_false]
        exact List.filter_eq_self.2 fun y hy => by
          have : y.born ≠ x.born := fun e => hn.1 (List.mem_map.2 ⟨y, hy, e⟩)
          simpa using this
      rw [hf]
    · have hL : e ∈ L := (List.mem_cons.1 h).resolve_left fun h => hx (by rw [h])
      have hf : (x :: L).filter (fun y => !(y.born == e.born)) = x :: L.filter fun y => !(y.born == e.born) := by
        rw [List.filter_cons]
        have : (!(x.born == e.born)) = true := by simpa using hx
        rw [this]
        rfl
      rw [hf]
      exact ((left_perm e L hn.2 hL).cons x).trans (List.Perm.swap e x _)
/-- These entries of a map have been gone through. -/
def MapIn (es : Array MapEntry) (l : List MapEntry) : Prop := (l ++ (leftOf es (bornsL l)).toList).Perm es.toList
theorem MapIn.start (es : Array MapEntry) : MapIn es [] := by
  unfold MapIn leftOf bornsL
  have : es.toList.filter (fun _ => true) = es.toList := List.filter_eq_self.2 fun _ _ => rfl
  simp [this]
theorem MapIn.next {es : Array MapEntry} (hn : (es.toList.map (·.born)).Nodup) {l : List MapEntry} (h : MapIn es l) {e : MapEntry} (he : e ∈ (leftOf es (bornsL l)).toList) : MapIn es (l ++ [e]) := by
  unfold MapIn at h ⊢
  refine List.Perm.trans ?_ h
  rw [List.append_assoc]
  refine List.Perm.append_left l ?_
  have hs : ((leftOf es (bornsL l)).toList.map (·.born)).Nodup := by
    unfold leftOf
    rw [Array.toList_filter]
    exact (List.Sublist.map _ List.filter_sublist).nodup hn
  have h2 := left_perm e _ hs he
  refine List.Perm.trans ?_ h2.symm
  have e2 : (leftOf es (bornsL (l ++ [e]))).toList = (leftOf es (bornsL l)).toList.filter fun x => !(x.born == e.born) := by
    unfold leftOf
    rw [Array.toList_filter, Array.toList_filter, List.filter_filter]
    apply List.filter_congr
    intro x _
    rw [← bornsL_push, contains_push]
    cases (bornsL l).contains x.born <;> cases (x.born == e.born) <;> rfl
  rw [e2]
  rfl
theorem MapIn.done {es : Array MapEntry} {l : List MapEntry} (h : MapIn es l) (h0 : (leftOf es (bornsL l)).size = 0) : l.Perm es.toList := by
  unfold MapIn at h
  have : (leftOf es (bornsL l)).toList = [] := by
    rw [← Array.length_toList] at h0
    exact List.length_eq_zero_iff.1 h0
  rwa [this, List.append_nil] at h
theorem MapIn.mem {es : Array MapEntry} {l : List MapEntry} {e : MapEntry} (he : e ∈ (leftOf es (bornsL l)).toList) : e ∈ es.toList := (mem_left he).1
theorem MapIn.less {es : Array MapEntry} {l : List MapEntry} {e : MapEntry} (he : e ∈ (leftOf es (bornsL l)).toList) : (leftOf es (bornsL (l ++ [e]))).size < (leftOf es (bornsL l)).size := by
  rw [← bornsL_push]
  exact left_shrinks es (bornsL l) e he
end Go.Proofs.Ytmiobcnccbfknaa
