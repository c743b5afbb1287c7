/-
  ENGINE, third part: rules.
-/
import Derived.Test.YtmiobcnccbfknaaX2
namespace Go.Proofs.Ytmiobcnccbfknaa
open Go.RowKit

/-- Where an exit leads. -/
def exitK (id : Nat) : List KI → Option (List KI)
  | [] => none
  | .blk i :: k => bif id == i then some k else exitK id k
  | _ :: k => exitK id k
theorem exitK_ok {X : Cx} {id : Nat} {a : Act} {w : World} : ∀ {k k' : List KI}, exitK id k = some k' → wpK X k' .normal a w → wpK X k (.exit id) a w
  | [], _, h, _ => by cases h
  | .blk i :: k, k', h, hk => by
    have h : (bif id == i then some k else exitK id k) = some k' := h
    show (if id = i then wpK X k .normal a w else wpK X k (.exit id) a w)
    by_cases e : id = i
    · subst e
      simp at h
      subst h
      rw [if_pos rfl]
      exact hk
    · rw [if_neg e]
      have : (id == i) = false := by simpa using e
      rw [this] at h
      exact exitK_ok (k := k) h hk
  | .code _ :: k, k', h, hk => exitK_ok (k := k) h hk
  | .ops _ _ :: k, k', h, hk => exitK_ok (k := k) h hk
  | .lp _ :: k, k', h, hk => exitK_ok (k := k) h hk
/-- One step that looks at no value. -/
def nx : List KI → Option (List KI)
  | .code (.seq x y) :: k => some (.code x :: .code y :: k)
  | .code .skip :: k => some k
  | .code (.label _) :: k => some k
  | .code (.block id c) :: k => some (.code c :: .blk id :: k)
  | .code (.region _ ops false) :: k => some (.ops ops (List.range ops.size) :: k)
  | .ops _ [] :: k => some k
  | .blk _ :: k => some k
  | .code (.exit id) :: k => exitK id k
  | _ => none
theorem nx_ok {X : Cx} {st : St} {k k' : List KI} (h : nx k = some k') (hk : Run X k' st) : Run X k st := by
  intro a w g
  have hk := hk a w g
  unfold nx at h
  split at h
  · injection h with h
    subst h
    exact wpIn_seq hk
  · injection h with h
    subst h
    exact wpIn_skip hk
  · injection h with h
    subst h
    exact wpIn_label hk
  · injection h with h
    subst h
    exact wpIn_block hk
  · injection h with h
    subst h
    exact wpIn_region hk
  · injection h with h
    subst h
    exact hk
  · injection h with h
    subst h
    exact hk
  · exact wpIn_exit (exitK_ok h hk)
  · cases h

/-- How far: 'true', 'false': a condition's way. -/
def adv : Nat → List Bool → List KI → List KI
  | 0, _, k => k
  | n + 1, ds, k =>
    match nx k with
    | some k' => adv n ds k'
    | none =>
      match k, ds with
      | .code (.cond _ x y) :: k', d :: ds' => adv n ds' (.code (bif d then x else y) :: k')
      | .ops ops (_ :: l) :: k', ds => adv n ds (.ops ops l :: k')
      | k, _ => k
/-- What an operation does that needs no new block and no call: the slot's value, the blocks; what must be so. hs: at which place of the list the block lies that it reads or writes. -/
def doOp (P : Program) (ov : List (Nat × Value)) (hs : List Nat) (ops : Array Oper) (o : Oper) (st : St) : Option (St × List Nat × List (Value × Value)) :=
  match wantedS ops st o with
  | some false => some (st.put o.dst undef, hs, [])
  | some true =>
    bif opOk st o then
      match o.op, hs with
      | .load t x, j :: hs' =>
        match st.ev x, st.hp[j]? with
        | .pointer (some ⟨b, off, none⟩), some (b', .cells c _ _) =>
          match loadV P t c.toList off with
          | some v => match o.dst.bind (look ov) with
            | some v' => some (st.put o.dst v', hs', [(v, v'), (.pointer (some ⟨b, 0, none⟩), .pointer (some ⟨b', 0, none⟩))])
            | none => some (st.put o.dst v, hs', [(.pointer (some ⟨b, 0, none⟩), .pointer (some ⟨b', 0, none⟩))])
          | none => none
        | _, _ => none
      | .store t x y, j :: hs' =>
        match st.ev x, st.hp[j]? with
        | .pointer (some ⟨b, off, none⟩), some (b', .cells c e (0, 0)) =>
          match storeV P t c.toList off (st.ev y) with
          | some c' => some ((⟨st.sl, st.hp.set j (b', .cells c'.toArray e (0, 0))⟩ : St).put o.dst undef, hs', [(.pointer (some ⟨b, 0, none⟩), .pointer (some ⟨b', 0, none⟩))])
          | none => none
        | _, _ => none
      | _, _ =>
        match qrun P (execOp st.ev o) with
        | some (.value v) => match o.dst.bind (look ov) with
          | some v' => some (st.put o.dst v', hs, [(v, v')])
          | none => some (st.put o.dst v, hs, [])
        | some .skip => some (st.put o.dst undef, hs, [])
        | _ => none
    else none
  | none => none
def EqAll : List (Value × Value) → Prop
  | [] => True
  | (a, b) :: l => a = b ∧ EqAll l
theorem EqAll.append {l l' : List (Value × Value)} : EqAll (l ++ l') ↔ EqAll l ∧ EqAll l' := by
  induction l with
  | nil => simp [EqAll]
  | cons p l ih => obtain ⟨a, b⟩ := p; simp [EqAll, ih, and_assoc]

def auto (P : Program) (N : Nat) (ov : List (Nat × Value)) : Nat → List Bool → List Nat → List KI → St → List (Value × Value) → Option (St × List (Value × Value))
  | 0, _, _, _, st, acc => some (st, acc)
  | n + 1, ds, hs, k, st, acc =>
    match nx k with
    | some k' => auto P N ov n ds hs k' st acc
    | none =>
      match k, ds with
      | .code (.cond c x y) :: k', d :: ds' =>
        bif (match c with | .tmp t => (look st.sl t).isSome | _ => true) then auto P N ov n ds' hs (.code (bif d then x else y) :: k') st ((st.ev c, .bool d) :: acc) else none
      | .ops ops (i :: l) :: k', ds =>
        match ops[i]? with
        | none => none
        | some o => bif dstOk N o.dst then
            match doOp P ov hs ops o st with
            | some (st', hs', e) => auto P N ov n ds hs' (.ops ops l :: k') st' (e ++ acc)
            | none => none
          else none
      | _, _ => none

theorem value_ptr {b b' : Nat} (h : Value.pointer (some ⟨b, 0, none⟩) = .pointer (some ⟨b', 0, none⟩)) : b = b' := by
  injection h with h
  injection h with h
  injection h

theorem wpK_panic {X : Cx} {c : List PanicEntry} : ∀ (k : List KI), wpK X k (.panic c) = X.Q (.panic c)
  | [] => rfl
  | .code _ :: k => wpK_panic k
  | .ops _ _ :: k => wpK_panic k
  | .blk _ :: k => wpK_panic k
  | .lp _ :: k => wpK_panic k
/-- One operation, and on. -/
theorem ops_at {X : Cx} {ops : Array Oper} {i : Nat} {l : List Nat} {k : List KI} {o : Oper} (ho : ops[i]? = some o) {st : St} (hw : wantedS ops st o = some true) (hok : opOk st o = true) {a : Act} {w : World} (g : G X st a w)
    (h : OpR X.P st.ev o w (fun v w' => wpK X (.ops ops l :: k) .normal (a.put o.dst v) w') (fun c w' => X.Q (.panic c) a w')) : wpK X (.ops ops (i :: l) :: k) .normal a w := by
  show wpOpsIn X.F X.n X.P ops (wpK X k) (i :: l) a w
  rw [wpOpsIn_cons]
  unfold wpOpIn
  rw [ho]
  dsimp only
  rw [g.wanted hw]
  refine OpR.wpIn (opOk_spec hok).2.1 ?_
  simp only [wpK_panic]
  unfold OpR at h ⊢
  rw [g.exec hok]
  exact h
theorem ops_cons {X : Cx} {ops : Array Oper} {i : Nat} {l : List Nat} {k : List KI} {o : Oper} (ho : ops[i]? = some o) {st : St} {t : Bool} (hw : wantedS ops st o = some t) (h1 : t = false → Run X (.ops ops l :: k) (st.put o.dst undef) ∧ dstOk X.N o.dst = true)
    (h2 : t = true → opOk st o = true ∧ ∀ a w, G X st a w → OpR X.P st.ev o w (fun v w' => wpK X (.ops ops l :: k) .normal (a.put o.dst v) w') (fun c w' => X.Q (.panic c) a w')) : Run X (.ops ops (i :: l) :: k) st := by
  intro a w g
  cases t with
  | false =>
    show wpOpsIn X.F X.n X.P ops (wpK X k) (i :: l) a w
    rw [wpOpsIn_cons]
    unfold wpOpIn
    rw [ho]
    dsimp only
    rw [g.wanted hw]
    obtain ⟨h3, h4⟩ := h1 rfl
    exact ⟨fun f _ => trivial, h3 _ _ (g.put h4 _)⟩
  | true =>
    obtain ⟨h3, h4⟩ := h2 rfl
    exact ops_at ho hw h3 g (h4 a w g)

theorem execOp_load {ρ : Operand → Value} {o : Oper} {t : TypeId} {x : Operand} (h : o.op = .load t x) : execOp ρ o = (do pure (.value (← Instr.loadAt t (ρ x)))) := by
  unfold execOp
  rw [h]
theorem execOp_store {ρ : Operand → Value} {o : Oper} {t : TypeId} {x y : Operand} (h : o.op = .store t x y) : execOp ρ o = (do Instr.storeAt t (ρ x) (ρ y); pure .skip) := by
  unfold execOp
  rw [h]

theorem do_ok {X : Cx} {ov : List (Nat × Value)} {hs hs' : List Nat} {ops : Array Oper} {i : Nat} {o : Oper} {l : List Nat} {k : List KI} {st st' : St} {e : List (Value × Value)} (ho : ops[i]? = some o) (hd : dstOk X.N o.dst = true)
    (h : doOp X.P ov hs ops o st = some (st', hs', e)) (he : EqAll e) (hk : Run X (.ops ops l :: k) st') : Run X (.ops ops (i :: l) :: k) st := by
  unfold doOp at h
  cases hw : wantedS ops st o with
  | none => rw [hw] at h; cases h
  | some t =>
    rw [hw] at h
    cases t with
    | false =>
      injection h with h
      injection h with h h'
      subst h
      exact ops_cons ho hw (fun _ => ⟨hk, hd⟩) (fun e => by cases e)
    | true =>
      dsimp only at h
      cases hok : opOk st o with
      | false => rw [hok] at h; cases h
      | true =>
        rw [hok] at h
        dsimp only [cond_true] at h
        refine ops_cons ho hw (fun e => by cases e) (fun _ => ⟨hok, fun a w g => ?_⟩)
        split at h
        · rename_i t x j hs1 hop
          split at h
          · rename_i b off b' c e0 fr hev hhp
            split at h
            · rename_i v hv
              have key : EqAll e → st'.hp = st.hp ∧ b = b' ∧ ∃ v', st' = st.put o.dst v' ∧ v = v' := by
                intro he
                split at h
                · rename_i v' _
                  injection h with h
                  injection h with h h'
                  injection h' with h' h''
                  subst h h''
                  exact ⟨by cases o.dst <;> rfl, value_ptr he.2.1, _, rfl, he.1⟩
                · injection h with h
                  injection h with h h'
                  injection h' with h' h''
                  subst h h''
                  exact ⟨by cases o.dst <;> rfl, value_ptr he.1, _, rfl, rfl⟩
              obtain ⟨_, rfl, v', rfl, rfl⟩ := key he
              have hb := g.hp _ (List.mem_of_getElem? hhp)
              have hb1 : w.heap[b]? = some (.cells c.toList.toArray e0 fr) := by simpa using hb.1
              have hl := load_cells (P := X.P) (w := w) (t := t) (base := 0) (fun i u hi => by rw [Nat.zero_add]; exact cells_of_heap hb1 i u hi) hv
              rw [Nat.zero_add] at hl
              unfold OpR
              rw [execOp_load hop, hev]
              simp only [Sem.run_bind, hl, Result.andThen, Sem.run_pure]
              exact hk _ _ (g.put hd _)
            · cases h
          · cases h
        · rename_i t x y j hs1 hop
          split at h
          · rename_i b off b' c e0 hev hhp
            split at h
            · rename_i c' hv
              injection h with h
              injection h with h h'
              injection h' with h' h''
              subst h h''
              have hbb : b = b' := value_ptr he.1
              subst hbb
              have hb := g.hp _ (List.mem_of_getElem? hhp)
              have hb1 : w.heap[b]? = some (.cells c.toList.toArray e0 (0, 0)) := by simpa using hb.1
              have hl := store_own hb1 hv
              have g2 := g.setRow (c := c) hhp c'.toArray
              unfold OpR
              rw [execOp_store hop, hev]
              simp only [Sem.run_bind, hl, Result.andThen, Sem.run_pure]
              exact hk _ _ (g2.put hd _)
            · cases h
          · cases h
        · split at h
          · rename_i v hq
            have key : ∃ v', st' = st.put o.dst v' ∧ v = v' := by
              split at h
              · injection h with h
                injection h with h h'
                injection h' with h' h''
                subst h h''
                exact ⟨_, rfl, he.1⟩
              · injection h with h
                injection h with h h'
                subst h
                exact ⟨_, rfl, rfl⟩
            obtain ⟨v', rfl, rfl⟩ := key
            unfold OpR
            rw [qrun_run hq w]
            exact hk _ _ (g.put hd _)
          · rename_i hq
            injection h with h
            injection h with h h'
            subst h
            unfold OpR
            rw [qrun_run hq w]
            exact hk _ _ (g.put hd _)
          · cases h

theorem auto_ok {X : Cx} {ov : List (Nat × Value)} : ∀ {n : Nat} {ds : List Bool} {hs : List Nat} {k : List KI} {st st' : St} {acc acc' : List (Value × Value)}, auto X.P X.N ov n ds hs k st acc = some (st', acc') → EqAll acc' → (Run X (adv n ds k) st' → Run X k st) ∧ EqAll acc
  | 0, ds, hs, k, st, st', acc, acc', h, he => by
    injection h with h
    injection h with h h'
    subst h h'
    exact ⟨id, he⟩
  | n + 1, ds, hs, k, st, st', acc, acc', h, he => by
    unfold auto at h
    unfold adv
    cases hn : nx k with
    | some k' =>
      rw [hn] at h
      obtain ⟨h1, h2⟩ := auto_ok h he
      exact ⟨fun hk => nx_ok hn (h1 hk), h2⟩
    | none =>
      rw [hn] at h
      dsimp only at h ⊢
      split at h
      · rename_i c x y k' d ds'
        cases hc : (match c with | .tmp t => (look st.sl t).isSome | _ => true) with
        | false => rw [hc] at h; cases h
        | true =>
          rw [hc] at h
          obtain ⟨h1, h2⟩ := auto_ok h he
          obtain ⟨h3, h4⟩ := h2
          refine ⟨fun hk a w g => ?_, h4⟩
          have hev : a.eval c = .bool d := (g.eval hc).trans h3
          have h5 := h1 hk a w g
          refine wpIn_cond hev ?_
          cases d <;> exact h5
      · rename_i ops i l k' ds
        split at h
        · cases h
        · rename_i o ho
          cases hd : dstOk X.N o.dst with
          | false => rw [hd] at h; cases h
          | true =>
            rw [hd] at h
            dsimp only [cond_true] at h
            split at h
            · rename_i st1 hs1 e hdo
              obtain ⟨h1, h2⟩ := auto_ok h he
              rw [EqAll.append] at h2
              exact ⟨fun hk => do_ok ho hd hdo h2.1 (h1 hk), h2.2⟩
            · cases h
      · cases h

/-- What is wanted of what is known. -/
def trim (ks hk : List Nat) (st : St) : St := ⟨ks.filterMap fun t => (look st.sl t).map fun v => (t, v), hk.filterMap fun j => st.hp[j]?⟩
theorem look_trim {sl : List (Nat × Value)} : ∀ {ks : List Nat} {t : Nat} {v : Value}, look (ks.filterMap fun t => (look sl t).map fun v => (t, v)) t = some v → look sl t = some v
  | [], t, v, h => by cases h
  | s :: ks, t, v, h => by
    rw [List.filterMap_cons] at h
    cases hs : look sl s with
    | none =>
      rw [hs] at h
      exact look_trim (ks := ks) h
    | some u =>
      rw [hs] at h
      have h : (bif s == t then some u else look _ t) = some v := h
      by_cases e : s = t
      · subst e
        simp at h
        rw [hs, h]
      · have : (s == t) = false := by simpa using e
        rw [this] at h
        exact look_trim (ks := ks) h
theorem pairwise_pick {α : Type} {l : List (Nat × α)} (h : l.Pairwise fun p q => p.1 ≠ q.1) : ∀ {js : List Nat}, js.Pairwise (· ≠ ·) → (js.filterMap fun j => l[j]?).Pairwise fun p q => p.1 ≠ q.1
  | [], _ => List.Pairwise.nil
  | j :: js, hp => by
    rw [List.pairwise_cons] at hp
    rw [List.filterMap_cons]
    cases hj : l[j]? with
    | none => exact pairwise_pick h hp.2
    | some p =>
      refine List.pairwise_cons.2 ⟨fun q hq => ?_, pairwise_pick h hp.2⟩
      obtain ⟨i, hi, hq⟩ := List.mem_filterMap.1 hq
      exact pairwise_ne h hj hq (hp.1 i hi)
def distinct : List Nat → Bool
  | [] => true
  | a :: l => l.all (fun b => !(a == b)) && distinct l
theorem distinct_ok : ∀ {l : List Nat}, distinct l = true → l.Pairwise (· ≠ ·)
  | [], _ => List.Pairwise.nil
  | a :: l, h => by
    simp only [distinct, Bool.and_eq_true, List.all_eq_true] at h
    exact List.pairwise_cons.2 ⟨fun b hb e => by have := h.1 b hb; subst e; simp at this, distinct_ok h.2⟩
theorem G.trim {X : Cx} {st : St} {a : Act} {w : World} (h : G X st a w) {ks hk : List Nat} (hd : distinct hk = true) : G X (trim ks hk st) a w :=
  ⟨h.df, h.sz, fun t v ht => h.sl t v (look_trim ht), fun p hp => by
    obtain ⟨j, _, hj⟩ := List.mem_filterMap.1 hp
    exact h.hp p (List.mem_of_getElem? hj), pairwise_pick h.ne (distinct_ok hd), fun p hp => by
    obtain ⟨j, _, hj⟩ := List.mem_filterMap.1 hp
    exact h.nd p (List.mem_of_getElem? hj), h.kp, ⟨h.ex.J, fun p hp => by
    obtain ⟨j, _, hj⟩ := List.mem_filterMap.1 hp
    exact h.ex.hp p (List.mem_of_getElem? hj), h.ex.n0⟩⟩

/-- As far as no new block and no call comes. -/
theorem run_auto {X : Cx} (ov : List (Nat × Value)) (n : Nat) (ds : List Bool) (hs : List Nat) (ks hk : List Nat) {k : List KI} {st st' : St} {acc : List (Value × Value)} (h : (auto X.P X.N ov n ds hs k st []).map (fun r => (trim ks hk r.1, r.2)) = some (st', acc)) (hd : distinct hk = true) (he : EqAll acc) (hr : Run X (adv n ds k) st') : Run X k st := by
  cases ha : auto X.P X.N ov n ds hs k st [] with
  | none => rw [ha] at h; cases h
  | some r =>
    obtain ⟨s1, a1⟩ := r
    rw [ha] at h
    injection h with h
    injection h with h h'
    subst h h'
    exact (auto_ok ha he).1 fun a w g => hr a w (g.trim hd)
end Go.Proofs.Ytmiobcnccbfknaa
