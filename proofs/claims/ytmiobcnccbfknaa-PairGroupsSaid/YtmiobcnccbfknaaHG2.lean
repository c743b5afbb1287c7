/-
  LAW: PairGroups: what has been joined; a pair with readings more.
-/
import Derived.Test.YtmiobcnccbfknaaHG1
import Derived.Test.YtmiobcnccbfknaaGb
namespace Go.Proofs.Ytmiobcnccbfknaa
open Go.RowKit Go.Proofs.Try


def jr (ks : List Nat) (r : Rdg) : List Nat := if ks.contains r.a || ks.contains r.b then setIns (setIns ks r.a) r.b else ks
def jK (rs : List Rdg) (ks : List Nat) (j : Nat) : List Nat := (rs.take j).foldl jr ks
def jN (rs : List Rdg) (a : Nat) : Nat → List Nat
  | 0 => [a]
  | t + 1 => rs.foldl jr (jN rs a t)
theorem jK_next {rs : List Rdg} {ks : List Nat} {j : Nat} {r : Rdg} (h : rs[j]? = some r) : jK rs ks (j + 1) = jr (jK rs ks j) r := by
  unfold jK
  rw [List.take_add_one, h, List.foldl_append]
  rfl
theorem jK_all (rs : List Rdg) (a t : Nat) : jK rs (jN rs a t) rs.length = jN rs a (t + 1) := by
  unfold jK
  rw [List.take_length]
  rfl
theorem ins_has {ks : List Nat} {x y : Nat} : (setIns ks x).contains y = (ks.contains y || decide (y = x)) := by
  unfold setIns
  cases hx : ks.contains x with
  | true =>
    rw [if_pos rfl]
    by_cases e : y = x
    · subst e
      rw [hx]
      rfl
    · simp [e]
  | false =>
    rw [if_neg (by simp)]
    by_cases e : y = x
    · subst e
      simp
    · simp [e]
/-- How many blocks are not joined. -/
def cJ (n : Nat) (ks : List Nat) : Nat := (List.range n).countP fun y => !ks.contains y
theorem cJ_ins {n : Nat} (ks : List Nat) {x : Nat} (hx : x < n) : (ks.contains x = true ∧ setIns ks x = ks) ∨ (ks.contains x = false ∧ cJ n (setIns ks x) < cJ n ks) := by
  cases h : ks.contains x with
  | true => exact .inl ⟨rfl, by unfold setIns; rw [h]; rfl⟩
  | false =>
    refine .inr ⟨rfl, ?_⟩
    exact (count_less (p := fun y => !ks.contains y) (q := fun y => !(setIns ks x).contains y) (b := x) (fun y => by rw [ins_has]; cases ks.contains y <;> simp) (by rw [h]; rfl) (List.range n)).2 (List.mem_range.2 hx)
theorem cJ_le {n : Nat} (ks : List Nat) {x : Nat} (hx : x < n) : cJ n (setIns ks x) ≤ cJ n ks := by
  rcases cJ_ins ks hx with ⟨_, h⟩ | ⟨_, h⟩
  · rw [h]; exact Nat.le_refl _
  · omega
/-- A round either leaves all as it was, and nothing leads out, or less are left. -/
theorem jr_step {n : Nat} (ks : List Nat) {r : Rdg} (ha : r.a < n) (hb : r.b < n) : (jr ks r = ks ∧ ks.contains r.a = ks.contains r.b) ∨ cJ n (jr ks r) < cJ n ks := by
  unfold jr
  cases h1 : ks.contains r.a with
  | true =>
    have e1 : setIns ks r.a = ks := by unfold setIns; rw [h1]; rfl
    simp only [Bool.true_or, if_true, e1]
    rcases cJ_ins ks hb with ⟨h2, h3⟩ | ⟨_, h3⟩
    · exact .inl ⟨h3, h2.symm⟩
    · exact .inr h3
  | false =>
    cases h2 : ks.contains r.b with
    | true =>
      simp only [Bool.false_or, if_true]
      rcases cJ_ins ks ha with ⟨h3, _⟩ | ⟨_, h3⟩
      · rw [h1] at h3; cases h3
      · have := cJ_le (n := n) (setIns ks r.a) hb
        exact .inr (by omega)
    | false => exact .inl ⟨by simp, rfl⟩
theorem round_step {n : Nat} : ∀ (rs : List Rdg) (ks : List Nat), (∀ r ∈ rs, r.a < n ∧ r.b < n) → (rs.foldl jr ks = ks ∧ ∀ r ∈ rs, ks.contains r.a = ks.contains r.b) ∨ cJ n (rs.foldl jr ks) < cJ n ks
  | [], ks, _ => .inl ⟨rfl, fun r h => by cases h⟩
  | r :: rs, ks, h => by
    have hr := h r List.mem_cons_self
    rw [List.foldl_cons]
    have hl := round_step rs (jr ks r) fun q hq => h q (List.mem_cons_of_mem _ hq)
    rcases jr_step ks hr.1 hr.2 with ⟨e, h1⟩ | h1
    · rw [e] at hl ⊢
      rcases hl with ⟨e2, h2⟩ | h2
      · exact .inl ⟨e2, fun q hq => (List.mem_cons.1 hq).elim (fun e => e ▸ h1) (h2 q)⟩
      · exact .inr h2
    · rcases hl with ⟨e2, _⟩ | h2
      · rw [e2]; exact .inr h1
      · exact .inr (by omega)
def Shut_ (rs : List Rdg) (ks : List Nat) : Prop := ∀ r ∈ rs, ks.contains r.a = ks.contains r.b
theorem jN_shut {n : Nat} {rs : List Rdg} (h : ∀ r ∈ rs, r.a < n ∧ r.b < n) {a : Nat} (ha : a < n) : ∀ t, (Shut_ rs (jN rs a t)) ∨ cJ n (jN rs a t) + t < n
  | 0 => by
    refine .inr ?_
    have := (count_less (p := fun _ => true) (q := fun y => !([a] : List Nat).contains y) (b := a) (fun y => by simp) rfl (List.range n)).2 (List.mem_range.2 ha)
    rw [show (List.range n).countP (fun _ => true) = n by simp] at this
    exact this
  | t + 1 => by
    rcases jN_shut h ha t with h1 | h1
    · left
      rcases round_step rs (jN rs a t) h with ⟨e, h2⟩ | h2
      · rw [jN, e]
        exact h2
      · -- nothing can come in
        exfalso
        have key : ∀ l : List Rdg, (∀ r ∈ l, r ∈ rs) → l.foldl jr (jN rs a t) = jN rs a t := by
          intro l
          induction l with
          | nil => exact fun _ => rfl
          | cons r l ih =>
            intro hl
            have hr := h1 r (hl r List.mem_cons_self)
            have e : jr (jN rs a t) r = jN rs a t := by
              unfold jr
              cases hb : (jN rs a t).contains r.a with
              | true =>
                have hb2 := hb
                rw [hr] at hb2
                have e1 : setIns (jN rs a t) r.a = jN rs a t := by unfold setIns; rw [hb]; rfl
                simp only [Bool.true_or, if_true, e1]
                unfold setIns
                rw [hb2]
                rfl
              | false =>
                have hb2 := hb
                rw [hr] at hb2
                rw [hb2]
                rfl
            rw [List.foldl_cons, e]
            exact ih fun q hq => hl q (List.mem_cons_of_mem _ hq)
        rw [key rs fun _ h => h] at h2
        omega
    · rcases round_step rs (jN rs a t) h with ⟨e, h2⟩ | h2
      · left
        rw [jN, e]
        exact h2
      · right
        rw [jN]
        omega
theorem jN_hang {rs : List Rdg} {a : Nat} : ∀ t x, (jN rs a t).contains x = true → Hang rs a x
  | 0, x, h => by
    have : x = a := by simpa [jN] using h
    subst this
    exact .own
  | t + 1, x, h => by
    have key : ∀ (l : List Rdg) (ks : List Nat), (∀ r ∈ l, r ∈ rs) → (∀ y, ks.contains y = true → Hang rs a y) → ∀ y, (l.foldl jr ks).contains y = true → Hang rs a y := by
      intro l
      induction l with
      | nil => exact fun ks _ h => h
      | cons r l ih =>
        intro ks hl hk
        refine ih (jr ks r) (fun q hq => hl q (List.mem_cons_of_mem _ hq)) fun y hy => ?_
        have hr := hl r List.mem_cons_self
        unfold jr at hy
        split at hy
        · rename_i hc
          have hboth : Hang rs a r.a ∧ Hang rs a r.b := by
            simp only [Bool.or_eq_true] at hc
            rcases hc with hc | hc
            · exact ⟨hk _ hc, .on (hk _ hc) ⟨r, hr, .inl ⟨rfl, rfl⟩⟩⟩
            · exact ⟨.on (hk _ hc) ⟨r, hr, .inr ⟨rfl, rfl⟩⟩, hk _ hc⟩
          rw [ins_has, ins_has] at hy
          simp only [Bool.or_eq_true, decide_eq_true_eq] at hy
          rcases hy with (hy | hy) | hy
          · exact hk y hy
          · rw [hy]; exact hboth.1
          · rw [hy]; exact hboth.2
        · exact hk y hy
    exact key rs _ (fun _ h => h) (jN_hang t) x h
theorem jN_own (rs : List Rdg) (a : Nat) : ∀ t, (jN rs a t).contains a = true
  | 0 => by simp [jN]
  | t + 1 => by
    have key : ∀ (l : List Rdg) (ks : List Nat), ks.contains a = true → (l.foldl jr ks).contains a = true := by
      intro l
      induction l with
      | nil => exact fun _ h => h
      | cons r l ih =>
        intro ks hk
        refine ih _ ?_
        unfold jr
        split
        · rw [ins_has, ins_has, hk]; rfl
        · exact hk
    exact key rs _ (jN_own rs a t)
/-- After as many rounds as there are blocks just those are joined that hang together with a. -/
theorem joined_is {n : Nat} {rs : List Rdg} (h : ∀ r ∈ rs, r.a < n ∧ r.b < n) {a : Nat} (ha : a < n) (b : Nat) : (jN rs a n).contains b = true ↔ Hang rs a b := by
  refine ⟨jN_hang n b, fun hh => ?_⟩
  have hs : Shut_ rs (jN rs a n) := by
    rcases jN_shut h ha n with h1 | h1
    · exact h1
    · omega
  induction hh with
  | own => exact jN_own rs a n
  | on _ l ih =>
    obtain ⟨r, hr, ⟨e1, e2⟩ | ⟨e1, e2⟩⟩ := l
    · rw [← e2, ← hs r hr, e1]; exact ih
    · rw [← e1, hs r hr, e2]; exact ih
set_option maxRecDepth 100000 in
theorem with1_any (p : Pr) (bl : Nat) (r : Rw) (w : World) (hp : p.In w) (h8 : p.rs.length ≤ 8) (hbl : w.heap[bl]? = some (.cells #[.int .i64 r.1, .int .i64 r.2.1, .int .i64 r.2.2.1, .int .i64 r.2.2.2.1, .int .i64 r.2.2.2.2] 38 (0, 0))) : Calls Try.prog 30 #[.agg #[.slice p.ba p.bs.length p.bc, .int .i64 p.zlo, .int .i64 p.zhi, .int .i64 p.rlo, .int .i64 p.rhi, .slice p.ra p.rs.length p.rc], .slice (some ⟨bl, 0, none⟩) 1 1] w (NwL (α := Nat × Nat × List Value) (fun x => .agg #[.slice p.ba p.bs.length p.bc, .int .i64 p.zlo, .int .i64 p.zhi, .int .i64 p.rlo, .int .i64 p.rhi, .slice (some ⟨(x.1), 0, none⟩) ((p.rs ++ [r]).length) (x.2.1)]) (fun x => [((x.1), .cells ((p.rs ++ [r]).flatMap rdR ++ (x.2.2)).toArray 38 (0, 0))]) (fun x => p.rs.length ≤ (x.2.1)) w) := by
  refine calls_run (fn := f30) (c := (f30.body).getD .skip) [.agg #[.slice p.ba p.bs.length p.bc, .int .i64 p.zlo, .int .i64 p.zhi, .int .i64 p.rlo, .int .i64 p.rhi, .slice p.ra p.rs.length p.rc], .slice (some ⟨bl, 0, none⟩) 1 1] func30 (by kernel_rfl) (fun _ => False) [] (fun _ h => by cases h) (List.Pairwise.nil) 13 (by kernel_rfl) (by simp) ?_
  refine run_auto [] 2 [] [] [0, 1] [] (st' := ⟨[(0, .agg #[.slice p.ba p.bs.length p.bc, .int .i64 p.zlo, .int .i64 p.zhi, .int .i64 p.rlo, .int .i64 p.rhi, .slice p.ra p.rs.length p.rc]), (1, .slice (some ⟨bl, 0, none⟩) 1 1)], []⟩) (acc := []) (by kernel_rfl) (by kernel_rfl) trivial ?_
  refine run_new (.cells #[.slice p.ba p.bs.length p.bc, .int .i64 p.zlo, .int .i64 p.zhi, .int .i64 p.rlo, .int .i64 p.rhi, .slice p.ra p.rs.length p.rc] 30 (0, 0)) (fun b1 => .pointer (some ⟨b1, 0, none⟩)) (some 2) (fun _ => by kernel_rfl) (fun b1 hb1 => ?_)
  refine run_new (.cells #[.slice none 0 0, .int .i64 0, .int .i64 0, .int .i64 0, .int .i64 0, .slice none 0 0] 30 (0, 0)) (fun b2 => .pointer (some ⟨b2, 0, none⟩)) (some 4) (fun _ => by kernel_rfl) (fun b2 hb2 => ?_)
  refine run_auto [] 3 [] [] [1, 2, 4] [0, 1] (st' := ⟨[(1, .slice (some ⟨bl, 0, none⟩) 1 1), (2, .pointer (some ⟨b1, 0, none⟩)), (4, .pointer (some ⟨b2, 0, none⟩))], [(b2, .cells #[.slice none 0 0, .int .i64 0, .int .i64 0, .int .i64 0, .int .i64 0, .slice none 0 0] 30 (0, 0)), (b1, .cells #[.slice p.ba p.bs.length p.bc, .int .i64 p.zlo, .int .i64 p.zhi, .int .i64 p.rlo, .int .i64 p.rhi, .slice p.ra p.rs.length p.rc] 30 (0, 0))]⟩) (acc := []) (by kernel_rfl) (by kernel_rfl) trivial ?_
  refine run_new (.cells #[] 38 (0, 0)) (fun b3 => .slice (some ⟨b3, 0, none⟩) 0 0) (some 5) (fun _ => by kernel_rfl) (fun b3 hb3 => ?_)
  refine run_auto [] 2 [] [2] [1, 2, 4, 5, 7] [0, 1, 2] (st' := ⟨[(1, .slice (some ⟨bl, 0, none⟩) 1 1), (2, .pointer (some ⟨b1, 0, none⟩)), (4, .pointer (some ⟨b2, 0, none⟩)), (5, .slice (some ⟨b3, 0, none⟩) 0 0), (7, .slice p.ra p.rs.length p.rc)], [(b3, .cells #[] 38 (0, 0)), (b2, .cells #[.slice none 0 0, .int .i64 0, .int .i64 0, .int .i64 0, .int .i64 0, .slice none 0 0] 30 (0, 0)), (b1, .cells #[.slice p.ba p.bs.length p.bc, .int .i64 p.zlo, .int .i64 p.zhi, .int .i64 p.rlo, .int .i64 p.rhi, .slice p.ra p.rs.length p.rc] 30 (0, 0))]⟩) (acc := [(.pointer (some ⟨b1, 0, none⟩), .pointer (some ⟨b1, 0, none⟩))]) (by kernel_rfl) (by kernel_rfl) ⟨rfl, trivial⟩ ?_
  refine run_appO (t := 28) (ty := 28) (e := 38) (n := 5) (z := (.agg #[.int .i64 0, .int .i64 0, .int .i64 0, .int .i64 0, .int .i64 0])) (by kernel_rfl) (by kernel_rfl) (by kernel_rfl) rfl (by kernel_rfl) rdR rdR_len rdR_one (some 8) 0 b3 0 p.rs.length 0 p.rc ([] : List Rw) p.rs ([]) p.ra (by first | rfl | (simp; done) | (simp; omega)) (by first | rfl | (simp; done) | (simp; omega)) (by kernel_rfl) (by kernel_rfl) (by simp only [maxLen]; omega) rfl (by omega) (fun w1 k1 h1 => ((hp.rd.keep (k1.keeps (fun _ h => h))).flat)) (by omega) hb3 (fun b4 cap4 sp4 hb4 hqb4 hmb4 hlb4 => ?_)
  refine run_auto [] 1 [] [] [2, 4, 8, 9] [0, 1, 2] (st' := ⟨[(2, .pointer (some ⟨b1, 0, none⟩)), (4, .pointer (some ⟨b2, 0, none⟩)), (8, .slice (some ⟨b4, 0, none⟩) (0 + p.rs.length) cap4), (9, .slice (some ⟨bl, 0, none⟩) 1 1)], [(b4, .cells ((([] : List Rw) ++ p.rs).flatMap rdR ++ sp4).toArray 38 (0, 0)), (b2, .cells #[.slice none 0 0, .int .i64 0, .int .i64 0, .int .i64 0, .int .i64 0, .slice none 0 0] 30 (0, 0)), (b1, .cells #[.slice p.ba p.bs.length p.bc, .int .i64 p.zlo, .int .i64 p.zhi, .int .i64 p.rlo, .int .i64 p.rhi, .slice p.ra p.rs.length p.rc] 30 (0, 0))]⟩) (acc := []) (by kernel_rfl) (by kernel_rfl) trivial ?_
  refine run_app (t := 28) (ty := 28) (e := 38) (n := 5) (z := (.agg #[.int .i64 0, .int .i64 0, .int .i64 0, .int .i64 0, .int .i64 0])) (by kernel_rfl) (by kernel_rfl) (by kernel_rfl) rfl (by kernel_rfl) rdR rdR_len rdR_one (some 10) 0 b4 (0 + p.rs.length) 1 cap4 1 (([] : List Rw) ++ p.rs) ([r] : List Rw) sp4 ⟨bl, 0, none⟩ (by first | rfl | (simp; done) | (simp; omega)) (by first | rfl | (simp; done) | (simp; omega)) (by kernel_rfl) (by kernel_rfl) hmb4 hlb4 (fun w1 k1 h1 jq uq hu => by rw [add_none, Nat.zero_add]; exact cells_of_heap ((k1.block bl (Array.getElem?_eq_some_iff.1 hbl).1 (fun h => h)).trans hbl) jq uq hu) (by omega) hb4 (fun b5 cap5 sp5 hb5 hqb5 hmb5 hlb5 => ?_)
  refine run_auto [] 8 [] [2, 2, 1] [4] [0, 1] (st' := ⟨[(4, .pointer (some ⟨b2, 0, none⟩))], [(b5, .cells (((([] : List Rw) ++ p.rs) ++ ([r] : List Rw)).flatMap rdR ++ sp5).toArray 38 (0, 0)), (b2, .cells #[.slice p.ba p.bs.length p.bc, .int .i64 p.zlo, .int .i64 p.zhi, .int .i64 p.rlo, .int .i64 p.rhi, .slice (some ⟨b5, 0, none⟩) (0 + p.rs.length + 1) cap5] 30 (0, 0))]⟩) (acc := [(.pointer (some ⟨b2, 0, none⟩), .pointer (some ⟨b2, 0, none⟩)), (.pointer (some ⟨b1, 0, none⟩), .pointer (some ⟨b1, 0, none⟩)), (.pointer (some ⟨b1, 0, none⟩), .pointer (some ⟨b1, 0, none⟩))]) (by kernel_rfl) (by kernel_rfl) ⟨rfl, rfl, rfl, trivial⟩ ?_
  refine run_end (fn := f30) rfl (Nat.le_refl _) (by kernel_rfl) [1] [.agg #[.slice p.ba p.bs.length p.bc, .int .i64 p.zlo, .int .i64 p.zhi, .int .i64 p.rlo, .int .i64 p.rhi, .slice (some ⟨b5, 0, none⟩) (0 + p.rs.length + 1) cap5]] (e := [(.pointer (some ⟨b2, 0, none⟩), .pointer (some ⟨b2, 0, none⟩))]) (by kernel_rfl) ⟨rfl, trivial⟩ (fun w1 k1 h1 => ?_)
  have hel : ((([] : List Rw) ++ p.rs) ++ ([r] : List Rw)).flatMap rdR ++ sp5 = (p.rs ++ [r]).flatMap rdR ++ sp5 := by simp
  rw [hel] at h1
  refine ⟨(b5, cap5, sp5), by simp at hqb5 ⊢; try omega, ?_, k1.keeps (fun _ h => h), fun q hq => ?_, List.pairwise_singleton _ _⟩
  · show Ending.returned _ = Ending.returned _
    rw [show (p.rs ++ [r]).length = 0 + p.rs.length + 1 by simp; try omega]
    rfl
  · rw [List.mem_singleton] at hq
    subst hq
    exact ⟨h1 (b5, _) (List.mem_of_getElem? (i := 0) rfl), hb5⟩

set_option maxRecDepth 100000 in
theorem with2_any (p : Pr) (bl : Nat) (r : Rw) (w : World) (hp : p.In w) (h8 : p.rs.length ≤ 8) (hbl : w.heap[bl]? = some (.cells #[.int .i64 r.1, .int .i64 r.2.1, .int .i64 r.2.2.1, .int .i64 r.2.2.2.1, .int .i64 r.2.2.2.2, .int .i64 r.1, .int .i64 r.2.1, .int .i64 r.2.2.1, .int .i64 r.2.2.2.1, .int .i64 r.2.2.2.2] 38 (0, 0))) : Calls Try.prog 30 #[.agg #[.slice p.ba p.bs.length p.bc, .int .i64 p.zlo, .int .i64 p.zhi, .int .i64 p.rlo, .int .i64 p.rhi, .slice p.ra p.rs.length p.rc], .slice (some ⟨bl, 0, none⟩) 2 2] w (NwL (α := Nat × Nat × List Value) (fun x => .agg #[.slice p.ba p.bs.length p.bc, .int .i64 p.zlo, .int .i64 p.zhi, .int .i64 p.rlo, .int .i64 p.rhi, .slice (some ⟨(x.1), 0, none⟩) ((p.rs ++ [r, r]).length) (x.2.1)]) (fun x => [((x.1), .cells ((p.rs ++ [r, r]).flatMap rdR ++ (x.2.2)).toArray 38 (0, 0))]) (fun x => p.rs.length ≤ (x.2.1)) w) := by
  refine calls_run (fn := f30) (c := (f30.body).getD .skip) [.agg #[.slice p.ba p.bs.length p.bc, .int .i64 p.zlo, .int .i64 p.zhi, .int .i64 p.rlo, .int .i64 p.rhi, .slice p.ra p.rs.length p.rc], .slice (some ⟨bl, 0, none⟩) 2 2] func30 (by kernel_rfl) (fun _ => False) [] (fun _ h => by cases h) (List.Pairwise.nil) 13 (by kernel_rfl) (by simp) ?_
  refine run_auto [] 2 [] [] [0, 1] [] (st' := ⟨[(0, .agg #[.slice p.ba p.bs.length p.bc, .int .i64 p.zlo, .int .i64 p.zhi, .int .i64 p.rlo, .int .i64 p.rhi, .slice p.ra p.rs.length p.rc]), (1, .slice (some ⟨bl, 0, none⟩) 2 2)], []⟩) (acc := []) (by kernel_rfl) (by kernel_rfl) trivial ?_
  refine run_new (.cells #[.slice p.ba p.bs.length p.bc, .int .i64 p.zlo, .int .i64 p.zhi, .int .i64 p.rlo, .int .i64 p.rhi, .slice p.ra p.rs.length p.rc] 30 (0, 0)) (fun b1 => .pointer (some ⟨b1, 0, none⟩)) (some 2) (fun _ => by kernel_rfl) (fun b1 hb1 => ?_)
  refine run_new (.cells #[.slice none 0 0, .int .i64 0, .int .i64 0, .int .i64 0, .int .i64 0, .slice none 0 0] 30 (0, 0)) (fun b2 => .pointer (some ⟨b2, 0, none⟩)) (some 4) (fun _ => by kernel_rfl) (fun b2 hb2 => ?_)
  refine run_auto [] 3 [] [] [1, 2, 4] [0, 1] (st' := ⟨[(1, .slice (some ⟨bl, 0, none⟩) 2 2), (2, .pointer (some ⟨b1, 0, none⟩)), (4, .pointer (some ⟨b2, 0, none⟩))], [(b2, .cells #[.slice none 0 0, .int .i64 0, .int .i64 0, .int .i64 0, .int .i64 0, .slice none 0 0] 30 (0, 0)), (b1, .cells #[.slice p.ba p.bs.length p.bc, .int .i64 p.zlo, .int .i64 p.zhi, .int .i64 p.rlo, .int .i64 p.rhi, .slice p.ra p.rs.length p.rc] 30 (0, 0))]⟩) (acc := []) (by kernel_rfl) (by kernel_rfl) trivial ?_
  refine run_new (.cells #[] 38 (0, 0)) (fun b3 => .slice (some ⟨b3, 0, none⟩) 0 0) (some 5) (fun _ => by kernel_rfl) (fun b3 hb3 => ?_)
  refine run_auto [] 2 [] [2] [1, 2, 4, 5, 7] [0, 1, 2] (st' := ⟨[(1, .slice (some ⟨bl, 0, none⟩) 2 2), (2, .pointer (some ⟨b1, 0, none⟩)), (4, .pointer (some ⟨b2, 0, none⟩)), (5, .slice (some ⟨b3, 0, none⟩) 0 0), (7, .slice p.ra p.rs.length p.rc)], [(b3, .cells #[] 38 (0, 0)), (b2, .cells #[.slice none 0 0, .int .i64 0, .int .i64 0, .int .i64 0, .int .i64 0, .slice none 0 0] 30 (0, 0)), (b1, .cells #[.slice p.ba p.bs.length p.bc, .int .i64 p.zlo, .int .i64 p.zhi, .int .i64 p.rlo, .int .i64 p.rhi, .slice p.ra p.rs.length p.rc] 30 (0, 0))]⟩) (acc := [(.pointer (some ⟨b1, 0, none⟩), .pointer (some ⟨b1, 0, none⟩))]) (by kernel_rfl) (by kernel_rfl) ⟨rfl, trivial⟩ ?_
  refine run_appO (t := 28) (ty := 28) (e := 38) (n := 5) (z := (.agg #[.int .i64 0, .int .i64 0, .int .i64 0, .int .i64 0, .int .i64 0])) (by kernel_rfl) (by kernel_rfl) (by kernel_rfl) rfl (by kernel_rfl) rdR rdR_len rdR_one (some 8) 0 b3 0 p.rs.length 0 p.rc ([] : List Rw) p.rs ([]) p.ra (by first | rfl | (simp; done) | (simp; omega)) (by first | rfl | (simp; done) | (simp; omega)) (by kernel_rfl) (by kernel_rfl) (by simp only [maxLen]; omega) rfl (by omega) (fun w1 k1 h1 => ((hp.rd.keep (k1.keeps (fun _ h => h))).flat)) (by omega) hb3 (fun b4 cap4 sp4 hb4 hqb4 hmb4 hlb4 => ?_)
  refine run_auto [] 1 [] [] [2, 4, 8, 9] [0, 1, 2] (st' := ⟨[(2, .pointer (some ⟨b1, 0, none⟩)), (4, .pointer (some ⟨b2, 0, none⟩)), (8, .slice (some ⟨b4, 0, none⟩) (0 + p.rs.length) cap4), (9, .slice (some ⟨bl, 0, none⟩) 2 2)], [(b4, .cells ((([] : List Rw) ++ p.rs).flatMap rdR ++ sp4).toArray 38 (0, 0)), (b2, .cells #[.slice none 0 0, .int .i64 0, .int .i64 0, .int .i64 0, .int .i64 0, .slice none 0 0] 30 (0, 0)), (b1, .cells #[.slice p.ba p.bs.length p.bc, .int .i64 p.zlo, .int .i64 p.zhi, .int .i64 p.rlo, .int .i64 p.rhi, .slice p.ra p.rs.length p.rc] 30 (0, 0))]⟩) (acc := []) (by kernel_rfl) (by kernel_rfl) trivial ?_
  refine run_app (t := 28) (ty := 28) (e := 38) (n := 5) (z := (.agg #[.int .i64 0, .int .i64 0, .int .i64 0, .int .i64 0, .int .i64 0])) (by kernel_rfl) (by kernel_rfl) (by kernel_rfl) rfl (by kernel_rfl) rdR rdR_len rdR_one (some 10) 0 b4 (0 + p.rs.length) 2 cap4 2 (([] : List Rw) ++ p.rs) ([r, r] : List Rw) sp4 ⟨bl, 0, none⟩ (by first | rfl | (simp; done) | (simp; omega)) (by first | rfl | (simp; done) | (simp; omega)) (by kernel_rfl) (by kernel_rfl) hmb4 hlb4 (fun w1 k1 h1 jq uq hu => by rw [add_none, Nat.zero_add]; exact cells_of_heap ((k1.block bl (Array.getElem?_eq_some_iff.1 hbl).1 (fun h => h)).trans hbl) jq uq hu) (by omega) hb4 (fun b5 cap5 sp5 hb5 hqb5 hmb5 hlb5 => ?_)
  refine run_auto [] 8 [] [2, 2, 1] [4] [0, 1] (st' := ⟨[(4, .pointer (some ⟨b2, 0, none⟩))], [(b5, .cells (((([] : List Rw) ++ p.rs) ++ ([r, r] : List Rw)).flatMap rdR ++ sp5).toArray 38 (0, 0)), (b2, .cells #[.slice p.ba p.bs.length p.bc, .int .i64 p.zlo, .int .i64 p.zhi, .int .i64 p.rlo, .int .i64 p.rhi, .slice (some ⟨b5, 0, none⟩) (0 + p.rs.length + 2) cap5] 30 (0, 0))]⟩) (acc := [(.pointer (some ⟨b2, 0, none⟩), .pointer (some ⟨b2, 0, none⟩)), (.pointer (some ⟨b1, 0, none⟩), .pointer (some ⟨b1, 0, none⟩)), (.pointer (some ⟨b1, 0, none⟩), .pointer (some ⟨b1, 0, none⟩))]) (by kernel_rfl) (by kernel_rfl) ⟨rfl, rfl, rfl, trivial⟩ ?_
  refine run_end (fn := f30) rfl (Nat.le_refl _) (by kernel_rfl) [1] [.agg #[.slice p.ba p.bs.length p.bc, .int .i64 p.zlo, .int .i64 p.zhi, .int .i64 p.rlo, .int .i64 p.rhi, .slice (some ⟨b5, 0, none⟩) (0 + p.rs.length + 2) cap5]] (e := [(.pointer (some ⟨b2, 0, none⟩), .pointer (some ⟨b2, 0, none⟩))]) (by kernel_rfl) ⟨rfl, trivial⟩ (fun w1 k1 h1 => ?_)
  have hel : ((([] : List Rw) ++ p.rs) ++ ([r, r] : List Rw)).flatMap rdR ++ sp5 = (p.rs ++ [r, r]).flatMap rdR ++ sp5 := by simp
  rw [hel] at h1
  refine ⟨(b5, cap5, sp5), by simp at hqb5 ⊢; try omega, ?_, k1.keeps (fun _ h => h), fun q hq => ?_, List.pairwise_singleton _ _⟩
  · show Ending.returned _ = Ending.returned _
    rw [show (p.rs ++ [r, r]).length = 0 + p.rs.length + 2 by simp; try omega]
    rfl
  · rw [List.mem_singleton] at hq
    subst hq
    exact ⟨h1 (b5, _) (List.mem_of_getElem? (i := 0) rfl), hb5⟩

end Go.Proofs.Ytmiobcnccbfknaa
