/-
  PAIR: groups of blocks that hang together.
-/
import Derived.Test.YtmiobcnccbfknaaD2
import Derived.Test.YtmiobcnccbfknaaQ6
namespace Go.Proofs.Ytmiobcnccbfknaa
open Go.RowKit Go.Proofs.Try


/-- The blocks that are joined when b has been joined to those of s. -/
def joinF (rs : List Rdg) : Nat → Nat → Nat → Nat
  | 0, s, _ => s
  | n + 1, s, b => if s.testBit b then s else rs.foldl (fun s r => if r.a = b then joinF rs n s r.b else if r.b = b then joinF rs n s r.a else s) (s ||| 1 <<< b)
def joinS (rs : List Rdg) (n b s : Nat) (r : Rdg) : Nat := if r.a = b then joinF rs n s r.b else if r.b = b then joinF rs n s r.a else s
/-- When the first k readings have been gone through. -/
def joinK (rs : List Rdg) (n b s k : Nat) : Nat := (rs.take k).foldl (joinS rs n b) (s ||| 1 <<< b)
theorem joinF_no {rs : List Rdg} {n s b : Nat} (h : s.testBit b = false) : joinF rs (n + 1) s b = joinK rs n b s rs.length := by
  unfold joinK
  rw [joinF, if_neg (by rw [h]; simp), List.take_length]
  rfl
theorem joinF_yes {rs : List Rdg} {n s b : Nat} (h : s.testBit b = true) : joinF rs (n + 1) s b = s := by
  rw [joinF, if_pos h]
theorem joinK_next {rs : List Rdg} {n b s k : Nat} {r : Rdg} (h : rs[k]? = some r) : joinK rs n b s (k + 1) = joinS rs n b (joinK rs n b s k) r := by
  unfold joinK
  rw [List.take_add_one, h, List.foldl_append]
  rfl
/-- What is in one set is in the other. -/
def Sub (s t : Nat) : Prop := ∀ i, s.testBit i = true → t.testBit i = true
theorem Sub.refl (s : Nat) : Sub s s := fun _ h => h
theorem Sub.trans {a b c : Nat} (h : Sub a b) (h' : Sub b c) : Sub a c := fun i hi => h' i (h i hi)
theorem bit_or (s b i : Nat) : (s ||| 1 <<< b).testBit i = (s.testBit i || decide (i = b)) := by
  rw [Nat.testBit_or, Nat.one_shiftLeft, Nat.testBit_two_pow]
  congr 1
  by_cases h : i = b
  · simp [h]
  · simp [h, Ne.symm h]
theorem sub_or (s b : Nat) : Sub s (s ||| 1 <<< b) := fun i h => by rw [bit_or, h]; rfl
theorem joinF_sub (rs : List Rdg) : ∀ (n s b : Nat), Sub s (joinF rs n s b)
  | 0, s, b => Sub.refl s
  | n + 1, s, b => by
    rw [joinF]
    split
    · exact Sub.refl s
    · have key : ∀ (l : List Rdg) (t : Nat), Sub s t → Sub s (l.foldl (fun s r => if r.a = b then joinF rs n s r.b else if r.b = b then joinF rs n s r.a else s) t) := by
        intro l
        induction l with
        | nil => exact fun t h => h
        | cons r l ih =>
          intro t h
          refine ih _ ?_
          dsimp only
          split
          · exact h.trans (joinF_sub rs n t _)
          · split
            · exact h.trans (joinF_sub rs n t _)
            · exact h
      exact key rs _ (sub_or s b)
theorem or_lt {s b : Nat} (hs : s < 32) (hb : b < 5) : s ||| 1 <<< b < 32 := by
  rw [Nat.one_shiftLeft]
  exact Nat.or_lt_two_pow (n := 5) hs (Nat.pow_lt_pow_right (by omega) hb)
theorem joinF_lt {rs : List Rdg} (hr : ∀ r ∈ rs, r.a < 5 ∧ r.b < 5) : ∀ (n s b : Nat), s < 32 → b < 5 → joinF rs n s b < 32
  | 0, s, b, hs, _ => hs
  | n + 1, s, b, hs, hb => by
    rw [joinF]
    split
    · exact hs
    · have key : ∀ (l : List Rdg), (∀ r ∈ l, r ∈ rs) → ∀ (t : Nat), t < 32 → l.foldl (fun s r => if r.a = b then joinF rs n s r.b else if r.b = b then joinF rs n s r.a else s) t < 32 := by
        intro l
        induction l with
        | nil => exact fun _ t h => h
        | cons r l ih =>
          intro hl t h
          refine ih (fun r h => hl r (List.mem_cons_of_mem _ h)) _ ?_
          have := hr r (hl r List.mem_cons_self)
          dsimp only
          split
          · exact joinF_lt hr n t _ h this.2
          · split
            · exact joinF_lt hr n t _ h this.1
            · exact h
      exact key rs (fun _ h => h) _ (or_lt hs hb)
/-- How many blocks are not joined. -/
def muJ (s : Nat) : Nat := (List.range 5).countP fun i => !s.testBit i
theorem muJ_sub {s t : Nat} (h : Sub s t) : muJ t ≤ muJ s := by
  unfold muJ
  refine List.countP_mono_left fun i _ hi => ?_
  cases hs : s.testBit i with
  | false => rfl
  | true => rw [h i hs] at hi; cases hi
theorem count_less {p q : Nat → Bool} {b : Nat} (h : ∀ x, q x = (p x && !decide (x = b))) (hb : p b = true) : ∀ l : List Nat, l.countP q ≤ l.countP p ∧ (b ∈ l → l.countP q < l.countP p)
  | [] => ⟨Nat.le_refl _, fun h => by cases h⟩
  | x :: l => by
    have ih := count_less h hb l
    rw [List.countP_cons, List.countP_cons, h x]
    by_cases e : x = b
    · subst e
      rw [hb]
      have : (true && !decide (x = x)) = false := by simp
      rw [this]
      simp only [Bool.false_eq_true, if_false, if_true]
      exact ⟨by omega, fun _ => by omega⟩
    · have h2 : b ∈ x :: l → b ∈ l := fun h => (List.mem_cons.1 h).resolve_left (Ne.symm e)
      have : (p x && !decide (x = b)) = p x := by simp [e]
      rw [this]
      exact ⟨by omega, fun h3 => by have := ih.2 (h2 h3); omega⟩
theorem muJ_or {s b : Nat} (hb : b < 5) (h : s.testBit b = false) : muJ (s ||| 1 <<< b) < muJ s :=
  (count_less (p := fun i => !s.testBit i) (q := fun i => !(s ||| 1 <<< b).testBit i) (b := b) (fun x => by rw [bit_or]; cases s.testBit x <;> simp) (by rw [h]; rfl) (List.range 5)).2 (List.mem_range.2 hb)
theorem joinK_sub (rs : List Rdg) (n b s k : Nat) : Sub (s ||| 1 <<< b) (joinK rs n b s k) := by
  unfold joinK
  generalize rs.take k = l
  have : ∀ (l : List Rdg) (t : Nat), Sub t (l.foldl (joinS rs n b) t) := by
    intro l
    induction l with
    | nil => exact fun t => Sub.refl t
    | cons r l ih =>
      intro t
      refine Sub.trans ?_ (ih _)
      unfold joinS
      split
      · exact joinF_sub rs n t _
      · split
        · exact joinF_sub rs n t _
        · exact Sub.refl t
  exact this l _
theorem joinK_lt {rs : List Rdg} (hr : ∀ r ∈ rs, r.a < 5 ∧ r.b < 5) (n b : Nat) {s : Nat} (hs : s < 32) (hb : b < 5) : ∀ k, joinK rs n b s k < 32
  | 0 => or_lt hs hb
  | k + 1 => by
    cases h : rs[k]? with
    | none =>
      have := joinK_lt hr n b hs hb k
      unfold joinK at this ⊢
      rwa [List.take_add_one, h, Option.toList_none, List.append_nil]
    | some r =>
      rw [joinK_next h]
      have h1 := hr r (List.mem_of_getElem? h)
      have h2 := joinK_lt hr n b hs hb k
      unfold joinS
      split
      · exact joinF_lt hr n _ _ h2 h1.2
      · split
        · exact joinF_lt hr n _ _ h2 h1.1
        · exact h2
/-- Groups and joined blocks, behind the first k blocks. -/
def grpS (rs : List Rdg) : Nat → Nat × Nat
  | 0 => (0, 0)
  | k + 1 => if (grpS rs k).1.testBit k then grpS rs k else (joinF rs 6 (grpS rs k).1 k, (grpS rs k).2 + 1)
theorem grpS_lt {rs : List Rdg} (hr : ∀ r ∈ rs, r.a < 5 ∧ r.b < 5) : ∀ k, k ≤ 5 → (grpS rs k).1 < 32 ∧ (grpS rs k).2 ≤ k
  | 0, _ => ⟨by show 0 < 32; omega, Nat.le_refl _⟩
  | k + 1, hk => by
    have := grpS_lt hr k (by omega)
    rw [grpS]
    split
    · exact ⟨this.1, by omega⟩
    · exact ⟨joinF_lt hr 6 _ k this.1 (by omega), by dsimp only; omega⟩
theorem muJ_le (s : Nat) : muJ s < 6 := Nat.lt_succ_of_le (List.countP_le_length (l := List.range 5))
theorem Pr.InD.keptD {p : Pr} {D : Nat → Prop} {w w' : World} (h : p.InD D w) (k : Kept D w w') : p.InD D w' := by
  refine ⟨fun hx => ?_, fun hx => ?_⟩
  · obtain ⟨b, o, e, hd, hc⟩ := h.bl hx
    exact ⟨b, o, e, hd, fun i hi => ⟨k.cell (hc i hi).1 hd, k.cell (hc i hi).2 hd⟩⟩
  · obtain ⟨b, o, e, hd, hc⟩ := h.rd hx
    exact ⟨b, o, e, hd, fun i hi => ⟨k.cell (hc i hi).1 hd, k.cell (hc i hi).2.1 hd, k.cell (hc i hi).2.2.1 hd, k.cell (hc i hi).2.2.2.1 hd, k.cell (hc i hi).2.2.2.2 hd⟩⟩
theorem Pr.Fine.rs5 {p : Pr} (h : p.Fine) : ∀ r ∈ p.n.rs, r.a < 5 ∧ r.b < 5 := by
  intro r hr
  have h1 := h.ok.rl r hr
  omega
set_option maxRecDepth 100000 in
theorem join_any (p : Pr) (hF : p.Fine) (bj bp bf : Nat) : ∀ (n s b : Nat) (w : World) (_hm : muJ s < n) (_hs : s < 32) (_hb : b < 5) (_hw : w.heap[bj]? = some (.cells #[.int .i64 ((s : Nat) : Int)] 98 (0, 0))) (_hin : p.InD (fun x => x = bj) w) (_hbp : w.heap[bp]? = some (.cells #[.slice p.ba p.bs.length p.bc, .int .i64 p.zlo, .int .i64 p.zhi, .int .i64 p.rlo, .int .i64 p.rhi, .slice p.ra p.rs.length p.rc] 30 (0, 0))) (_hbf : w.heap[bf]? = some (.cells #[.func (.func 82) #[] #[.pointer (some ⟨bj, 0, none⟩), .pointer (some ⟨bp, 0, none⟩), .pointer (some ⟨bf, 0, none⟩)]] 86 (0, 0))) (_hnp : ¬ bp = bj) (_hnf : ¬ bf = bj), Calls Try.prog 82 #[.int .i64 (b : Int), .pointer (some ⟨bj, 0, none⟩), .pointer (some ⟨bp, 0, none⟩), .pointer (some ⟨bf, 0, none⟩)] w (Wr bj (.tuple #[]) (.cells #[.int .i64 ((joinF p.n.rs n s b : Nat) : Int)] 98 (0, 0)) w)
  | 0, _, _, _, hm, _, _, _, _, _, _, _, _ => absurd hm (Nat.not_lt_zero _)
  | n + 1, s, b, w, hm, hs, hb, hw, hin, hbp, hbf, hnp, hnf => by
    have hr5 := hF.rs5
    have h8 := hF.r8
    have h5 := hF.b5
    refine calls_run (fn := f82) (c := (f82.body).getD .skip) [.int .i64 (b : Int), .pointer (some ⟨bj, 0, none⟩), .pointer (some ⟨bp, 0, none⟩), .pointer (some ⟨bf, 0, none⟩)] func82 (by kernel_rfl) (fun x => x = bj) [(bj, .cells #[.int .i64 ((s : Nat) : Int)] 98 (0, 0))] (fun p hp => by rcases List.mem_singleton.1 hp with rfl; exact ⟨hw, rfl, rfl⟩) (List.pairwise_singleton _ _) 39 (by kernel_rfl) (by simp) ?_
    refine run_auto [] 5 [] [0] [0, 1, 2, 3, 7, 8] [0] (st' := ⟨[(0, .int .i64 (b : Int)), (1, .pointer (some ⟨bj, 0, none⟩)), (2, .pointer (some ⟨bp, 0, none⟩)), (3, .pointer (some ⟨bf, 0, none⟩)), (7, .int .i64 (s : Int)), (8, .int .i64 (b : Int))], [(bj, .cells #[.int .i64 (s : Int)] 98 (0, 0))]⟩) (acc := [(.pointer (some ⟨bj, 0, none⟩), .pointer (some ⟨bj, 0, none⟩))]) (by kernel_rfl) (by kernel_rfl) ⟨rfl, trivial⟩ ?_
    cases hd1 : (s.testBit b) with
    | false =>
      have hmu := muJ_or hb hd1
      refine run_ret1 83 #[.int .i64 (s : Int), .int .i64 (b : Int)] (some 9) (.bool false) (by kernel_rfl) (fun w1 k1 h1 => (by have h := has_any s b (by omega) (by omega) w1; rw [hd1] at h; exact h)) ?_
      refine run_auto [] 4 [false] [] [0, 1, 2, 3] [0] (st' := ⟨[(0, .int .i64 (b : Int)), (1, .pointer (some ⟨bj, 0, none⟩)), (2, .pointer (some ⟨bp, 0, none⟩)), (3, .pointer (some ⟨bf, 0, none⟩))], [(bj, .cells #[.int .i64 (s : Int)] 98 (0, 0))]⟩) (acc := [(.bool false, .bool false)]) (by kernel_rfl) (by kernel_rfl) ⟨rfl, trivial⟩ ?_
      refine draw 5 [{ val := fun _ => .int .i64 (s : Int), slots := [1], reads := [0] },
              { val := fun _ => .int .i64 (b : Int), slots := [0] },
              { val := fun _ => .int .i64 ((1 <<< b : Nat) : Int), slots := [11] },
              { val := fun _ => .int .i64 ((s ||| (1 <<< b : Nat) : Nat) : Int), slots := [10, 12] },
              { upd := [(0, fun l => .cells #[.int .i64 ((s ||| (1 <<< b : Nat) : Nat) : Int)] 98 (0, 0))], slots := [1, 13], reads := [0] }] [[], [], [1], [0, 1, 2], [0, 1, 2, 3]] (by kernel_rfl) (by kernel_rfl) (by kernel_rfl) (by kernel_rfl) [0, 2, 3] [0] (by kernel_rfl)
              ⟨⟨⟨⟨⟨trivial,
              tri_quiet (fun β => []) [0] [0] (fun β => [(.pointer (some ⟨bj, 0, none⟩), .pointer (some ⟨bj, 0, none⟩))]) (by kernel_rfl) (fun β extra => by kernel_rfl) (by kernel_rfl) (fun β => ⟨rfl, trivial⟩)⟩,
              tri_quiet (fun β => []) [] [] (fun β => []) (by kernel_rfl) (fun β extra => by kernel_rfl) (by kernel_rfl) (fun β => trivial)⟩,
              tri_v (fun β => (binOp .shl 98 (.int .i64 (1 : Nat)) (.int .i64 (b : Nat)) >>= fun v => pure (Next.value v))) (by kernel_rfl) (fun β extra => by kernel_rfl) (fun β => by kernel_rfl) (fun β w1 k1 h1 => shl_run 1 b (by omega) (by have := shl_le (k := b) (by omega); omega))⟩,
              tri_quiet (fun β => [(13, .int .i64 ((s ||| (1 <<< b : Nat) : Nat) : Int))]) [] [] (fun β => [(.int .i64 (bits .or .i64 (s : Int) ((1 <<< b : Nat) : Int)), .int .i64 ((s ||| (1 <<< b : Nat) : Nat) : Int))]) (by kernel_rfl) (fun β extra => by kernel_rfl) (by kernel_rfl) (fun β => ⟨(or_nat s (1 <<< b : Nat) (by omega) (by have := shl_le (k := b) (by omega); omega)), trivial⟩)⟩,
              tri_quiet (fun β => []) [0] [0] (fun β => [(.pointer (some ⟨bj, 0, none⟩), .pointer (some ⟨bj, 0, none⟩))]) (by kernel_rfl) (fun β extra => by kernel_rfl) (by kernel_rfl) (fun β => ⟨rfl, trivial⟩)⟩
              (fun β => ⟨[(0, .int .i64 (b : Int)), (2, .pointer (some ⟨bp, 0, none⟩)), (3, .pointer (some ⟨bf, 0, none⟩))], [(bj, .cells #[.int .i64 ((s ||| (1 <<< b : Nat) : Nat) : Int)] 98 (0, 0))]⟩) (fun β => by kernel_rfl) (fun β1 => ?_)
      refine run_auto [] 3 [] [] [0, 3, 14] [0] (st' := ⟨[(0, .int .i64 (b : Int)), (3, .pointer (some ⟨bf, 0, none⟩)), (14, .pointer (some ⟨bp, 5, none⟩))], [(bj, .cells #[.int .i64 ((s ||| (1 <<< b : Nat) : Nat) : Int)] 98 (0, 0))]⟩) (acc := []) (by kernel_rfl) (by kernel_rfl) trivial ?_
      refine run_v (Instr.loadAt 28 (.pointer (some ⟨bp, 5, none⟩)) >>= fun v => pure (Next.value v)) (some 15) (.slice p.ra p.rs.length p.rc) (by kernel_rfl) (fun w1 k1 h1 => load_in (base := 0) (off := 5) k1 hnp [.slice p.ba p.bs.length p.bc, .int .i64 p.zlo, .int .i64 p.zhi, .int .i64 p.rlo, .int .i64 p.rhi, .slice p.ra p.rs.length p.rc] (fun i u hi => by rw [Nat.zero_add]; exact cells_of_heap hbp i u hi) (by kernel_rfl)) ?_
      refine run_auto [] 4 [] [] [0, 3, 15, 16, 17] [0] (st' := ⟨[(0, .int .i64 (b : Int)), (3, .pointer (some ⟨bf, 0, none⟩)), (15, .slice p.ra p.rs.length p.rc), (16, .int .i64 (p.rs.length : Int)), (17, .int .i64 0)], [(bj, .cells #[.int .i64 ((s ||| (1 <<< b : Nat) : Nat) : Int)] 98 (0, 0))]⟩) (acc := []) (by kernel_rfl) (by kernel_rfl) trivial ?_
      refine run_auto [] 0 [] [] [0, 3, 15, 16, 17] [0] (st' := ⟨[(0, .int .i64 (b : Int)), (3, .pointer (some ⟨bf, 0, none⟩)), (15, .slice p.ra p.rs.length p.rc), (16, .int .i64 (p.rs.length : Int)), (17, .int .i64 0)], [(bj, .cells #[.int .i64 ((s ||| (1 <<< b : Nat) : Nat) : Int)] 98 (0, 0))]⟩) (acc := []) (by kernel_rfl) (by kernel_rfl) trivial ?_
      refine run_loop (S := fun (k : Nat) => ⟨[(0, .int .i64 (b : Int)), (3, .pointer (some ⟨bf, 0, none⟩)), (15, .slice p.ra p.rs.length p.rc), (16, .int .i64 (p.rs.length : Int)), (17, .int .i64 (k : Int))], [(bj, .cells #[.int .i64 ((joinK p.n.rs n b s k : Nat) : Int)] 98 (0, 0))]⟩) (fun k => k ≤ p.rs.length) (fun k => p.rs.length - k) (0) (by kernel_rfl) (Nat.zero_le _) (by kernel_rfl) (fun k hI0 J0 hJ0 => ?_)
      cases hd2 : (decide ((k : Int) < (p.rs.length : Int))) with
      | false =>
        have hp2 := of_decide_eq_false hd2
        refine run_auto [(18, .bool false)] 7 [false] [] [] [0] (st' := ⟨[], [(bj, .cells #[.int .i64 ((joinK p.n.rs n b s k : Nat) : Int)] 98 (0, 0))]⟩) (acc := [(.bool false, .bool false), (.bool (decide ((k : Int) < (p.rs.length : Int))), .bool false)]) (by kernel_rfl) (by kernel_rfl) ⟨rfl, (bo hd2), trivial⟩ ?_
        refine run_end (fn := f82) rfl (Nat.le_refl _) (by kernel_rfl) [] [] (e := []) (by kernel_rfl) trivial (fun w1 k1 h1 => ?_)
        rw [joinF_no hd1]
        have hkl : k = p.n.rs.length := by rw [nrs_len]; omega
        rw [← hkl]
        exact ⟨rfl, k1, h1 (bj, _) (List.mem_of_getElem? (i := 0) rfl)⟩
      | true =>
        have hp2 := of_decide_eq_true hd2
        have hlt : k < p.rs.length := by omega
        obtain ⟨b_o, o, hba, hno, hc⟩ := hin.rd (by intro h; rw [h] at hlt; cases hlt)
        have hc := hc k hlt
        rw [hba] at hJ0 ⊢
        have hab := elN_a hF hlt
        have hrk : p.n.rs[k]? = some (elN p k) := rs_at hlt
        have hKlt := joinK_lt hr5 n b hs hb k
        have hKmu := muJ_sub (joinK_sub p.n.rs n b s k)
        refine run_auto [(18, .bool true)] 11 [true] [] [0, 3, 15, 16, 17] [0] (st' := ⟨[(0, .int .i64 (b : Int)), (3, .pointer (some ⟨bf, 0, none⟩)), (15, .slice (some ⟨b_o, o, none⟩) p.rs.length p.rc), (16, .int .i64 (p.rs.length : Int)), (17, .int .i64 (k : Int))], [(bj, .cells #[.int .i64 ((joinK p.n.rs n b s k : Nat) : Int)] 98 (0, 0))]⟩) (acc := [(.bool true, .bool true), (.bool (decide ((k : Int) < (p.rs.length : Int))), .bool true)]) (by kernel_rfl) (by kernel_rfl) ⟨rfl, (bo hd2), trivial⟩ ?_
        refine run_v (Instr.indexAt 28 (.slice (some ⟨b_o, o, none⟩) p.rs.length p.rc) (.int .i64 (k : Int)) >>= fun v => pure (Next.value v)) (some 19) (.pointer (some ⟨b_o, o + k * 5, none⟩)) (by kernel_rfl) (fun w1 k1 h1 => idx_run (e := 38) (n := 5) (by kernel_rfl) (by kernel_rfl) b_o o p.rs.length p.rc .i64 k hlt w1) ?_
        refine run_v (Instr.loadAt 38 (.pointer (some ⟨b_o, o + k * 5, none⟩)) >>= fun v => pure (Next.value v)) (some 20) (.agg #[.int .i64 (elR p.rs k).1, .int .i64 (elR p.rs k).2.1, .int .i64 (elR p.rs k).2.2.1, .int .i64 (elR p.rs k).2.2.2.1, .int .i64 (elR p.rs k).2.2.2.2]) (by kernel_rfl) (fun w1 k1 h1 => load_in (off := 0) k1 hno [.int .i64 (elR p.rs k).1, .int .i64 (elR p.rs k).2.1, .int .i64 (elR p.rs k).2.2.1, .int .i64 (elR p.rs k).2.2.2.1, .int .i64 (elR p.rs k).2.2.2.2] (c5 hc.1 hc.2.1 hc.2.2.1 hc.2.2.2.1 hc.2.2.2.2) (by kernel_rfl)) ?_
        refine run_new (.cells #[.int .i64 0, .int .i64 0, .int .i64 0, .int .i64 0, .int .i64 0] 38 (0, 0)) (fun b2 => .pointer (some ⟨b2, 0, none⟩)) (some 6) (fun _ => by kernel_rfl) (fun b2 hb2 => ?_)
        cases hd3 : ((b : Int) == (elR p.rs k).1) with
        | false =>
          have hp3 : ¬ (b : Int) = (elR p.rs k).1 := by simpa using hd3
          cases hd4 : ((b : Int) == (elR p.rs k).2.1) with
          | false =>
            have hp4 : ¬ (b : Int) = (elR p.rs k).2.1 := by simpa using hd4
            refine run_auto [(25, .bool false), (33, .bool false), (38, .int .i64 ((k + 1 : Nat) : Int))] 30 [false, false] [0, 0, 0] [0, 3, 15, 16, 17] [1] (st' := ⟨[(0, .int .i64 (b : Int)), (3, .pointer (some ⟨bf, 0, none⟩)), (15, .slice (some ⟨b_o, o, none⟩) p.rs.length p.rc), (16, .int .i64 (p.rs.length : Int)), (17, .int .i64 ((k + 1 : Nat) : Int))], [(bj, .cells #[.int .i64 ((joinK p.n.rs n b s k : Nat) : Int)] 98 (0, 0))]⟩) (acc := [(.int .i64 (IntKind.i64.wrap ((k : Int) + 1)), .int .i64 ((k + 1 : Nat) : Int)), (.bool false, .bool false), (.bool ((b : Int) == (elR p.rs k).2.1), .bool false), (.pointer (some ⟨b2, 0, none⟩), .pointer (some ⟨b2, 0, none⟩)), (.bool false, .bool false), (.bool ((b : Int) == (elR p.rs k).1), .bool false), (.pointer (some ⟨b2, 0, none⟩), .pointer (some ⟨b2, 0, none⟩)), (.pointer (some ⟨b2, 0, none⟩), .pointer (some ⟨b2, 0, none⟩))]) (by kernel_rfl) (by kernel_rfl) ⟨(wr (by omega) (by omega)), rfl, (bo hd4), rfl, rfl, (bo hd3), rfl, rfl, trivial⟩ ?_
            have hnext : joinK p.n.rs n b s (k + 1) = (joinK p.n.rs n b s k : Nat) := by
              rw [joinK_next hrk]
              unfold joinS
              rw [if_neg (by omega), if_neg (by omega)]
            rw [← hnext]
            exact run_round (by kernel_rfl) (hJ0 (k + 1) (by omega) (by omega))
          | true =>
            have hp4 : (b : Int) = (elR p.rs k).2.1 := by simpa using hd4
            refine run_auto [(25, .bool false), (33, .bool true)] 24 [false, true] [0, 0, 0] [0, 3, 15, 16, 17, 6] [0, 1] (st' := ⟨[(0, .int .i64 (b : Int)), (3, .pointer (some ⟨bf, 0, none⟩)), (15, .slice (some ⟨b_o, o, none⟩) p.rs.length p.rc), (16, .int .i64 (p.rs.length : Int)), (17, .int .i64 (k : Int)), (6, .pointer (some ⟨b2, 0, none⟩))], [(b2, .cells #[.int .i64 (elR p.rs k).1, .int .i64 (elR p.rs k).2.1, .int .i64 (elR p.rs k).2.2.1, .int .i64 (elR p.rs k).2.2.2.1, .int .i64 (elR p.rs k).2.2.2.2] 38 (0, 0)), (bj, .cells #[.int .i64 ((joinK p.n.rs n b s k : Nat) : Int)] 98 (0, 0))]⟩) (acc := [(.bool true, .bool true), (.bool ((b : Int) == (elR p.rs k).2.1), .bool true), (.pointer (some ⟨b2, 0, none⟩), .pointer (some ⟨b2, 0, none⟩)), (.bool false, .bool false), (.bool ((b : Int) == (elR p.rs k).1), .bool false), (.pointer (some ⟨b2, 0, none⟩), .pointer (some ⟨b2, 0, none⟩)), (.pointer (some ⟨b2, 0, none⟩), .pointer (some ⟨b2, 0, none⟩))]) (by kernel_rfl) (by kernel_rfl) ⟨rfl, (bo hd4), rfl, rfl, (bo hd3), rfl, rfl, trivial⟩ ?_
            refine run_v (Instr.loadAt 86 (.pointer (some ⟨bf, 0, none⟩)) >>= fun v => pure (Next.value v)) (some 34) (.func (.func 82) #[] #[.pointer (some ⟨bj, 0, none⟩), .pointer (some ⟨bp, 0, none⟩), .pointer (some ⟨bf, 0, none⟩)]) (by kernel_rfl) (fun w1 k1 h1 => load_in (base := 0) (off := 0) k1 hnf [.func (.func 82) #[] #[.pointer (some ⟨bj, 0, none⟩), .pointer (some ⟨bp, 0, none⟩), .pointer (some ⟨bf, 0, none⟩)]] (fun i u hi => by rw [Nat.zero_add]; exact cells_of_heap hbf i u hi) (by kernel_rfl)) ?_
            refine run_auto [] 2 [] [0] [0, 3, 15, 16, 17, 34, 36] [1] (st' := ⟨[(0, .int .i64 (b : Int)), (3, .pointer (some ⟨bf, 0, none⟩)), (15, .slice (some ⟨b_o, o, none⟩) p.rs.length p.rc), (16, .int .i64 (p.rs.length : Int)), (17, .int .i64 (k : Int)), (34, .func (.func 82) #[] #[.pointer (some ⟨bj, 0, none⟩), .pointer (some ⟨bp, 0, none⟩), .pointer (some ⟨bf, 0, none⟩)]), (36, .int .i64 (elR p.rs k).1)], [(bj, .cells #[.int .i64 ((joinK p.n.rs n b s k : Nat) : Int)] 98 (0, 0))]⟩) (acc := [(.pointer (some ⟨b2, 0, none⟩), .pointer (some ⟨b2, 0, none⟩))]) (by kernel_rfl) (by kernel_rfl) ⟨rfl, trivial⟩ ?_
            refine run_wr 82 #[.int .i64 (elR p.rs k).1, .pointer (some ⟨bj, 0, none⟩), .pointer (some ⟨bp, 0, none⟩), .pointer (some ⟨bf, 0, none⟩)] (some 37) (.tuple #[]) 0 bj (.cells #[.int .i64 ((joinK p.n.rs n b s k : Nat) : Int)] 98 (0, 0)) (.cells #[.int .i64 (((joinF p.n.rs n (joinK p.n.rs n b s k) (elN p k).a) : Nat) : Int)] 98 (0, 0)) (by kernel_rfl) (by kernel_rfl) (by kernel_rfl) (fun w1 k1 h1 => (by have h := join_any p hF bj bp bf n (joinK p.n.rs n b s k) (elN p k).a w1 (by omega) hKlt (by have := hr5 _ (List.mem_of_getElem? hrk); omega) (h1 (bj, .cells #[.int .i64 ((joinK p.n.rs n b s k : Nat) : Int)] 98 (0, 0)) (List.mem_of_getElem? (i := 0) (by kernel_rfl))) (hin.keptD k1) ((k1.block _ (Array.getElem?_eq_some_iff.1 hbp).1 hnp).trans hbp) ((k1.block _ (Array.getElem?_eq_some_iff.1 hbf).1 hnf).trans hbf) hnp hnf; rw [hab.1] at h; exact h)) ?_
            refine run_auto [(38, .int .i64 ((k + 1 : Nat) : Int))] 7 [] [] [0, 3, 15, 16, 17] [0] (st' := ⟨[(0, .int .i64 (b : Int)), (3, .pointer (some ⟨bf, 0, none⟩)), (15, .slice (some ⟨b_o, o, none⟩) p.rs.length p.rc), (16, .int .i64 (p.rs.length : Int)), (17, .int .i64 ((k + 1 : Nat) : Int))], [(bj, .cells #[.int .i64 (((joinF p.n.rs n (joinK p.n.rs n b s k) (elN p k).a) : Nat) : Int)] 98 (0, 0))]⟩) (acc := [(.int .i64 (IntKind.i64.wrap ((k : Int) + 1)), .int .i64 ((k + 1 : Nat) : Int))]) (by kernel_rfl) (by kernel_rfl) ⟨(wr (by omega) (by omega)), trivial⟩ ?_
            have hnext : joinK p.n.rs n b s (k + 1) = ((joinF p.n.rs n (joinK p.n.rs n b s k) (elN p k).a) : Nat) := by
              rw [joinK_next hrk]
              unfold joinS
              rw [if_neg (by omega), if_pos (by omega)]
            rw [← hnext]
            exact run_round (by kernel_rfl) (hJ0 (k + 1) (by omega) (by omega))
        | true =>
          have hp3 : (b : Int) = (elR p.rs k).1 := by simpa using hd3
          refine run_auto [(25, .bool true)] 16 [true] [0, 0] [0, 3, 15, 16, 17, 6] [0, 1] (st' := ⟨[(0, .int .i64 (b : Int)), (3, .pointer (some ⟨bf, 0, none⟩)), (15, .slice (some ⟨b_o, o, none⟩) p.rs.length p.rc), (16, .int .i64 (p.rs.length : Int)), (17, .int .i64 (k : Int)), (6, .pointer (some ⟨b2, 0, none⟩))], [(b2, .cells #[.int .i64 (elR p.rs k).1, .int .i64 (elR p.rs k).2.1, .int .i64 (elR p.rs k).2.2.1, .int .i64 (elR p.rs k).2.2.2.1, .int .i64 (elR p.rs k).2.2.2.2] 38 (0, 0)), (bj, .cells #[.int .i64 ((joinK p.n.rs n b s k : Nat) : Int)] 98 (0, 0))]⟩) (acc := [(.bool true, .bool true), (.bool ((b : Int) == (elR p.rs k).1), .bool true), (.pointer (some ⟨b2, 0, none⟩), .pointer (some ⟨b2, 0, none⟩)), (.pointer (some ⟨b2, 0, none⟩), .pointer (some ⟨b2, 0, none⟩))]) (by kernel_rfl) (by kernel_rfl) ⟨rfl, (bo hd3), rfl, rfl, trivial⟩ ?_
          refine run_v (Instr.loadAt 86 (.pointer (some ⟨bf, 0, none⟩)) >>= fun v => pure (Next.value v)) (some 26) (.func (.func 82) #[] #[.pointer (some ⟨bj, 0, none⟩), .pointer (some ⟨bp, 0, none⟩), .pointer (some ⟨bf, 0, none⟩)]) (by kernel_rfl) (fun w1 k1 h1 => load_in (base := 0) (off := 0) k1 hnf [.func (.func 82) #[] #[.pointer (some ⟨bj, 0, none⟩), .pointer (some ⟨bp, 0, none⟩), .pointer (some ⟨bf, 0, none⟩)]] (fun i u hi => by rw [Nat.zero_add]; exact cells_of_heap hbf i u hi) (by kernel_rfl)) ?_
          refine run_auto [] 2 [] [0] [0, 3, 15, 16, 17, 26, 28] [1] (st' := ⟨[(0, .int .i64 (b : Int)), (3, .pointer (some ⟨bf, 0, none⟩)), (15, .slice (some ⟨b_o, o, none⟩) p.rs.length p.rc), (16, .int .i64 (p.rs.length : Int)), (17, .int .i64 (k : Int)), (26, .func (.func 82) #[] #[.pointer (some ⟨bj, 0, none⟩), .pointer (some ⟨bp, 0, none⟩), .pointer (some ⟨bf, 0, none⟩)]), (28, .int .i64 (elR p.rs k).2.1)], [(bj, .cells #[.int .i64 ((joinK p.n.rs n b s k : Nat) : Int)] 98 (0, 0))]⟩) (acc := [(.pointer (some ⟨b2, 0, none⟩), .pointer (some ⟨b2, 0, none⟩))]) (by kernel_rfl) (by kernel_rfl) ⟨rfl, trivial⟩ ?_
          refine run_wr 82 #[.int .i64 (elR p.rs k).2.1, .pointer (some ⟨bj, 0, none⟩), .pointer (some ⟨bp, 0, none⟩), .pointer (some ⟨bf, 0, none⟩)] (some 29) (.tuple #[]) 0 bj (.cells #[.int .i64 ((joinK p.n.rs n b s k : Nat) : Int)] 98 (0, 0)) (.cells #[.int .i64 (((joinF p.n.rs n (joinK p.n.rs n b s k) (elN p k).b) : Nat) : Int)] 98 (0, 0)) (by kernel_rfl) (by kernel_rfl) (by kernel_rfl) (fun w1 k1 h1 => (by have h := join_any p hF bj bp bf n (joinK p.n.rs n b s k) (elN p k).b w1 (by omega) hKlt (by have := hr5 _ (List.mem_of_getElem? hrk); omega) (h1 (bj, .cells #[.int .i64 ((joinK p.n.rs n b s k : Nat) : Int)] 98 (0, 0)) (List.mem_of_getElem? (i := 0) (by kernel_rfl))) (hin.keptD k1) ((k1.block _ (Array.getElem?_eq_some_iff.1 hbp).1 hnp).trans hbp) ((k1.block _ (Array.getElem?_eq_some_iff.1 hbf).1 hnf).trans hbf) hnp hnf; rw [hab.2] at h; exact h)) ?_
          refine run_auto [(38, .int .i64 ((k + 1 : Nat) : Int))] 7 [] [] [0, 3, 15, 16, 17] [0] (st' := ⟨[(0, .int .i64 (b : Int)), (3, .pointer (some ⟨bf, 0, none⟩)), (15, .slice (some ⟨b_o, o, none⟩) p.rs.length p.rc), (16, .int .i64 (p.rs.length : Int)), (17, .int .i64 ((k + 1 : Nat) : Int))], [(bj, .cells #[.int .i64 (((joinF p.n.rs n (joinK p.n.rs n b s k) (elN p k).b) : Nat) : Int)] 98 (0, 0))]⟩) (acc := [(.int .i64 (IntKind.i64.wrap ((k : Int) + 1)), .int .i64 ((k + 1 : Nat) : Int))]) (by kernel_rfl) (by kernel_rfl) ⟨(wr (by omega) (by omega)), trivial⟩ ?_
          have hnext : joinK p.n.rs n b s (k + 1) = ((joinF p.n.rs n (joinK p.n.rs n b s k) (elN p k).b) : Nat) := by
            rw [joinK_next hrk]
            unfold joinS
            rw [if_pos (by omega)]
          rw [← hnext]
          exact run_round (by kernel_rfl) (hJ0 (k + 1) (by omega) (by omega))
    | true =>
      refine run_ret1 83 #[.int .i64 (s : Int), .int .i64 (b : Int)] (some 9) (.bool true) (by kernel_rfl) (fun w1 k1 h1 => (by have h := has_any s b (by omega) (by omega) w1; rw [hd1] at h; exact h)) ?_
      refine run_auto [] 2 [true] [] [0, 1, 2, 3] [0] (st' := ⟨[(0, .int .i64 (b : Int)), (1, .pointer (some ⟨bj, 0, none⟩)), (2, .pointer (some ⟨bp, 0, none⟩)), (3, .pointer (some ⟨bf, 0, none⟩))], [(bj, .cells #[.int .i64 (s : Int)] 98 (0, 0))]⟩) (acc := [(.bool true, .bool true)]) (by kernel_rfl) (by kernel_rfl) ⟨rfl, trivial⟩ ?_
      refine run_end (fn := f82) rfl (Nat.le_refl _) (by kernel_rfl) [] [] (e := []) (by kernel_rfl) trivial (fun w1 k1 h1 => ?_)
      rw [joinF_yes hd1]
      exact ⟨rfl, k1, h1 (bj, _) (List.mem_of_getElem? (i := 0) rfl)⟩
end Go.Proofs.Ytmiobcnccbfknaa
