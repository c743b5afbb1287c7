/-
  WEAR: Clash: the fewest readings with which alone there is no truth.
-/
import Derived.Test.YtdehgplklgfcdaaGreatGg
import Derived.Test.YtdehgplklgfcdaaGreatGb
namespace Go.Proofs.YtdehgplklgfcdaaGreat
open Go.RowKit Go.Proofs.Tryz


def ffB (of size s : Nat) : Bool := subB s of && (bitsN s == size)
def ffP (of i j : Nat) : List Nat := ((List.range i).flatMap fun size => (List.range (of + 1)).filter (ffB of size)) ++ (List.range j).filter (ffB of i)
/-- All sets of some events, those of fewer first. -/
def ffL (of : Nat) : List Nat := ffP of (bitsN of + 1) 0
def nv (s : Nat) : List Value := [.int .i64 (s : Int)]
theorem ffP_yes {of i j : Nat} (h : ffB of i j = true) : ffP of i (j + 1) = ffP of i j ++ [j] := by
  unfold ffP
  rw [List.range_succ (n := j), List.filter_append, List.append_assoc]
  congr 2
  simp [h]
theorem ffP_no {of i j : Nat} (h : ffB of i j = false) : ffP of i (j + 1) = ffP of i j := by
  unfold ffP
  rw [List.range_succ (n := j), List.filter_append]
  simp [h]
theorem ffP_row (of i : Nat) : ffP of i (of + 1) = ffP of (i + 1) 0 := by
  unfold ffP
  rw [List.range_succ (n := i), List.flatMap_append]
  simp
theorem ffP_in (of : Nat) : ∀ (d i j : Nat), j ≤ of + 1 → ffP of i j <+: ffP of (i + 1 + d) 0
  | 0, i, j, hj => by
    rw [← ffP_row]
    unfold ffP
    refine (List.prefix_append_right_inj _).2 ?_
    obtain ⟨e, he⟩ := Nat.exists_eq_add_of_le hj
    rw [he, show List.range (j + e) = List.range j ++ (List.range e).map (j + ·) from List.range_add, List.filter_append]
    exact List.prefix_append _ _
  | d + 1, i, j, hj => (ffP_in of 0 i j hj).trans (by
      have := ffP_in of d (i + 1) 0 (Nat.zero_le _)
      rwa [show i + 1 + 1 + d = i + 1 + (d + 1) by omega] at this)
theorem ffP_pre {of i j : Nat} (hi : i < bitsN of + 1) (hj : j < of + 1) (h : ffB of i j = true) : (ffP of i j).map nv ++ [nv j] <+: (ffL of).map nv := by
  have h1 : ffP of i (j + 1) <+: ffL of := by
    obtain ⟨d, hd⟩ := Nat.exists_eq_add_of_le (show i + 1 ≤ bitsN of + 1 from hi)
    unfold ffL
    rw [hd]
    exact ffP_in of d i (j + 1) (by omega)
  rw [ffP_yes h] at h1
  have := h1.map nv
  rwa [List.map_append] at this
theorem map_rgL (L : List Nat) : L.map nv = rgL L.length fun i => nv (L.getD i 0) := by
  unfold rgL
  apply List.ext_getElem
  · simp
  · intro i h1 h2
    simp at h1
    simp [List.getD_eq_getElem?_getD, h1]
theorem map_at {L : List Nat} {pre : List (List Value)} {x : List Value} (h : pre ++ [x] <+: L.map nv) : pre.length < L.length ∧ x = nv (L.getD pre.length 0) := by
  rw [map_rgL] at h
  have := rgL_at h
  exact ⟨this.1, this.2.2⟩
theorem getD_mem {L : List Nat} {i : Nat} (h : i < L.length) : L.getD i 0 ∈ L := by rw [List.getD_eq_getElem?_getD, List.getElem?_eq_getElem h]; exact List.getElem_mem h
theorem firstL_idx {pr : Nat → Bool} {L : List Nat} {y : Nat} (hy : y < L.length) (hp : pr (L.getD y 0) = true) (h : ∀ i, i < y → pr (L.getD i 0) = false) : firstL pr L = some (L.getD y 0) := by
  have e : L = L.take y ++ (L.getD y 0 :: L.drop (y + 1)) := by
    rw [List.getD_eq_getElem?_getD, List.getElem?_eq_getElem hy, Option.getD_some, ← List.drop_eq_getElem_cons hy, List.take_append_drop]
  conv => lhs; rw [e]
  rw [firstL_append _ _ _ fun x hx => by
    obtain ⟨i, hi, rfl⟩ := List.getElem_of_mem hx
    rw [List.length_take] at hi
    have := h i (by omega)
    rw [List.getD_eq_getElem?_getD, List.getElem?_eq_getElem (by omega), Option.getD_some] at this
    rw [List.getElem_take]
    exact this]
  show (bif pr (L.getD y 0) then some (L.getD y 0) else _) = _
  rw [hp]
  rfl
theorem firstL_nidx {pr : Nat → Bool} {L : List Nat} (h : ∀ i, i < L.length → pr (L.getD i 0) = false) : firstL pr L = none := firstL_none.2 fun x hx => by
  obtain ⟨i, hi, rfl⟩ := List.getElem_of_mem hx
  have := h i hi
  rwa [List.getD_eq_getElem?_getD, List.getElem?_eq_getElem hi, Option.getD_some] at this
theorem ff_mem {of s : Nat} : s ∈ ffL of ↔ s ≤ of ∧ subB s of = true ∧ bitsN s ≤ bitsN of := by
  unfold ffL ffP
  simp only [List.range_zero, List.filter_nil, List.append_nil, List.mem_flatMap, List.mem_range, List.mem_filter, ffB, Bool.and_eq_true, beq_iff_eq]
  constructor
  · rintro ⟨i, h1, h2, h3, h4⟩
    exact ⟨by omega, h3, by omega⟩
  · rintro ⟨h1, h2, h3⟩
    exact ⟨bitsN s, by omega, by omega, h2, rfl⟩
def Wn.clB (w : Wn) (s : Nat) : Bool := !(w.look s).can
/-- The fewest readings that clash. -/
def Wn.cl (w : Wn) : Option Nat := firstL w.clB (ffL w.reads)
theorem cl_some {w : Wn} (h : w.can = false) : w.cl.isSome = true := by
  cases hc : w.cl with
  | some _ => rfl
  | none =>
    have h1 := firstL_none.1 hc w.reads (ff_mem.2 ⟨Nat.le_refl _, by unfold subB; simp, Nat.le_refl _⟩)
    unfold Wn.clB at h1
    rw [Wn.look_all, h] at h1
    cases h1
def clashR (p : Wb) : Sum Int Int := bif p.n.ok then bif p.n.can then .inl 4 else .inr (((p.n.cl.getD 0 : Nat)) : Int) else .inl 1
set_option maxRecDepth 100000 in
theorem fewestFirst_any (N : Int) (w : World)  : Calls Tryz.prog 120 #[.int .i64 N] w (Nw (α := Unit) (fun _ b => .func (.func 128) #[] #[.pointer (some ⟨b, 0, none⟩)]) (fun _ => .cells #[.int .i64 N] 86 (0, 0)) (fun _ => True) w) := by
  refine calls_run (fn := f120) (c := (f120.body).getD .skip) [.int .i64 N] func120 (by kernel_rfl) (fun _ => False) [] (fun _ h => by cases h) (List.Pairwise.nil) 4 (by kernel_rfl) (by simp) ?_
  refine run_auto [] 2 [] [] [0] [] (st' := ⟨[(0, iV N)], []⟩) (acc := []) (by kernel_rfl) (by kernel_rfl) trivial ?_
  refine run_new (aO #[iV N] 86) (fun b1 => pA b1) (some 1) (fun _ => by kernel_rfl) (fun b1 hb1 => ?_)
  refine run_auto [] 7 [] [] [2] [0] (st' := ⟨[(2, .func (.func 128) #[] #[pA b1])], [(b1, aO #[iV N] 86)]⟩) (acc := []) (by kernel_rfl) (by kernel_rfl) trivial ?_
  refine run_end (fn := f120) rfl (Nat.le_refl _) (by kernel_rfl) [] [.func (.func 128) #[] #[pA b1]] (e := []) (by kernel_rfl) trivial (fun w1 k1 h1 => ?_)
  exact ⟨(), b1, trivial, hb1, rfl, k1.keeps (fun _ h => h), h1 (b1, _) (List.mem_of_getElem? (i := 0) rfl)⟩

set_option maxRecDepth 100000 in
theorem ff_give (of b : Nat) (hof : of < 256) : Gives Tryz.prog 128 #[.pointer (some ⟨b, 0, none⟩)] [] (OwnD [(b, .cells #[.int .i64 (of : Int)] 86 (0, 0))]) (fun l => l <+: (ffL of).map nv) (fun l => l = (ffL of).map nv) := by
  intro l J Jx E0 w hE0 hst hJw hown hdis hin hy
  have hb := (hin _ (List.mem_singleton.2 rfl)).1
  have hnd := (hin _ (List.mem_singleton.2 rfl)).2
  have hbn : bitsN of ≤ 8 := bitsN_le (n := 8) (Nat.le_refl _) hof
  refine calls_runE (fn := f128) (c := (f128.body).getD .skip) [.func (.yield l) #[] #[], .pointer (some ⟨b, 0, none⟩)] func128 (by kernel_rfl) E0 hE0 hJw 33 (by kernel_rfl) (by simp) ?_
  refine run_auto [] 2 [] [] [0, 1] [] (st' := ⟨[(0, .func (.yield l) #[] #[]), (1, pA b)], []⟩) (acc := []) (by kernel_rfl) (by kernel_rfl) trivial ?_
  refine run_v (Instr.loadAt 86 (pA b) >>= fun v => pure (Next.value v)) (some 5) (iV (of : Int)) (by kernel_rfl) (fun w1 k1 h1 => load_in (base := 0) (off := 0) k1 hnd [iV (of : Int)] (fun i u hi => by rw [Nat.zero_add]; exact cells_of_heap hb i u hi) (by kernel_rfl)) ?_
  refine run_ret1 129 #[iV (of : Int)] (some 6) (iV ((bitsN of : Nat) : Int)) (by kernel_rfl) (fun w1 k1 h1 => size_any of (by omega) w1) ?_
  refine run_auto [(7, iV (((bitsN of : Nat) : Int) + 1))] 4 [] [] [0, 1, 7, 8] [] (st' := ⟨[(0, .func (.yield l) #[] #[]), (1, pA b), (7, iV (((bitsN of : Nat) : Int) + 1)), (8, iV 0)], []⟩) (acc := [(iV (IntKind.i64.wrap (((bitsN of : Nat) : Int) + 1)), iV (((bitsN of : Nat) : Int) + 1))]) (by kernel_rfl) (by kernel_rfl) ⟨(wr (by omega) (by omega)), trivial⟩ ?_
  refine run_auto [] 0 [] [] [0, 1, 7, 8] [] (st' := ⟨[(0, .func (.yield l) #[] #[]), (1, pA b), (7, iV (((bitsN of : Nat) : Int) + 1)), (8, iV 0)], []⟩) (acc := []) (by kernel_rfl) (by kernel_rfl) trivial ?_
  refine run_loopE (σ := Nat × Ext) (S := fun (x : Nat × Ext) => ⟨[(0, .func (.yield l) #[] #[]), (1, pA b), (7, iV (((bitsN of : Nat) : Int) + 1)), (8, iV (x.1 : Int))], []⟩) (fun (x : Nat × Ext) => x.2) (fun (x : Nat × Ext) => x.1 ≤ (bitsN of + 1) ∧ J ((ffP of x.1 0).map nv) x.2 ∧ x.2.n0 = E0.n0 ∧ (∀ b, b < w.heap.size → x.2.D b → E0.D b)) (fun (x : Nat × Ext) => (bitsN of + 1) - x.1) ((0, E0)) (by kernel_rfl) (⟨Nat.zero_le _, hst, rfl, (fun _ _ h => h)⟩) (by simp) rfl (fun x hI0 J0 hJ0 => ?_)
  obtain ⟨i, Ea⟩ := x
  obtain ⟨hl0, hJEa, hnEa, hsEa⟩ := hI0
  dsimp only at hl0 hJEa hnEa hsEa hJ0
  cases hd1 : (decide ((i : Int) < (((bitsN of : Nat) : Int) + 1))) with
  | false =>
    have hp1 := of_decide_eq_false hd1
    refine run_auto [(9, .bool false)] 7 [false] [] [] [] (st' := ⟨[], []⟩) (acc := [(.bool false, .bool false), (.bool (decide ((i : Int) < (((bitsN of : Nat) : Int) + 1))), .bool false)]) (by kernel_rfl) (by kernel_rfl) ⟨rfl, (bo hd1), trivial⟩ ?_
    refine run_endE (fn := f128) rfl (Nat.le_refl _) (by kernel_rfl) [] [] (e := []) (by kernel_rfl) trivial (fun w1 k1 h1 hE1 => ?_)
    exact ⟨rfl, Ea, hnEa, hE1, .inl ⟨_, rfl, by have h := hJEa; rw [show i = bitsN of + 1 by omega] at h; exact h⟩⟩
  | true =>
    have hp1 := of_decide_eq_true hd1
    refine run_auto [(9, .bool true)] 16 [true] [] [0, 1, 7, 8, 3] [] (st' := ⟨[(0, .func (.yield l) #[] #[]), (1, pA b), (7, iV (((bitsN of : Nat) : Int) + 1)), (8, iV (i : Int)), (3, iV (i : Int))], []⟩) (acc := [(.bool true, .bool true), (.bool (decide ((i : Int) < (((bitsN of : Nat) : Int) + 1))), .bool true)]) (by kernel_rfl) (by kernel_rfl) ⟨rfl, (bo hd1), trivial⟩ ?_
    refine run_v (Instr.loadAt 86 (pA b) >>= fun v => pure (Next.value v)) (some 11) (iV (of : Int)) (by kernel_rfl) (fun w1 k1 h1 => load_in (base := 0) (off := 0) k1 hnd [iV (of : Int)] (fun i u hi => by rw [Nat.zero_add]; exact cells_of_heap hb i u hi) (by kernel_rfl)) ?_
    refine run_auto [(12, iV ((of + 1 : Nat) : Int))] 4 [] [] [0, 1, 7, 8, 3, 12, 13] [] (st' := ⟨[(0, .func (.yield l) #[] #[]), (1, pA b), (7, iV (((bitsN of : Nat) : Int) + 1)), (8, iV (i : Int)), (3, iV (i : Int)), (12, iV ((of + 1 : Nat) : Int)), (13, iV 0)], []⟩) (acc := [(iV (IntKind.i64.wrap ((of : Int) + 1)), iV ((of + 1 : Nat) : Int))]) (by kernel_rfl) (by kernel_rfl) ⟨(wr (by omega) (by omega)), trivial⟩ ?_
    refine run_auto [] 0 [] [] [0, 1, 7, 8, 3, 12, 13] [] (st' := ⟨[(0, .func (.yield l) #[] #[]), (1, pA b), (7, iV (((bitsN of : Nat) : Int) + 1)), (8, iV (i : Int)), (3, iV (i : Int)), (12, iV ((of + 1 : Nat) : Int)), (13, iV 0)], []⟩) (acc := []) (by kernel_rfl) (by kernel_rfl) trivial ?_
    refine run_loopE (σ := Nat × Ext) (S := fun (y : Nat × Ext) => ⟨[(0, .func (.yield l) #[] #[]), (1, pA b), (7, iV (((bitsN of : Nat) : Int) + 1)), (8, iV (i : Int)), (3, iV (i : Int)), (12, iV ((of + 1 : Nat) : Int)), (13, iV (y.1 : Int))], []⟩) (fun (y : Nat × Ext) => y.2) (fun (y : Nat × Ext) => y.1 ≤ (of + 1) ∧ J ((ffP of i y.1).map nv) y.2 ∧ y.2.n0 = E0.n0 ∧ (∀ b, b < w.heap.size → y.2.D b → E0.D b)) (fun (y : Nat × Ext) => (of + 1) - y.1) ((0, Ea)) (by kernel_rfl) (⟨Nat.zero_le _, hJEa, hnEa, hsEa⟩) (by simp) rfl (fun y hI1 J1 hJ1 => ?_)
    obtain ⟨j, Eb⟩ := y
    obtain ⟨hl1, hJEb, hnEb, hsEb⟩ := hI1
    dsimp only at hl1 hJEb hnEb hsEb hJ1
    cases hd2 : (decide ((j : Int) < ((of + 1 : Nat) : Int))) with
    | false =>
      have hp2 := of_decide_eq_false hd2
      refine run_auto [(14, .bool false), (32, iV ((i + 1 : Nat) : Int))] 12 [false] [] [0, 1, 7, 8] [] (st' := ⟨[(0, .func (.yield l) #[] #[]), (1, pA b), (7, iV (((bitsN of : Nat) : Int) + 1)), (8, iV ((i + 1 : Nat) : Int))], []⟩) (acc := [(iV (IntKind.i64.wrap ((i : Int) + 1)), iV ((i + 1 : Nat) : Int)), (.bool false, .bool false), (.bool (decide ((j : Int) < ((of + 1 : Nat) : Int))), .bool false)]) (by kernel_rfl) (by kernel_rfl) ⟨(wr (by omega) (by omega)), rfl, (bo hd2), trivial⟩ ?_
      exact run_round (by kernel_rfl) (hJ0 ((i + 1, Eb)) (⟨by dsimp only; omega, by have h := hJEb; rw [show j = of + 1 by omega, ffP_row] at h; exact h, hnEb, hsEb⟩) (by dsimp only; omega))
    | true =>
      have hp2 := of_decide_eq_true hd2
      refine run_auto [(14, .bool true)] 17 [true] [] [0, 1, 7, 8, 3, 12, 13, 4, 16] [] (st' := ⟨[(0, .func (.yield l) #[] #[]), (1, pA b), (7, iV (((bitsN of : Nat) : Int) + 1)), (8, iV (i : Int)), (3, iV (i : Int)), (12, iV ((of + 1 : Nat) : Int)), (13, iV (j : Int)), (4, iV (j : Int)), (16, iV (j : Int))], []⟩) (acc := [(.bool true, .bool true), (.bool (decide ((j : Int) < ((of + 1 : Nat) : Int))), .bool true)]) (by kernel_rfl) (by kernel_rfl) ⟨rfl, (bo hd2), trivial⟩ ?_
      refine run_v (Instr.loadAt 86 (pA b) >>= fun v => pure (Next.value v)) (some 17) (iV (of : Int)) (by kernel_rfl) (fun w1 k1 h1 => load_in (base := 0) (off := 0) k1 hnd [iV (of : Int)] (fun i u hi => by rw [Nat.zero_add]; exact cells_of_heap hb i u hi) (by kernel_rfl)) ?_
      cases hd3 : (subB j of) with
      | false =>
        refine run_ret1 130 #[iV (j : Int), iV (of : Int)] (some 18) (.bool false) (by kernel_rfl) (fun w1 k1 h1 => (by have h := isIn_any j of (by omega) (by omega) w1; rw [hd3] at h; exact h)) ?_
        refine run_auto [(31, iV ((j + 1 : Nat) : Int))] 20 [false] [] [0, 1, 7, 8, 3, 12, 13] [] (st' := ⟨[(0, .func (.yield l) #[] #[]), (1, pA b), (7, iV (((bitsN of : Nat) : Int) + 1)), (8, iV (i : Int)), (3, iV (i : Int)), (12, iV ((of + 1 : Nat) : Int)), (13, iV ((j + 1 : Nat) : Int))], []⟩) (acc := [(iV (IntKind.i64.wrap ((j : Int) + 1)), iV ((j + 1 : Nat) : Int)), (.bool false, .bool false)]) (by kernel_rfl) (by kernel_rfl) ⟨(wr (by omega) (by omega)), rfl, trivial⟩ ?_
        exact run_round (by kernel_rfl) (hJ1 ((j + 1, Eb)) (⟨by dsimp only; omega, by have h := hJEb; rw [ffP_no (by unfold ffB; rw [hd3]; rfl)]; exact h, hnEb, hsEb⟩) (by dsimp only; omega))
      | true =>
        refine run_ret1 130 #[iV (j : Int), iV (of : Int)] (some 18) (.bool true) (by kernel_rfl) (fun w1 k1 h1 => (by have h := isIn_any j of (by omega) (by omega) w1; rw [hd3] at h; exact h)) ?_
        refine run_auto [] 2 [] [] [0, 1, 7, 8, 3, 12, 13, 4, 19, 20] [] (st' := ⟨[(0, .func (.yield l) #[] #[]), (1, pA b), (7, iV (((bitsN of : Nat) : Int) + 1)), (8, iV (i : Int)), (3, iV (i : Int)), (12, iV ((of + 1 : Nat) : Int)), (13, iV (j : Int)), (4, iV (j : Int)), (19, .bool true), (20, iV (j : Int))], []⟩) (acc := []) (by kernel_rfl) (by kernel_rfl) trivial ?_
        refine run_ret1 129 #[iV (j : Int)] (some 21) (iV ((bitsN j : Nat) : Int)) (by kernel_rfl) (fun w1 k1 h1 => size_any j (by omega) w1) ?_
        cases hd4 : (((bitsN j : Nat) : Int) == (i : Int)) with
        | false =>
          have hp4 : ¬ ((bitsN j : Nat) : Int) = (i : Int) := by simpa using hd4
          refine run_auto [(23, .bool false), (31, iV ((j + 1 : Nat) : Int))] 17 [false] [] [0, 1, 7, 8, 3, 12, 13] [] (st' := ⟨[(0, .func (.yield l) #[] #[]), (1, pA b), (7, iV (((bitsN of : Nat) : Int) + 1)), (8, iV (i : Int)), (3, iV (i : Int)), (12, iV ((of + 1 : Nat) : Int)), (13, iV ((j + 1 : Nat) : Int))], []⟩) (acc := [(iV (IntKind.i64.wrap ((j : Int) + 1)), iV ((j + 1 : Nat) : Int)), (.bool false, .bool false), (.bool (((bitsN j : Nat) : Int) == (i : Int)), .bool false)]) (by kernel_rfl) (by kernel_rfl) ⟨(wr (by omega) (by omega)), rfl, (bo hd4), trivial⟩ ?_
          exact run_round (by kernel_rfl) (hJ1 ((j + 1, Eb)) (⟨by dsimp only; omega, by have h := hJEb; rw [ffP_no (by unfold ffB; rw [hd3, show (bitsN j == i) = false by have := hd4; simp at this ⊢; omega]; rfl)]; exact h, hnEb, hsEb⟩) (by dsimp only; omega))
        | true =>
          have hp4 : ((bitsN j : Nat) : Int) = (i : Int) := by simpa using hd4
          refine run_auto [(23, .bool true)] 6 [] [] [0, 1, 7, 8, 3, 12, 13, 25, 26, 27] [] (st' := ⟨[(0, .func (.yield l) #[] #[]), (1, pA b), (7, iV (((bitsN of : Nat) : Int) + 1)), (8, iV (i : Int)), (3, iV (i : Int)), (12, iV ((of + 1 : Nat) : Int)), (13, iV (j : Int)), (25, .bool true), (26, .func (.yield l) #[] #[]), (27, iV (j : Int))], []⟩) (acc := [(.bool (((bitsN j : Nat) : Int) == (i : Int)), .bool true)]) (by kernel_rfl) (by kernel_rfl) ⟨(bo hd4), trivial⟩ ?_
          have hff : ffB of i j = true := by unfold ffB; rw [hd3, show (bitsN j == i) = true by have := hd4; simp at this ⊢; omega]; rfl
          have hpre := ffP_pre (of := of) (i := i) (j := j) (by omega) (by omega) hff
          refine run_yield l #[iV (j : Int)] (some 28) (by kernel_rfl) hsEb (Yt (J ((ffP of i j).map nv ++ [nv j])) Jx) (fun w1 hJ1 k1 => Ygives.out (Ygives.of (E := Eb) (hy _ (nv j) Eb w1 hpre hJEb hnEb hJ1) hnEb)) (fun E3 t hok hn3 hs3 => ?_)
          have hs4 : ∀ b, b < w.heap.size → E3.D b → E0.D b := fun b hb h => (hs3 b h).elim (hsEb b hb) (fun h => absurd hb (Nat.not_lt.2 h))
          cases hd5 : t with
          | false =>
            rw [hd5] at hok
            dsimp only [Yt] at hok
            refine run_auto [(29, .bool true)] 4 [true] [] [0, 1, 7, 8, 3, 12, 13] [] (st' := ⟨[(0, .func (.yield l) #[] #[]), (1, pA b), (7, iV (((bitsN of : Nat) : Int) + 1)), (8, iV (i : Int)), (3, iV (i : Int)), (12, iV ((of + 1 : Nat) : Int)), (13, iV (j : Int))], []⟩) (acc := [(.bool true, .bool true), (.bool true, .bool true)]) (by kernel_rfl) (by kernel_rfl) ⟨rfl, rfl, trivial⟩ ?_
            refine run_endE (fn := f128) rfl (Nat.le_refl _) (by kernel_rfl) [] [] (e := []) (by kernel_rfl) trivial (fun w1 k1 h1 hE1 => ?_)
            exact ⟨rfl, E3, (hn3.trans hnEb), hE1, .inr hok⟩
          | true =>
            rw [hd5] at hok
            dsimp only [Yt] at hok
            refine run_auto [(29, .bool false), (31, iV ((j + 1 : Nat) : Int))] 10 [false] [] [0, 1, 7, 8, 3, 12, 13] [] (st' := ⟨[(0, .func (.yield l) #[] #[]), (1, pA b), (7, iV (((bitsN of : Nat) : Int) + 1)), (8, iV (i : Int)), (3, iV (i : Int)), (12, iV ((of + 1 : Nat) : Int)), (13, iV ((j + 1 : Nat) : Int))], []⟩) (acc := [(iV (IntKind.i64.wrap ((j : Int) + 1)), iV ((j + 1 : Nat) : Int)), (.bool false, .bool false), (.bool false, .bool false)]) (by kernel_rfl) (by kernel_rfl) ⟨(wr (by omega) (by omega)), rfl, rfl, trivial⟩ ?_
            exact run_round (by kernel_rfl) (hJ1 ((j + 1, E3)) (⟨by dsimp only; omega, by have h := hok; rw [ffP_yes hff, List.map_append]; exact h, (hn3.trans hnEb), hs4⟩) (by dsimp only; omega))

theorem Wb.InD.kept {p : Wb} {D : Nat → Prop} {w w' : World} (h : p.InD D w) (k : Kept D w w') : p.InD D w' := ⟨h.ev.kept k fun _ _ h => h, h.ln⟩
set_option maxRecDepth 100000 in
theorem clash1_any (p : Wb) (bh bm s : Nat) (L : List Nat) (w : World) (hw : w.heap[bm]? = some (memO kvS (vvS p.n) L)) (hbh : w.heap[bh]? = some (.cells #[.int .i64 p.ll, .int .i64 p.lh, .int .i64 p.ul, .int .i64 p.uh, .slice p.ea p.es.length p.ec, .map (some bm)] 127 (0, 0))) (hne : ¬ bh = bm) (hin : p.InD (fun x => x = bm) w) (hF : p.n.Fine) (hs : s < 256) : Calls Tryz.prog 118 #[.int .i64 (s : Int), .pointer (some ⟨bh, 0, none⟩)] w (Wr bm (.bool (p.n.clB s)) (memO kvS (vvS p.n) (memI L s)) w) := by
  refine calls_run (fn := f118) (c := (f118.body).getD .skip) [.int .i64 (s : Int), .pointer (some ⟨bh, 0, none⟩)] func118 (by kernel_rfl) (fun x => x = bm) [(bm, memO kvS (vvS p.n) L)] (fun p hp => by rcases List.mem_singleton.1 hp with rfl; exact ⟨hw, rfl, rfl⟩) (List.pairwise_singleton _ _) 10 (by kernel_rfl) (by simp) ?_
  refine run_auto [] 6 [] [] [0, 1, 3] [0] (st' := ⟨[(0, iV (s : Int)), (1, pA bh), (3, .bool false)], [(bm, memO kvS (vvS p.n) L)]⟩) (acc := []) (by kernel_rfl) (by kernel_rfl) trivial ?_
  refine run_v (Instr.loadAt 127 (pA bh) >>= fun v => pure (Next.value v)) (some 4) (.agg #[iV p.ll, iV p.lh, iV p.ul, iV p.uh, .slice p.ea p.es.length p.ec, .map (some bm)]) (by kernel_rfl) (fun w1 k1 h1 => load_in (base := 0) (off := 0) k1 hne [iV p.ll, iV p.lh, iV p.ul, iV p.uh, .slice p.ea p.es.length p.ec, .map (some bm)] (fun i u hi => by rw [Nat.zero_add]; exact cells_of_heap hbh i u hi) (by kernel_rfl)) ?_
  refine run_auto [] 2 [] [] [3, 4, 6] [0] (st' := ⟨[(3, .bool false), (4, .agg #[iV p.ll, iV p.lh, iV p.ul, iV p.uh, .slice p.ea p.es.length p.ec, .map (some bm)]), (6, .agg #[iV (s : Int)])], [(bm, memO kvS (vvS p.n) L)]⟩) (acc := []) (by kernel_rfl) (by kernel_rfl) trivial ?_
  refine run_wr 98 #[.agg #[iV p.ll, iV p.lh, iV p.ul, iV p.uh, .slice p.ea p.es.length p.ec, .map (some bm)], .agg #[iV (s : Int)]] (some 7) (.agg (rowL 9 (cC (p.n.look s))).toArray) 0 bm (memO kvS (vvS p.n) L) (memO kvS (vvS p.n) (memI L s)) (by kernel_rfl) (by kernel_rfl) (by kernel_rfl) (fun w1 k1 h1 => hcourse_any p bm s L w1 (h1 (bm, memO kvS (vvS p.n) L) (List.mem_of_getElem? (i := 0) (by kernel_rfl))) (hin.kept k1) hin.ln hF hs) ?_
  cases hd1 : ((p.n.look s).can) with
  | false =>
    refine run_ret1 100 #[.agg (rowL 9 (cC (p.n.look s))).toArray] (some 8) (.bool false) (by kernel_rfl) (fun w1 k1 h1 => (by have h := coursePossible_any (p.n.look s) w1; rw [hd1] at h; exact h)) ?_
    refine run_auto [(9, .bool true)] 3 [] [] [3] [0] (st' := ⟨[(3, .bool true)], [(bm, memO kvS (vvS p.n) (memI L s))]⟩) (acc := [(.bool true, .bool true)]) (by kernel_rfl) (by kernel_rfl) ⟨rfl, trivial⟩ ?_
    refine run_end (fn := f118) rfl (Nat.le_refl _) (by kernel_rfl) [] [.bool true] (e := []) (by kernel_rfl) trivial (fun w1 k1 h1 => ?_)
    exact ⟨by unfold Wn.clB; rw [hd1]; rfl, k1, h1 (bm, _) (List.mem_of_getElem? (i := 0) rfl)⟩
  | true =>
    refine run_ret1 100 #[.agg (rowL 9 (cC (p.n.look s))).toArray] (some 8) (.bool true) (by kernel_rfl) (fun w1 k1 h1 => (by have h := coursePossible_any (p.n.look s) w1; rw [hd1] at h; exact h)) ?_
    refine run_auto [(9, .bool false)] 3 [] [] [3] [0] (st' := ⟨[(3, .bool false)], [(bm, memO kvS (vvS p.n) (memI L s))]⟩) (acc := [(.bool false, .bool false)]) (by kernel_rfl) (by kernel_rfl) ⟨rfl, trivial⟩ ?_
    refine run_end (fn := f118) rfl (Nat.le_refl _) (by kernel_rfl) [] [.bool false] (e := []) (by kernel_rfl) trivial (fun w1 k1 h1 => ?_)
    exact ⟨by unfold Wn.clB; rw [hd1]; rfl, k1, h1 (bm, _) (List.mem_of_getElem? (i := 0) rfl)⟩

set_option maxRecDepth 100000 in
theorem firstSet_any (p : Wb) (of bi bh bm : Nat) (L : List Nat) (w : World) (hw : w.heap[bm]? = some (memO kvS (vvS p.n) L)) (hbh : w.heap[bh]? = some (.cells #[.int .i64 p.ll, .int .i64 p.lh, .int .i64 p.ul, .int .i64 p.uh, .slice p.ea p.es.length p.ec, .map (some bm)] 127 (0, 0))) (hne : ¬ bh = bm) (hbi : w.heap[bi]? = some (.cells #[.int .i64 (of : Int)] 86 (0, 0))) (hin : p.InD (fun x => x = bm) w) (hF : p.n.Fine) (hof : of < 256) : Calls Tryz.prog 119 #[.agg #[.func (.func 128) #[] #[.pointer (some ⟨bi, 0, none⟩)], .func (.func 118) #[] #[.pointer (some ⟨bh, 0, none⟩)]]] w (NwW (α := List Nat) (fun _ => .tuple #[.int .i64 (((firstL p.n.clB (ffL of)).getD 0 : Nat) : Int), .bool ((firstL p.n.clB (ffL of)).isSome)]) (fun _ => []) bm (fun x => memO kvS (vvS p.n) x) (fun _ => True) w) := by
  have hbo : OwnD [(bi, .cells #[.int .i64 (of : Int)] 86 (0, 0))] (fun x => x = bm) w := fun q hq => by rw [List.mem_singleton] at hq; subst hq; exact ⟨hbi, fun h => by have h : bi = bm := h; rw [h, hw] at hbi; cases hbi⟩
  refine calls_run (fn := f119) (c := (f119.body).getD .skip) [.agg #[.func (.func 128) #[] #[.pointer (some ⟨bi, 0, none⟩)], .func (.func 118) #[] #[.pointer (some ⟨bh, 0, none⟩)]]] func119 (by kernel_rfl) (fun x => x = bm) [(bm, memO kvS (vvS p.n) L)] (fun p hp => by rcases List.mem_singleton.1 hp with rfl; exact ⟨hw, rfl, rfl⟩) (List.pairwise_singleton _ _) 13 (by kernel_rfl) (by simp) ?_
  refine run_auto [] 2 [] [] [0] [0] (st' := ⟨[(0, .agg #[.func (.func 128) #[] #[pA bi], .func (.func 118) #[] #[pA bh]])], [(bm, memO kvS (vvS p.n) L)]⟩) (acc := []) (by kernel_rfl) (by kernel_rfl) trivial ?_
  refine run_new (aO #[.func (.func 128) #[] #[pA bi], .func (.func 118) #[] #[pA bh]] 154) (fun b1 => pA b1) (some 1) (fun _ => by kernel_rfl) (fun b1 hb1 => ?_)
  refine run_new (aO #[iV 0] 86) (fun b2 => pA b2) (some 2) (fun _ => by kernel_rfl) (fun b2 hb2 => ?_)
  refine run_new (aO #[.bool false] 4) (fun b3 => pA b3) (some 3) (fun _ => by kernel_rfl) (fun b3 hb3 => ?_)
  refine run_auto [] 8 [] [2] [1, 2, 3, 6] [0, 1, 2, 3] (st' := ⟨[(1, pA b1), (2, pA b2), (3, pA b3), (6, .func (.func 128) #[] #[pA bi])], [(b3, aO #[.bool false] 4), (b2, aO #[iV 0] 86), (b1, aO #[.func (.func 128) #[] #[pA bi], .func (.func 118) #[] #[pA bh]] 154), (bm, memO kvS (vvS p.n) L)]⟩) (acc := [(pA b1, pA b1)]) (by kernel_rfl) (by kernel_rfl) ⟨rfl, trivial⟩ ?_
  refine run_auto [] 0 [] [] [1, 2, 3, 6] [0, 1, 2, 3] (st' := ⟨[(1, pA b1), (2, pA b2), (3, pA b3), (6, .func (.func 128) #[] #[pA bi])], [(b3, aO #[.bool false] 4), (b2, aO #[iV 0] 86), (b1, aO #[.func (.func 128) #[] #[pA bi], .func (.func 118) #[] #[pA bh]] 154), (bm, memO kvS (vvS p.n) L)]⟩) (acc := []) (by kernel_rfl) (by kernel_rfl) trivial ?_
  refine run_range (σ := Nat × List Nat) (τ := Nat × List Nat) 128 #[pA bi] [7] [] [(b3, aO #[.bool false] 4), (b2, aO #[iV 0] 86), (b1, aO #[.func (.func 128) #[] #[pA bi], .func (.func 118) #[] #[pA bh]] 154), (bm, memO kvS (vvS p.n) L)] (OwnD [(bi, aO #[iV (of : Int)] 86)]) (fun l => l <+: ((ffL of).map nv)) (fun l => l = ((ffL of).map nv)) (by kernel_rfl) rfl rfl (fun l => by kernel_rfl) rfl (by kernel_rfl) (fun pre x hx => by rw [(map_at hx).2]; rfl) (ff_give of bi hof) (fun D w1 k1 hD => hbo.kept k1 hD)
    (fun s => [(b3, aO #[.bool false] 4), (b2, aO #[iV 0] 86), (b1, aO #[.func (.func 128) #[] #[pA bi], .func (.func 118) #[] #[pA bh]] 154), (bm, memO kvS (vvS p.n) s.2)]) (fun s => Ext.none) (fun pre s => s.1 = (pre).length ∧ ∀ i, i < s.1 → p.n.clB ((ffL of).getD i 0) = false) (fun y => [(b3, aO #[.bool true] 4), (b2, aO #[iV ((y.1 : Nat) : Int)] 86), (b1, aO #[.func (.func 128) #[] #[pA bi], .func (.func 118) #[] #[pA bh]] 154), (bm, memO kvS (vvS p.n) y.2)]) (fun y => Ext.none) (fun c y => c = .ret ∧ firstL p.n.clB (ffL of) = some y.1) ((0, L)) (⟨rfl, fun i hi => absurd hi (Nat.not_lt_zero _)⟩) rfl rfl (fun _ _ _ => ⟨rfl, fun _ _ h => h.elim⟩) (fun _ _ _ => rfl)
    (fun pre x s hpre hI l0 ms ro ob w0 Jb Jn Je hkk hll hbeg hnext hexit => ?_) (fun ys s hys hI => ?_) (fun c y hI => ?_)
  · skip
    have hpre : pre ++ [x] <+: ((ffL of).map nv) := hpre
    have hx := map_at hpre
    rw [← hI.1] at hx
    have hqm := getD_mem hx.1
    obtain ⟨q, hq⟩ : ∃ q, (ffL of).getD s.1 0 = q := ⟨_, rfl⟩
    rw [hq] at hqm
    have hxe := hx.2
    rw [hq] at hxe
    subst hxe
    have hq8 : q < 256 := by have := (ff_mem.1 hqm).1; omega
    refine run_auto [] 3 [] [] [1, 2, 3, 4] [0, 1, 2, 3] (st' := ⟨[(1, pA b1), (2, pA b2), (3, pA b3), (4, iV (q : Int))], [(b3, aO #[.bool false] 4), (b2, aO #[iV 0] 86), (b1, aO #[.func (.func 128) #[] #[pA bi], .func (.func 118) #[] #[pA bh]] 154), (bm, memO kvS (vvS p.n) s.2)]⟩) (acc := []) (by kernel_rfl) (by kernel_rfl) trivial ?_
    refine run_round rfl (hbeg _ ?_)
    refine run_auto [] 6 [] [2] [2, 3, 4, 9, 10] [0, 1, 2, 3] (st' := ⟨[(2, pA b2), (3, pA b3), (4, iV (q : Int)), (9, .func (.func 118) #[] #[pA bh]), (10, iV (q : Int))], [(b3, aO #[.bool false] 4), (b2, aO #[iV 0] 86), (b1, aO #[.func (.func 128) #[] #[pA bi], .func (.func 118) #[] #[pA bh]] 154), (bm, memO kvS (vvS p.n) s.2)]⟩) (acc := [(pA b1, pA b1)]) (by kernel_rfl) (by kernel_rfl) ⟨rfl, trivial⟩ ?_
    cases hd1 : (p.n.clB q) with
    | false =>
      refine run_wr 118 #[iV (q : Int), pA bh] (some 11) (.bool false) 3 bm (memO kvS (vvS p.n) s.2) (memO kvS (vvS p.n) (memI s.2 q)) (by kernel_rfl) (by kernel_rfl) (by kernel_rfl) (fun w1 k1 h1 => (by have h := clash1_any p bh bm q s.2 w1 (h1 (bm, memO kvS (vvS p.n) s.2) (List.mem_of_getElem? (i := 3) (by kernel_rfl))) (((hkk _ k1).block _ (Array.getElem?_eq_some_iff.1 hbh).1 hne).trans hbh) hne (hin.kept (hkk _ k1)) hF hq8; rw [hd1] at h; exact h)) ?_
      refine run_auto [] 4 [false] [] [] [0, 1, 2, 3] (st' := ⟨[], [(b3, aO #[.bool false] 4), (b2, aO #[iV 0] 86), (b1, aO #[.func (.func 128) #[] #[pA bi], .func (.func 118) #[] #[pA bh]] 154), (bm, memO kvS (vvS p.n) (memI s.2 q))]⟩) (acc := [(.bool false, .bool false)]) (by kernel_rfl) (by kernel_rfl) ⟨rfl, trivial⟩ ?_
      exact run_nil rfl (fun a_ w1 g_ => hnext (s.1 + 1, memI s.2 q) _ ⟨by rw [List.length_append, ← hI.1]; rfl, fun i hi => (Nat.lt_succ_iff_lt_or_eq.1 hi).elim (hI.2 i) (fun h => by rw [h, hq]; exact hd1)⟩ (fun b h => h.elim) a_ w1 g_)
    | true =>
      refine run_wr 118 #[iV (q : Int), pA bh] (some 11) (.bool true) 3 bm (memO kvS (vvS p.n) s.2) (memO kvS (vvS p.n) (memI s.2 q)) (by kernel_rfl) (by kernel_rfl) (by kernel_rfl) (fun w1 k1 h1 => (by have h := clash1_any p bh bm q s.2 w1 (h1 (bm, memO kvS (vvS p.n) s.2) (List.mem_of_getElem? (i := 3) (by kernel_rfl))) (((hkk _ k1).block _ (Array.getElem?_eq_some_iff.1 hbh).1 hne).trans hbh) hne (hin.kept (hkk _ k1)) hF hq8; rw [hd1] at h; exact h)) ?_
      refine run_auto [] 8 [true] [1, 0] [] [0, 1, 2, 3] (st' := ⟨[], [(b3, aO #[.bool true] 4), (b2, aO #[iV (q : Int)] 86), (b1, aO #[.func (.func 128) #[] #[pA bi], .func (.func 118) #[] #[pA bh]] 154), (bm, memO kvS (vvS p.n) (memI s.2 q))]⟩) (acc := [(pA b3, pA b3), (pA b2, pA b2), (.bool true, .bool true)]) (by kernel_rfl) (by kernel_rfl) ⟨rfl, rfl, rfl, trivial⟩ ?_
      exact run_retQ rfl (fun a_ w1 g_ => hexit .ret (q, memI s.2 q) _ ⟨rfl, (firstL_idx hx.1 (by rw [hq]; exact hd1) hI.2).trans (congrArg some hq)⟩ (.inl rfl) (fun b h => h.elim) a_ w1 g_)
  · skip
    obtain rfl : ys = ((ffL of).map nv) := hys
    have hnone : firstL p.n.clB (ffL of) = none := firstL_nidx fun i hi => hI.2 i (by rw [hI.1, List.length_map]; exact hi)
    refine run_auto [] 6 [] [1, 0] [2, 3] [0, 1, 3] (st' := ⟨[(2, pA b2), (3, pA b3)], [(b3, aO #[.bool false] 4), (b2, aO #[iV 0] 86), (bm, memO kvS (vvS p.n) s.2)]⟩) (acc := [(pA b3, pA b3), (pA b2, pA b2)]) (by kernel_rfl) (by kernel_rfl) ⟨rfl, rfl, trivial⟩ ?_
    refine run_end (fn := f119) rfl (Nat.le_refl _) (by kernel_rfl) [1, 0] [iV 0, .bool false] (e := [(pA b2, pA b2), (pA b3, pA b3)]) (by kernel_rfl) ⟨rfl, rfl, trivial⟩ (fun w1 k1 h1 => ?_)
    exact ⟨s.2, trivial, by rw [hnone]; rfl, k1, h1 (bm, _) (List.mem_of_getElem? (i := 2) rfl), (fun q hq => by cases hq), List.Pairwise.nil⟩
  · skip
    obtain ⟨rfl, hsome⟩ := hI
    refine run_end (fn := f119) rfl (Nat.le_refl _) (by kernel_rfl) [1, 0] [iV ((y.1 : Nat) : Int), .bool true] (e := [(pA b2, pA b2), (pA b3, pA b3)]) (by kernel_rfl) ⟨rfl, rfl, trivial⟩ (fun w1 k1 h1 => ?_)
    exact ⟨y.2, trivial, by rw [hsome]; rfl, k1, h1 (bm, _) (List.mem_of_getElem? (i := 3) rfl), (fun q hq => by cases hq), List.Pairwise.nil⟩

set_option maxRecDepth 100000 in
theorem fewestClashing_any (p : Wb) (w : World) (hp : p.In w) (hF : p.n.Fine) : Calls Tryz.prog 85 #[.agg #[.int .i64 p.ll, .int .i64 p.lh, .int .i64 p.ul, .int .i64 p.uh, .slice p.ea p.es.length p.ec]] w (Ret (.tuple #[.int .i64 (bif p.n.can then 0 else ((p.n.cl.getD 0 : Nat) : Int)), .bool (!p.n.can)]) w) := by
  have hn8 : p.es.length ≤ 8 := hF.n8
  have hrd : p.n.reads < 256 := Nat.lt_of_lt_of_le (bitsP_lt _ _) (Nat.pow_le_pow_right (by omega) hn8 : 2 ^ p.es.length ≤ 2 ^ 8)
  refine calls_run (fn := f85) (c := (f85.body).getD .skip) [.agg #[.int .i64 p.ll, .int .i64 p.lh, .int .i64 p.ul, .int .i64 p.uh, .slice p.ea p.es.length p.ec]] func85 (by kernel_rfl) (fun _ => False) [] (fun _ h => by cases h) (List.Pairwise.nil) 23 (by kernel_rfl) (by simp) ?_
  refine run_auto [] 2 [] [] [0] [] (st' := ⟨[(0, .agg #[iV p.ll, iV p.lh, iV p.ul, iV p.uh, .slice p.ea p.es.length p.ec])], []⟩) (acc := []) (by kernel_rfl) (by kernel_rfl) trivial ?_
  refine run_new (aO #[iV p.ll, iV p.lh, iV p.ul, iV p.uh, .slice p.ea p.es.length p.ec] 26) (fun b1 => pA b1) (some 1) (fun _ => by kernel_rfl) (fun b1 hb1 => ?_)
  refine run_auto [] 6 [] [0] [1, 2, 3, 7] [0] (st' := ⟨[(1, pA b1), (2, iV 0), (3, .bool false), (7, .agg #[iV p.ll, iV p.lh, iV p.ul, iV p.uh, .slice p.ea p.es.length p.ec])], [(b1, aO #[iV p.ll, iV p.lh, iV p.ul, iV p.uh, .slice p.ea p.es.length p.ec] 26)]⟩) (acc := [(pA b1, pA b1)]) (by kernel_rfl) (by kernel_rfl) ⟨rfl, trivial⟩ ?_
  refine run_nw 97 #[.agg #[iV p.ll, iV p.lh, iV p.ul, iV p.uh, .slice p.ea p.es.length p.ec]] (some 8) (α := Unit) (fun _u b2 => .agg #[iV p.ll, iV p.lh, iV p.ul, iV p.uh, .slice p.ea p.es.length p.ec, .map (some b2)]) (fun _u => memO kvS (vvS p.n) []) (fun _u => True) (by kernel_rfl) (fun _ => rfl) (fun w1 k1 h1 => historyOf_any p w1) (fun _u b2 hIb2 hb2 => ?_)
  refine run_new (aO #[iV 0, iV 0, iV 0, iV 0, .slice none 0 0, .map none] 127) (fun b3 => pA b3) (some 4) (fun _ => by kernel_rfl) (fun b3 hb3 => ?_)
  refine run_auto [] 10 [] [0, 2] [2, 3, 5, 10] [0, 1] (st' := ⟨[(2, iV 0), (3, .bool false), (5, .func (.func 118) #[] #[pA b3]), (10, .agg #[iV p.ll, iV p.lh, iV p.ul, iV p.uh, .slice p.ea p.es.length p.ec])], [(b3, aO #[iV p.ll, iV p.lh, iV p.ul, iV p.uh, .slice p.ea p.es.length p.ec, .map (some b2)] 127), (b2, memO kvS (vvS p.n) [])]⟩) (acc := [(pA b1, pA b1), (pA b3, pA b3)]) (by kernel_rfl) (by kernel_rfl) ⟨rfl, rfl, trivial⟩ ?_
  refine run_ret1 99 #[.agg #[iV p.ll, iV p.lh, iV p.ul, iV p.uh, .slice p.ea p.es.length p.ec]] (some 11) (iV (p.n.reads : Int)) (by kernel_rfl) (fun w1 k1 h1 => readingsOf_any p w1 (hp.keep (k1.keeps (fun _ h => h))) hF) ?_
  refine run_auto [] 7 [] [] [2, 3, 5, 6, 12, 13] [0, 1] (st' := ⟨[(2, iV 0), (3, .bool false), (5, .func (.func 118) #[] #[pA b3]), (6, iV (p.n.reads : Int)), (12, .func (.func 118) #[] #[pA b3]), (13, iV (p.n.reads : Int))], [(b3, aO #[iV p.ll, iV p.lh, iV p.ul, iV p.uh, .slice p.ea p.es.length p.ec, .map (some b2)] 127), (b2, memO kvS (vvS p.n) [])]⟩) (acc := []) (by kernel_rfl) (by kernel_rfl) trivial ?_
  cases hd1 : p.n.can with
  | false =>
    refine run_wr 118 #[iV (p.n.reads : Int), pA b3] (some 14) (.bool true) 1 b2 (memO kvS (vvS p.n) []) (memO kvS (vvS p.n) (memI ([]) p.n.reads)) (by kernel_rfl) (by kernel_rfl) (by kernel_rfl) (fun w1 k1 h1 => (by have h := clash1_any p b3 b2 p.n.reads ([]) w1 (h1 (b2, memO kvS (vvS p.n) []) (List.mem_of_getElem? (i := 1) (by kernel_rfl))) (h1 (b3, aO #[iV p.ll, iV p.lh, iV p.ul, iV p.uh, .slice p.ea p.es.length p.ec, .map (some b2)] 127) (List.mem_of_getElem? (i := 0) (by kernel_rfl))) (fun hh => by have q1 := (h1 (b3, aO #[iV p.ll, iV p.lh, iV p.ul, iV p.uh, .slice p.ea p.es.length p.ec, .map (some b2)] 127) (List.mem_of_getElem? (i := 0) (by kernel_rfl))); have q2 := (h1 (b2, memO kvS (vvS p.n) []) (List.mem_of_getElem? (i := 1) (by kernel_rfl))); rw [hh] at q1; rw [q1] at q2; cases q2) ((hp.keep (k1.keeps (fun _ h => h))).map (h1 (b2, memO kvS (vvS p.n) []) (List.mem_of_getElem? (i := 1) (by kernel_rfl)))) hF hrd; unfold Wn.clB at h; rw [Wn.look_all, hd1] at h; exact h)) ?_
    refine run_auto [(15, .bool false)] 7 [false] [] [2, 3, 5, 16] [0, 1] (st' := ⟨[(2, iV 0), (3, .bool false), (5, .func (.func 118) #[] #[pA b3]), (16, iV (p.n.reads : Int))], [(b3, aO #[iV p.ll, iV p.lh, iV p.ul, iV p.uh, .slice p.ea p.es.length p.ec, .map (some b2)] 127), (b2, memO kvS (vvS p.n) (memI ([]) p.n.reads))]⟩) (acc := [(.bool false, .bool false), (.bool false, .bool false)]) (by kernel_rfl) (by kernel_rfl) ⟨rfl, rfl, trivial⟩ ?_
    refine run_nw 120 #[iV (p.n.reads : Int)] (some 17) (α := Unit) (fun _u b4 => .func (.func 128) #[] #[pA b4]) (fun _u => aO #[iV (p.n.reads : Int)] 86) (fun _u => True) (by kernel_rfl) (fun _ => rfl) (fun w1 k1 h1 => fewestFirst_any (p.n.reads : Int) w1) (fun _u b4 hIb4 hb4 => ?_)
    refine run_auto [] 2 [] [] [2, 3, 19] [0, 1, 2] (st' := ⟨[(2, iV 0), (3, .bool false), (19, .agg #[.func (.func 128) #[] #[pA b4], .func (.func 118) #[] #[pA b3]])], [(b4, aO #[iV (p.n.reads : Int)] 86), (b3, aO #[iV p.ll, iV p.lh, iV p.ul, iV p.uh, .slice p.ea p.es.length p.ec, .map (some b2)] 127), (b2, memO kvS (vvS p.n) (memI ([]) p.n.reads))]⟩) (acc := []) (by kernel_rfl) (by kernel_rfl) trivial ?_
    refine run_nww 119 #[.agg #[.func (.func 128) #[] #[pA b4], .func (.func 118) #[] #[pA b3]]] (some 20) (α := List Nat) (fun x => .tuple #[iV ((p.n.cl.getD 0 : Nat) : Int), .bool true]) (fun x => []) 2 b2 (memO kvS (vvS p.n) (memI ([]) p.n.reads)) (fun x => memO kvS (vvS p.n) (x)) (fun x => True) (by kernel_rfl) (by kernel_rfl) (fun x => rfl) (fun x p hp => by cases hp) (fun w1 k1 h1 => (by have h := firstSet_any p p.n.reads b4 b3 b2 (memI ([]) p.n.reads) w1 (h1 (b2, memO kvS (vvS p.n) (memI ([]) p.n.reads)) (List.mem_of_getElem? (i := 2) (by kernel_rfl))) (h1 (b3, aO #[iV p.ll, iV p.lh, iV p.ul, iV p.uh, .slice p.ea p.es.length p.ec, .map (some b2)] 127) (List.mem_of_getElem? (i := 1) (by kernel_rfl))) (fun hh => by have q1 := (h1 (b3, aO #[iV p.ll, iV p.lh, iV p.ul, iV p.uh, .slice p.ea p.es.length p.ec, .map (some b2)] 127) (List.mem_of_getElem? (i := 1) (by kernel_rfl))); have q2 := (h1 (b2, memO kvS (vvS p.n) (memI ([]) p.n.reads)) (List.mem_of_getElem? (i := 2) (by kernel_rfl))); rw [hh] at q1; rw [q1] at q2; cases q2) (h1 (b4, aO #[iV (p.n.reads : Int)] 86) (List.mem_of_getElem? (i := 0) (by kernel_rfl))) ((hp.keep (k1.keeps (fun _ h => h))).map (h1 (b2, memO kvS (vvS p.n) (memI ([]) p.n.reads)) (List.mem_of_getElem? (i := 2) (by kernel_rfl)))) hF hrd; rw [show (firstL p.n.clB (ffL p.n.reads)).isSome = true from cl_some hd1] at h; exact h)) (fun x hI5 hn5 => ?_)
    obtain ⟨Lz5, he5⟩ : ∃ y, y = x := ⟨x, rfl⟩
    subst he5
    refine run_auto [] 5 [] [] [2, 3] [] (st' := ⟨[(2, iV ((p.n.cl.getD 0 : Nat) : Int)), (3, .bool true)], []⟩) (acc := []) (by kernel_rfl) (by kernel_rfl) trivial ?_
    refine run_end (fn := f85) rfl (Nat.le_refl _) (by kernel_rfl) [] [iV ((p.n.cl.getD 0 : Nat) : Int), .bool true] (e := []) (by kernel_rfl) trivial (fun w1 k1 h1 => ?_)
    exact ⟨rfl, k1.keeps (fun _ h => h)⟩
  | true =>
    refine run_wr 118 #[iV (p.n.reads : Int), pA b3] (some 14) (.bool false) 1 b2 (memO kvS (vvS p.n) []) (memO kvS (vvS p.n) (memI ([]) p.n.reads)) (by kernel_rfl) (by kernel_rfl) (by kernel_rfl) (fun w1 k1 h1 => (by have h := clash1_any p b3 b2 p.n.reads ([]) w1 (h1 (b2, memO kvS (vvS p.n) []) (List.mem_of_getElem? (i := 1) (by kernel_rfl))) (h1 (b3, aO #[iV p.ll, iV p.lh, iV p.ul, iV p.uh, .slice p.ea p.es.length p.ec, .map (some b2)] 127) (List.mem_of_getElem? (i := 0) (by kernel_rfl))) (fun hh => by have q1 := (h1 (b3, aO #[iV p.ll, iV p.lh, iV p.ul, iV p.uh, .slice p.ea p.es.length p.ec, .map (some b2)] 127) (List.mem_of_getElem? (i := 0) (by kernel_rfl))); have q2 := (h1 (b2, memO kvS (vvS p.n) []) (List.mem_of_getElem? (i := 1) (by kernel_rfl))); rw [hh] at q1; rw [q1] at q2; cases q2) ((hp.keep (k1.keeps (fun _ h => h))).map (h1 (b2, memO kvS (vvS p.n) []) (List.mem_of_getElem? (i := 1) (by kernel_rfl)))) hF hrd; unfold Wn.clB at h; rw [Wn.look_all, hd1] at h; exact h)) ?_
    refine run_auto [(15, .bool true)] 8 [true] [] [2, 3, 5, 6] [0, 1] (st' := ⟨[(2, iV 0), (3, .bool false), (5, .func (.func 118) #[] #[pA b3]), (6, iV (p.n.reads : Int))], [(b3, aO #[iV p.ll, iV p.lh, iV p.ul, iV p.uh, .slice p.ea p.es.length p.ec, .map (some b2)] 127), (b2, memO kvS (vvS p.n) (memI ([]) p.n.reads))]⟩) (acc := [(.bool true, .bool true), (.bool true, .bool true)]) (by kernel_rfl) (by kernel_rfl) ⟨rfl, rfl, trivial⟩ ?_
    refine run_end (fn := f85) rfl (Nat.le_refl _) (by kernel_rfl) [] [iV 0, .bool false] (e := []) (by kernel_rfl) trivial (fun w1 k1 h1 => ?_)
    exact ⟨rfl, k1.keeps (fun _ h => h)⟩

set_option maxRecDepth 100000 in
theorem needFoundS_any (z : Int) (b : Bool) (w : World)  : Calls Tryz.prog 84 #[.int .i64 z, .bool b] w (Fnd b z w) := by
  refine calls_run (fn := f84) (c := (f84.body).getD .skip) [.int .i64 z, .bool b] func84 (by kernel_rfl) (fun _ => False) [] (fun _ h => by cases h) (List.Pairwise.nil) 9 (by kernel_rfl) (by simp) ?_
  cases hd1 : b with
  | false =>
    refine run_auto [(6, .bool true)] 13 [true] [] [0, 4, 7] [] (st' := ⟨[(0, iV z), (4, iV 0), (7, .iface 29 (iV 4))], []⟩) (acc := [(.bool true, .bool true), (.bool true, .bool true)]) (by kernel_rfl) (by kernel_rfl) ⟨rfl, rfl, trivial⟩ ?_
    exact run_panic rfl (Nat.le_refl _) (Instr.panic (.iface 29 (iV 4)) >>= fun v => pure (Next.value v)) none (.iface 29 (iV 4)) (by kernel_rfl) (fun w => by kernel_rfl) (fun w1 k1 h1 => (by unfold Fnd; exact ⟨rfl, k1.keeps (fun _ h => h)⟩))
  | true =>
    refine run_auto [(6, .bool false)] 17 [false] [] [4] [] (st' := ⟨[(4, iV z)], []⟩) (acc := [(.bool false, .bool false), (.bool false, .bool false)]) (by kernel_rfl) (by kernel_rfl) ⟨rfl, rfl, trivial⟩ ?_
    refine run_end (fn := f84) rfl (Nat.le_refl _) (by kernel_rfl) [] [iV z] (e := []) (by kernel_rfl) trivial (fun w1 k1 h1 => ?_)
    unfold Fnd
    exact ⟨rfl, k1.keeps (fun _ h => h)⟩

set_option maxRecDepth 100000 in
theorem clash1x_any (p : Wb)  (bp : Nat) (w : World) (hp : p.In w) (hbp : w.heap[bp]? = some (.cells #[.int .i64 p.ll, .int .i64 p.lh, .int .i64 p.ul, .int .i64 p.uh, .slice p.ea p.es.length p.ec] 26 (0, 0)))   : Calls Tryz.prog 83 #[.pointer (some ⟨bp, 0, none⟩)] w (W1 (clashR p) w) := by
  refine calls_run (fn := f83) (c := (f83.body).getD .skip) [.pointer (some ⟨bp, 0, none⟩)] func83 (by kernel_rfl) (fun _ => False) [] (fun _ h => by cases h) (List.Pairwise.nil) 9 (by kernel_rfl) (by simp) ?_
  refine run_auto [] 6 [] [] [0, 1] [] (st' := ⟨[(0, pA bp), (1, iV 0)], []⟩) (acc := []) (by kernel_rfl) (by kernel_rfl) trivial ?_
  refine run_v (Instr.loadAt 26 (pA bp) >>= fun v => pure (Next.value v)) (some 2) (.agg #[iV p.ll, iV p.lh, iV p.ul, iV p.uh, .slice p.ea p.es.length p.ec]) (by kernel_rfl) (fun w1 k1 h1 => load_in (base := 0) (off := 0) k1 (fun h => h) [iV p.ll, iV p.lh, iV p.ul, iV p.uh, .slice p.ea p.es.length p.ec] (fun i u hi => by rw [Nat.zero_add]; exact cells_of_heap hbp i u hi) (by kernel_rfl)) ?_
  cases hd1 : p.n.ok with
  | false =>
    exact run_panics rfl (Nat.le_refl _) 43 #[.agg #[iV p.ll, iV p.lh, iV p.ul, iV p.uh, .slice p.ea p.es.length p.ec]] (some 3) (pe 1) (by kernel_rfl) (fun w1 k1 h1 => (by have h := needBlock_any p w1 (hp.keep (k1.keeps (fun _ h => h))); rw [hd1] at h; exact h)) (fun w1 k1 h1 => (by unfold clashR; rw [hd1]; exact ⟨rfl, k1.keeps (fun _ h => h)⟩))
  | true =>
    have hF := Wn.fine hd1
    have hn8 : p.es.length ≤ 8 := hF.n8
    have hu : 0 ≤ p.ul ∧ p.ul ≤ p.uh ∧ p.uh ≤ 3 := hF.u
    refine run_ret1 43 #[.agg #[iV p.ll, iV p.lh, iV p.ul, iV p.uh, .slice p.ea p.es.length p.ec]] (some 3) (.tuple #[]) (by kernel_rfl) (fun w1 k1 h1 => (by have h := needBlock_any p w1 (hp.keep (k1.keeps (fun _ h => h))); rw [hd1] at h; exact h)) ?_
    refine run_auto [] 3 [] [] [0, 1] [] (st' := ⟨[(0, pA bp), (1, iV 0)], []⟩) (acc := []) (by kernel_rfl) (by kernel_rfl) trivial ?_
    refine run_v (Instr.loadAt 26 (pA bp) >>= fun v => pure (Next.value v)) (some 4) (.agg #[iV p.ll, iV p.lh, iV p.ul, iV p.uh, .slice p.ea p.es.length p.ec]) (by kernel_rfl) (fun w1 k1 h1 => load_in (base := 0) (off := 0) k1 (fun h => h) [iV p.ll, iV p.lh, iV p.ul, iV p.uh, .slice p.ea p.es.length p.ec] (fun i u hi => by rw [Nat.zero_add]; exact cells_of_heap hbp i u hi) (by kernel_rfl)) ?_
    cases hd2 : p.n.can with
    | false =>
      refine run_ret1 85 #[.agg #[iV p.ll, iV p.lh, iV p.ul, iV p.uh, .slice p.ea p.es.length p.ec]] (some 5) (.tuple #[iV ((p.n.cl.getD 0 : Nat) : Int), .bool true]) (by kernel_rfl) (fun w1 k1 h1 => (by have h := fewestClashing_any p w1 (hp.keep (k1.keeps (fun _ h => h))) hF; rw [hd2] at h; exact h)) ?_
      refine run_auto [] 2 [] [] [1, 6, 7] [] (st' := ⟨[(1, iV 0), (6, iV ((p.n.cl.getD 0 : Nat) : Int)), (7, .bool true)], []⟩) (acc := []) (by kernel_rfl) (by kernel_rfl) trivial ?_
      refine run_ret1 84 #[iV ((p.n.cl.getD 0 : Nat) : Int), .bool true] (some 8) (iV ((p.n.cl.getD 0 : Nat) : Int)) (by kernel_rfl) (fun w1 k1 h1 => (by have h := needFoundS_any ((p.n.cl.getD 0 : Nat) : Int) true w1; unfold Fnd at h; exact h)) ?_
      refine run_auto [] 2 [] [] [1] [] (st' := ⟨[(1, iV ((p.n.cl.getD 0 : Nat) : Int))], []⟩) (acc := []) (by kernel_rfl) (by kernel_rfl) trivial ?_
      refine run_end (fn := f83) rfl (Nat.le_refl _) (by kernel_rfl) [] [iV ((p.n.cl.getD 0 : Nat) : Int)] (e := []) (by kernel_rfl) trivial (fun w1 k1 h1 => ?_)
      unfold clashR
      rw [hd1, hd2]
      exact ⟨rfl, k1.keeps (fun _ h => h)⟩
    | true =>
      refine run_ret1 85 #[.agg #[iV p.ll, iV p.lh, iV p.ul, iV p.uh, .slice p.ea p.es.length p.ec]] (some 5) (.tuple #[iV 0, .bool false]) (by kernel_rfl) (fun w1 k1 h1 => (by have h := fewestClashing_any p w1 (hp.keep (k1.keeps (fun _ h => h))) hF; rw [hd2] at h; exact h)) ?_
      refine run_auto [] 2 [] [] [1, 6, 7] [] (st' := ⟨[(1, iV 0), (6, iV 0), (7, .bool false)], []⟩) (acc := []) (by kernel_rfl) (by kernel_rfl) trivial ?_
      exact run_panics rfl (Nat.le_refl _) 84 #[iV 0, .bool false] (some 8) (pe 4) (by kernel_rfl) (fun w1 k1 h1 => (by have h := needFoundS_any 0 false w1; unfold Fnd at h; exact h)) (fun w1 k1 h1 => (by unfold clashR; rw [hd1, hd2]; exact ⟨rfl, k1.keeps (fun _ h => h)⟩))

set_option maxRecDepth 100000 in
theorem Clash_any (p : Wb)  (w : World) (hp : p.In w)  : Calls Tryz.prog 26 #[.agg #[.int .i64 p.ll, .int .i64 p.lh, .int .i64 p.ul, .int .i64 p.uh, .slice p.ea p.es.length p.ec]] w (Ret (.tuple #[.int .i64 (inA (clashR p)), .int .i64 (erA (clashR p))]) w) := by
  refine calls_run (fn := f26) (c := (f26.body).getD .skip) [.agg #[.int .i64 p.ll, .int .i64 p.lh, .int .i64 p.ul, .int .i64 p.uh, .slice p.ea p.es.length p.ec]] func26 (by kernel_rfl) (fun _ => False) [] (fun _ h => by cases h) (List.Pairwise.nil) 12 (by kernel_rfl) (by simp) ?_
  refine run_auto [] 2 [] [] [0] [] (st' := ⟨[(0, .agg #[iV p.ll, iV p.lh, iV p.ul, iV p.uh, .slice p.ea p.es.length p.ec])], []⟩) (acc := []) (by kernel_rfl) (by kernel_rfl) trivial ?_
  refine run_new (aO #[iV p.ll, iV p.lh, iV p.ul, iV p.uh, .slice p.ea p.es.length p.ec] 26) (fun b1 => pA b1) (some 1) (fun _ => by kernel_rfl) (fun b1 hb1 => ?_)
  refine run_auto [] 6 [] [] [2, 3, 6] [0] (st' := ⟨[(2, iV 0), (3, iV 0), (6, .func (.func 83) #[] #[pA b1])], [(b1, aO #[iV p.ll, iV p.lh, iV p.ul, iV p.uh, .slice p.ea p.es.length p.ec] 26)]⟩) (acc := []) (by kernel_rfl) (by kernel_rfl) trivial ?_
  refine run_ret1 82 #[.func (.func 83) #[] #[pA b1]] (some 7) (.tuple #[iV (inA (clashR p)), iV (erA (clashR p))]) (by kernel_rfl) (fun w1 k1 h1 => ans_set 83 #[pA b1] w1 (clashR p) (fun _ => by kernel_rfl) (fun w2 kk => clash1x_any p b1 w2 ((hp.keep (k1.keeps (fun _ h => h))).keep kk) ((kk.heap (Array.getElem?_eq_some_iff.1 (h1 (b1, aO #[iV p.ll, iV p.lh, iV p.ul, iV p.uh, .slice p.ea p.es.length p.ec] 26) (List.mem_of_getElem? (i := 0) (by kernel_rfl)))).1).trans (h1 (b1, aO #[iV p.ll, iV p.lh, iV p.ul, iV p.uh, .slice p.ea p.es.length p.ec] 26) (List.mem_of_getElem? (i := 0) (by kernel_rfl)))) )) ?_
  refine run_auto [] 13 [] [] [2, 3] [] (st' := ⟨[(2, iV (inA (clashR p))), (3, iV (erA (clashR p)))], []⟩) (acc := []) (by kernel_rfl) (by kernel_rfl) trivial ?_
  refine run_end (fn := f26) rfl (Nat.le_refl _) (by kernel_rfl) [] [iV (inA (clashR p)), iV (erA (clashR p))] (e := []) (by kernel_rfl) trivial (fun w1 k1 h1 => ?_)
  exact ⟨rfl, k1.keeps (fun _ h => h)⟩

end Go.Proofs.YtdehgplklgfcdaaGreat
