/-
  PAIR: all sets by size; the fewest readings that suit; Wrong and Clash.
-/
import Derived.Test.YtmiobcnccbfknaaD1
namespace Go.Proofs.Ytmiobcnccbfknaa
open Go.RowKit Go.Proofs.Try


def sv (s : Nat) : List Value := [.int .i64 (s : Int)]
/-- The sets that come before the j-th of size i. -/
def preS (n i j : Nat) : List Nat := (List.range i).flatMap (fun size => (List.range (2 ^ n)).filter fun s => bitsN s == size) ++ (List.range j).filter fun s => bitsN s == i
theorem preS_yes {n i j : Nat} (h : bitsN j = i) : preS n i j ++ [j] = preS n i (j + 1) := by
  unfold preS
  rw [List.append_assoc, List.range_succ, List.filter_append]
  simp [h]
theorem preS_no {n i j : Nat} (h : bitsN j ≠ i) : preS n i j = preS n i (j + 1) := by
  unfold preS
  rw [List.range_succ, List.filter_append]
  simp [h]
theorem preS_row (n i : Nat) : preS n i (2 ^ n) = preS n (i + 1) 0 := by
  unfold preS
  rw [List.range_succ, List.flatMap_append]
  simp
theorem preS_all (n : Nat) : preS n (n + 1) 0 = setsL n := by
  unfold preS setsL
  simp
theorem preS_in {n i j : Nat} (hi : i < n + 1) (hj : j < 2 ^ n) (h : bitsN j = i) : preS n i j ++ [j] <+: setsL n := by
  rw [preS_yes h]
  have e1 : preS n i (2 ^ n) <+: setsL n := by
    rw [preS_row, ← preS_all]
    unfold preS
    simp only [List.range_zero, List.filter_nil, List.append_nil]
    obtain ⟨d, hd⟩ : ∃ d, n + 1 = (i + 1) + d := ⟨n - i, by omega⟩
    have e : List.range (n + 1) = List.range (i + 1) ++ (List.range d).map (i + 1 + ·) := by rw [hd, List.range_add]
    rw [e, List.flatMap_append]
    exact List.prefix_append _ _
  refine List.IsPrefix.trans ?_ e1
  unfold preS
  rw [List.prefix_append_right_inj]
  obtain ⟨d, hd⟩ : ∃ d, 2 ^ n = (j + 1) + d := ⟨2 ^ n - (j + 1), by omega⟩
  have e : List.range (2 ^ n) = List.range (j + 1) ++ (List.range d).map (j + 1 + ·) := by rw [hd, List.range_add]
  rw [e, List.filter_append]
  exact List.prefix_append _ _
theorem bits_lt {s : Nat} (h : s < 256) : bitsN s ≤ 8 := bitsN_le (n := 8) (Nat.le_refl _) h
set_option maxRecDepth 100000 in
theorem setsBySize_any (n : Nat) (w : World)  : Calls Try.prog 103 #[.int .i64 (n : Int)] w (Nw (α := Unit) (fun _ b => .func (.func 110) #[] #[.pointer (some ⟨b, 0, none⟩)]) (fun _ => .cells #[.int .i64 (n : Int)] 3 (0, 0)) (fun _ => True) w) := by
  refine calls_run (fn := f103) (c := (f103.body).getD .skip) [.int .i64 (n : Int)] func103 (by kernel_rfl) (fun _ => False) [] (fun _ h => by cases h) (List.Pairwise.nil) 4 (by kernel_rfl) (by simp) ?_
  refine run_auto [] 2 [] [] [0] [] (st' := ⟨[(0, .int .i64 (n : Int))], []⟩) (acc := []) (by kernel_rfl) (by kernel_rfl) trivial ?_
  refine run_new (.cells #[.int .i64 (n : Int)] 3 (0, 0)) (fun b1 => .pointer (some ⟨b1, 0, none⟩)) (some 1) (fun _ => by kernel_rfl) (fun b1 hb1 => ?_)
  refine run_auto [] 7 [] [] [2] [0] (st' := ⟨[(2, .func (.func 110) #[] #[.pointer (some ⟨b1, 0, none⟩)])], [(b1, .cells #[.int .i64 (n : Int)] 3 (0, 0))]⟩) (acc := []) (by kernel_rfl) (by kernel_rfl) trivial ?_
  refine run_end (fn := f103) rfl (Nat.le_refl _) (by kernel_rfl) [] [.func (.func 110) #[] #[.pointer (some ⟨b1, 0, none⟩)]] (e := []) (by kernel_rfl) trivial (fun w1 k1 h1 => ?_)
  exact ⟨(), b1, trivial, hb1, rfl, k1.keeps (fun _ h => h), h1 (b1, _) (List.mem_of_getElem? (i := 0) rfl)⟩

set_option maxRecDepth 100000 in
theorem sets_give (n b : Nat) (hn8 : n ≤ 8) : Gives Try.prog 110 #[.pointer (some ⟨b, 0, none⟩)] [(b, .cells #[.int .i64 (n : Int)] 3 (0, 0))] (fun _ _ => True) (fun l => l <+: (setsL n).map sv) (fun l => l = (setsL n).map sv) := by
  intro l J Jx E0 w hE0 hst hJw hown hdis hin hy
  have hb := hown _ (List.mem_singleton.2 rfl)
  have hnd := hdis _ (List.mem_singleton.2 rfl)
  have hp2 := pow_le5 hn8
  have hp1 := Nat.one_le_two_pow (n := n)
  refine calls_runE (fn := f110) (c := (f110.body).getD .skip) [.func (.yield l) #[] #[], .pointer (some ⟨b, 0, none⟩)] func110 (by kernel_rfl) E0 hE0 hJw 27 (by kernel_rfl) (by simp) ?_
  refine run_auto [] 2 [] [] [0, 1] [] (st' := ⟨[(0, .func (.yield l) #[] #[]), (1, .pointer (some ⟨b, 0, none⟩))], []⟩) (acc := []) (by kernel_rfl) (by kernel_rfl) trivial ?_
  refine run_v (Instr.loadAt 3 (.pointer (some ⟨b, 0, none⟩)) >>= fun v => pure (Next.value v)) (some 5) (.int .i64 (n : Int)) (by kernel_rfl) (fun w1 k1 h1 => load_in (base := 0) (off := 0) k1 hnd [.int .i64 (n : Int)] (fun i u hi => by rw [Nat.zero_add]; exact cells_of_heap hb i u hi) (by kernel_rfl)) ?_
  refine run_auto [(6, .int .i64 ((n + 1 : Nat) : Int))] 4 [] [] [0, 1, 6, 7] [] (st' := ⟨[(0, .func (.yield l) #[] #[]), (1, .pointer (some ⟨b, 0, none⟩)), (6, .int .i64 ((n + 1 : Nat) : Int)), (7, .int .i64 0)], []⟩) (acc := [(.int .i64 (IntKind.i64.wrap ((n : Int) + 1)), .int .i64 ((n + 1 : Nat) : Int))]) (by kernel_rfl) (by kernel_rfl) ⟨(wr (by omega) (by omega)), trivial⟩ ?_
  refine run_auto [] 0 [] [] [0, 1, 6, 7] [] (st' := ⟨[(0, .func (.yield l) #[] #[]), (1, .pointer (some ⟨b, 0, none⟩)), (6, .int .i64 ((n + 1 : Nat) : Int)), (7, .int .i64 0)], []⟩) (acc := []) (by kernel_rfl) (by kernel_rfl) trivial ?_
  refine run_loopE (σ := Nat × Ext) (S := fun (x : Nat × Ext) => ⟨[(0, .func (.yield l) #[] #[]), (1, .pointer (some ⟨b, 0, none⟩)), (6, .int .i64 ((n + 1 : Nat) : Int)), (7, .int .i64 (x.1 : Int))], []⟩) (fun (x : Nat × Ext) => x.2) (fun (x : Nat × Ext) => x.1 ≤ n + 1 ∧ J ((preS n x.1 0).map sv) x.2 ∧ x.2.n0 = E0.n0 ∧ (∀ b, b < w.heap.size → x.2.D b → E0.D b)) (fun (x : Nat × Ext) => n + 1 - x.1) ((0, E0)) (by kernel_rfl) (⟨Nat.zero_le _, hst, rfl, (fun _ _ h => h)⟩) (by kernel_rfl) rfl (fun x hI0 J0 hJ0 => ?_)
  obtain ⟨i, Ea⟩ := x
  obtain ⟨hl0, hJEa, hnEa, hsEa⟩ := hI0
  dsimp only at hl0 hJEa hnEa hsEa hJ0
  cases hd1 : (decide ((i : Int) < ((n + 1 : Nat) : Int))) with
  | false =>
    have hp1 := of_decide_eq_false hd1
    refine run_auto [(8, .bool false)] 7 [false] [] [] [] (st' := ⟨[], []⟩) (acc := [(.bool false, .bool false), (.bool (decide ((i : Int) < ((n + 1 : Nat) : Int))), .bool false)]) (by kernel_rfl) (by kernel_rfl) ⟨rfl, (bo hd1), trivial⟩ ?_
    refine run_endE (fn := f110) rfl (Nat.le_refl _) (by kernel_rfl) [] [] (e := []) (by kernel_rfl) trivial (fun w1 k1 h1 hE1 => ?_)
    exact ⟨rfl, Ea, hnEa, hE1, .inl ⟨_, rfl, by have h := hJEa; rw [show i = n + 1 by omega, preS_all] at h; exact h⟩⟩
  | true =>
    have hp1 := of_decide_eq_true hd1
    refine run_auto [(8, .bool true)] 19 [true] [] [0, 1, 6, 7, 3, 4] [] (st' := ⟨[(0, .func (.yield l) #[] #[]), (1, .pointer (some ⟨b, 0, none⟩)), (6, .int .i64 ((n + 1 : Nat) : Int)), (7, .int .i64 (i : Int)), (3, .int .i64 (i : Int)), (4, .int .i64 0)], []⟩) (acc := [(.bool true, .bool true), (.bool (decide ((i : Int) < ((n + 1 : Nat) : Int))), .bool true)]) (by kernel_rfl) (by kernel_rfl) ⟨rfl, (bo hd1), trivial⟩ ?_
    refine run_auto [] 0 [] [] [0, 1, 6, 7, 3, 4] [] (st' := ⟨[(0, .func (.yield l) #[] #[]), (1, .pointer (some ⟨b, 0, none⟩)), (6, .int .i64 ((n + 1 : Nat) : Int)), (7, .int .i64 (i : Int)), (3, .int .i64 (i : Int)), (4, .int .i64 0)], []⟩) (acc := []) (by kernel_rfl) (by kernel_rfl) trivial ?_
    refine run_loopE (σ := Nat × Ext) (S := fun (y : Nat × Ext) => ⟨[(0, .func (.yield l) #[] #[]), (1, .pointer (some ⟨b, 0, none⟩)), (6, .int .i64 ((n + 1 : Nat) : Int)), (7, .int .i64 (i : Int)), (3, .int .i64 (i : Int)), (4, .int .i64 (y.1 : Int))], []⟩) (fun (y : Nat × Ext) => y.2) (fun (y : Nat × Ext) => y.1 ≤ 2 ^ n ∧ J ((preS n i y.1).map sv) y.2 ∧ y.2.n0 = E0.n0 ∧ (∀ b, b < w.heap.size → y.2.D b → E0.D b)) (fun (y : Nat × Ext) => 2 ^ n - y.1) ((0, Ea)) (by kernel_rfl) (⟨Nat.zero_le _, hJEa, hnEa, hsEa⟩) (by kernel_rfl) rfl (fun y hI1 J1 hJ1 => ?_)
    obtain ⟨j, Eb⟩ := y
    obtain ⟨hl1, hJEb, hnEb, hsEb⟩ := hI1
    dsimp only at hl1 hJEb hnEb hsEb hJ1
    refine run_auto [] 4 [] [] [0, 1, 6, 7, 3, 4, 10] [] (st' := ⟨[(0, .func (.yield l) #[] #[]), (1, .pointer (some ⟨b, 0, none⟩)), (6, .int .i64 ((n + 1 : Nat) : Int)), (7, .int .i64 (i : Int)), (3, .int .i64 (i : Int)), (4, .int .i64 (j : Int)), (10, .int .i64 (j : Int))], []⟩) (acc := []) (by kernel_rfl) (by kernel_rfl) trivial ?_
    refine run_v (Instr.loadAt 3 (.pointer (some ⟨b, 0, none⟩)) >>= fun v => pure (Next.value v)) (some 11) (.int .i64 (n : Int)) (by kernel_rfl) (fun w1 k1 h1 => load_in (base := 0) (off := 0) k1 hnd [.int .i64 (n : Int)] (fun i u hi => by rw [Nat.zero_add]; exact cells_of_heap hb i u hi) (by kernel_rfl)) ?_
    refine run_ret1 90 #[.int .i64 (n : Int)] (some 12) (.int .i64 ((2 ^ n - 1 : Nat) : Int)) (by kernel_rfl) (fun w1 k1 h1 => fullSet_any n (by omega) w1) ?_
    cases hd2 : (decide ((j : Int) ≤ ((2 ^ n - 1 : Nat) : Int))) with
    | false =>
      have hp2 := of_decide_eq_false hd2
      have hjn : j = 2 ^ n := by omega
      refine run_auto [(13, .bool false), (26, .int .i64 ((i + 1 : Nat) : Int))] 9 [false] [] [0, 1, 6, 7] [] (st' := ⟨[(0, .func (.yield l) #[] #[]), (1, .pointer (some ⟨b, 0, none⟩)), (6, .int .i64 ((n + 1 : Nat) : Int)), (7, .int .i64 ((i + 1 : Nat) : Int))], []⟩) (acc := [(.int .i64 (IntKind.i64.wrap ((i : Int) + 1)), .int .i64 ((i + 1 : Nat) : Int)), (.bool false, .bool false), (.bool (decide ((j : Int) ≤ ((2 ^ n - 1 : Nat) : Int))), .bool false)]) (by kernel_rfl) (by kernel_rfl) ⟨(wr (by omega) (by omega)), rfl, (bo hd2), trivial⟩ ?_
      exact run_round (by kernel_rfl) (hJ0 ((i + 1, Eb)) (⟨by dsimp only; omega, by have h := hJEb; rw [show j = 2 ^ n by omega, preS_row] at h; exact h, hnEb, hsEb⟩) (by dsimp only; omega))
    | true =>
      have hp2 := of_decide_eq_true hd2
      have hjn : j < 2 ^ n := by omega
      refine run_auto [(13, .bool true)] 9 [true] [] [0, 1, 6, 7, 3, 4, 16] [] (st' := ⟨[(0, .func (.yield l) #[] #[]), (1, .pointer (some ⟨b, 0, none⟩)), (6, .int .i64 ((n + 1 : Nat) : Int)), (7, .int .i64 (i : Int)), (3, .int .i64 (i : Int)), (4, .int .i64 (j : Int)), (16, .int .i64 (j : Int))], []⟩) (acc := [(.bool true, .bool true), (.bool (decide ((j : Int) ≤ ((2 ^ n - 1 : Nat) : Int))), .bool true)]) (by kernel_rfl) (by kernel_rfl) ⟨rfl, (bo hd2), trivial⟩ ?_
      refine run_ret1 54 #[.int .i64 (j : Int)] (some 17) (.int .i64 ((bitsN j : Nat) : Int)) (by kernel_rfl) (fun w1 k1 h1 => size_any j (by omega) w1) ?_
      cases hd3 : (((bitsN j : Nat) : Int) == (i : Int)) with
      | false =>
        have hp3 : ¬ ((bitsN j : Nat) : Int) = (i : Int) := by simpa using hd3
        have hsz : bitsN j ≠ i := by omega
        refine run_auto [(19, .bool false), (15, .int .i64 ((j + 1 : Nat) : Int))] 17 [false] [] [0, 1, 6, 7, 3, 4] [] (st' := ⟨[(0, .func (.yield l) #[] #[]), (1, .pointer (some ⟨b, 0, none⟩)), (6, .int .i64 ((n + 1 : Nat) : Int)), (7, .int .i64 (i : Int)), (3, .int .i64 (i : Int)), (4, .int .i64 ((j + 1 : Nat) : Int))], []⟩) (acc := [(.int .i64 (IntKind.i64.wrap ((j : Int) + 1)), .int .i64 ((j + 1 : Nat) : Int)), (.bool false, .bool false), (.bool (((bitsN j : Nat) : Int) == (i : Int)), .bool false)]) (by kernel_rfl) (by kernel_rfl) ⟨(wr (by omega) (by omega)), rfl, (bo hd3), trivial⟩ ?_
        exact run_round (by kernel_rfl) (hJ1 ((j + 1, Eb)) (⟨by dsimp only; omega, (by have h := hJEb; rw [preS_no hsz] at h; exact h), hnEb, hsEb⟩) (by dsimp only; omega))
      | true =>
        have hp3 : ((bitsN j : Nat) : Int) = (i : Int) := by simpa using hd3
        have hsz : bitsN j = i := by omega
        refine run_auto [(19, .bool true)] 5 [] [] [0, 1, 6, 7, 3, 4, 20, 21, 22] [] (st' := ⟨[(0, .func (.yield l) #[] #[]), (1, .pointer (some ⟨b, 0, none⟩)), (6, .int .i64 ((n + 1 : Nat) : Int)), (7, .int .i64 (i : Int)), (3, .int .i64 (i : Int)), (4, .int .i64 (j : Int)), (20, .bool true), (21, .func (.yield l) #[] #[]), (22, .int .i64 (j : Int))], []⟩) (acc := [(.bool (((bitsN j : Nat) : Int) == (i : Int)), .bool true)]) (by kernel_rfl) (by kernel_rfl) ⟨(bo hd3), trivial⟩ ?_
        have hpre : (preS n i j).map sv ++ [sv j] <+: (setsL n).map sv := by
          have h := List.IsPrefix.map sv (preS_in (n := n) (by omega) hjn hsz)
          rwa [List.map_append] at h
        refine run_yield l #[.int .i64 (j : Int)] (some 23) (by kernel_rfl) hsEb (Yt (J ((preS n i j).map sv ++ [sv j])) Jx) (fun w1 hJ1 k1 => Ygives.out (Ygives.of (E := Eb) (hy _ (sv j) Eb w1 hpre hJEb hnEb hJ1) hnEb)) (fun E3 t hok hn3 hs3 => ?_)
        have hs4 : ∀ b, b < w.heap.size → E3.D b → E0.D b := fun b hb h => (hs3 b h).elim (hsEb b hb) (fun h => absurd hb (Nat.not_lt.2 h))
        cases hd4 : t with
        | false =>
          rw [hd4] at hok
          dsimp only [Yt] at hok
          refine run_auto [(24, .bool true)] 4 [true] [] [0, 1, 6, 7, 3, 4] [] (st' := ⟨[(0, .func (.yield l) #[] #[]), (1, .pointer (some ⟨b, 0, none⟩)), (6, .int .i64 ((n + 1 : Nat) : Int)), (7, .int .i64 (i : Int)), (3, .int .i64 (i : Int)), (4, .int .i64 (j : Int))], []⟩) (acc := [(.bool true, .bool true), (.bool true, .bool true)]) (by kernel_rfl) (by kernel_rfl) ⟨rfl, rfl, trivial⟩ ?_
          refine run_endE (fn := f110) rfl (Nat.le_refl _) (by kernel_rfl) [] [] (e := []) (by kernel_rfl) trivial (fun w1 k1 h1 hE1 => ?_)
          exact ⟨rfl, E3, hn3.trans hnEb, hE1, .inr hok⟩
        | true =>
          rw [hd4] at hok
          dsimp only [Yt] at hok
          refine run_auto [(24, .bool false), (15, .int .i64 ((j + 1 : Nat) : Int))] 11 [false] [] [0, 1, 6, 7, 3, 4] [] (st' := ⟨[(0, .func (.yield l) #[] #[]), (1, .pointer (some ⟨b, 0, none⟩)), (6, .int .i64 ((n + 1 : Nat) : Int)), (7, .int .i64 (i : Int)), (3, .int .i64 (i : Int)), (4, .int .i64 ((j + 1 : Nat) : Int))], []⟩) (acc := [(.int .i64 (IntKind.i64.wrap ((j : Int) + 1)), .int .i64 ((j + 1 : Nat) : Int)), (.bool false, .bool false), (.bool false, .bool false)]) (by kernel_rfl) (by kernel_rfl) ⟨(wr (by omega) (by omega)), rfl, rfl, trivial⟩ ?_
          exact run_round (by kernel_rfl) (hJ1 ((j + 1, E3)) (⟨by dsimp only; omega, (by have h := hok; rw [show (preS n i j).map sv ++ [sv j] = (preS n i (j + 1)).map sv from by rw [← preS_yes hsz, List.map_append]; rfl] at h; exact h), (hn3.trans hnEb), hs4⟩) (by dsimp only; omega))

def inB (s : Nat) (i : Nat) : Bool := s.testBit i
theorem set_in {n : Nat} {s : Nat} (hn : n ≤ 8) (h : s ∈ setsL n) : s < 2 ^ n := (mem_setsL hn).1 h
theorem fewest_stop {n : Nat} {so : Nat → Bool} {P : List Nat} {s : Nat} (hP : ∀ x ∈ P, so x = false) (hs : so s = true) (hpre : P ++ [s] <+: setsL n) : fewestL n so = s := by
  obtain ⟨t, ht⟩ := hpre
  unfold fewestL
  rw [← ht, List.append_assoc, List.find?_append, List.find?_eq_none.2 (fun x hx => by rw [hP x hx]; simp)]
  simp [hs]
theorem fewest_none {n : Nat} {so : Nat → Bool} (hP : ∀ x ∈ setsL n, so x = false) : fewestL n so = 2 ^ n - 1 := by
  unfold fewestL
  rw [List.find?_eq_none.2 (fun x hx => by rw [hP x hx]; simp)]
  rfl
theorem sv_next {n : Nat} {P : List Nat} {x : List Value} (hP : P <+: setsL n) (h : P.map sv ++ [x] <+: (setsL n).map sv) : ∃ s, x = sv s ∧ P ++ [s] <+: setsL n := by
  obtain ⟨r, hr⟩ := hP
  obtain ⟨t, ht⟩ := h
  rw [← hr, List.map_append, List.append_assoc] at ht
  have ht := List.append_cancel_left ht
  cases r with
  | nil => simp at ht
  | cons k r =>
    simp at ht
    exact ⟨k, ht.1, r, by rw [← hr]; simp⟩
theorem sv_done {n : Nat} {P : List Nat} (hP : P <+: setsL n) (h : (setsL n).map sv = P.map sv) : P = setsL n := by
  have hl := congrArg List.length h
  rw [List.length_map, List.length_map] at hl
  exact hP.eq_of_length hl.symm
set_option maxRecDepth 100000 in
theorem wrong1_any (p : Pr) (bp s : Nat) (hs : s < 256) (w : World) (hp : p.In w) (hF : p.Fine) (hbp : w.heap[bp]? = some (.cells #[.slice p.ba p.bs.length p.bc, .int .i64 p.zlo, .int .i64 p.zhi, .int .i64 p.rlo, .int .i64 p.rhi, .slice p.ra p.rs.length p.rc] 30 (0, 0))) : Calls Try.prog 86 #[.int .i64 (s : Int), .pointer (some ⟨bp, 0, none⟩)] w (RetB (p.n.keep (outB s)).agreeB w) := by
  refine calls_run (fn := f86) (c := (f86.body).getD .skip) [.int .i64 (s : Int), .pointer (some ⟨bp, 0, none⟩)] func86 (by kernel_rfl) (fun _ => False) [] (fun _ h => by cases h) (List.Pairwise.nil) 8 (by kernel_rfl) (by simp) ?_
  refine run_auto [] 6 [] [] [0, 1, 3] [] (st' := ⟨[(0, .int .i64 (s : Int)), (1, .pointer (some ⟨bp, 0, none⟩)), (3, .bool false)], []⟩) (acc := []) (by kernel_rfl) (by kernel_rfl) trivial ?_
  refine run_v (Instr.loadAt 30 (.pointer (some ⟨bp, 0, none⟩)) >>= fun v => pure (Next.value v)) (some 4) (.agg #[.slice p.ba p.bs.length p.bc, .int .i64 p.zlo, .int .i64 p.zhi, .int .i64 p.rlo, .int .i64 p.rhi, .slice p.ra p.rs.length p.rc]) (by kernel_rfl) (fun w1 k1 h1 => load_in (base := 0) (off := 0) k1 (fun h => h) [.slice p.ba p.bs.length p.bc, .int .i64 p.zlo, .int .i64 p.zhi, .int .i64 p.rlo, .int .i64 p.rhi, .slice p.ra p.rs.length p.rc] (fun i u hi => by rw [Nat.zero_add]; exact cells_of_heap hbp i u hi) (by kernel_rfl)) ?_
  refine run_auto [] 1 [] [] [3, 4, 5] [] (st' := ⟨[(3, .bool false), (4, .agg #[.slice p.ba p.bs.length p.bc, .int .i64 p.zlo, .int .i64 p.zhi, .int .i64 p.rlo, .int .i64 p.rhi, .slice p.ra p.rs.length p.rc]), (5, .int .i64 (s : Int))], []⟩) (acc := []) (by kernel_rfl) (by kernel_rfl) trivial ?_
  refine run_nw 88 #[.agg #[.slice p.ba p.bs.length p.bc, .int .i64 p.zlo, .int .i64 p.zhi, .int .i64 p.rlo, .int .i64 p.rhi, .slice p.ra p.rs.length p.rc], .int .i64 (s : Int)] (some 6) (α := Unit) (fun _u b1 => .agg #[.slice p.ba p.bs.length p.bc, .int .i64 p.zlo, .int .i64 p.zhi, .int .i64 p.rlo, .int .i64 p.rhi, .slice (some ⟨b1, 0, none⟩) ((keptTo (outB s) p.rs 0).length) p.rs.length]) (fun _u => .cells (rowG rdR zC (keptTo (outB s) p.rs 0) (p.rs.length)).toArray 38 (0, 0)) (fun _u => True) (by kernel_rfl) (fun _ => rfl) (fun w1 k1 h1 => without_any p s (by omega) w1 (hp.keep (k1.keeps (fun _ h => h))) hF) (fun _u b1 hIb1 hb1 => ?_)
  cases hd1 : ((p.n.keep (outB s)).agreeB) with
  | false =>
    refine run_ret1 87 #[.agg #[.slice p.ba p.bs.length p.bc, .int .i64 p.zlo, .int .i64 p.zhi, .int .i64 p.rlo, .int .i64 p.rhi, .slice (some ⟨b1, 0, none⟩) ((keptTo (outB s) p.rs 0).length) p.rs.length]] (some 7) (.bool false) (by kernel_rfl) (fun w1 k1 h1 => (by have h := (by have h := agree_any (p.wo (outB s) b1) w1 (hp.wo (k1.keeps (fun _ h => h)) (outB s) (h1 (b1, .cells (rowG rdR zC (keptTo (outB s) p.rs 0) (p.rs.length)).toArray 38 (0, 0)) (List.mem_of_getElem? (i := 0) (by kernel_rfl)))) (hF.wo (outB s) b1); rw [Pr.wo_n] at h; exact h); rw [hd1] at h; exact h)) ?_
    refine run_auto [] 2 [] [] [3] [] (st' := ⟨[(3, .bool false)], []⟩) (acc := []) (by kernel_rfl) (by kernel_rfl) trivial ?_
    refine run_end (fn := f86) rfl (Nat.le_refl _) (by kernel_rfl) [] [.bool false] (e := []) (by kernel_rfl) trivial (fun w1 k1 h1 => ?_)
    exact ⟨rfl, k1.keeps (fun _ h => h)⟩
  | true =>
    refine run_ret1 87 #[.agg #[.slice p.ba p.bs.length p.bc, .int .i64 p.zlo, .int .i64 p.zhi, .int .i64 p.rlo, .int .i64 p.rhi, .slice (some ⟨b1, 0, none⟩) ((keptTo (outB s) p.rs 0).length) p.rs.length]] (some 7) (.bool true) (by kernel_rfl) (fun w1 k1 h1 => (by have h := (by have h := agree_any (p.wo (outB s) b1) w1 (hp.wo (k1.keeps (fun _ h => h)) (outB s) (h1 (b1, .cells (rowG rdR zC (keptTo (outB s) p.rs 0) (p.rs.length)).toArray 38 (0, 0)) (List.mem_of_getElem? (i := 0) (by kernel_rfl)))) (hF.wo (outB s) b1); rw [Pr.wo_n] at h; exact h); rw [hd1] at h; exact h)) ?_
    refine run_auto [] 2 [] [] [3] [] (st' := ⟨[(3, .bool true)], []⟩) (acc := []) (by kernel_rfl) (by kernel_rfl) trivial ?_
    refine run_end (fn := f86) rfl (Nat.le_refl _) (by kernel_rfl) [] [.bool true] (e := []) (by kernel_rfl) trivial (fun w1 k1 h1 => ?_)
    exact ⟨rfl, k1.keeps (fun _ h => h)⟩


def compl (n s : Nat) : Nat := (2 ^ n - 1) ^^^ ((2 ^ n - 1) &&& s)
theorem compl_lt {n : Nat} (h : n ≤ 8) (s : Nat) : compl n s < 256 := by
  have h1 := pow_le5 h
  have h2 : 2 ^ n - 1 < 2 ^ 8 := by omega
  exact Nat.xor_lt_two_pow (n := 8) h2 (Nat.lt_of_le_of_lt Nat.and_le_left h2)
theorem keepL_congr {rs : List Rdg} {f g : Nat → Bool} (h : ∀ i, i < rs.length → f i = g i) : keepL rs f = keepL rs g := by
  unfold keepL
  congr 1
  apply List.filter_congr
  intro x hx
  exact h _ (List.mem_zipIdx' hx).1
theorem Prn.keep_congr {p : Prn} {f g : Nat → Bool} (h : ∀ i, i < p.rs.length → f i = g i) : p.keep f = p.keep g := by
  unfold Prn.keep
  rw [keepL_congr h]
theorem compl_keep (p : Pr) (s : Nat) : p.n.keep (outB (compl p.rs.length s)) = p.n.keep (inB s) := Prn.keep_congr fun i hi => by
  have hi : i < p.rs.length := by rwa [show p.n.rs.length = p.rs.length from List.length_map _] at hi
  unfold outB inB compl
  rw [Nat.testBit_xor, Nat.testBit_and, all_bits hi]
  simp
theorem nrs_len (p : Pr) : p.n.rs.length = p.rs.length := List.length_map _
set_option maxRecDepth 100000 in
theorem clash1_any (p : Pr) (bp ba s : Nat) (hs : s < 256) (w : World) (hp : p.In w) (hF : p.Fine) (hbp : w.heap[bp]? = some (.cells #[.slice p.ba p.bs.length p.bc, .int .i64 p.zlo, .int .i64 p.zhi, .int .i64 p.rlo, .int .i64 p.rhi, .slice p.ra p.rs.length p.rc] 30 (0, 0))) (hba : w.heap[ba]? = some (.cells #[.int .i64 ((2 ^ p.rs.length - 1 : Nat) : Int)] 98 (0, 0))) : Calls Try.prog 91 #[.int .i64 (s : Int), .pointer (some ⟨bp, 0, none⟩), .pointer (some ⟨ba, 0, none⟩)] w (RetB (!(p.n.keep (inB s)).agreeB) w) := by
  have h2 := pow_le5 hF.r8
  refine calls_run (fn := f91) (c := (f91.body).getD .skip) [.int .i64 (s : Int), .pointer (some ⟨bp, 0, none⟩), .pointer (some ⟨ba, 0, none⟩)] func91 (by kernel_rfl) (fun _ => False) [] (fun _ h => by cases h) (List.Pairwise.nil) 12 (by kernel_rfl) (by simp) ?_
  refine run_auto [] 6 [] [] [0, 1, 2, 4] [] (st' := ⟨[(0, .int .i64 (s : Int)), (1, .pointer (some ⟨bp, 0, none⟩)), (2, .pointer (some ⟨ba, 0, none⟩)), (4, .bool false)], []⟩) (acc := []) (by kernel_rfl) (by kernel_rfl) trivial ?_
  refine run_v (Instr.loadAt 30 (.pointer (some ⟨bp, 0, none⟩)) >>= fun v => pure (Next.value v)) (some 5) (.agg #[.slice p.ba p.bs.length p.bc, .int .i64 p.zlo, .int .i64 p.zhi, .int .i64 p.rlo, .int .i64 p.rhi, .slice p.ra p.rs.length p.rc]) (by kernel_rfl) (fun w1 k1 h1 => load_in (base := 0) (off := 0) k1 (fun h => h) [.slice p.ba p.bs.length p.bc, .int .i64 p.zlo, .int .i64 p.zhi, .int .i64 p.rlo, .int .i64 p.rhi, .slice p.ra p.rs.length p.rc] (fun i u hi => by rw [Nat.zero_add]; exact cells_of_heap hbp i u hi) (by kernel_rfl)) ?_
  refine run_v (Instr.loadAt 98 (.pointer (some ⟨ba, 0, none⟩)) >>= fun v => pure (Next.value v)) (some 6) (.int .i64 ((2 ^ p.rs.length - 1 : Nat) : Int)) (by kernel_rfl) (fun w1 k1 h1 => load_in (base := 0) (off := 0) k1 (fun h => h) [.int .i64 ((2 ^ p.rs.length - 1 : Nat) : Int)] (fun i u hi => by rw [Nat.zero_add]; exact cells_of_heap hba i u hi) (by kernel_rfl)) ?_
  refine run_auto [(8, .int .i64 ((compl p.rs.length s : Nat) : Int))] 2 [] [] [4, 5, 8] [] (st' := ⟨[(4, .bool false), (5, .agg #[.slice p.ba p.bs.length p.bc, .int .i64 p.zlo, .int .i64 p.zhi, .int .i64 p.rlo, .int .i64 p.rhi, .slice p.ra p.rs.length p.rc]), (8, .int .i64 ((compl p.rs.length s : Nat) : Int))], []⟩) (acc := [(.int .i64 (bits .andNot .i64 ((2 ^ p.rs.length - 1 : Nat) : Int) (s : Int)), .int .i64 ((compl p.rs.length s : Nat) : Int))]) (by kernel_rfl) (by kernel_rfl) ⟨(andNot_nat (2 ^ p.rs.length - 1) s (by omega) (by omega)), trivial⟩ ?_
  refine run_nw 88 #[.agg #[.slice p.ba p.bs.length p.bc, .int .i64 p.zlo, .int .i64 p.zhi, .int .i64 p.rlo, .int .i64 p.rhi, .slice p.ra p.rs.length p.rc], .int .i64 ((compl p.rs.length s : Nat) : Int)] (some 9) (α := Unit) (fun _u b1 => .agg #[.slice p.ba p.bs.length p.bc, .int .i64 p.zlo, .int .i64 p.zhi, .int .i64 p.rlo, .int .i64 p.rhi, .slice (some ⟨b1, 0, none⟩) ((keptTo (outB (compl p.rs.length s : Nat)) p.rs 0).length) p.rs.length]) (fun _u => .cells (rowG rdR zC (keptTo (outB (compl p.rs.length s : Nat)) p.rs 0) (p.rs.length)).toArray 38 (0, 0)) (fun _u => True) (by kernel_rfl) (fun _ => rfl) (fun w1 k1 h1 => without_any p (compl p.rs.length s : Nat) (by exact compl_lt hF.r8 s) w1 (hp.keep (k1.keeps (fun _ h => h))) hF) (fun _u b1 hIb1 hb1 => ?_)
  cases hd1 : ((p.n.keep (outB (compl p.rs.length s : Nat))).agreeB) with
  | false =>
    refine run_ret1 87 #[.agg #[.slice p.ba p.bs.length p.bc, .int .i64 p.zlo, .int .i64 p.zhi, .int .i64 p.rlo, .int .i64 p.rhi, .slice (some ⟨b1, 0, none⟩) ((keptTo (outB (compl p.rs.length s : Nat)) p.rs 0).length) p.rs.length]] (some 10) (.bool false) (by kernel_rfl) (fun w1 k1 h1 => (by have h := (by have h := agree_any (p.wo (outB (compl p.rs.length s : Nat)) b1) w1 (hp.wo (k1.keeps (fun _ h => h)) (outB (compl p.rs.length s : Nat)) (h1 (b1, .cells (rowG rdR zC (keptTo (outB (compl p.rs.length s : Nat)) p.rs 0) (p.rs.length)).toArray 38 (0, 0)) (List.mem_of_getElem? (i := 0) (by kernel_rfl)))) (hF.wo (outB (compl p.rs.length s : Nat)) b1); rw [Pr.wo_n] at h; exact h); rw [hd1] at h; exact h)) ?_
    refine run_auto [(11, .bool true)] 3 [] [] [4] [] (st' := ⟨[(4, .bool true)], []⟩) (acc := [(.bool true, .bool true)]) (by kernel_rfl) (by kernel_rfl) ⟨rfl, trivial⟩ ?_
    refine run_end (fn := f91) rfl (Nat.le_refl _) (by kernel_rfl) [] [.bool true] (e := []) (by kernel_rfl) trivial (fun w1 k1 h1 => ?_)
    exact ⟨by rw [← compl_keep, hd1]; rfl, k1.keeps (fun _ h => h)⟩
  | true =>
    refine run_ret1 87 #[.agg #[.slice p.ba p.bs.length p.bc, .int .i64 p.zlo, .int .i64 p.zhi, .int .i64 p.rlo, .int .i64 p.rhi, .slice (some ⟨b1, 0, none⟩) ((keptTo (outB (compl p.rs.length s : Nat)) p.rs 0).length) p.rs.length]] (some 10) (.bool true) (by kernel_rfl) (fun w1 k1 h1 => (by have h := (by have h := agree_any (p.wo (outB (compl p.rs.length s : Nat)) b1) w1 (hp.wo (k1.keeps (fun _ h => h)) (outB (compl p.rs.length s : Nat)) (h1 (b1, .cells (rowG rdR zC (keptTo (outB (compl p.rs.length s : Nat)) p.rs 0) (p.rs.length)).toArray 38 (0, 0)) (List.mem_of_getElem? (i := 0) (by kernel_rfl)))) (hF.wo (outB (compl p.rs.length s : Nat)) b1); rw [Pr.wo_n] at h; exact h); rw [hd1] at h; exact h)) ?_
    refine run_auto [(11, .bool false)] 3 [] [] [4] [] (st' := ⟨[(4, .bool false)], []⟩) (acc := [(.bool false, .bool false)]) (by kernel_rfl) (by kernel_rfl) ⟨rfl, trivial⟩ ?_
    refine run_end (fn := f91) rfl (Nat.le_refl _) (by kernel_rfl) [] [.bool false] (e := []) (by kernel_rfl) trivial (fun w1 k1 h1 => ?_)
    exact ⟨by rw [← compl_keep, hd1]; rfl, k1.keeps (fun _ h => h)⟩

set_option maxRecDepth 100000 in
theorem fewest_wrong (p : Pr) (bp : Nat) (w : World) (hp : p.In w) (hF : p.Fine) (hbp : w.heap[bp]? = some (.cells #[.slice p.ba p.bs.length p.bc, .int .i64 p.zlo, .int .i64 p.zhi, .int .i64 p.rlo, .int .i64 p.rhi, .slice p.ra p.rs.length p.rc] 30 (0, 0))) : Calls Try.prog 85 #[.int .i64 (p.rs.length : Int), .func (.func 86) #[] #[.pointer (some ⟨bp, 0, none⟩)]] w (RetI (fewestL p.rs.length (fun x => (p.n.keep (outB x)).agreeB) : Nat) w) := by
  have h2 := pow_le5 hF.r8
  have h8 := hF.r8
  refine calls_run (fn := f85) (c := (f85.body).getD .skip) [.int .i64 (p.rs.length : Int), .func (.func 86) #[] #[.pointer (some ⟨bp, 0, none⟩)]] func85 (by kernel_rfl) (fun _ => False) [] (fun _ h => by cases h) (List.Pairwise.nil) 15 (by kernel_rfl) (by simp) ?_
  refine run_auto [] 2 [] [] [0, 1] [] (st' := ⟨[(0, .int .i64 (p.rs.length : Int)), (1, .func (.func 86) #[] #[.pointer (some ⟨bp, 0, none⟩)])], []⟩) (acc := []) (by kernel_rfl) (by kernel_rfl) trivial ?_
  refine run_new (.cells #[.func (.func 86) #[] #[.pointer (some ⟨bp, 0, none⟩)]] 133 (0, 0)) (fun b1 => .pointer (some ⟨b1, 0, none⟩)) (some 3) (fun _ => by kernel_rfl) (fun b1 hb1 => ?_)
  refine run_new (.cells #[.int .i64 0] 98 (0, 0)) (fun b2 => .pointer (some ⟨b2, 0, none⟩)) (some 4) (fun _ => by kernel_rfl) (fun b2 hb2 => ?_)
  refine run_auto [] 5 [] [] [0, 3, 4, 6] [0, 1] (st' := ⟨[(0, .int .i64 (p.rs.length : Int)), (3, .pointer (some ⟨b1, 0, none⟩)), (4, .pointer (some ⟨b2, 0, none⟩)), (6, .int .i64 (p.rs.length : Int))], [(b2, .cells #[.int .i64 0] 98 (0, 0)), (b1, .cells #[.func (.func 86) #[] #[.pointer (some ⟨bp, 0, none⟩)]] 133 (0, 0))]⟩) (acc := []) (by kernel_rfl) (by kernel_rfl) trivial ?_
  refine run_nw 103 #[.int .i64 (p.rs.length : Int)] (some 7) (α := Unit) (fun _u b3 => .func (.func 110) #[] #[.pointer (some ⟨b3, 0, none⟩)]) (fun _u => .cells #[.int .i64 (p.rs.length : Int)] 3 (0, 0)) (fun _u => True) (by kernel_rfl) (fun _ => rfl) (fun w1 k1 h1 => setsBySize_any p.rs.length w1) (fun _u b3 hIb3 hb3 => ?_)
  refine run_auto [] 2 [] [] [0, 3, 4, 7] [0, 1, 2] (st' := ⟨[(0, .int .i64 (p.rs.length : Int)), (3, .pointer (some ⟨b1, 0, none⟩)), (4, .pointer (some ⟨b2, 0, none⟩)), (7, .func (.func 110) #[] #[.pointer (some ⟨b3, 0, none⟩)])], [(b3, .cells #[.int .i64 (p.rs.length : Int)] 3 (0, 0)), (b2, .cells #[.int .i64 0] 98 (0, 0)), (b1, .cells #[.func (.func 86) #[] #[.pointer (some ⟨bp, 0, none⟩)]] 133 (0, 0))]⟩) (acc := []) (by kernel_rfl) (by kernel_rfl) trivial ?_
  refine run_auto [] 0 [] [] [0, 3, 4, 7] [0, 1, 2] (st' := ⟨[(0, .int .i64 (p.rs.length : Int)), (3, .pointer (some ⟨b1, 0, none⟩)), (4, .pointer (some ⟨b2, 0, none⟩)), (7, .func (.func 110) #[] #[.pointer (some ⟨b3, 0, none⟩)])], [(b3, .cells #[.int .i64 (p.rs.length : Int)] 3 (0, 0)), (b2, .cells #[.int .i64 0] 98 (0, 0)), (b1, .cells #[.func (.func 86) #[] #[.pointer (some ⟨bp, 0, none⟩)]] 133 (0, 0))]⟩) (acc := []) (by kernel_rfl) (by kernel_rfl) trivial ?_
  refine run_range (σ := List Nat) (τ := Nat) 110 #[.pointer (some ⟨b3, 0, none⟩)] [8] [(b3, .cells #[.int .i64 (p.rs.length : Int)] 3 (0, 0))] [(b2, .cells #[.int .i64 0] 98 (0, 0)), (b1, .cells #[.func (.func 86) #[] #[.pointer (some ⟨bp, 0, none⟩)]] 133 (0, 0))] (fun _ _ => True) (fun l => l <+: ((setsL p.rs.length).map sv)) (fun l => l = ((setsL p.rs.length).map sv)) (by kernel_rfl) rfl rfl (fun l => by kernel_rfl) rfl (by kernel_rfl) (fun pre x hx => by obtain ⟨s, _, rfl⟩ := List.mem_map.1 (List.IsPrefix.subset hx (List.mem_append_right _ (List.mem_singleton.2 rfl))); rfl) (sets_give p.rs.length b3 hF.r8) (fun _ _ _ _ => trivial)
    (fun s => [(b2, .cells #[.int .i64 0] 98 (0, 0)), (b1, .cells #[.func (.func 86) #[] #[.pointer (some ⟨bp, 0, none⟩)]] 133 (0, 0))]) (fun s => Ext.none) (fun pre s => s <+: setsL p.rs.length ∧ pre = s.map sv ∧ ∀ x ∈ s, (fun x => (p.n.keep (outB x)).agreeB) x = false) (fun y => [(b2, .cells #[.int .i64 (y : Int)] 98 (0, 0)), (b1, .cells #[.func (.func 86) #[] #[.pointer (some ⟨bp, 0, none⟩)]] 133 (0, 0))]) (fun y => Ext.none) (fun c y => c = .ret ∧ fewestL p.rs.length (fun x => (p.n.keep (outB x)).agreeB) = y) ([]) (⟨List.nil_prefix, rfl, fun _ h => by cases h⟩) rfl rfl (fun _ _ _ => ⟨rfl, fun _ _ h => h.elim⟩) (fun _ _ _ => rfl)
    (fun pre x s hpre hI l0 ms ro ob w0 Jb Jn Je hkk hll hbeg hnext hexit => ?_) (fun ys s hys hI => ?_) (fun c y hI => ?_)
  · skip
    have hpre : pre ++ [x] <+: ((setsL p.rs.length).map sv) := hpre
    obtain ⟨P, rfl⟩ : ∃ P, P = s := ⟨_, rfl⟩
    obtain ⟨hPp, rfl, hP⟩ := hI
    obtain ⟨s, rfl, hpr2⟩ := sv_next hPp hpre
    have hs : s < 256 := Nat.lt_of_lt_of_le (set_in hF.r8 (hpr2.mem (List.mem_append_right _ (List.mem_singleton.2 rfl)))) (pow_le5 hF.r8)
    refine run_auto [] 3 [] [] [3, 4, 5] [0, 1] (st' := ⟨[(3, .pointer (some ⟨b1, 0, none⟩)), (4, .pointer (some ⟨b2, 0, none⟩)), (5, .int .i64 (s : Int))], [(b2, .cells #[.int .i64 0] 98 (0, 0)), (b1, .cells #[.func (.func 86) #[] #[.pointer (some ⟨bp, 0, none⟩)]] 133 (0, 0))]⟩) (acc := []) (by kernel_rfl) (by kernel_rfl) trivial ?_
    refine run_round rfl (hbeg _ ?_)
    refine run_auto [] 5 [] [1] [4, 5, 9, 10] [0, 1] (st' := ⟨[(4, .pointer (some ⟨b2, 0, none⟩)), (5, .int .i64 (s : Int)), (9, .func (.func 86) #[] #[.pointer (some ⟨bp, 0, none⟩)]), (10, .int .i64 (s : Int))], [(b2, .cells #[.int .i64 0] 98 (0, 0)), (b1, .cells #[.func (.func 86) #[] #[.pointer (some ⟨bp, 0, none⟩)]] 133 (0, 0))]⟩) (acc := [(.pointer (some ⟨b1, 0, none⟩), .pointer (some ⟨b1, 0, none⟩))]) (by kernel_rfl) (by kernel_rfl) ⟨rfl, trivial⟩ ?_
    cases hd1 : ((p.n.keep (outB s)).agreeB) with
    | false =>
      refine run_ret1 86 #[.int .i64 (s : Int), .pointer (some ⟨bp, 0, none⟩)] (some 11) (.bool false) (by kernel_rfl) (fun w1 k1 h1 => (by have h := wrong1_any p bp s hs w1 (hp.keep ((hkk _ k1).keeps (fun _ h => h))) hF (((hkk _ k1).block _ (Array.getElem?_eq_some_iff.1 hbp).1 (fun h => h)).trans hbp); rw [hd1] at h; exact h)) ?_
      refine run_auto [] 4 [false] [] [] [0, 1] (st' := ⟨[], [(b2, .cells #[.int .i64 0] 98 (0, 0)), (b1, .cells #[.func (.func 86) #[] #[.pointer (some ⟨bp, 0, none⟩)]] 133 (0, 0))]⟩) (acc := [(.bool false, .bool false)]) (by kernel_rfl) (by kernel_rfl) ⟨rfl, trivial⟩ ?_
      exact run_nil rfl (fun a w1 g => hnext (P ++ [s]) _ ⟨hpr2, by rw [List.map_append]; rfl, fun x hx => (List.mem_append.1 hx).elim (hP x) (fun hx => by rw [List.mem_singleton.1 hx]; exact hd1)⟩ (fun b h => h.elim) a w1 g)
    | true =>
      refine run_ret1 86 #[.int .i64 (s : Int), .pointer (some ⟨bp, 0, none⟩)] (some 11) (.bool true) (by kernel_rfl) (fun w1 k1 h1 => (by have h := wrong1_any p bp s hs w1 (hp.keep ((hkk _ k1).keeps (fun _ h => h))) hF (((hkk _ k1).block _ (Array.getElem?_eq_some_iff.1 hbp).1 (fun h => h)).trans hbp); rw [hd1] at h; exact h)) ?_
      refine run_auto [] 7 [true] [0] [] [0, 1] (st' := ⟨[], [(b2, .cells #[.int .i64 (s : Int)] 98 (0, 0)), (b1, .cells #[.func (.func 86) #[] #[.pointer (some ⟨bp, 0, none⟩)]] 133 (0, 0))]⟩) (acc := [(.pointer (some ⟨b2, 0, none⟩), .pointer (some ⟨b2, 0, none⟩)), (.bool true, .bool true)]) (by kernel_rfl) (by kernel_rfl) ⟨rfl, rfl, trivial⟩ ?_
      exact run_retQ rfl (fun a w1 g => hexit .ret s _ ⟨rfl, fewest_stop hP hd1 hpr2⟩ (.inl rfl) (fun b h => h.elim) a w1 g)
  · skip
    obtain rfl : ys = ((setsL p.rs.length).map sv) := hys
    obtain ⟨hPp, hPm, hP⟩ := hI
    have hPe := sv_done hPp hPm
    rw [hPe] at hP
    have hfew := fewest_none hP
    refine run_auto [] 4 [] [] [4, 13] [0] (st' := ⟨[(4, .pointer (some ⟨b2, 0, none⟩)), (13, .int .i64 (p.rs.length : Int))], [(b2, .cells #[.int .i64 0] 98 (0, 0))]⟩) (acc := []) (by kernel_rfl) (by kernel_rfl) trivial ?_
    refine run_ret1 90 #[.int .i64 (p.rs.length : Int)] (some 14) (.int .i64 ((2 ^ p.rs.length - 1 : Nat) : Int)) (by kernel_rfl) (fun w1 k1 h1 => fullSet_any p.rs.length (by omega) w1) ?_
    refine run_auto [] 2 [] [0] [4] [0] (st' := ⟨[(4, .pointer (some ⟨b2, 0, none⟩))], [(b2, .cells #[.int .i64 ((2 ^ p.rs.length - 1 : Nat) : Int)] 98 (0, 0))]⟩) (acc := [(.pointer (some ⟨b2, 0, none⟩), .pointer (some ⟨b2, 0, none⟩))]) (by kernel_rfl) (by kernel_rfl) ⟨rfl, trivial⟩ ?_
    refine run_end (fn := f85) rfl (Nat.le_refl _) (by kernel_rfl) [0] [.int .i64 ((2 ^ p.rs.length - 1 : Nat) : Int)] (e := [(.pointer (some ⟨b2, 0, none⟩), .pointer (some ⟨b2, 0, none⟩))]) (by kernel_rfl) ⟨rfl, trivial⟩ (fun w1 k1 h1 => ?_)
    exact ⟨by rw [hfew]; rfl, k1.keeps (fun _ h => h)⟩
  · skip
    obtain ⟨rfl, hfew⟩ := hI
    refine run_end (fn := f85) rfl (Nat.le_refl _) (by kernel_rfl) [0] [.int .i64 (y : Int)] (e := [(.pointer (some ⟨b2, 0, none⟩), .pointer (some ⟨b2, 0, none⟩))]) (by kernel_rfl) ⟨rfl, trivial⟩ (fun w1 k1 h1 => ?_)
    exact ⟨by rw [hfew]; rfl, k1.keeps (fun _ h => h)⟩

set_option maxRecDepth 100000 in
theorem fewest_clash (p : Pr) (bp ba : Nat) (w : World) (hp : p.In w) (hF : p.Fine) (hbp : w.heap[bp]? = some (.cells #[.slice p.ba p.bs.length p.bc, .int .i64 p.zlo, .int .i64 p.zhi, .int .i64 p.rlo, .int .i64 p.rhi, .slice p.ra p.rs.length p.rc] 30 (0, 0))) (hba : w.heap[ba]? = some (.cells #[.int .i64 ((2 ^ p.rs.length - 1 : Nat) : Int)] 98 (0, 0))) : Calls Try.prog 85 #[.int .i64 (p.rs.length : Int), .func (.func 91) #[] #[.pointer (some ⟨bp, 0, none⟩), .pointer (some ⟨ba, 0, none⟩)]] w (RetI (fewestL p.rs.length (fun x => !(p.n.keep (inB x)).agreeB) : Nat) w) := by
  have h2 := pow_le5 hF.r8
  have h8 := hF.r8
  refine calls_run (fn := f85) (c := (f85.body).getD .skip) [.int .i64 (p.rs.length : Int), .func (.func 91) #[] #[.pointer (some ⟨bp, 0, none⟩), .pointer (some ⟨ba, 0, none⟩)]] func85 (by kernel_rfl) (fun _ => False) [] (fun _ h => by cases h) (List.Pairwise.nil) 15 (by kernel_rfl) (by simp) ?_
  refine run_auto [] 2 [] [] [0, 1] [] (st' := ⟨[(0, .int .i64 (p.rs.length : Int)), (1, .func (.func 91) #[] #[.pointer (some ⟨bp, 0, none⟩), .pointer (some ⟨ba, 0, none⟩)])], []⟩) (acc := []) (by kernel_rfl) (by kernel_rfl) trivial ?_
  refine run_new (.cells #[.func (.func 91) #[] #[.pointer (some ⟨bp, 0, none⟩), .pointer (some ⟨ba, 0, none⟩)]] 133 (0, 0)) (fun b1 => .pointer (some ⟨b1, 0, none⟩)) (some 3) (fun _ => by kernel_rfl) (fun b1 hb1 => ?_)
  refine run_new (.cells #[.int .i64 0] 98 (0, 0)) (fun b2 => .pointer (some ⟨b2, 0, none⟩)) (some 4) (fun _ => by kernel_rfl) (fun b2 hb2 => ?_)
  refine run_auto [] 5 [] [] [0, 3, 4, 6] [0, 1] (st' := ⟨[(0, .int .i64 (p.rs.length : Int)), (3, .pointer (some ⟨b1, 0, none⟩)), (4, .pointer (some ⟨b2, 0, none⟩)), (6, .int .i64 (p.rs.length : Int))], [(b2, .cells #[.int .i64 0] 98 (0, 0)), (b1, .cells #[.func (.func 91) #[] #[.pointer (some ⟨bp, 0, none⟩), .pointer (some ⟨ba, 0, none⟩)]] 133 (0, 0))]⟩) (acc := []) (by kernel_rfl) (by kernel_rfl) trivial ?_
  refine run_nw 103 #[.int .i64 (p.rs.length : Int)] (some 7) (α := Unit) (fun _u b3 => .func (.func 110) #[] #[.pointer (some ⟨b3, 0, none⟩)]) (fun _u => .cells #[.int .i64 (p.rs.length : Int)] 3 (0, 0)) (fun _u => True) (by kernel_rfl) (fun _ => rfl) (fun w1 k1 h1 => setsBySize_any p.rs.length w1) (fun _u b3 hIb3 hb3 => ?_)
  refine run_auto [] 2 [] [] [0, 3, 4, 7] [0, 1, 2] (st' := ⟨[(0, .int .i64 (p.rs.length : Int)), (3, .pointer (some ⟨b1, 0, none⟩)), (4, .pointer (some ⟨b2, 0, none⟩)), (7, .func (.func 110) #[] #[.pointer (some ⟨b3, 0, none⟩)])], [(b3, .cells #[.int .i64 (p.rs.length : Int)] 3 (0, 0)), (b2, .cells #[.int .i64 0] 98 (0, 0)), (b1, .cells #[.func (.func 91) #[] #[.pointer (some ⟨bp, 0, none⟩), .pointer (some ⟨ba, 0, none⟩)]] 133 (0, 0))]⟩) (acc := []) (by kernel_rfl) (by kernel_rfl) trivial ?_
  refine run_auto [] 0 [] [] [0, 3, 4, 7] [0, 1, 2] (st' := ⟨[(0, .int .i64 (p.rs.length : Int)), (3, .pointer (some ⟨b1, 0, none⟩)), (4, .pointer (some ⟨b2, 0, none⟩)), (7, .func (.func 110) #[] #[.pointer (some ⟨b3, 0, none⟩)])], [(b3, .cells #[.int .i64 (p.rs.length : Int)] 3 (0, 0)), (b2, .cells #[.int .i64 0] 98 (0, 0)), (b1, .cells #[.func (.func 91) #[] #[.pointer (some ⟨bp, 0, none⟩), .pointer (some ⟨ba, 0, none⟩)]] 133 (0, 0))]⟩) (acc := []) (by kernel_rfl) (by kernel_rfl) trivial ?_
  refine run_range (σ := List Nat) (τ := Nat) 110 #[.pointer (some ⟨b3, 0, none⟩)] [8] [(b3, .cells #[.int .i64 (p.rs.length : Int)] 3 (0, 0))] [(b2, .cells #[.int .i64 0] 98 (0, 0)), (b1, .cells #[.func (.func 91) #[] #[.pointer (some ⟨bp, 0, none⟩), .pointer (some ⟨ba, 0, none⟩)]] 133 (0, 0))] (fun _ _ => True) (fun l => l <+: ((setsL p.rs.length).map sv)) (fun l => l = ((setsL p.rs.length).map sv)) (by kernel_rfl) rfl rfl (fun l => by kernel_rfl) rfl (by kernel_rfl) (fun pre x hx => by obtain ⟨s, _, rfl⟩ := List.mem_map.1 (List.IsPrefix.subset hx (List.mem_append_right _ (List.mem_singleton.2 rfl))); rfl) (sets_give p.rs.length b3 hF.r8) (fun _ _ _ _ => trivial)
    (fun s => [(b2, .cells #[.int .i64 0] 98 (0, 0)), (b1, .cells #[.func (.func 91) #[] #[.pointer (some ⟨bp, 0, none⟩), .pointer (some ⟨ba, 0, none⟩)]] 133 (0, 0))]) (fun s => Ext.none) (fun pre s => s <+: setsL p.rs.length ∧ pre = s.map sv ∧ ∀ x ∈ s, (fun x => !(p.n.keep (inB x)).agreeB) x = false) (fun y => [(b2, .cells #[.int .i64 (y : Int)] 98 (0, 0)), (b1, .cells #[.func (.func 91) #[] #[.pointer (some ⟨bp, 0, none⟩), .pointer (some ⟨ba, 0, none⟩)]] 133 (0, 0))]) (fun y => Ext.none) (fun c y => c = .ret ∧ fewestL p.rs.length (fun x => !(p.n.keep (inB x)).agreeB) = y) ([]) (⟨List.nil_prefix, rfl, fun _ h => by cases h⟩) rfl rfl (fun _ _ _ => ⟨rfl, fun _ _ h => h.elim⟩) (fun _ _ _ => rfl)
    (fun pre x s hpre hI l0 ms ro ob w0 Jb Jn Je hkk hll hbeg hnext hexit => ?_) (fun ys s hys hI => ?_) (fun c y hI => ?_)
  · skip
    have hpre : pre ++ [x] <+: ((setsL p.rs.length).map sv) := hpre
    obtain ⟨P, rfl⟩ : ∃ P, P = s := ⟨_, rfl⟩
    obtain ⟨hPp, rfl, hP⟩ := hI
    obtain ⟨s, rfl, hpr2⟩ := sv_next hPp hpre
    have hs : s < 256 := Nat.lt_of_lt_of_le (set_in hF.r8 (hpr2.mem (List.mem_append_right _ (List.mem_singleton.2 rfl)))) (pow_le5 hF.r8)
    refine run_auto [] 3 [] [] [3, 4, 5] [0, 1] (st' := ⟨[(3, .pointer (some ⟨b1, 0, none⟩)), (4, .pointer (some ⟨b2, 0, none⟩)), (5, .int .i64 (s : Int))], [(b2, .cells #[.int .i64 0] 98 (0, 0)), (b1, .cells #[.func (.func 91) #[] #[.pointer (some ⟨bp, 0, none⟩), .pointer (some ⟨ba, 0, none⟩)]] 133 (0, 0))]⟩) (acc := []) (by kernel_rfl) (by kernel_rfl) trivial ?_
    refine run_round rfl (hbeg _ ?_)
    refine run_auto [] 5 [] [1] [4, 5, 9, 10] [0, 1] (st' := ⟨[(4, .pointer (some ⟨b2, 0, none⟩)), (5, .int .i64 (s : Int)), (9, .func (.func 91) #[] #[.pointer (some ⟨bp, 0, none⟩), .pointer (some ⟨ba, 0, none⟩)]), (10, .int .i64 (s : Int))], [(b2, .cells #[.int .i64 0] 98 (0, 0)), (b1, .cells #[.func (.func 91) #[] #[.pointer (some ⟨bp, 0, none⟩), .pointer (some ⟨ba, 0, none⟩)]] 133 (0, 0))]⟩) (acc := [(.pointer (some ⟨b1, 0, none⟩), .pointer (some ⟨b1, 0, none⟩))]) (by kernel_rfl) (by kernel_rfl) ⟨rfl, trivial⟩ ?_
    cases hd1 : (!(p.n.keep (inB s)).agreeB) with
    | false =>
      refine run_ret1 91 #[.int .i64 (s : Int), .pointer (some ⟨bp, 0, none⟩), .pointer (some ⟨ba, 0, none⟩)] (some 11) (.bool false) (by kernel_rfl) (fun w1 k1 h1 => (by have h := clash1_any p bp ba s hs w1 (hp.keep ((hkk _ k1).keeps (fun _ h => h))) hF (((hkk _ k1).block _ (Array.getElem?_eq_some_iff.1 hbp).1 (fun h => h)).trans hbp) (((hkk _ k1).block _ (Array.getElem?_eq_some_iff.1 hba).1 (fun h => h)).trans hba); rw [hd1] at h; exact h)) ?_
      refine run_auto [] 4 [false] [] [] [0, 1] (st' := ⟨[], [(b2, .cells #[.int .i64 0] 98 (0, 0)), (b1, .cells #[.func (.func 91) #[] #[.pointer (some ⟨bp, 0, none⟩), .pointer (some ⟨ba, 0, none⟩)]] 133 (0, 0))]⟩) (acc := [(.bool false, .bool false)]) (by kernel_rfl) (by kernel_rfl) ⟨rfl, trivial⟩ ?_
      exact run_nil rfl (fun a w1 g => hnext (P ++ [s]) _ ⟨hpr2, by rw [List.map_append]; rfl, fun x hx => (List.mem_append.1 hx).elim (hP x) (fun hx => by rw [List.mem_singleton.1 hx]; exact hd1)⟩ (fun b h => h.elim) a w1 g)
    | true =>
      refine run_ret1 91 #[.int .i64 (s : Int), .pointer (some ⟨bp, 0, none⟩), .pointer (some ⟨ba, 0, none⟩)] (some 11) (.bool true) (by kernel_rfl) (fun w1 k1 h1 => (by have h := clash1_any p bp ba s hs w1 (hp.keep ((hkk _ k1).keeps (fun _ h => h))) hF (((hkk _ k1).block _ (Array.getElem?_eq_some_iff.1 hbp).1 (fun h => h)).trans hbp) (((hkk _ k1).block _ (Array.getElem?_eq_some_iff.1 hba).1 (fun h => h)).trans hba); rw [hd1] at h; exact h)) ?_
      refine run_auto [] 7 [true] [0] [] [0, 1] (st' := ⟨[], [(b2, .cells #[.int .i64 (s : Int)] 98 (0, 0)), (b1, .cells #[.func (.func 91) #[] #[.pointer (some ⟨bp, 0, none⟩), .pointer (some ⟨ba, 0, none⟩)]] 133 (0, 0))]⟩) (acc := [(.pointer (some ⟨b2, 0, none⟩), .pointer (some ⟨b2, 0, none⟩)), (.bool true, .bool true)]) (by kernel_rfl) (by kernel_rfl) ⟨rfl, rfl, trivial⟩ ?_
      exact run_retQ rfl (fun a w1 g => hexit .ret s _ ⟨rfl, fewest_stop hP hd1 hpr2⟩ (.inl rfl) (fun b h => h.elim) a w1 g)
  · skip
    obtain rfl : ys = ((setsL p.rs.length).map sv) := hys
    obtain ⟨hPp, hPm, hP⟩ := hI
    have hPe := sv_done hPp hPm
    rw [hPe] at hP
    have hfew := fewest_none hP
    refine run_auto [] 4 [] [] [4, 13] [0] (st' := ⟨[(4, .pointer (some ⟨b2, 0, none⟩)), (13, .int .i64 (p.rs.length : Int))], [(b2, .cells #[.int .i64 0] 98 (0, 0))]⟩) (acc := []) (by kernel_rfl) (by kernel_rfl) trivial ?_
    refine run_ret1 90 #[.int .i64 (p.rs.length : Int)] (some 14) (.int .i64 ((2 ^ p.rs.length - 1 : Nat) : Int)) (by kernel_rfl) (fun w1 k1 h1 => fullSet_any p.rs.length (by omega) w1) ?_
    refine run_auto [] 2 [] [0] [4] [0] (st' := ⟨[(4, .pointer (some ⟨b2, 0, none⟩))], [(b2, .cells #[.int .i64 ((2 ^ p.rs.length - 1 : Nat) : Int)] 98 (0, 0))]⟩) (acc := [(.pointer (some ⟨b2, 0, none⟩), .pointer (some ⟨b2, 0, none⟩))]) (by kernel_rfl) (by kernel_rfl) ⟨rfl, trivial⟩ ?_
    refine run_end (fn := f85) rfl (Nat.le_refl _) (by kernel_rfl) [0] [.int .i64 ((2 ^ p.rs.length - 1 : Nat) : Int)] (e := [(.pointer (some ⟨b2, 0, none⟩), .pointer (some ⟨b2, 0, none⟩))]) (by kernel_rfl) ⟨rfl, trivial⟩ (fun w1 k1 h1 => ?_)
    exact ⟨by rw [hfew]; rfl, k1.keeps (fun _ h => h)⟩
  · skip
    obtain ⟨rfl, hfew⟩ := hI
    refine run_end (fn := f85) rfl (Nat.le_refl _) (by kernel_rfl) [0] [.int .i64 (y : Int)] (e := [(.pointer (some ⟨b2, 0, none⟩), .pointer (some ⟨b2, 0, none⟩))]) (by kernel_rfl) ⟨rfl, trivial⟩ (fun w1 k1 h1 => ?_)
    exact ⟨by rw [hfew]; rfl, k1.keeps (fun _ h => h)⟩


theorem wrongL_is (p : Pr) : fewestL p.rs.length (fun x => (p.n.keep (outB x)).agreeB) = p.n.wrongL := by
  unfold Prn.wrongL
  rw [nrs_len]
  rfl
theorem clashL_is (p : Pr) : fewestL p.rs.length (fun x => !(p.n.keep (inB x)).agreeB) = p.n.clashL := by
  unfold Prn.clashL
  rw [nrs_len]
  rfl
theorem fewestL_lt {n : Nat} (hn : n ≤ 8) (so : Nat → Bool) : fewestL n so < 256 := by
  have h2 := pow_le5 hn
  have h3 := Nat.one_le_two_pow (n := n)
  unfold fewestL
  cases h : (setsL n).find? so with
  | none => show 2 ^ n - 1 < 256; omega
  | some s =>
    have := set_in hn (List.mem_of_find?_eq_some h)
    show s < 256
    omega
theorem wrongL_lt {p : Pr} (h : p.Fine) : p.n.wrongL < 256 := by rw [← wrongL_is]; exact fewestL_lt h.r8 _
theorem clashL_lt {p : Pr} (h : p.Fine) : p.n.clashL < 256 := by rw [← clashL_is]; exact fewestL_lt h.r8 _
def WC (r : Sum Int Nat) (w : World) (e : Ending) (w' : World) : Prop := match r with
  | .inl k => Pan k w e w'
  | .inr x => RetI (x : Int) w e w'
def seA (r : Sum Int Nat) : Nat := match r with
  | .inl _ => 0
  | .inr x => x
def clashR0 (p : Pr) : Sum Int Nat := bif p.n.agreeB then .inl 4 else .inr p.n.clashL
set_option maxRecDepth 100000 in
theorem fewestWrong_any (p : Pr) (w : World) (hp : p.In w) (hF : p.Fine) : Calls Try.prog 53 #[.agg #[.slice p.ba p.bs.length p.bc, .int .i64 p.zlo, .int .i64 p.zhi, .int .i64 p.rlo, .int .i64 p.rhi, .slice p.ra p.rs.length p.rc]] w (RetI (p.n.wrongL : Nat) w) := by
  have h8 := hF.r8
  refine calls_run (fn := f53) (c := (f53.body).getD .skip) [.agg #[.slice p.ba p.bs.length p.bc, .int .i64 p.zlo, .int .i64 p.zhi, .int .i64 p.rlo, .int .i64 p.rhi, .slice p.ra p.rs.length p.rc]] func53 (by kernel_rfl) (fun _ => False) [] (fun _ h => by cases h) (List.Pairwise.nil) 8 (by kernel_rfl) (by simp) ?_
  refine run_auto [] 2 [] [] [0] [] (st' := ⟨[(0, .agg #[.slice p.ba p.bs.length p.bc, .int .i64 p.zlo, .int .i64 p.zhi, .int .i64 p.rlo, .int .i64 p.rhi, .slice p.ra p.rs.length p.rc])], []⟩) (acc := []) (by kernel_rfl) (by kernel_rfl) trivial ?_
  refine run_new (.cells #[.slice p.ba p.bs.length p.bc, .int .i64 p.zlo, .int .i64 p.zhi, .int .i64 p.rlo, .int .i64 p.rhi, .slice p.ra p.rs.length p.rc] 30 (0, 0)) (fun b1 => .pointer (some ⟨b1, 0, none⟩)) (some 1) (fun _ => by kernel_rfl) (fun b1 hb1 => ?_)
  refine run_auto [] 8 [] [0] [2, 5, 6] [0] (st' := ⟨[(2, .int .i64 0), (5, .int .i64 (p.rs.length : Int)), (6, .func (.func 86) #[] #[.pointer (some ⟨b1, 0, none⟩)])], [(b1, .cells #[.slice p.ba p.bs.length p.bc, .int .i64 p.zlo, .int .i64 p.zhi, .int .i64 p.rlo, .int .i64 p.rhi, .slice p.ra p.rs.length p.rc] 30 (0, 0))]⟩) (acc := [(.pointer (some ⟨b1, 0, none⟩), .pointer (some ⟨b1, 0, none⟩))]) (by kernel_rfl) (by kernel_rfl) ⟨rfl, trivial⟩ ?_
  refine run_ret1 85 #[.int .i64 (p.rs.length : Int), .func (.func 86) #[] #[.pointer (some ⟨b1, 0, none⟩)]] (some 7) (.int .i64 ((p.n.wrongL : Nat) : Int)) (by kernel_rfl) (fun w1 k1 h1 => (by have h := fewest_wrong p b1 w1 (hp.keep (k1.keeps (fun _ h => h))) hF (h1 (b1, .cells #[.slice p.ba p.bs.length p.bc, .int .i64 p.zlo, .int .i64 p.zhi, .int .i64 p.rlo, .int .i64 p.rhi, .slice p.ra p.rs.length p.rc] 30 (0, 0)) (List.mem_of_getElem? (i := 0) (by kernel_rfl))); rw [wrongL_is] at h; exact h)) ?_
  refine run_auto [] 2 [] [] [2] [] (st' := ⟨[(2, .int .i64 ((p.n.wrongL : Nat) : Int))], []⟩) (acc := []) (by kernel_rfl) (by kernel_rfl) trivial ?_
  refine run_end (fn := f53) rfl (Nat.le_refl _) (by kernel_rfl) [] [.int .i64 ((p.n.wrongL : Nat) : Int)] (e := []) (by kernel_rfl) trivial (fun w1 k1 h1 => ?_)
  exact ⟨rfl, k1.keeps (fun _ h => h)⟩

set_option maxRecDepth 100000 in
theorem fewestClashing_any (p : Pr) (w : World) (hp : p.In w) (hF : p.Fine) : Calls Try.prog 56 #[.agg #[.slice p.ba p.bs.length p.bc, .int .i64 p.zlo, .int .i64 p.zhi, .int .i64 p.rlo, .int .i64 p.rhi, .slice p.ra p.rs.length p.rc]] w (WC (clashR0 p) w) := by
  have h8 := hF.r8
  refine calls_run (fn := f56) (c := (f56.body).getD .skip) [.agg #[.slice p.ba p.bs.length p.bc, .int .i64 p.zlo, .int .i64 p.zhi, .int .i64 p.rlo, .int .i64 p.rhi, .slice p.ra p.rs.length p.rc]] func56 (by kernel_rfl) (fun _ => False) [] (fun _ h => by cases h) (List.Pairwise.nil) 16 (by kernel_rfl) (by simp) ?_
  refine run_auto [] 2 [] [] [0] [] (st' := ⟨[(0, .agg #[.slice p.ba p.bs.length p.bc, .int .i64 p.zlo, .int .i64 p.zhi, .int .i64 p.rlo, .int .i64 p.rhi, .slice p.ra p.rs.length p.rc])], []⟩) (acc := []) (by kernel_rfl) (by kernel_rfl) trivial ?_
  refine run_new (.cells #[.slice p.ba p.bs.length p.bc, .int .i64 p.zlo, .int .i64 p.zhi, .int .i64 p.rlo, .int .i64 p.rhi, .slice p.ra p.rs.length p.rc] 30 (0, 0)) (fun b1 => .pointer (some ⟨b1, 0, none⟩)) (some 1) (fun _ => by kernel_rfl) (fun b1 hb1 => ?_)
  refine run_auto [] 6 [] [0] [1, 2, 4] [0] (st' := ⟨[(1, .pointer (some ⟨b1, 0, none⟩)), (2, .int .i64 0), (4, .agg #[.slice p.ba p.bs.length p.bc, .int .i64 p.zlo, .int .i64 p.zhi, .int .i64 p.rlo, .int .i64 p.rhi, .slice p.ra p.rs.length p.rc])], [(b1, .cells #[.slice p.ba p.bs.length p.bc, .int .i64 p.zlo, .int .i64 p.zhi, .int .i64 p.rlo, .int .i64 p.rhi, .slice p.ra p.rs.length p.rc] 30 (0, 0))]⟩) (acc := [(.pointer (some ⟨b1, 0, none⟩), .pointer (some ⟨b1, 0, none⟩))]) (by kernel_rfl) (by kernel_rfl) ⟨rfl, trivial⟩ ?_
  cases hd1 : p.n.agreeB with
  | false =>
    refine run_ret1 87 #[.agg #[.slice p.ba p.bs.length p.bc, .int .i64 p.zlo, .int .i64 p.zhi, .int .i64 p.rlo, .int .i64 p.rhi, .slice p.ra p.rs.length p.rc]] (some 5) (.bool false) (by kernel_rfl) (fun w1 k1 h1 => (by have h := agree_any p w1 (hp.keep (k1.keeps (fun _ h => h))) hF; rw [hd1] at h; exact h)) ?_
    refine run_auto [] 8 [false] [0] [1, 2, 9] [0] (st' := ⟨[(1, .pointer (some ⟨b1, 0, none⟩)), (2, .int .i64 0), (9, .int .i64 (p.rs.length : Int))], [(b1, .cells #[.slice p.ba p.bs.length p.bc, .int .i64 p.zlo, .int .i64 p.zhi, .int .i64 p.rlo, .int .i64 p.rhi, .slice p.ra p.rs.length p.rc] 30 (0, 0))]⟩) (acc := [(.pointer (some ⟨b1, 0, none⟩), .pointer (some ⟨b1, 0, none⟩)), (.bool false, .bool false)]) (by kernel_rfl) (by kernel_rfl) ⟨rfl, rfl, trivial⟩ ?_
    refine run_ret1 90 #[.int .i64 (p.rs.length : Int)] (some 10) (.int .i64 ((2 ^ p.rs.length - 1 : Nat) : Int)) (by kernel_rfl) (fun w1 k1 h1 => fullSet_any p.rs.length (by omega) w1) ?_
    refine run_new (.cells #[.int .i64 0] 98 (0, 0)) (fun b2 => .pointer (some ⟨b2, 0, none⟩)) (some 3) (fun _ => by kernel_rfl) (fun b2 hb2 => ?_)
    refine run_auto [] 8 [] [0, 1] [2, 13, 14] [0, 1] (st' := ⟨[(2, .int .i64 0), (13, .int .i64 (p.rs.length : Int)), (14, .func (.func 91) #[] #[.pointer (some ⟨b1, 0, none⟩), .pointer (some ⟨b2, 0, none⟩)])], [(b2, .cells #[.int .i64 ((2 ^ p.rs.length - 1 : Nat) : Int)] 98 (0, 0)), (b1, .cells #[.slice p.ba p.bs.length p.bc, .int .i64 p.zlo, .int .i64 p.zhi, .int .i64 p.rlo, .int .i64 p.rhi, .slice p.ra p.rs.length p.rc] 30 (0, 0))]⟩) (acc := [(.pointer (some ⟨b1, 0, none⟩), .pointer (some ⟨b1, 0, none⟩)), (.pointer (some ⟨b2, 0, none⟩), .pointer (some ⟨b2, 0, none⟩))]) (by kernel_rfl) (by kernel_rfl) ⟨rfl, rfl, trivial⟩ ?_
    refine run_ret1 85 #[.int .i64 (p.rs.length : Int), .func (.func 91) #[] #[.pointer (some ⟨b1, 0, none⟩), .pointer (some ⟨b2, 0, none⟩)]] (some 15) (.int .i64 ((p.n.clashL : Nat) : Int)) (by kernel_rfl) (fun w1 k1 h1 => (by have h := fewest_clash p b1 b2 w1 (hp.keep (k1.keeps (fun _ h => h))) hF (h1 (b1, .cells #[.slice p.ba p.bs.length p.bc, .int .i64 p.zlo, .int .i64 p.zhi, .int .i64 p.rlo, .int .i64 p.rhi, .slice p.ra p.rs.length p.rc] 30 (0, 0)) (List.mem_of_getElem? (i := 1) (by kernel_rfl))) (h1 (b2, .cells #[.int .i64 ((2 ^ p.rs.length - 1 : Nat) : Int)] 98 (0, 0)) (List.mem_of_getElem? (i := 0) (by kernel_rfl))); rw [clashL_is] at h; exact h)) ?_
    refine run_auto [] 2 [] [] [2] [] (st' := ⟨[(2, .int .i64 ((p.n.clashL : Nat) : Int))], []⟩) (acc := []) (by kernel_rfl) (by kernel_rfl) trivial ?_
    refine run_end (fn := f56) rfl (Nat.le_refl _) (by kernel_rfl) [] [.int .i64 ((p.n.clashL : Nat) : Int)] (e := []) (by kernel_rfl) trivial (fun w1 k1 h1 => ?_)
    unfold clashR0
    rw [hd1]
    exact ⟨rfl, k1.keeps (fun _ h => h)⟩
  | true =>
    refine run_ret1 87 #[.agg #[.slice p.ba p.bs.length p.bc, .int .i64 p.zlo, .int .i64 p.zhi, .int .i64 p.rlo, .int .i64 p.rhi, .slice p.ra p.rs.length p.rc]] (some 5) (.bool true) (by kernel_rfl) (fun w1 k1 h1 => (by have h := agree_any p w1 (hp.keep (k1.keeps (fun _ h => h))) hF; rw [hd1] at h; exact h)) ?_
    refine run_auto [] 4 [true] [] [1, 2, 6] [0] (st' := ⟨[(1, .pointer (some ⟨b1, 0, none⟩)), (2, .int .i64 0), (6, .iface 24 (.int .i64 4))], [(b1, .cells #[.slice p.ba p.bs.length p.bc, .int .i64 p.zlo, .int .i64 p.zhi, .int .i64 p.rlo, .int .i64 p.rhi, .slice p.ra p.rs.length p.rc] 30 (0, 0))]⟩) (acc := [(.bool true, .bool true)]) (by kernel_rfl) (by kernel_rfl) ⟨rfl, trivial⟩ ?_
    exact run_panic rfl (Nat.le_refl _) (Instr.panic (.iface 24 (.int .i64 4)) >>= fun v => pure (Next.value v)) none (.iface 24 (.int .i64 4)) (by kernel_rfl) (fun w => by kernel_rfl) (fun w1 k1 h1 => (by unfold clashR0; rw [hd1]; exact ⟨rfl, k1.keeps (fun _ h => h)⟩))


theorem answer_set (K : Nat) (caps : Array Value) (w : World) (r : Sum Int Nat) (hcf : ∀ w, (callFunc K caps).run Try.prog w = .ok (.enter K caps) w) (h : ∀ w1, Keeps w w1 → Calls Try.prog K caps w1 (WC r w1)) : Calls Try.prog 51 #[.func (.func K) #[] caps] w (Ret (.tuple #[.int .i64 (seA r : Int), .int .i64 (erA r)]) w) := by
  have h1 := h _ ((Keeps.refl w).alloc (.cells #[.int .i64 0] 24))
  cases r with
  | inl k => exact answer_pan_set K caps w k hcf h1
  | inr x =>
    refine (answer_ok_set K caps w (fun v _ => v = .int .i64 (x : Int)) hcf (fun _ _ _ h => h) (h1.mono fun e w' he => ⟨_, he.1, rfl, he.2⟩)).mono ?_
    rintro e w' ⟨v, rfl, rfl, hk⟩
    exact ⟨rfl, hk⟩
theorem answer_int (K : Nat) (caps : Array Value) (w : World) (r : Sum Int Nat) (hcf : ∀ w, (callFunc K caps).run Try.prog w = .ok (.enter K caps) w) (h : ∀ w1, Keeps w w1 → Calls Try.prog K caps w1 (WC r w1)) : Calls Try.prog 48 #[.func (.func K) #[] caps] w (Ret (.tuple #[.int .i64 (seA r : Int), .int .i64 (erA r)]) w) := by
  have h1 := h _ ((Keeps.refl w).alloc (.cells #[.int .i64 0] 24))
  cases r with
  | inl k => exact answer_pan_int K caps w k hcf h1
  | inr x =>
    refine (answer_ok_int K caps w (fun v _ => v = .int .i64 (x : Int)) hcf (fun _ _ _ h => h) (h1.mono fun e w' he => ⟨_, he.1, rfl, he.2⟩)).mono ?_
    rintro e w' ⟨v, rfl, rfl, hk⟩
    exact ⟨rfl, hk⟩
def wrongR (p : Pr) : Sum Int Nat := bif p.ok then .inr p.n.wrongL else .inl 1
def clashR (p : Pr) : Sum Int Nat := bif p.ok then bif p.n.agreeB then .inl 4 else .inr p.n.clashL else .inl 1
theorem wrongR_lt (p : Pr) : seA (wrongR p) < 256 := by
  unfold wrongR
  cases h : p.ok with
  | false => show 0 < 256; omega
  | true => exact wrongL_lt (Pr.fine h)
set_option maxRecDepth 100000 in
theorem wrongW_any (p : Pr) (bp : Nat) (w : World) (hp : p.In w) (hbp : w.heap[bp]? = some (.cells #[.slice p.ba p.bs.length p.bc, .int .i64 p.zlo, .int .i64 p.zhi, .int .i64 p.rlo, .int .i64 p.rhi, .slice p.ra p.rs.length p.rc] 30 (0, 0))) : Calls Try.prog 52 #[.pointer (some ⟨bp, 0, none⟩)] w (WC (wrongR p) w) := by
  refine calls_run (fn := f52) (c := (f52.body).getD .skip) [.pointer (some ⟨bp, 0, none⟩)] func52 (by kernel_rfl) (fun _ => False) [] (fun _ h => by cases h) (List.Pairwise.nil) 6 (by kernel_rfl) (by simp) ?_
  refine run_auto [] 6 [] [] [0, 1] [] (st' := ⟨[(0, .pointer (some ⟨bp, 0, none⟩)), (1, .int .i64 0)], []⟩) (acc := []) (by kernel_rfl) (by kernel_rfl) trivial ?_
  refine run_v (Instr.loadAt 30 (.pointer (some ⟨bp, 0, none⟩)) >>= fun v => pure (Next.value v)) (some 2) (.agg #[.slice p.ba p.bs.length p.bc, .int .i64 p.zlo, .int .i64 p.zhi, .int .i64 p.rlo, .int .i64 p.rhi, .slice p.ra p.rs.length p.rc]) (by kernel_rfl) (fun w1 k1 h1 => load_in (base := 0) (off := 0) k1 (fun h => h) [.slice p.ba p.bs.length p.bc, .int .i64 p.zlo, .int .i64 p.zhi, .int .i64 p.rlo, .int .i64 p.rhi, .slice p.ra p.rs.length p.rc] (fun i u hi => by rw [Nat.zero_add]; exact cells_of_heap hbp i u hi) (by kernel_rfl)) ?_
  cases hd1 : p.ok with
  | false =>
    exact run_panics rfl (Nat.le_refl _) 36 #[.agg #[.slice p.ba p.bs.length p.bc, .int .i64 p.zlo, .int .i64 p.zhi, .int .i64 p.rlo, .int .i64 p.rhi, .slice p.ra p.rs.length p.rc]] (some 3) (pe 1) (by kernel_rfl) (fun w1 k1 h1 => (by have h := needPair_any p w1 (hp.keep (k1.keeps (fun _ h => h))); rw [hd1] at h; exact h)) (fun w1 k1 h1 => (by unfold wrongR; rw [hd1]; exact ⟨rfl, k1.keeps (fun _ h => h)⟩))
  | true =>
    have hF := Pr.fine hd1
    refine run_ret1 36 #[.agg #[.slice p.ba p.bs.length p.bc, .int .i64 p.zlo, .int .i64 p.zhi, .int .i64 p.rlo, .int .i64 p.rhi, .slice p.ra p.rs.length p.rc]] (some 3) (.tuple #[]) (by kernel_rfl) (fun w1 k1 h1 => (by have h := needPair_any p w1 (hp.keep (k1.keeps (fun _ h => h))); rw [hd1] at h; exact h)) ?_
    refine run_auto [] 3 [] [] [0, 1] [] (st' := ⟨[(0, .pointer (some ⟨bp, 0, none⟩)), (1, .int .i64 0)], []⟩) (acc := []) (by kernel_rfl) (by kernel_rfl) trivial ?_
    refine run_v (Instr.loadAt 30 (.pointer (some ⟨bp, 0, none⟩)) >>= fun v => pure (Next.value v)) (some 4) (.agg #[.slice p.ba p.bs.length p.bc, .int .i64 p.zlo, .int .i64 p.zhi, .int .i64 p.rlo, .int .i64 p.rhi, .slice p.ra p.rs.length p.rc]) (by kernel_rfl) (fun w1 k1 h1 => load_in (base := 0) (off := 0) k1 (fun h => h) [.slice p.ba p.bs.length p.bc, .int .i64 p.zlo, .int .i64 p.zhi, .int .i64 p.rlo, .int .i64 p.rhi, .slice p.ra p.rs.length p.rc] (fun i u hi => by rw [Nat.zero_add]; exact cells_of_heap hbp i u hi) (by kernel_rfl)) ?_
    refine run_ret1 53 #[.agg #[.slice p.ba p.bs.length p.bc, .int .i64 p.zlo, .int .i64 p.zhi, .int .i64 p.rlo, .int .i64 p.rhi, .slice p.ra p.rs.length p.rc]] (some 5) (.int .i64 ((p.n.wrongL : Nat) : Int)) (by kernel_rfl) (fun w1 k1 h1 => fewestWrong_any p w1 (hp.keep (k1.keeps (fun _ h => h))) hF) ?_
    refine run_auto [] 2 [] [] [1] [] (st' := ⟨[(1, .int .i64 ((p.n.wrongL : Nat) : Int))], []⟩) (acc := []) (by kernel_rfl) (by kernel_rfl) trivial ?_
    refine run_end (fn := f52) rfl (Nat.le_refl _) (by kernel_rfl) [] [.int .i64 ((p.n.wrongL : Nat) : Int)] (e := []) (by kernel_rfl) trivial (fun w1 k1 h1 => ?_)
    unfold wrongR
    rw [hd1]
    exact ⟨rfl, k1.keeps (fun _ h => h)⟩

set_option maxRecDepth 100000 in
theorem clashW_any (p : Pr) (bp : Nat) (w : World) (hp : p.In w) (hbp : w.heap[bp]? = some (.cells #[.slice p.ba p.bs.length p.bc, .int .i64 p.zlo, .int .i64 p.zhi, .int .i64 p.rlo, .int .i64 p.rhi, .slice p.ra p.rs.length p.rc] 30 (0, 0))) : Calls Try.prog 55 #[.pointer (some ⟨bp, 0, none⟩)] w (WC (clashR p) w) := by
  refine calls_run (fn := f55) (c := (f55.body).getD .skip) [.pointer (some ⟨bp, 0, none⟩)] func55 (by kernel_rfl) (fun _ => False) [] (fun _ h => by cases h) (List.Pairwise.nil) 6 (by kernel_rfl) (by simp) ?_
  refine run_auto [] 6 [] [] [0, 1] [] (st' := ⟨[(0, .pointer (some ⟨bp, 0, none⟩)), (1, .int .i64 0)], []⟩) (acc := []) (by kernel_rfl) (by kernel_rfl) trivial ?_
  refine run_v (Instr.loadAt 30 (.pointer (some ⟨bp, 0, none⟩)) >>= fun v => pure (Next.value v)) (some 2) (.agg #[.slice p.ba p.bs.length p.bc, .int .i64 p.zlo, .int .i64 p.zhi, .int .i64 p.rlo, .int .i64 p.rhi, .slice p.ra p.rs.length p.rc]) (by kernel_rfl) (fun w1 k1 h1 => load_in (base := 0) (off := 0) k1 (fun h => h) [.slice p.ba p.bs.length p.bc, .int .i64 p.zlo, .int .i64 p.zhi, .int .i64 p.rlo, .int .i64 p.rhi, .slice p.ra p.rs.length p.rc] (fun i u hi => by rw [Nat.zero_add]; exact cells_of_heap hbp i u hi) (by kernel_rfl)) ?_
  cases hd1 : p.ok with
  | false =>
    exact run_panics rfl (Nat.le_refl _) 36 #[.agg #[.slice p.ba p.bs.length p.bc, .int .i64 p.zlo, .int .i64 p.zhi, .int .i64 p.rlo, .int .i64 p.rhi, .slice p.ra p.rs.length p.rc]] (some 3) (pe 1) (by kernel_rfl) (fun w1 k1 h1 => (by have h := needPair_any p w1 (hp.keep (k1.keeps (fun _ h => h))); rw [hd1] at h; exact h)) (fun w1 k1 h1 => (by unfold clashR; rw [hd1]; exact ⟨rfl, k1.keeps (fun _ h => h)⟩))
  | true =>
    have hF := Pr.fine hd1
    refine run_ret1 36 #[.agg #[.slice p.ba p.bs.length p.bc, .int .i64 p.zlo, .int .i64 p.zhi, .int .i64 p.rlo, .int .i64 p.rhi, .slice p.ra p.rs.length p.rc]] (some 3) (.tuple #[]) (by kernel_rfl) (fun w1 k1 h1 => (by have h := needPair_any p w1 (hp.keep (k1.keeps (fun _ h => h))); rw [hd1] at h; exact h)) ?_
    refine run_auto [] 3 [] [] [0, 1] [] (st' := ⟨[(0, .pointer (some ⟨bp, 0, none⟩)), (1, .int .i64 0)], []⟩) (acc := []) (by kernel_rfl) (by kernel_rfl) trivial ?_
    refine run_v (Instr.loadAt 30 (.pointer (some ⟨bp, 0, none⟩)) >>= fun v => pure (Next.value v)) (some 4) (.agg #[.slice p.ba p.bs.length p.bc, .int .i64 p.zlo, .int .i64 p.zhi, .int .i64 p.rlo, .int .i64 p.rhi, .slice p.ra p.rs.length p.rc]) (by kernel_rfl) (fun w1 k1 h1 => load_in (base := 0) (off := 0) k1 (fun h => h) [.slice p.ba p.bs.length p.bc, .int .i64 p.zlo, .int .i64 p.zhi, .int .i64 p.rlo, .int .i64 p.rhi, .slice p.ra p.rs.length p.rc] (fun i u hi => by rw [Nat.zero_add]; exact cells_of_heap hbp i u hi) (by kernel_rfl)) ?_
    cases hd2 : p.n.agreeB with
    | false =>
      refine run_ret1 56 #[.agg #[.slice p.ba p.bs.length p.bc, .int .i64 p.zlo, .int .i64 p.zhi, .int .i64 p.rlo, .int .i64 p.rhi, .slice p.ra p.rs.length p.rc]] (some 5) (.int .i64 ((p.n.clashL : Nat) : Int)) (by kernel_rfl) (fun w1 k1 h1 => (by have h := fewestClashing_any p w1 (hp.keep (k1.keeps (fun _ h => h))) hF; unfold clashR0 at h; rw [hd2] at h; exact h)) ?_
      refine run_auto [] 2 [] [] [1] [] (st' := ⟨[(1, .int .i64 ((p.n.clashL : Nat) : Int))], []⟩) (acc := []) (by kernel_rfl) (by kernel_rfl) trivial ?_
      refine run_end (fn := f55) rfl (Nat.le_refl _) (by kernel_rfl) [] [.int .i64 ((p.n.clashL : Nat) : Int)] (e := []) (by kernel_rfl) trivial (fun w1 k1 h1 => ?_)
      unfold clashR
      rw [hd1, hd2]
      exact ⟨rfl, k1.keeps (fun _ h => h)⟩
    | true =>
      exact run_panics rfl (Nat.le_refl _) 56 #[.agg #[.slice p.ba p.bs.length p.bc, .int .i64 p.zlo, .int .i64 p.zhi, .int .i64 p.rlo, .int .i64 p.rhi, .slice p.ra p.rs.length p.rc]] (some 5) (pe 4) (by kernel_rfl) (fun w1 k1 h1 => (by have h := fewestClashing_any p w1 (hp.keep (k1.keeps (fun _ h => h))) hF; unfold clashR0 at h; rw [hd2] at h; exact h)) (fun w1 k1 h1 => (by unfold clashR; rw [hd1, hd2]; exact ⟨rfl, k1.keeps (fun _ h => h)⟩))

set_option maxRecDepth 100000 in
theorem Wrong_any (p : Pr) (w : World) (hp : p.In w) : Calls Try.prog 16 #[.agg #[.slice p.ba p.bs.length p.bc, .int .i64 p.zlo, .int .i64 p.zhi, .int .i64 p.rlo, .int .i64 p.rhi, .slice p.ra p.rs.length p.rc]] w (Ret (.tuple #[.int .i64 ((bitsN (seA (wrongR p)) : Nat) : Int), .int .i64 ((seA (wrongR p) : Nat) : Int), .int .i64 (erA (wrongR p))]) w) := by
  have hlt := wrongR_lt p
  refine calls_run (fn := f16) (c := (f16.body).getD .skip) [.agg #[.slice p.ba p.bs.length p.bc, .int .i64 p.zlo, .int .i64 p.zhi, .int .i64 p.rlo, .int .i64 p.rhi, .slice p.ra p.rs.length p.rc]] func16 (by kernel_rfl) (fun _ => False) [] (fun _ h => by cases h) (List.Pairwise.nil) 15 (by kernel_rfl) (by simp) ?_
  refine run_auto [] 2 [] [] [0] [] (st' := ⟨[(0, .agg #[.slice p.ba p.bs.length p.bc, .int .i64 p.zlo, .int .i64 p.zhi, .int .i64 p.rlo, .int .i64 p.rhi, .slice p.ra p.rs.length p.rc])], []⟩) (acc := []) (by kernel_rfl) (by kernel_rfl) trivial ?_
  refine run_new (.cells #[.slice p.ba p.bs.length p.bc, .int .i64 p.zlo, .int .i64 p.zhi, .int .i64 p.rlo, .int .i64 p.rhi, .slice p.ra p.rs.length p.rc] 30 (0, 0)) (fun b1 => .pointer (some ⟨b1, 0, none⟩)) (some 1) (fun _ => by kernel_rfl) (fun b1 hb1 => ?_)
  refine run_auto [] 7 [] [] [2, 3, 4, 7] [0] (st' := ⟨[(2, .int .i64 0), (3, .int .i64 0), (4, .int .i64 0), (7, .func (.func 52) #[] #[.pointer (some ⟨b1, 0, none⟩)])], [(b1, .cells #[.slice p.ba p.bs.length p.bc, .int .i64 p.zlo, .int .i64 p.zhi, .int .i64 p.rlo, .int .i64 p.rhi, .slice p.ra p.rs.length p.rc] 30 (0, 0))]⟩) (acc := []) (by kernel_rfl) (by kernel_rfl) trivial ?_
  refine run_ret1 51 #[.func (.func 52) #[] #[.pointer (some ⟨b1, 0, none⟩)]] (some 8) (.tuple #[.int .i64 ((seA (wrongR p) : Nat) : Int), .int .i64 (erA (wrongR p))]) (by kernel_rfl) (fun w1 k1 h1 => answer_set 52 #[.pointer (some ⟨b1, 0, none⟩)] w1 (wrongR p) (fun _ => by kernel_rfl) (fun w2 kk => wrongW_any p b1 w2 ((hp.keep (k1.keeps (fun _ h => h))).keep kk) ((kk.heap (Array.getElem?_eq_some_iff.1 (h1 (b1, .cells #[.slice p.ba p.bs.length p.bc, .int .i64 p.zlo, .int .i64 p.zhi, .int .i64 p.rlo, .int .i64 p.rhi, .slice p.ra p.rs.length p.rc] 30 (0, 0)) (List.mem_of_getElem? (i := 0) (by kernel_rfl)))).1).trans (h1 (b1, .cells #[.slice p.ba p.bs.length p.bc, .int .i64 p.zlo, .int .i64 p.zhi, .int .i64 p.rlo, .int .i64 p.rhi, .slice p.ra p.rs.length p.rc] 30 (0, 0)) (List.mem_of_getElem? (i := 0) (by kernel_rfl)))))) ?_
  refine run_auto [] 9 [] [] [2, 3, 4, 5, 11] [] (st' := ⟨[(2, .int .i64 0), (3, .int .i64 0), (4, .int .i64 (erA (wrongR p))), (5, .int .i64 ((seA (wrongR p) : Nat) : Int)), (11, .int .i64 ((seA (wrongR p) : Nat) : Int))], []⟩) (acc := []) (by kernel_rfl) (by kernel_rfl) trivial ?_
  refine run_ret1 54 #[.int .i64 ((seA (wrongR p) : Nat) : Int)] (some 12) (.int .i64 ((bitsN (seA (wrongR p) : Nat) : Nat) : Int)) (by kernel_rfl) (fun w1 k1 h1 => size_any (seA (wrongR p) : Nat) (by omega) w1) ?_
  refine run_auto [] 6 [] [] [2, 3, 4] [] (st' := ⟨[(2, .int .i64 ((bitsN (seA (wrongR p) : Nat) : Nat) : Int)), (3, .int .i64 ((seA (wrongR p) : Nat) : Int)), (4, .int .i64 (erA (wrongR p)))], []⟩) (acc := []) (by kernel_rfl) (by kernel_rfl) trivial ?_
  refine run_end (fn := f16) rfl (Nat.le_refl _) (by kernel_rfl) [] [.int .i64 ((bitsN (seA (wrongR p) : Nat) : Nat) : Int), .int .i64 ((seA (wrongR p) : Nat) : Int), .int .i64 (erA (wrongR p))] (e := []) (by kernel_rfl) trivial (fun w1 k1 h1 => ?_)
  exact ⟨rfl, k1.keeps (fun _ h => h)⟩

set_option maxRecDepth 100000 in
theorem Clash_any (p : Pr) (w : World) (hp : p.In w) : Calls Try.prog 17 #[.agg #[.slice p.ba p.bs.length p.bc, .int .i64 p.zlo, .int .i64 p.zhi, .int .i64 p.rlo, .int .i64 p.rhi, .slice p.ra p.rs.length p.rc]] w (Ret (.tuple #[.int .i64 ((seA (clashR p) : Nat) : Int), .int .i64 (erA (clashR p))]) w) := by
  refine calls_run (fn := f17) (c := (f17.body).getD .skip) [.agg #[.slice p.ba p.bs.length p.bc, .int .i64 p.zlo, .int .i64 p.zhi, .int .i64 p.rlo, .int .i64 p.rhi, .slice p.ra p.rs.length p.rc]] func17 (by kernel_rfl) (fun _ => False) [] (fun _ h => by cases h) (List.Pairwise.nil) 8 (by kernel_rfl) (by simp) ?_
  refine run_auto [] 2 [] [] [0] [] (st' := ⟨[(0, .agg #[.slice p.ba p.bs.length p.bc, .int .i64 p.zlo, .int .i64 p.zhi, .int .i64 p.rlo, .int .i64 p.rhi, .slice p.ra p.rs.length p.rc])], []⟩) (acc := []) (by kernel_rfl) (by kernel_rfl) trivial ?_
  refine run_new (.cells #[.slice p.ba p.bs.length p.bc, .int .i64 p.zlo, .int .i64 p.zhi, .int .i64 p.rlo, .int .i64 p.rhi, .slice p.ra p.rs.length p.rc] 30 (0, 0)) (fun b1 => .pointer (some ⟨b1, 0, none⟩)) (some 1) (fun _ => by kernel_rfl) (fun b1 hb1 => ?_)
  refine run_auto [] 6 [] [] [2, 3, 4] [0] (st' := ⟨[(2, .int .i64 0), (3, .int .i64 0), (4, .func (.func 55) #[] #[.pointer (some ⟨b1, 0, none⟩)])], [(b1, .cells #[.slice p.ba p.bs.length p.bc, .int .i64 p.zlo, .int .i64 p.zhi, .int .i64 p.rlo, .int .i64 p.rhi, .slice p.ra p.rs.length p.rc] 30 (0, 0))]⟩) (acc := []) (by kernel_rfl) (by kernel_rfl) trivial ?_
  refine run_ret1 48 #[.func (.func 55) #[] #[.pointer (some ⟨b1, 0, none⟩)]] (some 5) (.tuple #[.int .i64 ((seA (clashR p) : Nat) : Int), .int .i64 (erA (clashR p))]) (by kernel_rfl) (fun w1 k1 h1 => answer_int 55 #[.pointer (some ⟨b1, 0, none⟩)] w1 (clashR p) (fun _ => by kernel_rfl) (fun w2 kk => clashW_any p b1 w2 ((hp.keep (k1.keeps (fun _ h => h))).keep kk) ((kk.heap (Array.getElem?_eq_some_iff.1 (h1 (b1, .cells #[.slice p.ba p.bs.length p.bc, .int .i64 p.zlo, .int .i64 p.zhi, .int .i64 p.rlo, .int .i64 p.rhi, .slice p.ra p.rs.length p.rc] 30 (0, 0)) (List.mem_of_getElem? (i := 0) (by kernel_rfl)))).1).trans (h1 (b1, .cells #[.slice p.ba p.bs.length p.bc, .int .i64 p.zlo, .int .i64 p.zhi, .int .i64 p.rlo, .int .i64 p.rhi, .slice p.ra p.rs.length p.rc] 30 (0, 0)) (List.mem_of_getElem? (i := 0) (by kernel_rfl)))))) ?_
  refine run_auto [] 5 [] [] [2, 3] [] (st' := ⟨[(2, .int .i64 ((seA (clashR p) : Nat) : Int)), (3, .int .i64 (erA (clashR p)))], []⟩) (acc := []) (by kernel_rfl) (by kernel_rfl) trivial ?_
  refine run_end (fn := f17) rfl (Nat.le_refl _) (by kernel_rfl) [] [.int .i64 ((seA (clashR p) : Nat) : Int), .int .i64 (erA (clashR p))] (e := []) (by kernel_rfl) trivial (fun w1 k1 h1 => ?_)
  exact ⟨rfl, k1.keeps (fun _ h => h)⟩

end Go.Proofs.Ytmiobcnccbfknaa
