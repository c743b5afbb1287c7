/-
  LAW: WearClash: do the readings of a set clash.
-/
import Derived.Test.YtdjnkdelmmpleaaGreatGm
import Derived.Test.YtdjnkdelmmpleaaGreatGi
namespace Go.Proofs.YtdjnkdelmmpleaaGreat
open Go.RowKit Go.Proofs.Tryz


/-- Is an event kept, by a set of readings? -/
def kpB (es : List Ev) (s k : Nat) : Bool := !((elE es k).1 == 1) || s.testBit k
def kpL (es : List Ev) (s : Nat) : Nat → List Ev
  | 0 => []
  | i + 1 => bif kpB es s i then kpL es s i ++ [elE es i] else kpL es s i
theorem kpL_yes {es : List Ev} {s i : Nat} (h : kpB es s i = true) : kpL es s (i + 1) = kpL es s i ++ [elE es i] := by show (bif kpB es s i then _ else _) = _; rw [h]; rfl
theorem kpL_no {es : List Ev} {s i : Nat} (h : kpB es s i = false) : kpL es s (i + 1) = kpL es s i := by show (bif kpB es s i then _ else _) = _; rw [h]; rfl
theorem kpL_len (es : List Ev) (s : Nat) : ∀ i, (kpL es s i).length ≤ i
  | 0 => Nat.le_refl _
  | i + 1 => by
    have h := kpL_len es s i
    cases hk : kpB es s i with
    | true => rw [kpL_yes hk, List.length_append]; show _ + 1 ≤ _; omega
    | false => rw [kpL_no hk]; omega
theorem kpL_mem {es : List Ev} {s : Nat} {e : Ev} : ∀ {i}, i ≤ es.length → e ∈ kpL es s i → e ∈ es
  | 0, _, h => by cases h
  | i + 1, hi, h => by
    cases hk : kpB es s i with
    | true =>
      rw [kpL_yes hk] at h
      rcases List.mem_append.1 h with h | h
      · exact kpL_mem (by omega) h
      · rw [List.mem_singleton.1 h]; exact elE_mem (by omega)
    | false => rw [kpL_no hk] at h; exact kpL_mem (by omega) h
theorem rch_none {u : Sp} {x y : Int} : Rch u [(0, 0, 0, 0)] x y ↔ x = y := by
  have h : ∀ z, Rst u (0, 0, 0, 0) x z ↔ x = z := fun z => by
    unfold Rst inP manS
    rw [if_pos rfl]
    dsimp only
    rw [Int.zero_mul, Int.zero_mul]
    omega
  constructor
  · rintro ⟨z, h1, h2⟩
    have h2 : z = y := h2
    rw [← h2]
    exact (h z).1 h1
  · exact fun e => ⟨y, (h y).2 e, rfl⟩
theorem kp_rch {u : Sp} {es : List Ev} {s : Nat} {x : Int} : ∀ (i : Nat) (y : Int), i ≤ es.length → (Rch u (kpL es s i) x y ↔ Rch u ((lkL s es).take i) x y)
  | 0, _, _ => Iff.rfl
  | i + 1, y, hi => by
    have hl : i < (lkL s es).length := by rw [lkL_len]; omega
    rw [List.take_succ_eq_append_getElem hl, ← elE_at hl, lkL_at s (by omega), Rch_append]
    have ih := fun z => kp_rch (u := u) (es := es) (s := s) (x := x) i z (by omega)
    cases hk : kpB es s i with
    | true =>
      have he : lkE s i (elE es i) = elE es i := by
        unfold lkE kpB at *
        rw [show ((elE es i).1 == 1 && !s.testBit i) = false from by revert hk; cases ((elE es i).1 == 1) <;> cases s.testBit i <;> simp]
        rfl
      rw [kpL_yes hk, Rch_append, he]
      exact exists_congr fun z => and_congr (ih z) Iff.rfl
    | false =>
      have he : lkE s i (elE es i) = (0, 0, 0, 0) := by
        unfold lkE kpB at *
        rw [show ((elE es i).1 == 1 && !s.testBit i) = true from by revert hk; cases ((elE es i).1 == 1) <;> cases s.testBit i <;> simp]
        rfl
      rw [kpL_no hk, he, ih y]
      constructor
      · exact fun h => ⟨y, h, rch_none.2 rfl⟩
      · rintro ⟨z, h1, h2⟩
        rw [← rch_none.1 h2]
        exact h1
/-- A block with these events. -/
def Wb.kp (p : Wb) (a : Option Addr) (c : Nat) (L : List Ev) : Wb := { p with ea := a, ec := c, es := L }
theorem kp_fine {p : Wb} (hF : p.n.Fine) (s : Nat) (a : Option Addr) (c : Nat) : (p.kp a c (kpL p.es s p.es.length)).n.Fine := by
  refine ⟨hF.l, hF.lw, hF.u, ?_, fun e he => hF.ev e (kpL_mem (Nat.le_refl _) he)⟩
  have h1 := kpL_len p.es s p.es.length
  have h2 : p.es.length ≤ 8 := hF.n8
  show (kpL p.es s p.es.length).length ≤ 8
  omega
theorem kp_can {p : Wb} (hF : p.n.Fine) (s : Nat) (a : Option Addr) (c : Nat) : (p.kp a c (kpL p.es s p.es.length)).n.can = (p.n.look s).can := by
  rw [Bool.eq_iff_iff, (kp_fine hF s a c).ok_.can_iff, (hF.look s).ok_.can_iff]
  refine exists_congr fun x => exists_congr fun y => and_congr Iff.rfl ?_
  have h := kp_rch (u := (p.ul, p.uh)) (es := p.es) (s := s) (x := x) p.es.length y (Nat.le_refl _)
  rw [List.take_of_length_le (by rw [lkL_len]; exact Nat.le_refl _)] at h
  exact h
theorem kp_lost {p : Wb} (hF : p.n.Fine) (s : Nat) (a : Option Addr) (c : Nat) : erA (lostR (p.kp a c (kpL p.es s p.es.length))) = bif p.n.clB s then 10 else 0 := by
  unfold lostR Wn.clB
  rw [(kp_fine hF s a c).okB, kp_can hF]
  cases (p.n.look s).can <;> rfl
/-- Uses and laps alone leave a truth. -/
theorem rch_some {u : Sp} (hu : u.1 ≤ u.2) : ∀ (es : List Ev), (∀ e ∈ es, vEv e = true ∧ e.1 ≠ 1) → ∀ x, ∃ z, Rch u es x z
  | [], _, x => ⟨x, rfl⟩
  | e :: es, h, x => by
    have he := h e List.mem_cons_self
    have hst : ∃ z, Rst u e x z := by
      rcases kind_of he.1 with h0 | h0 | h0
      · refine ⟨x - (manS e.2.1 u).1, ?_⟩
        have hn : 0 ≤ e.2.1 := by have := he.1; unfold vEv at this; rw [h0] at this; exact (of_decide_eq_true this).1
        have hm := man_le hu hn
        unfold Rst inP
        rw [if_pos h0]
        omega
      · exact absurd h0 he.2
      · refine ⟨x - e.2.2.1, ?_⟩
        have hl := lap_bd he.1 h0
        unfold Rst inP
        rw [if_neg (by omega), if_pos h0]
        omega
    obtain ⟨z, hz⟩ := hst
    obtain ⟨y, hy⟩ := rch_some hu es (fun q hq => h q (List.mem_cons_of_mem _ hq)) z
    exact ⟨y, z, hz, hy⟩
theorem clB_zero {p : Wb} (hF : p.n.Fine) : p.n.clB 0 = false := by
  have h : (p.n.look 0).can = true := by
    rw [(hF.look 0).ok_.can_iff]
    have hn : ∀ e ∈ (p.n.look 0).es, vEv e = true ∧ e.1 ≠ 1 := fun e he => by
      refine ⟨(hF.look 0).ev e he, ?_⟩
      obtain ⟨k, hk, rfl⟩ := List.mem_map.1 (show e ∈ (List.range p.es.length).map _ from he)
      unfold lkE
      rw [Nat.zero_testBit]
      by_cases h1 : (elE p.n.es k).1 = 1
      · rw [show ((elE p.n.es k).1 == 1 && !false) = true by simp [h1]]; exact (by decide : (0 : Int) ≠ 1)
      · rw [show ((elE p.n.es k).1 == 1 && !false) = false by simp [h1]]; exact h1
    obtain ⟨z, hz⟩ := rch_some hF.u.2.1 _ hn p.ll
    exact ⟨p.ll, z, ⟨Int.le_refl _, hF.l.2.1⟩, hz⟩
  unfold Wn.clB
  rw [h]
  rfl
/-- What is told of readings that clash. -/
theorem cl_is {p : Wb} (hF : p.n.Fine) (hc : p.n.can = false) : ∃ y, p.n.cl = some y ∧ p.n.clB y = true ∧ subB y p.n.reads = true ∧ (1 ≤ y ∧ y ≤ p.n.reads) ∧ ∀ s, subB s p.n.reads = true → p.n.clB s = true → s = y ∨ Before y s := by
  obtain ⟨y, hy⟩ := Option.isSome_iff_exists.1 (cl_some hc)
  obtain ⟨a, b, hl, hp, ha⟩ := firstL_some (show firstL p.n.clB (ffL p.n.reads) = some y from hy)
  have hm : y ∈ ffL p.n.reads := by rw [hl]; simp
  have hym := ff_mem.1 hm
  have hs := ff_sorted p.n.reads
  rw [hl] at hs
  have h0 : y ≠ 0 := fun e => by rw [e, clB_zero hF] at hp; cases hp
  refine ⟨y, hy, hp, hym.2.1, ⟨by omega, hym.1⟩, fun s h1 h2 => ?_⟩
  have hle := sub_le h1
  have hsm : s ∈ ffL p.n.reads := ff_mem.2 ⟨hle.1, h1, hle.2⟩
  rw [hl] at hsm
  rcases List.mem_append.1 hsm with h3 | h3
  · rw [ha s h3] at h2; cases h2
  · rcases List.mem_cons.1 h3 with h3 | h3
    · exact .inl h3
    · exact .inr ((List.pairwise_cons.1 (List.pairwise_append.1 hs).2.1).1 s h3)
set_option maxRecDepth 100000 in
set_option maxHeartbeats 4000000 in
theorem clash_law (p : Wb) (bp s : Nat) (hs : s < 256) (w : World) (hp : p.In w) (hF : p.n.Fine) (hbp : w.heap[bp]? = some (.cells #[.int .i64 p.ll, .int .i64 p.lh, .int .i64 p.ul, .int .i64 p.uh, .slice p.ea p.es.length p.ec] 26 (0, 0))) : Calls Tryz.prog 36 #[.int .i64 (s : Int), .pointer (some ⟨bp, 0, none⟩)] w (RetB (p.n.clB s) w) := by
  have hn8 : p.es.length ≤ 8 := hF.n8
  refine calls_run (fn := f36) (c := (f36.body).getD .skip) [.int .i64 (s : Int), .pointer (some ⟨bp, 0, none⟩)] func36 (by kernel_rfl) (fun _ => False) [] (fun _ h => by cases h) (List.Pairwise.nil) 43 (by kernel_rfl) (by simp) ?_
  refine run_auto [] 6 [] [] [0, 1, 3] [] (st' := ⟨[(0, iV (s : Int)), (1, pA bp), (3, .bool false)], []⟩) (acc := []) (by kernel_rfl) (by kernel_rfl) trivial ?_
  refine run_v (Instr.loadAt 26 (pA bp) >>= fun v => pure (Next.value v)) (some 9) (.agg #[iV p.ll, iV p.lh, iV p.ul, iV p.uh, .slice p.ea p.es.length p.ec]) (by kernel_rfl) (fun w1 k1 h1 => load_in (base := 0) (off := 0) k1 (fun h => h) [iV p.ll, iV p.lh, iV p.ul, iV p.uh, .slice p.ea p.es.length p.ec] (fun i u hi => by rw [Nat.zero_add]; exact cells_of_heap hbp i u hi) (by kernel_rfl)) ?_
  refine run_new (aO #[iV 0, iV 0, iV 0, iV 0, .slice none 0 0] 26) (fun b1 => pA b1) (some 4) (fun _ => by kernel_rfl) (fun b1 hb1 => ?_)
  refine run_auto [] 11 [] [0, 0] [0, 3, 4, 11] [0] (st' := ⟨[(0, iV (s : Int)), (3, .bool false), (4, pA b1), (11, .pointer (some ⟨bp, 4, none⟩))], [(b1, aO #[iV p.ll, iV p.lh, iV p.ul, iV p.uh, .slice none 0 0] 26)]⟩) (acc := [(pA b1, pA b1), (pA b1, pA b1)]) (by kernel_rfl) (by kernel_rfl) ⟨rfl, rfl, trivial⟩ ?_
  refine run_v (Instr.loadAt 24 (.pointer (some ⟨bp, 4, none⟩)) >>= fun v => pure (Next.value v)) (some 12) (.slice p.ea p.es.length p.ec) (by kernel_rfl) (fun w1 k1 h1 => load_in (base := 0) (off := 4) k1 (fun h => h) [iV p.ll, iV p.lh, iV p.ul, iV p.uh, .slice p.ea p.es.length p.ec] (fun i u hi => by rw [Nat.zero_add]; exact cells_of_heap hbp i u hi) (by kernel_rfl)) ?_
  refine run_auto [] 4 [] [] [0, 3, 4, 12, 13, 14] [0] (st' := ⟨[(0, iV (s : Int)), (3, .bool false), (4, pA b1), (12, .slice p.ea p.es.length p.ec), (13, iV (p.es.length : Int)), (14, iV 0)], [(b1, aO #[iV p.ll, iV p.lh, iV p.ul, iV p.uh, .slice none 0 0] 26)]⟩) (acc := []) (by kernel_rfl) (by kernel_rfl) trivial ?_
  refine run_auto [] 0 [] [] [0, 3, 4, 12, 13, 14] [0] (st' := ⟨[(0, iV (s : Int)), (3, .bool false), (4, pA b1), (12, .slice p.ea p.es.length p.ec), (13, iV (p.es.length : Int)), (14, iV 0)], [(b1, aO #[iV p.ll, iV p.lh, iV p.ul, iV p.uh, .slice none 0 0] 26)]⟩) (acc := []) (by kernel_rfl) (by kernel_rfl) trivial ?_
  refine run_loop (S := fun (v : Nat × Nat × Option (Nat × Nat × List Value)) => match v with | (j, _, none) => ⟨[(0, iV (s : Int)), (3, .bool false), (4, pA b1), (12, .slice p.ea p.es.length p.ec), (13, iV (p.es.length : Int)), (14, iV (j : Int))], [(b1, aO #[iV p.ll, iV p.lh, iV p.ul, iV p.uh, .slice none 0 0] 26)]⟩ | (j, k, some (g, cap, sp)) => ⟨[(0, iV (s : Int)), (3, .bool false), (4, pA b1), (12, .slice p.ea p.es.length p.ec), (13, iV (p.es.length : Int)), (14, iV (j : Int))], [(g, cO ((kpL p.es s j).flatMap evR ++ sp) 55), (b1, aO #[iV p.ll, iV p.lh, iV p.ul, iV p.uh, sV g k cap] 26)]⟩) (fun v => v.1 ≤ p.es.length ∧ (kpL p.es s v.1).length = v.2.1 ∧ match v.2.2 with | none => v.2.1 = 0 | some (g, cap, sp) => 1 ≤ v.2.1 ∧ v.2.1 ≤ cap ∧ cap ≤ maxLen ∧ ((kpL p.es s v.1).flatMap evR ++ sp).length = cap * 4 ∧ w.heap.size ≤ g) (fun v => p.es.length - v.1) ((0, 0, none)) (by kernel_rfl) (⟨Nat.zero_le _, rfl, rfl⟩) (by simp) (fun v hI0 J0 hJ0 => ?_)
  obtain ⟨j, k, _ | ⟨g, cap, sp⟩⟩ := v
  · skip
    obtain ⟨hz1, hz2, hz3⟩ := hI0
    dsimp only at hz1 hz2 hz3
    have hzl := kpL_len p.es s j
    have hml : (1000000 : Nat) ≤ maxLen := by simp only [maxLen]; omega
    cases hd1 : (decide ((j : Int) < (p.es.length : Int))) with
    | false =>
      have hp1 := of_decide_eq_false hd1
      have hjl : j = p.es.length := by omega
      obtain ⟨D, hD⟩ : ∃ D, (kpL p.es s j) = D := ⟨_, rfl⟩
      rw [hD] at hz2
      have hDk := hz2
      have hDl : k ≤ 8 := by have := kpL_len p.es s j; rw [hD] at this; omega
      have hDn : D = [] := List.eq_nil_of_length_eq_zero (by rw [hz2, hz3])
      refine run_auto [(15, .bool false)] 10 [false] [0] [3, 37] [] (st' := ⟨[(3, .bool false), (37, .agg #[iV p.ll, iV p.lh, iV p.ul, iV p.uh, .slice none 0 0])], []⟩) (acc := [(pA b1, pA b1), (.bool false, .bool false), (.bool (decide ((j : Int) < (p.es.length : Int))), .bool false)]) (by kernel_rfl) (by kernel_rfl) ⟨rfl, rfl, (bo hd1), trivial⟩ ?_
      cases hd2 : (p.n.clB s) with
      | false =>
        refine run_ret1 16 #[.agg #[iV p.ll, iV p.lh, iV p.ul, iV p.uh, .slice none 0 0]] (some 38) (.tuple #[.agg #[iV ((spA (lostR (p.kp none 0 []))).1), iV ((spA (lostR (p.kp none 0 []))).2)], iV 0]) (by kernel_rfl) (fun w1 k1 h1 => (by have h := Lost_any (p.kp none 0 []) w1 ⟨fun h => absurd rfl h, Nat.zero_le _⟩; rw [show erA (lostR (p.kp none 0 [])) = 0 from by rw [← hDn, ← hD]; rw [hjl, kp_lost hF, hd2]; rfl] at h; exact h)) ?_
        refine run_auto [] 3 [] [] [3, 39, 40] [] (st' := ⟨[(3, .bool false), (39, .agg #[iV ((spA (lostR (p.kp none 0 []))).1), iV ((spA (lostR (p.kp none 0 []))).2)]), (40, iV 0)], []⟩) (acc := []) (by kernel_rfl) (by kernel_rfl) trivial ?_
        refine run_new (aO #[iV 0, iV 0] 23) (fun b2 => pA b2) (some 7) (fun _ => by kernel_rfl) (fun b2 hb2 => ?_)
        refine run_auto [(42, .bool false)] 9 [] [0] [3] [] (st' := ⟨[(3, .bool false)], []⟩) (acc := [(.bool false, .bool false), (pA b2, pA b2)]) (by kernel_rfl) (by kernel_rfl) ⟨rfl, rfl, trivial⟩ ?_
        refine run_end (fn := f36) rfl (Nat.le_refl _) (by kernel_rfl) [] [.bool false] (e := []) (by kernel_rfl) trivial (fun w1 k1 h1 => ?_)
        exact ⟨rfl, k1.keeps (fun _ h => h)⟩
      | true =>
        refine run_ret1 16 #[.agg #[iV p.ll, iV p.lh, iV p.ul, iV p.uh, .slice none 0 0]] (some 38) (.tuple #[.agg #[iV ((spA (lostR (p.kp none 0 []))).1), iV ((spA (lostR (p.kp none 0 []))).2)], iV 10]) (by kernel_rfl) (fun w1 k1 h1 => (by have h := Lost_any (p.kp none 0 []) w1 ⟨fun h => absurd rfl h, Nat.zero_le _⟩; rw [show erA (lostR (p.kp none 0 [])) = 10 from by rw [← hDn, ← hD]; rw [hjl, kp_lost hF, hd2]; rfl] at h; exact h)) ?_
        refine run_auto [] 3 [] [] [3, 39, 40] [] (st' := ⟨[(3, .bool false), (39, .agg #[iV ((spA (lostR (p.kp none 0 []))).1), iV ((spA (lostR (p.kp none 0 []))).2)]), (40, iV 10)], []⟩) (acc := []) (by kernel_rfl) (by kernel_rfl) trivial ?_
        refine run_new (aO #[iV 0, iV 0] 23) (fun b2 => pA b2) (some 7) (fun _ => by kernel_rfl) (fun b2 hb2 => ?_)
        refine run_auto [(42, .bool true)] 9 [] [0] [3] [] (st' := ⟨[(3, .bool true)], []⟩) (acc := [(.bool true, .bool true), (pA b2, pA b2)]) (by kernel_rfl) (by kernel_rfl) ⟨rfl, rfl, trivial⟩ ?_
        refine run_end (fn := f36) rfl (Nat.le_refl _) (by kernel_rfl) [] [.bool true] (e := []) (by kernel_rfl) trivial (fun w1 k1 h1 => ?_)
        exact ⟨rfl, k1.keeps (fun _ h => h)⟩
    | true =>
      have hp1 := of_decide_eq_true hd1
      have hlt : j < p.es.length := by omega
      obtain ⟨be, oe, hbe, hc⟩ := hp.ev (by intro h; rw [h] at hlt; cases hlt)
      have hc := hc j hlt
      refine run_auto [(15, .bool true)] 12 [true] [] [0, 3, 4, 12, 13, 14, 16] [0] (st' := ⟨[(0, iV (s : Int)), (3, .bool false), (4, pA b1), (12, .slice p.ea p.es.length p.ec), (13, iV (p.es.length : Int)), (14, iV (j : Int)), (16, iV (j : Int))], [(b1, aO #[iV p.ll, iV p.lh, iV p.ul, iV p.uh, .slice none 0 0] 26)]⟩) (acc := [(.bool true, .bool true), (.bool (decide ((j : Int) < (p.es.length : Int))), .bool true)]) (by kernel_rfl) (by kernel_rfl) ⟨rfl, (bo hd1), trivial⟩ ?_
      refine run_v (Instr.indexAt 24 (.slice p.ea p.es.length p.ec) (iV (j : Int)) >>= fun v => pure (Next.value v)) (some 17) (.pointer (some ⟨be, oe + j * 4, none⟩)) (by kernel_rfl) (fun w1 k1 h1 => (by rw [hbe]; exact idx_off (e := 55) (n := 4) (by kernel_rfl) (by kernel_rfl) be oe p.es.length p.ec .i64 j hlt (oe + j * 4) (by omega) w1)) ?_
      refine run_v (Instr.loadAt 55 (.pointer (some ⟨be, oe + j * 4, none⟩)) >>= fun v => pure (Next.value v)) (some 18) (.agg #[iV (elE p.es j).1, iV (elE p.es j).2.1, iV (elE p.es j).2.2.1, iV (elE p.es j).2.2.2]) (by kernel_rfl) (fun w1 k1 h1 => load_in (off := 0) k1 (fun h => h) [iV (elE p.es j).1, iV (elE p.es j).2.1, iV (elE p.es j).2.2.1, iV (elE p.es j).2.2.2] (c4 hc.1 hc.2.1 hc.2.2.1 hc.2.2.2) (by kernel_rfl)) ?_
      refine run_new (aO #[iV 0, iV 0, iV 0, iV 0] 55) (fun b2 => pA b2) (some 6) (fun _ => by kernel_rfl) (fun b2 hb2 => ?_)
      cases hd2 : ((elE p.es j).1 != 1) with
      | false =>
        have hp2 : (elE p.es j).1 = 1 := by simpa using hd2
        refine run_auto [(21, .bool false)] 11 [] [0, 0] [0, 3, 4, 12, 13, 14, 6, 22, 23, 24] [0, 1] (st' := ⟨[(0, iV (s : Int)), (3, .bool false), (4, pA b1), (12, .slice p.ea p.es.length p.ec), (13, iV (p.es.length : Int)), (14, iV (j : Int)), (6, pA b2), (22, .bool false), (23, iV (s : Int)), (24, iV (j : Int))], [(b2, aO #[iV (elE p.es j).1, iV (elE p.es j).2.1, iV (elE p.es j).2.2.1, iV (elE p.es j).2.2.2] 55), (b1, aO #[iV p.ll, iV p.lh, iV p.ul, iV p.uh, .slice none 0 0] 26)]⟩) (acc := [(.bool ((elE p.es j).1 != 1), .bool false), (pA b2, pA b2), (pA b2, pA b2)]) (by kernel_rfl) (by kernel_rfl) ⟨(bo hd2), rfl, rfl, trivial⟩ ?_
        refine run_v (binOp .shr 3 (iV (s : Nat)) (iV (j : Nat)) >>= fun v => pure (Next.value v)) (some 25) (iV ((s >>> j : Nat) : Int)) (by kernel_rfl) (fun w1 k1 h1 => shr_run s j (by omega)) ?_
        cases hd3 : (s.testBit j) with
        | false =>
          refine run_auto [(26, iV (((s >>> j : Nat) &&& 1 : Nat) : Int)), (27, .bool false), (35, iV ((j + 1 : Nat) : Int))] 11 [false] [] [0, 3, 4, 12, 13, 14] [1] (st' := ⟨[(0, iV (s : Int)), (3, .bool false), (4, pA b1), (12, .slice p.ea p.es.length p.ec), (13, iV (p.es.length : Int)), (14, iV ((j + 1 : Nat) : Int))], [(b1, aO #[iV p.ll, iV p.lh, iV p.ul, iV p.uh, .slice none 0 0] 26)]⟩) (acc := [(iV (IntKind.i64.wrap ((j : Int) + 1)), iV ((j + 1 : Nat) : Int)), (.bool false, .bool false), (.bool ((((s >>> j : Nat) &&& 1 : Nat) : Int) == 1), .bool false), (iV (bits .and .i64 ((s >>> j : Nat) : Int) 1), iV (((s >>> j : Nat) &&& 1 : Nat) : Int))]) (by kernel_rfl) (by kernel_rfl) ⟨(wr (by omega) (by omega)), rfl, ((bo (has_bit s j)).trans (bo hd3)), (and_nat (s >>> j : Nat) 1 (by have := Nat.shiftRight_le s j; omega) (by omega)), trivial⟩ ?_
          have hkb : kpB p.es s j = false := by unfold kpB; rw [show ((elE p.es j).1 == 1) = true from by simpa using hd2, hd3]; rfl
          have hst := kpL_no hkb
          have hj := hJ0 ((j + 1, 0, none)) (⟨by dsimp only; omega, by rw [hst, hz2, hz3], rfl⟩) (by dsimp only; omega)
          dsimp only at hj
          exact run_round (by kernel_rfl) hj
        | true =>
          refine run_auto [(26, iV (((s >>> j : Nat) &&& 1 : Nat) : Int)), (27, .bool true)] 9 [true] [1, 0] [0, 3, 4, 12, 13, 14, 30, 31] [1] (st' := ⟨[(0, iV (s : Int)), (3, .bool false), (4, pA b1), (12, .slice p.ea p.es.length p.ec), (13, iV (p.es.length : Int)), (14, iV (j : Int)), (30, .slice none 0 0), (31, .agg #[iV (elE p.es j).1, iV (elE p.es j).2.1, iV (elE p.es j).2.2.1, iV (elE p.es j).2.2.2])], [(b1, aO #[iV p.ll, iV p.lh, iV p.ul, iV p.uh, .slice none 0 0] 26)]⟩) (acc := [(pA b2, pA b2), (pA b1, pA b1), (.bool true, .bool true), (.bool ((((s >>> j : Nat) &&& 1 : Nat) : Int) == 1), .bool true), (iV (bits .and .i64 ((s >>> j : Nat) : Int) 1), iV (((s >>> j : Nat) &&& 1 : Nat) : Int))]) (by kernel_rfl) (by kernel_rfl) ⟨rfl, rfl, rfl, ((bo (has_bit s j)).trans (bo hd3)), (and_nat (s >>> j : Nat) 1 (by have := Nat.shiftRight_le s j; omega) (by omega)), trivial⟩ ?_
          refine run_new (aO #[iV (elE p.es j).1, iV (elE p.es j).2.1, iV (elE p.es j).2.2.1, iV (elE p.es j).2.2.2] 55) (fun b3 => sV b3 1 1) (some 32) (fun _ => by kernel_rfl) (fun b3 hb3 => ?_)
          refine run_app_none (t := 24) (ty := 24) (e := 55) (n := 4) (z := (.agg #[iV 0, iV 0, iV 0, iV 0])) (by kernel_rfl) (by kernel_rfl) (by kernel_rfl) rfl (by kernel_rfl) evR evR_len (some 33) 1 1 ([((elE p.es j).1, (elE p.es j).2.1, (elE p.es j).2.2.1, (elE p.es j).2.2.2)] : List Ev) ⟨b3, 0, none⟩ (by first | rfl | omega | (simp; done) | (simp; omega)) (by omega) (by kernel_rfl) (fun w1 k1 h1 jq uq hu => by rw [add_none, Nat.zero_add]; exact cells_of_heap (h1 (b3, aO #[iV (elE p.es j).1, iV (elE p.es j).2.1, iV (elE p.es j).2.2.1, iV (elE p.es j).2.2.2] 55) (List.mem_of_getElem? (i := 0) (by kernel_rfl))) jq uq hu) (by omega) (fun b4 cap4 sp4 hb4 hqb4 hmb4 hlb4 => ?_)
          refine run_auto [(35, iV ((j + 1 : Nat) : Int))] 8 [] [2] [0, 3, 4, 12, 13, 14] [0, 2] (st' := ⟨[(0, iV (s : Int)), (3, .bool false), (4, pA b1), (12, .slice p.ea p.es.length p.ec), (13, iV (p.es.length : Int)), (14, iV ((j + 1 : Nat) : Int))], [(b4, cO ((([((elE p.es j).1, (elE p.es j).2.1, (elE p.es j).2.2.1, (elE p.es j).2.2.2)] : List Ev)).flatMap evR ++ sp4) 55), (b1, aO #[iV p.ll, iV p.lh, iV p.ul, iV p.uh, sV b4 1 cap4] 26)]⟩) (acc := [(iV (IntKind.i64.wrap ((j : Int) + 1)), iV ((j + 1 : Nat) : Int)), (pA b1, pA b1)]) (by kernel_rfl) (by kernel_rfl) ⟨(wr (by omega) (by omega)), rfl, trivial⟩ ?_
          have hkb : kpB p.es s j = true := by unfold kpB; rw [show ((elE p.es j).1 == 1) = true from by simpa using hd2, hd3]; rfl
          have hst := kpL_yes hkb
          have e0 : kpL p.es s j = [] := List.eq_nil_of_length_eq_zero (by rw [hz2, hz3])
          rw [e0, List.nil_append] at hst
          have hj := hJ0 ((j + 1, 1, some (b4, cap4, sp4))) (⟨by dsimp only; omega, by rw [hst]; rfl, by dsimp only; omega, hqb4, hmb4, by rw [hst]; exact hlb4, hb4⟩) (by dsimp only; omega)
          dsimp only at hj
          rw [hst] at hj
          exact run_round (by kernel_rfl) hj
      | true =>
        have hp2 : ¬ (elE p.es j).1 = 1 := by simpa using hd2
        refine run_auto [(21, .bool true)] 21 [true] [0, 0, 1, 0] [0, 3, 4, 12, 13, 14, 30, 31] [1] (st' := ⟨[(0, iV (s : Int)), (3, .bool false), (4, pA b1), (12, .slice p.ea p.es.length p.ec), (13, iV (p.es.length : Int)), (14, iV (j : Int)), (30, .slice none 0 0), (31, .agg #[iV (elE p.es j).1, iV (elE p.es j).2.1, iV (elE p.es j).2.2.1, iV (elE p.es j).2.2.2])], [(b1, aO #[iV p.ll, iV p.lh, iV p.ul, iV p.uh, .slice none 0 0] 26)]⟩) (acc := [(pA b2, pA b2), (pA b1, pA b1), (.bool true, .bool true), (.bool ((elE p.es j).1 != 1), .bool true), (pA b2, pA b2), (pA b2, pA b2)]) (by kernel_rfl) (by kernel_rfl) ⟨rfl, rfl, rfl, (bo hd2), rfl, rfl, trivial⟩ ?_
        refine run_new (aO #[iV (elE p.es j).1, iV (elE p.es j).2.1, iV (elE p.es j).2.2.1, iV (elE p.es j).2.2.2] 55) (fun b3 => sV b3 1 1) (some 32) (fun _ => by kernel_rfl) (fun b3 hb3 => ?_)
        refine run_app_none (t := 24) (ty := 24) (e := 55) (n := 4) (z := (.agg #[iV 0, iV 0, iV 0, iV 0])) (by kernel_rfl) (by kernel_rfl) (by kernel_rfl) rfl (by kernel_rfl) evR evR_len (some 33) 1 1 ([((elE p.es j).1, (elE p.es j).2.1, (elE p.es j).2.2.1, (elE p.es j).2.2.2)] : List Ev) ⟨b3, 0, none⟩ (by first | rfl | omega | (simp; done) | (simp; omega)) (by omega) (by kernel_rfl) (fun w1 k1 h1 jq uq hu => by rw [add_none, Nat.zero_add]; exact cells_of_heap (h1 (b3, aO #[iV (elE p.es j).1, iV (elE p.es j).2.1, iV (elE p.es j).2.2.1, iV (elE p.es j).2.2.2] 55) (List.mem_of_getElem? (i := 0) (by kernel_rfl))) jq uq hu) (by omega) (fun b4 cap4 sp4 hb4 hqb4 hmb4 hlb4 => ?_)
        refine run_auto [(35, iV ((j + 1 : Nat) : Int))] 8 [] [2] [0, 3, 4, 12, 13, 14] [0, 2] (st' := ⟨[(0, iV (s : Int)), (3, .bool false), (4, pA b1), (12, .slice p.ea p.es.length p.ec), (13, iV (p.es.length : Int)), (14, iV ((j + 1 : Nat) : Int))], [(b4, cO ((([((elE p.es j).1, (elE p.es j).2.1, (elE p.es j).2.2.1, (elE p.es j).2.2.2)] : List Ev)).flatMap evR ++ sp4) 55), (b1, aO #[iV p.ll, iV p.lh, iV p.ul, iV p.uh, sV b4 1 cap4] 26)]⟩) (acc := [(iV (IntKind.i64.wrap ((j : Int) + 1)), iV ((j + 1 : Nat) : Int)), (pA b1, pA b1)]) (by kernel_rfl) (by kernel_rfl) ⟨(wr (by omega) (by omega)), rfl, trivial⟩ ?_
        have hkb : kpB p.es s j = true := by unfold kpB; rw [show ((elE p.es j).1 == 1) = false from by simpa using hd2]; rfl
        have hst := kpL_yes hkb
        have e0 : kpL p.es s j = [] := List.eq_nil_of_length_eq_zero (by rw [hz2, hz3])
        rw [e0, List.nil_append] at hst
        have hj := hJ0 ((j + 1, 1, some (b4, cap4, sp4))) (⟨by dsimp only; omega, by rw [hst]; rfl, by dsimp only; omega, hqb4, hmb4, by rw [hst]; exact hlb4, hb4⟩) (by dsimp only; omega)
        dsimp only at hj
        rw [hst] at hj
        exact run_round (by kernel_rfl) hj
  · skip
    obtain ⟨hz1, hz2, hz3⟩ := hI0
    dsimp only at hz1 hz2 hz3
    have hzl := kpL_len p.es s j
    have hml : (1000000 : Nat) ≤ maxLen := by simp only [maxLen]; omega
    obtain ⟨hz4, hz5, hz6, hz7, hz8⟩ := hz3
    cases hd1 : (decide ((j : Int) < (p.es.length : Int))) with
    | false =>
      have hp1 := of_decide_eq_false hd1
      have hjl : j = p.es.length := by omega
      obtain ⟨D, hD⟩ : ∃ D, (kpL p.es s j) = D := ⟨_, rfl⟩
      rw [hD] at hz2
      have hDk := hz2
      have hDl : k ≤ 8 := by have := kpL_len p.es s j; rw [hD] at this; omega
      dsimp only
      rw [hD]
      rw [hD] at hz7
      refine run_auto [(15, .bool false)] 10 [false] [1] [3, 37] [0] (st' := ⟨[(3, .bool false), (37, .agg #[iV p.ll, iV p.lh, iV p.ul, iV p.uh, sV g k cap])], [(g, cO ((D).flatMap evR ++ sp) 55)]⟩) (acc := [(pA b1, pA b1), (.bool false, .bool false), (.bool (decide ((j : Int) < (p.es.length : Int))), .bool false)]) (by kernel_rfl) (by kernel_rfl) ⟨rfl, rfl, (bo hd1), trivial⟩ ?_
      cases hd2 : (p.n.clB s) with
      | false =>
        refine run_ret1 16 #[.agg #[iV p.ll, iV p.lh, iV p.ul, iV p.uh, sV g k cap]] (some 38) (.tuple #[.agg #[iV ((spA (lostR (p.kp (some ⟨g, 0, none⟩) cap D))).1), iV ((spA (lostR (p.kp (some ⟨g, 0, none⟩) cap D))).2)], iV 0]) (by kernel_rfl) (fun w1 k1 h1 => (by have h := Lost_any (p.kp (some ⟨g, 0, none⟩) cap D) w1 ⟨Evs.of_flat (L := D) (sp := sp) (h1 (g, cO ((D).flatMap evR ++ sp) 55) (List.mem_of_getElem? (i := 0) (by kernel_rfl))), by show D.length ≤ maxLen; omega⟩; rw [show erA (lostR (p.kp (some ⟨g, 0, none⟩) cap D)) = 0 from by rw [← hD]; rw [hjl, kp_lost hF, hd2]; rfl] at h; unfold Wb.kp at h; dsimp only at h; rw [hDk] at h; exact h)) ?_
        refine run_auto [] 3 [] [] [3, 39, 40] [0] (st' := ⟨[(3, .bool false), (39, .agg #[iV ((spA (lostR (p.kp (some ⟨g, 0, none⟩) cap D))).1), iV ((spA (lostR (p.kp (some ⟨g, 0, none⟩) cap D))).2)]), (40, iV 0)], [(g, cO ((D).flatMap evR ++ sp) 55)]⟩) (acc := []) (by kernel_rfl) (by kernel_rfl) trivial ?_
        refine run_new (aO #[iV 0, iV 0] 23) (fun b2 => pA b2) (some 7) (fun _ => by kernel_rfl) (fun b2 hb2 => ?_)
        refine run_auto [(42, .bool false)] 9 [] [0] [3] [] (st' := ⟨[(3, .bool false)], []⟩) (acc := [(.bool false, .bool false), (pA b2, pA b2)]) (by kernel_rfl) (by kernel_rfl) ⟨rfl, rfl, trivial⟩ ?_
        refine run_end (fn := f36) rfl (Nat.le_refl _) (by kernel_rfl) [] [.bool false] (e := []) (by kernel_rfl) trivial (fun w1 k1 h1 => ?_)
        exact ⟨rfl, k1.keeps (fun _ h => h)⟩
      | true =>
        refine run_ret1 16 #[.agg #[iV p.ll, iV p.lh, iV p.ul, iV p.uh, sV g k cap]] (some 38) (.tuple #[.agg #[iV ((spA (lostR (p.kp (some ⟨g, 0, none⟩) cap D))).1), iV ((spA (lostR (p.kp (some ⟨g, 0, none⟩) cap D))).2)], iV 10]) (by kernel_rfl) (fun w1 k1 h1 => (by have h := Lost_any (p.kp (some ⟨g, 0, none⟩) cap D) w1 ⟨Evs.of_flat (L := D) (sp := sp) (h1 (g, cO ((D).flatMap evR ++ sp) 55) (List.mem_of_getElem? (i := 0) (by kernel_rfl))), by show D.length ≤ maxLen; omega⟩; rw [show erA (lostR (p.kp (some ⟨g, 0, none⟩) cap D)) = 10 from by rw [← hD]; rw [hjl, kp_lost hF, hd2]; rfl] at h; unfold Wb.kp at h; dsimp only at h; rw [hDk] at h; exact h)) ?_
        refine run_auto [] 3 [] [] [3, 39, 40] [0] (st' := ⟨[(3, .bool false), (39, .agg #[iV ((spA (lostR (p.kp (some ⟨g, 0, none⟩) cap D))).1), iV ((spA (lostR (p.kp (some ⟨g, 0, none⟩) cap D))).2)]), (40, iV 10)], [(g, cO ((D).flatMap evR ++ sp) 55)]⟩) (acc := []) (by kernel_rfl) (by kernel_rfl) trivial ?_
        refine run_new (aO #[iV 0, iV 0] 23) (fun b2 => pA b2) (some 7) (fun _ => by kernel_rfl) (fun b2 hb2 => ?_)
        refine run_auto [(42, .bool true)] 9 [] [0] [3] [] (st' := ⟨[(3, .bool true)], []⟩) (acc := [(.bool true, .bool true), (pA b2, pA b2)]) (by kernel_rfl) (by kernel_rfl) ⟨rfl, rfl, trivial⟩ ?_
        refine run_end (fn := f36) rfl (Nat.le_refl _) (by kernel_rfl) [] [.bool true] (e := []) (by kernel_rfl) trivial (fun w1 k1 h1 => ?_)
        exact ⟨rfl, k1.keeps (fun _ h => h)⟩
    | true =>
      have hp1 := of_decide_eq_true hd1
      have hlt : j < p.es.length := by omega
      obtain ⟨be, oe, hbe, hc⟩ := hp.ev (by intro h; rw [h] at hlt; cases hlt)
      have hc := hc j hlt
      refine run_auto [(15, .bool true)] 12 [true] [] [0, 3, 4, 12, 13, 14, 16] [0, 1] (st' := ⟨[(0, iV (s : Int)), (3, .bool false), (4, pA b1), (12, .slice p.ea p.es.length p.ec), (13, iV (p.es.length : Int)), (14, iV (j : Int)), (16, iV (j : Int))], [(g, cO ((kpL p.es s j).flatMap evR ++ sp) 55), (b1, aO #[iV p.ll, iV p.lh, iV p.ul, iV p.uh, sV g k cap] 26)]⟩) (acc := [(.bool true, .bool true), (.bool (decide ((j : Int) < (p.es.length : Int))), .bool true)]) (by kernel_rfl) (by kernel_rfl) ⟨rfl, (bo hd1), trivial⟩ ?_
      refine run_v (Instr.indexAt 24 (.slice p.ea p.es.length p.ec) (iV (j : Int)) >>= fun v => pure (Next.value v)) (some 17) (.pointer (some ⟨be, oe + j * 4, none⟩)) (by kernel_rfl) (fun w1 k1 h1 => (by rw [hbe]; exact idx_off (e := 55) (n := 4) (by kernel_rfl) (by kernel_rfl) be oe p.es.length p.ec .i64 j hlt (oe + j * 4) (by omega) w1)) ?_
      refine run_v (Instr.loadAt 55 (.pointer (some ⟨be, oe + j * 4, none⟩)) >>= fun v => pure (Next.value v)) (some 18) (.agg #[iV (elE p.es j).1, iV (elE p.es j).2.1, iV (elE p.es j).2.2.1, iV (elE p.es j).2.2.2]) (by kernel_rfl) (fun w1 k1 h1 => load_in (off := 0) k1 (fun h => h) [iV (elE p.es j).1, iV (elE p.es j).2.1, iV (elE p.es j).2.2.1, iV (elE p.es j).2.2.2] (c4 hc.1 hc.2.1 hc.2.2.1 hc.2.2.2) (by kernel_rfl)) ?_
      refine run_new (aO #[iV 0, iV 0, iV 0, iV 0] 55) (fun b2 => pA b2) (some 6) (fun _ => by kernel_rfl) (fun b2 hb2 => ?_)
      cases hd2 : ((elE p.es j).1 != 1) with
      | false =>
        have hp2 : (elE p.es j).1 = 1 := by simpa using hd2
        refine run_auto [(21, .bool false)] 11 [] [0, 0] [0, 3, 4, 12, 13, 14, 6, 22, 23, 24] [0, 1, 2] (st' := ⟨[(0, iV (s : Int)), (3, .bool false), (4, pA b1), (12, .slice p.ea p.es.length p.ec), (13, iV (p.es.length : Int)), (14, iV (j : Int)), (6, pA b2), (22, .bool false), (23, iV (s : Int)), (24, iV (j : Int))], [(b2, aO #[iV (elE p.es j).1, iV (elE p.es j).2.1, iV (elE p.es j).2.2.1, iV (elE p.es j).2.2.2] 55), (g, cO ((kpL p.es s j).flatMap evR ++ sp) 55), (b1, aO #[iV p.ll, iV p.lh, iV p.ul, iV p.uh, sV g k cap] 26)]⟩) (acc := [(.bool ((elE p.es j).1 != 1), .bool false), (pA b2, pA b2), (pA b2, pA b2)]) (by kernel_rfl) (by kernel_rfl) ⟨(bo hd2), rfl, rfl, trivial⟩ ?_
        refine run_v (binOp .shr 3 (iV (s : Nat)) (iV (j : Nat)) >>= fun v => pure (Next.value v)) (some 25) (iV ((s >>> j : Nat) : Int)) (by kernel_rfl) (fun w1 k1 h1 => shr_run s j (by omega)) ?_
        cases hd3 : (s.testBit j) with
        | false =>
          refine run_auto [(26, iV (((s >>> j : Nat) &&& 1 : Nat) : Int)), (27, .bool false), (35, iV ((j + 1 : Nat) : Int))] 11 [false] [] [0, 3, 4, 12, 13, 14] [1, 2] (st' := ⟨[(0, iV (s : Int)), (3, .bool false), (4, pA b1), (12, .slice p.ea p.es.length p.ec), (13, iV (p.es.length : Int)), (14, iV ((j + 1 : Nat) : Int))], [(g, cO ((kpL p.es s j).flatMap evR ++ sp) 55), (b1, aO #[iV p.ll, iV p.lh, iV p.ul, iV p.uh, sV g k cap] 26)]⟩) (acc := [(iV (IntKind.i64.wrap ((j : Int) + 1)), iV ((j + 1 : Nat) : Int)), (.bool false, .bool false), (.bool ((((s >>> j : Nat) &&& 1 : Nat) : Int) == 1), .bool false), (iV (bits .and .i64 ((s >>> j : Nat) : Int) 1), iV (((s >>> j : Nat) &&& 1 : Nat) : Int))]) (by kernel_rfl) (by kernel_rfl) ⟨(wr (by omega) (by omega)), rfl, ((bo (has_bit s j)).trans (bo hd3)), (and_nat (s >>> j : Nat) 1 (by have := Nat.shiftRight_le s j; omega) (by omega)), trivial⟩ ?_
          have hkb : kpB p.es s j = false := by unfold kpB; rw [show ((elE p.es j).1 == 1) = true from by simpa using hd2, hd3]; rfl
          have hst := kpL_no hkb
          have hj := hJ0 ((j + 1, k, some (g, cap, sp))) (⟨by dsimp only; omega, by rw [hst]; exact hz2, hz4, hz5, hz6, by rw [hst]; exact hz7, hz8⟩) (by dsimp only; omega)
          dsimp only at hj
          rw [hst] at hj
          exact run_round (by kernel_rfl) hj
        | true =>
          refine run_auto [(26, iV (((s >>> j : Nat) &&& 1 : Nat) : Int)), (27, .bool true)] 9 [true] [2, 0] [0, 3, 4, 12, 13, 14, 30, 31] [1, 2] (st' := ⟨[(0, iV (s : Int)), (3, .bool false), (4, pA b1), (12, .slice p.ea p.es.length p.ec), (13, iV (p.es.length : Int)), (14, iV (j : Int)), (30, sV g k cap), (31, .agg #[iV (elE p.es j).1, iV (elE p.es j).2.1, iV (elE p.es j).2.2.1, iV (elE p.es j).2.2.2])], [(g, cO ((kpL p.es s j).flatMap evR ++ sp) 55), (b1, aO #[iV p.ll, iV p.lh, iV p.ul, iV p.uh, sV g k cap] 26)]⟩) (acc := [(pA b2, pA b2), (pA b1, pA b1), (.bool true, .bool true), (.bool ((((s >>> j : Nat) &&& 1 : Nat) : Int) == 1), .bool true), (iV (bits .and .i64 ((s >>> j : Nat) : Int) 1), iV (((s >>> j : Nat) &&& 1 : Nat) : Int))]) (by kernel_rfl) (by kernel_rfl) ⟨rfl, rfl, rfl, ((bo (has_bit s j)).trans (bo hd3)), (and_nat (s >>> j : Nat) 1 (by have := Nat.shiftRight_le s j; omega) (by omega)), trivial⟩ ?_
          refine run_new (aO #[iV (elE p.es j).1, iV (elE p.es j).2.1, iV (elE p.es j).2.2.1, iV (elE p.es j).2.2.2] 55) (fun b3 => sV b3 1 1) (some 32) (fun _ => by kernel_rfl) (fun b3 hb3 => ?_)
          refine run_app (t := 24) (ty := 24) (e := 55) (n := 4) (z := (.agg #[iV 0, iV 0, iV 0, iV 0])) (by kernel_rfl) (by kernel_rfl) (by kernel_rfl) rfl (by kernel_rfl) evR evR_len evR_one (some 33) 1 g k 1 cap 1 (kpL p.es s j) ([((elE p.es j).1, (elE p.es j).2.1, (elE p.es j).2.2.1, (elE p.es j).2.2.2)] : List Ev) sp ⟨b3, 0, none⟩ (by first | rfl | omega | (simp; done) | (simp; omega)) (by first | rfl | omega | (simp; done) | (simp; omega)) (by kernel_rfl) (by kernel_rfl) hz6 hz7 (fun w1 k1 h1 jq uq hu => by rw [add_none, Nat.zero_add]; exact cells_of_heap (h1 (b3, aO #[iV (elE p.es j).1, iV (elE p.es j).2.1, iV (elE p.es j).2.2.1, iV (elE p.es j).2.2.2] 55) (List.mem_of_getElem? (i := 0) (by kernel_rfl))) jq uq hu) (by omega) hz8 (fun b4 cap4 sp4 hb4 hqb4 hmb4 hlb4 => ?_)
          refine run_auto [(35, iV ((j + 1 : Nat) : Int))] 8 [] [2] [0, 3, 4, 12, 13, 14] [0, 2] (st' := ⟨[(0, iV (s : Int)), (3, .bool false), (4, pA b1), (12, .slice p.ea p.es.length p.ec), (13, iV (p.es.length : Int)), (14, iV ((j + 1 : Nat) : Int))], [(b4, cO ((kpL p.es s j ++ ([((elE p.es j).1, (elE p.es j).2.1, (elE p.es j).2.2.1, (elE p.es j).2.2.2)] : List Ev)).flatMap evR ++ sp4) 55), (b1, aO #[iV p.ll, iV p.lh, iV p.ul, iV p.uh, sV b4 (k + 1) cap4] 26)]⟩) (acc := [(iV (IntKind.i64.wrap ((j : Int) + 1)), iV ((j + 1 : Nat) : Int)), (pA b1, pA b1)]) (by kernel_rfl) (by kernel_rfl) ⟨(wr (by omega) (by omega)), rfl, trivial⟩ ?_
          have hkb : kpB p.es s j = true := by unfold kpB; rw [show ((elE p.es j).1 == 1) = true from by simpa using hd2, hd3]; rfl
          have hst := kpL_yes hkb
          have hj := hJ0 ((j + 1, k + 1, some (b4, cap4, sp4))) (⟨by dsimp only; omega, by rw [hst]; rw [List.length_append, hz2]; rfl, by dsimp only; omega, hqb4, hmb4, by rw [hst]; exact hlb4, hb4⟩) (by dsimp only; omega)
          dsimp only at hj
          rw [hst] at hj
          exact run_round (by kernel_rfl) hj
      | true =>
        have hp2 : ¬ (elE p.es j).1 = 1 := by simpa using hd2
        refine run_auto [(21, .bool true)] 21 [true] [0, 0, 2, 0] [0, 3, 4, 12, 13, 14, 30, 31] [1, 2] (st' := ⟨[(0, iV (s : Int)), (3, .bool false), (4, pA b1), (12, .slice p.ea p.es.length p.ec), (13, iV (p.es.length : Int)), (14, iV (j : Int)), (30, sV g k cap), (31, .agg #[iV (elE p.es j).1, iV (elE p.es j).2.1, iV (elE p.es j).2.2.1, iV (elE p.es j).2.2.2])], [(g, cO ((kpL p.es s j).flatMap evR ++ sp) 55), (b1, aO #[iV p.ll, iV p.lh, iV p.ul, iV p.uh, sV g k cap] 26)]⟩) (acc := [(pA b2, pA b2), (pA b1, pA b1), (.bool true, .bool true), (.bool ((elE p.es j).1 != 1), .bool true), (pA b2, pA b2), (pA b2, pA b2)]) (by kernel_rfl) (by kernel_rfl) ⟨rfl, rfl, rfl, (bo hd2), rfl, rfl, trivial⟩ ?_
        refine run_new (aO #[iV (elE p.es j).1, iV (elE p.es j).2.1, iV (elE p.es j).2.2.1, iV (elE p.es j).2.2.2] 55) (fun b3 => sV b3 1 1) (some 32) (fun _ => by kernel_rfl) (fun b3 hb3 => ?_)
        refine run_app (t := 24) (ty := 24) (e := 55) (n := 4) (z := (.agg #[iV 0, iV 0, iV 0, iV 0])) (by kernel_rfl) (by kernel_rfl) (by kernel_rfl) rfl (by kernel_rfl) evR evR_len evR_one (some 33) 1 g k 1 cap 1 (kpL p.es s j) ([((elE p.es j).1, (elE p.es j).2.1, (elE p.es j).2.2.1, (elE p.es j).2.2.2)] : List Ev) sp ⟨b3, 0, none⟩ (by first | rfl | omega | (simp; done) | (simp; omega)) (by first | rfl | omega | (simp; done) | (simp; omega)) (by kernel_rfl) (by kernel_rfl) hz6 hz7 (fun w1 k1 h1 jq uq hu => by rw [add_none, Nat.zero_add]; exact cells_of_heap (h1 (b3, aO #[iV (elE p.es j).1, iV (elE p.es j).2.1, iV (elE p.es j).2.2.1, iV (elE p.es j).2.2.2] 55) (List.mem_of_getElem? (i := 0) (by kernel_rfl))) jq uq hu) (by omega) hz8 (fun b4 cap4 sp4 hb4 hqb4 hmb4 hlb4 => ?_)
        refine run_auto [(35, iV ((j + 1 : Nat) : Int))] 8 [] [2] [0, 3, 4, 12, 13, 14] [0, 2] (st' := ⟨[(0, iV (s : Int)), (3, .bool false), (4, pA b1), (12, .slice p.ea p.es.length p.ec), (13, iV (p.es.length : Int)), (14, iV ((j + 1 : Nat) : Int))], [(b4, cO ((kpL p.es s j ++ ([((elE p.es j).1, (elE p.es j).2.1, (elE p.es j).2.2.1, (elE p.es j).2.2.2)] : List Ev)).flatMap evR ++ sp4) 55), (b1, aO #[iV p.ll, iV p.lh, iV p.ul, iV p.uh, sV b4 (k + 1) cap4] 26)]⟩) (acc := [(iV (IntKind.i64.wrap ((j : Int) + 1)), iV ((j + 1 : Nat) : Int)), (pA b1, pA b1)]) (by kernel_rfl) (by kernel_rfl) ⟨(wr (by omega) (by omega)), rfl, trivial⟩ ?_
        have hkb : kpB p.es s j = true := by unfold kpB; rw [show ((elE p.es j).1 == 1) = false from by simpa using hd2]; rfl
        have hst := kpL_yes hkb
        have hj := hJ0 ((j + 1, k + 1, some (b4, cap4, sp4))) (⟨by dsimp only; omega, by rw [hst]; rw [List.length_append, hz2]; rfl, by dsimp only; omega, hqb4, hmb4, by rw [hst]; exact hlb4, hb4⟩) (by dsimp only; omega)
        dsimp only at hj
        rw [hst] at hj
        exact run_round (by kernel_rfl) hj

end Go.Proofs.YtdjnkdelmmpleaaGreat
