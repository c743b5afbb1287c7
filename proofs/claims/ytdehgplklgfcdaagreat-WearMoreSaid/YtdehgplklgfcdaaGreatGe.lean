/-
  WEAR: events with their numbers, the first one first, or the last one.
  WEAR: what is known of lengths by all events.
  WEAR: readings that are looked at; what is kept of it; is there a truth.
-/
import Derived.Test.YtdehgplklgfcdaaGreatGd
import Derived.Test.YtdehgplklgfcdaaGreatGb
namespace Go.Proofs.YtdehgplklgfcdaaGreat
open Go.RowKit Go.Proofs.Tryz

set_option maxRecDepth 100000 in
theorem eventsOf_All (p : Wb) (bs : Nat) (w : World)  : Calls Tryz.prog 124 #[.agg #[.int .i64 p.ll, .int .i64 p.lh, .int .i64 p.ul, .int .i64 p.uh, .slice p.ea p.es.length p.ec], .func (.func 135) #[] #[.pointer (some ⟨bs, 0, none⟩)]] w (NwL (α := Nat × Nat) (fun x => .func (.func 133) #[] #[.pointer (some ⟨(x.1), 0, none⟩), .pointer (some ⟨(x.2), 0, none⟩)]) (fun x => [((x.1), .cells #[.func (.func 135) #[] #[.pointer (some ⟨bs, 0, none⟩)]] 161 (0, 0)), ((x.2), .cells #[.int .i64 p.ll, .int .i64 p.lh, .int .i64 p.ul, .int .i64 p.uh, .slice p.ea p.es.length p.ec] 26 (0, 0))]) (fun _ => True) w) := by
  refine calls_run (fn := f124) (c := (f124.body).getD .skip) [.agg #[.int .i64 p.ll, .int .i64 p.lh, .int .i64 p.ul, .int .i64 p.uh, .slice p.ea p.es.length p.ec], .func (.func 135) #[] #[.pointer (some ⟨bs, 0, none⟩)]] func124 (by kernel_rfl) (fun _ => False) [] (fun _ h => by cases h) (List.Pairwise.nil) 6 (by kernel_rfl) (by simp) ?_
  refine run_auto [] 2 [] [] [0, 1] [] (st' := ⟨[(0, .agg #[iV p.ll, iV p.lh, iV p.ul, iV p.uh, .slice p.ea p.es.length p.ec]), (1, .func (.func 135) #[] #[pA bs])], []⟩) (acc := []) (by kernel_rfl) (by kernel_rfl) trivial ?_
  refine run_new (aO #[iV p.ll, iV p.lh, iV p.ul, iV p.uh, .slice p.ea p.es.length p.ec] 26) (fun b1 => pA b1) (some 2) (fun _ => by kernel_rfl) (fun b1 hb1 => ?_)
  refine run_new (aO #[.func (.func 135) #[] #[pA bs]] 161) (fun b2 => pA b2) (some 3) (fun _ => by kernel_rfl) (fun b2 hb2 => ?_)
  refine run_auto [] 7 [] [] [4] [0, 1] (st' := ⟨[(4, .func (.func 133) #[] #[pA b2, pA b1])], [(b2, aO #[.func (.func 135) #[] #[pA bs]] 161), (b1, aO #[iV p.ll, iV p.lh, iV p.ul, iV p.uh, .slice p.ea p.es.length p.ec] 26)]⟩) (acc := []) (by kernel_rfl) (by kernel_rfl) trivial ?_
  refine run_end (fn := f124) rfl (Nat.le_refl _) (by kernel_rfl) [] [.func (.func 133) #[] #[pA b2, pA b1]] (e := []) (by kernel_rfl) trivial (fun w1 k1 h1 => ?_)
  refine ⟨(b2, b1), trivial, rfl, k1.keeps (fun _ h => h), fun q hq => ?_, ?_⟩
  · simp only [List.mem_cons, List.not_mem_nil, or_false] at hq
    rcases hq with rfl | rfl
    · exact ⟨(h1 (b2, _) (List.mem_of_getElem? (i := 0) rfl)), hb2⟩
    · exact ⟨(h1 (b1, _) (List.mem_of_getElem? (i := 1) rfl)), hb1⟩
  · have key : ∀ (b b2 : Nat) (o o2 : Obj), w1.heap[b]? = some o → w1.heap[b2]? = some o2 → o ≠ o2 → b ≠ b2 := fun b b2 o o2 q1 q2 hne he => by rw [he, q2] at q1; exact hne (Option.some.inj q1).symm
    refine List.pairwise_cons.2 ⟨fun q hq => ?_, ?_⟩
    · simp only [List.mem_cons, List.not_mem_nil, or_false] at hq
      rcases hq with rfl
      · exact key _ _ _ _ (h1 (b2, _) (List.mem_of_getElem? (i := 0) rfl)) (h1 (b1, _) (List.mem_of_getElem? (i := 1) rfl)) (by intro hx; first | (injection hx with _ hx; cases hx; done) | (injection hx with hx; cases hx; done) | cases hx)
    exact List.pairwise_singleton _ _

set_option maxRecDepth 100000 in
theorem eventsOf_Backward (p : Wb) (bs : Nat) (w : World)  : Calls Tryz.prog 124 #[.agg #[.int .i64 p.ll, .int .i64 p.lh, .int .i64 p.ul, .int .i64 p.uh, .slice p.ea p.es.length p.ec], .func (.func 140) #[] #[.pointer (some ⟨bs, 0, none⟩)]] w (NwL (α := Nat × Nat) (fun x => .func (.func 133) #[] #[.pointer (some ⟨(x.1), 0, none⟩), .pointer (some ⟨(x.2), 0, none⟩)]) (fun x => [((x.1), .cells #[.func (.func 140) #[] #[.pointer (some ⟨bs, 0, none⟩)]] 161 (0, 0)), ((x.2), .cells #[.int .i64 p.ll, .int .i64 p.lh, .int .i64 p.ul, .int .i64 p.uh, .slice p.ea p.es.length p.ec] 26 (0, 0))]) (fun _ => True) w) := by
  refine calls_run (fn := f124) (c := (f124.body).getD .skip) [.agg #[.int .i64 p.ll, .int .i64 p.lh, .int .i64 p.ul, .int .i64 p.uh, .slice p.ea p.es.length p.ec], .func (.func 140) #[] #[.pointer (some ⟨bs, 0, none⟩)]] func124 (by kernel_rfl) (fun _ => False) [] (fun _ h => by cases h) (List.Pairwise.nil) 6 (by kernel_rfl) (by simp) ?_
  refine run_auto [] 2 [] [] [0, 1] [] (st' := ⟨[(0, .agg #[iV p.ll, iV p.lh, iV p.ul, iV p.uh, .slice p.ea p.es.length p.ec]), (1, .func (.func 140) #[] #[pA bs])], []⟩) (acc := []) (by kernel_rfl) (by kernel_rfl) trivial ?_
  refine run_new (aO #[iV p.ll, iV p.lh, iV p.ul, iV p.uh, .slice p.ea p.es.length p.ec] 26) (fun b1 => pA b1) (some 2) (fun _ => by kernel_rfl) (fun b1 hb1 => ?_)
  refine run_new (aO #[.func (.func 140) #[] #[pA bs]] 161) (fun b2 => pA b2) (some 3) (fun _ => by kernel_rfl) (fun b2 hb2 => ?_)
  refine run_auto [] 7 [] [] [4] [0, 1] (st' := ⟨[(4, .func (.func 133) #[] #[pA b2, pA b1])], [(b2, aO #[.func (.func 140) #[] #[pA bs]] 161), (b1, aO #[iV p.ll, iV p.lh, iV p.ul, iV p.uh, .slice p.ea p.es.length p.ec] 26)]⟩) (acc := []) (by kernel_rfl) (by kernel_rfl) trivial ?_
  refine run_end (fn := f124) rfl (Nat.le_refl _) (by kernel_rfl) [] [.func (.func 133) #[] #[pA b2, pA b1]] (e := []) (by kernel_rfl) trivial (fun w1 k1 h1 => ?_)
  refine ⟨(b2, b1), trivial, rfl, k1.keeps (fun _ h => h), fun q hq => ?_, ?_⟩
  · simp only [List.mem_cons, List.not_mem_nil, or_false] at hq
    rcases hq with rfl | rfl
    · exact ⟨(h1 (b2, _) (List.mem_of_getElem? (i := 0) rfl)), hb2⟩
    · exact ⟨(h1 (b1, _) (List.mem_of_getElem? (i := 1) rfl)), hb1⟩
  · have key : ∀ (b b2 : Nat) (o o2 : Obj), w1.heap[b]? = some o → w1.heap[b2]? = some o2 → o ≠ o2 → b ≠ b2 := fun b b2 o o2 q1 q2 hne he => by rw [he, q2] at q1; exact hne (Option.some.inj q1).symm
    refine List.pairwise_cons.2 ⟨fun q hq => ?_, ?_⟩
    · simp only [List.mem_cons, List.not_mem_nil, or_false] at hq
      rcases hq with rfl
      · exact key _ _ _ _ (h1 (b2, _) (List.mem_of_getElem? (i := 0) rfl)) (h1 (b1, _) (List.mem_of_getElem? (i := 1) rfl)) (by intro hx; first | (injection hx with _ hx; cases hx; done) | (injection hx with hx; cases hx; done) | cases hx)
    exact List.pairwise_singleton _ _

set_option maxRecDepth 100000 in
theorem events_All (p : Wb) (bo bw bs : Nat) (hl8 : p.es.length ≤ 8) : Gives Tryz.prog 133 #[.pointer (some ⟨bo, 0, none⟩), .pointer (some ⟨bw, 0, none⟩)] [] (fun D w => OwnD [(bo, .cells #[.func (.func 135) #[] #[.pointer (some ⟨bs, 0, none⟩)]] 161 (0, 0)), (bw, .cells #[.int .i64 p.ll, .int .i64 p.lh, .int .i64 p.ul, .int .i64 p.uh, .slice p.ea p.es.length p.ec] 26 (0, 0)), (bs, .cells #[.slice p.ea p.es.length p.ec] 24 (0, 0))] D w ∧ EvsD p.es p.ea D w) (fun l => l <+: rgL p.es.length (evI (p.ul, p.uh) p.es)) (fun l => l = rgL p.es.length (evI (p.ul, p.uh) p.es)) := by
  intro l J Jx E0 w hE0 hst hJw hown hdis hin hy
  have ho := (hin.1 _ (List.mem_of_getElem? (i := 0) rfl)).1
  have hno := (hin.1 _ (List.mem_of_getElem? (i := 0) rfl)).2
  have hw := (hin.1 _ (List.mem_of_getElem? (i := 1) rfl)).1
  have hnw := (hin.1 _ (List.mem_of_getElem? (i := 1) rfl)).2
  have hos : OwnD [(bs, .cells #[.slice p.ea p.es.length p.ec] 24 (0, 0))] E0.D w := fun q hq => by rw [List.mem_singleton] at hq; subst hq; exact hin.1 _ (List.mem_of_getElem? (i := 2) rfl)
  have hev := hin.2
  refine calls_runE (fn := f133) (c := (f133.body).getD .skip) [.func (.yield l) #[] #[], .pointer (some ⟨bo, 0, none⟩), .pointer (some ⟨bw, 0, none⟩)] func133 (by kernel_rfl) E0 hE0 hJw 17 (by kernel_rfl) (by simp) ?_
  refine run_auto [] 2 [] [] [0, 1, 2] [] (st' := ⟨[(0, .func (.yield l) #[] #[]), (1, pA bo), (2, pA bw)], []⟩) (acc := []) (by kernel_rfl) (by kernel_rfl) trivial ?_
  refine run_new (aO #[.func (.yield l) #[] #[]] 165) (fun b1 => pA b1) (some 3) (fun _ => by kernel_rfl) (fun b1 hb1 => ?_)
  refine run_auto [] 3 [] [] [1, 2, 3] [0] (st' := ⟨[(1, pA bo), (2, pA bw), (3, pA b1)], [(b1, aO #[.func (.yield l) #[] #[]] 165)]⟩) (acc := []) (by kernel_rfl) (by kernel_rfl) trivial ?_
  refine run_v (Instr.loadAt 161 (pA bo) >>= fun v => pure (Next.value v)) (some 6) (.func (.func 135) #[] #[pA bs]) (by kernel_rfl) (fun w1 k1 h1 => load_in (base := 0) (off := 0) k1 hno [.func (.func 135) #[] #[pA bs]] (fun i u hi => by rw [Nat.zero_add]; exact cells_of_heap ho i u hi) (by kernel_rfl)) ?_
  refine run_auto [] 2 [] [] [2, 3, 6] [0] (st' := ⟨[(2, pA bw), (3, pA b1), (6, .func (.func 135) #[] #[pA bs])], [(b1, aO #[.func (.yield l) #[] #[]] 165)]⟩) (acc := []) (by kernel_rfl) (by kernel_rfl) trivial ?_
  refine run_auto [] 0 [] [] [2, 3, 6] [0] (st' := ⟨[(2, pA bw), (3, pA b1), (6, .func (.func 135) #[] #[pA bs])], [(b1, aO #[.func (.yield l) #[] #[]] 165)]⟩) (acc := []) (by kernel_rfl) (by kernel_rfl) trivial ?_
  refine run_range (σ := Ext) (τ := Ext) 135 #[pA bs] [7, 8] [] [(b1, aO #[.func (.yield l) #[] #[]] 165)] (fun D w => OwnD [(bs, aO #[.slice p.ea p.es.length p.ec] 24)] D w ∧ EvsD p.es p.ea D w) (fun l => l <+: rgL p.es.length (evA p.es)) (fun l => l = rgL p.es.length (evA p.es)) (by kernel_rfl) rfl rfl (fun l => by kernel_rfl) rfl (by kernel_rfl) (fun pre x hx => by rw [(rgL_at hx).2.2]; rfl) (all_give p.es p.ea p.ec bs hl8) (fun D w1 k1 hD => ⟨hos.kept k1 hD, hev.kept k1 hD⟩)
    (fun s => [(b1, aO #[.func (.yield l) #[] #[]] 165)]) (fun s => s) (fun pre s => J (rgL (pre).length (evI (p.ul, p.uh) p.es)) s ∧ s.n0 = E0.n0 ∧ (∀ b, b < w.heap.size → s.D b → E0.D b)) (fun y => [(b1, aO #[.func (.yield l) #[] #[]] 165)]) (fun y => y) (fun c y => c = .ret ∧ Jx y ∧ y.n0 = E0.n0) (E0) (⟨hst, rfl, fun _ _ h => h⟩) rfl rfl (fun pre s h => ⟨h.2.1, h.2.2⟩) (fun c y h => h.2.2)
    (fun pre x s hpre hI l0 ms ro ob w0 Jb Jn Je hkk hll hbeg hnext hexit => ?_) (fun ys s hys hI => ?_) (fun c y hI => ?_)
  · skip
    have hpre : pre ++ [x] <+: rgL p.es.length (evA p.es) := hpre
    have hx := rgL_at hpre
    obtain ⟨hJs, hns, hsD⟩ := hI
    obtain rfl := hx.2.2
    refine run_auto [] 5 [] [] [2, 3, 8, 4] [0] (st' := ⟨[(2, pA bw), (3, pA b1), (8, .agg #[iV (elE p.es pre.length).1, iV (elE p.es pre.length).2.1, iV (elE p.es pre.length).2.2.1, iV (elE p.es pre.length).2.2.2]), (4, iV (pre.length : Int))], [(b1, aO #[.func (.yield l) #[] #[]] 165)]⟩) (acc := []) (by kernel_rfl) (by kernel_rfl) trivial ?_
    refine run_new (aO #[iV 0, iV 0, iV 0, iV 0] 55) (fun b2 => pA b2) (some 5) (fun _ => by kernel_rfl) (fun b2 hb2 => ?_)
    refine run_auto [] 2 [] [0] [2, 3, 4, 5] [0, 1] (st' := ⟨[(2, pA bw), (3, pA b1), (4, iV (pre.length : Int)), (5, pA b2)], [(b2, aO #[iV (elE p.es pre.length).1, iV (elE p.es pre.length).2.1, iV (elE p.es pre.length).2.2.1, iV (elE p.es pre.length).2.2.2] 55), (b1, aO #[.func (.yield l) #[] #[]] 165)]⟩) (acc := [(pA b2, pA b2)]) (by kernel_rfl) (by kernel_rfl) ⟨rfl, trivial⟩ ?_
    refine run_round rfl (hbeg _ ?_)
    refine run_auto [] 2 [] [] [2, 3, 4, 5] [0, 1] (st' := ⟨[(2, pA bw), (3, pA b1), (4, iV (pre.length : Int)), (5, pA b2)], [(b2, aO #[iV (elE p.es pre.length).1, iV (elE p.es pre.length).2.1, iV (elE p.es pre.length).2.2.1, iV (elE p.es pre.length).2.2.2] 55), (b1, aO #[.func (.yield l) #[] #[]] 165)]⟩) (acc := []) (by kernel_rfl) (by kernel_rfl) trivial ?_
    refine draw_cut 6 2 [{ val := fun _ => .func (.yield l) #[] #[], slots := [3], reads := [1] },
          { val := fun _ => iV (pre.length : Int), slots := [4] },
          { val := fun _ => .agg #[iV (elE p.es pre.length).1, iV (elE p.es pre.length).2.1, iV (elE p.es pre.length).2.2.1, iV (elE p.es pre.length).2.2.2], slots := [5], reads := [0] },
          { val := fun _ => .pointer (some ⟨bw, 2, none⟩), slots := [2] },
          { val := fun _ => .agg #[iV p.ul, iV p.uh], slots := [12] },
          { val := fun _ => evV (p.ul, p.uh) ((elE p.es pre.length).1, (elE p.es pre.length).2.1, (elE p.es pre.length).2.2.1, (elE p.es pre.length).2.2.2), slots := [11, 13] }] [[], [], [], [], [3], [2, 3, 4], [0, 1, 2, 3, 4, 5], [0, 1, 2, 3, 4, 5, 6]] (by kernel_rfl) (by kernel_rfl) (by kernel_rfl) (by kernel_rfl) (by kernel_rfl) [9, 10, 14] [1] (by kernel_rfl)
          ⟨⟨⟨⟨⟨⟨trivial,
          tri_quietW (fun β => []) [0] [0] (fun β => [(pA b1, pA b1)]) (by kernel_rfl) (fun β extra => by kernel_rfl) (by kernel_rfl) (fun β => ⟨rfl, trivial⟩)⟩,
          tri_quietW (fun β => []) [] [] (fun β => []) (by kernel_rfl) (fun β extra => by kernel_rfl) (by kernel_rfl) (fun β => trivial)⟩,
          tri_quietW (fun β => []) [0] [0] (fun β => [(pA b2, pA b2)]) (by kernel_rfl) (fun β extra => by kernel_rfl) (by kernel_rfl) (fun β => ⟨rfl, trivial⟩)⟩,
          tri_quietW (fun β => []) [] [] (fun β => []) (by kernel_rfl) (fun β extra => by kernel_rfl) (by kernel_rfl) (fun β => trivial)⟩,
          tri_vVW (fun β => .agg #[iV p.ul, iV p.uh]) (fun β => by kernel_rfl) (fun β => (Instr.loadAt 23 (.pointer (some ⟨bw, 2, none⟩)) >>= fun v => pure (Next.value v))) (by kernel_rfl) (fun β extra => by kernel_rfl) (fun β => by kernel_rfl) (fun β w1 k1 h1 => load_in (base := 0) (off := 2) (hkk _ k1) hnw [iV p.ll, iV p.lh, iV p.ul, iV p.uh, .slice p.ea p.es.length p.ec] (fun i u hi => by rw [Nat.zero_add]; exact cells_of_heap hw i u hi) (by kernel_rfl))⟩,
          tri_callVW (fun β => evV (p.ul, p.uh) ((elE p.es pre.length).1, (elE p.es pre.length).2.1, (elE p.es pre.length).2.2.1, (elE p.es pre.length).2.2.2)) (fun β => by kernel_rfl) 134 (fun β => #[.agg #[iV (elE p.es pre.length).1, iV (elE p.es pre.length).2.1, iV (elE p.es pre.length).2.2.1, iV (elE p.es pre.length).2.2.2], .agg #[iV p.ul, iV p.uh]]) (by kernel_rfl) (fun β extra => by kernel_rfl) (fun β => by kernel_rfl) (fun β w1 k1 h1 => eventOf_any (p.ul, p.uh) ((elE p.es pre.length).1, (elE p.es pre.length).2.1, (elE p.es pre.length).2.2.1, (elE p.es pre.length).2.2.2) w1)⟩
          (fun β => ⟨[(9, .func (.yield l) #[] #[]), (10, iV (pre.length : Int)), (14, evV (p.ul, p.uh) ((elE p.es pre.length).1, (elE p.es pre.length).2.1, (elE p.es pre.length).2.2.1, (elE p.es pre.length).2.2.2))], [(b1, aO #[.func (.yield l) #[] #[]] 165)]⟩) (fun β => by kernel_rfl) (fun β3 => ?_)
    have hpre2 := rgL_pre (evI (p.ul, p.uh) p.es) hx.1
    refine run_yield2 l #[iV (pre.length : Int), evV (p.ul, p.uh) ((elE p.es pre.length).1, (elE p.es pre.length).2.1, (elE p.es pre.length).2.2.1, (elE p.es pre.length).2.2.2)] (some 15) (by kernel_rfl) s.D (fun b h => .inr (.inr h)) (fun b _ h => .inr (.inr h)) (fun E' t => ∃ E1, E' = rE E1 l0 ob ms ∧ Yt (J (rgL pre.length (evI (p.ul, p.uh) p.es) ++ [evI (p.ul, p.uh) p.es pre.length])) Jx E1 t ∧ E1.n0 = s.n0 ∧ ∀ b, E1.D b → s.D b ∨ w0.heap.size ≤ b) (fun w1 hJ1 k1 => Ygives.round2 (Ygives.of (E := s) (hy _ (evI (p.ul, p.uh) p.es pre.length) s w1 hpre2 hJs hns hJ1.1) hns) hJ1 hll.1 k1.size) (fun E' t hok hn' => ?_)
    obtain ⟨E1, rfl, hok, hn1, hs1⟩ := hok
    cases hd1 : t with
    | false =>
      rw [hd1] at hok
      dsimp only [Yt] at hok
      refine run_auto [(16, .bool true)] 3 [true] [] [] [0] (st' := ⟨[], [(b1, aO #[.func (.yield l) #[] #[]] 165)]⟩) (acc := [(.bool true, .bool true), (.bool true, .bool true)]) (by kernel_rfl) (by kernel_rfl) ⟨rfl, rfl, trivial⟩ ?_
      exact run_retQ rfl (fun a w1 g => hexit .ret E1 _ ⟨rfl, hok, hn1.trans hns⟩ (.inl rfl) hs1 a w1 g)
    | true =>
      rw [hd1] at hok
      dsimp only [Yt] at hok
      refine run_auto [(16, .bool false)] 5 [false] [] [] [0] (st' := ⟨[], [(b1, aO #[.func (.yield l) #[] #[]] 165)]⟩) (acc := [(.bool false, .bool false), (.bool false, .bool false)]) (by kernel_rfl) (by kernel_rfl) ⟨rfl, rfl, trivial⟩ ?_
      exact run_nil rfl (fun a w1 g => hnext E1 _ ⟨by rw [List.length_append, List.length_singleton, rgL_next]; exact hok, hn1.trans hns, fun b hb h => (hs1 b h).elim (hsD b hb) (fun h => absurd hb (by have := hll.2; dsimp only at this; omega))⟩ hs1 a w1 g)
  · skip
    obtain rfl : ys = rgL p.es.length (evA p.es) := hys
    obtain ⟨hJs, hns, hsD⟩ := hI
    refine run_auto [] 1 [] [] [] [] (st' := ⟨[], []⟩) (acc := []) (by kernel_rfl) (by kernel_rfl) trivial ?_
    refine run_endE (fn := f133) rfl (Nat.le_refl _) (by kernel_rfl) [] [] (e := []) (by kernel_rfl) trivial (fun w1 k1 h1 hE1 => ?_)
    exact ⟨rfl, s, hns, hE1, .inl ⟨_, rfl, by rw [rgL_len] at hJs; exact hJs⟩⟩
  · skip
    obtain ⟨rfl, hJx, hny⟩ := hI
    refine run_endE (fn := f133) rfl (Nat.le_refl _) (by kernel_rfl) [] [] (e := []) (by kernel_rfl) trivial (fun w1 k1 h1 hE1 => ?_)
    exact ⟨rfl, y, hny, hE1, .inr hJx⟩
set_option maxRecDepth 100000 in
theorem events_Backward (p : Wb) (bo bw bs : Nat) (hl8 : p.es.length ≤ 8) : Gives Tryz.prog 133 #[.pointer (some ⟨bo, 0, none⟩), .pointer (some ⟨bw, 0, none⟩)] [] (fun D w => OwnD [(bo, .cells #[.func (.func 140) #[] #[.pointer (some ⟨bs, 0, none⟩)]] 161 (0, 0)), (bw, .cells #[.int .i64 p.ll, .int .i64 p.lh, .int .i64 p.ul, .int .i64 p.uh, .slice p.ea p.es.length p.ec] 26 (0, 0)), (bs, .cells #[.slice p.ea p.es.length p.ec] 24 (0, 0))] D w ∧ EvsD p.es p.ea D w) (fun l => l <+: rgL p.es.length (revN p.es.length (evI (p.ul, p.uh) p.es))) (fun l => l = rgL p.es.length (revN p.es.length (evI (p.ul, p.uh) p.es))) := by
  intro l J Jx E0 w hE0 hst hJw hown hdis hin hy
  have ho := (hin.1 _ (List.mem_of_getElem? (i := 0) rfl)).1
  have hno := (hin.1 _ (List.mem_of_getElem? (i := 0) rfl)).2
  have hw := (hin.1 _ (List.mem_of_getElem? (i := 1) rfl)).1
  have hnw := (hin.1 _ (List.mem_of_getElem? (i := 1) rfl)).2
  have hos : OwnD [(bs, .cells #[.slice p.ea p.es.length p.ec] 24 (0, 0))] E0.D w := fun q hq => by rw [List.mem_singleton] at hq; subst hq; exact hin.1 _ (List.mem_of_getElem? (i := 2) rfl)
  have hev := hin.2
  refine calls_runE (fn := f133) (c := (f133.body).getD .skip) [.func (.yield l) #[] #[], .pointer (some ⟨bo, 0, none⟩), .pointer (some ⟨bw, 0, none⟩)] func133 (by kernel_rfl) E0 hE0 hJw 17 (by kernel_rfl) (by simp) ?_
  refine run_auto [] 2 [] [] [0, 1, 2] [] (st' := ⟨[(0, .func (.yield l) #[] #[]), (1, pA bo), (2, pA bw)], []⟩) (acc := []) (by kernel_rfl) (by kernel_rfl) trivial ?_
  refine run_new (aO #[.func (.yield l) #[] #[]] 165) (fun b1 => pA b1) (some 3) (fun _ => by kernel_rfl) (fun b1 hb1 => ?_)
  refine run_auto [] 3 [] [] [1, 2, 3] [0] (st' := ⟨[(1, pA bo), (2, pA bw), (3, pA b1)], [(b1, aO #[.func (.yield l) #[] #[]] 165)]⟩) (acc := []) (by kernel_rfl) (by kernel_rfl) trivial ?_
  refine run_v (Instr.loadAt 161 (pA bo) >>= fun v => pure (Next.value v)) (some 6) (.func (.func 140) #[] #[pA bs]) (by kernel_rfl) (fun w1 k1 h1 => load_in (base := 0) (off := 0) k1 hno [.func (.func 140) #[] #[pA bs]] (fun i u hi => by rw [Nat.zero_add]; exact cells_of_heap ho i u hi) (by kernel_rfl)) ?_
  refine run_auto [] 2 [] [] [2, 3, 6] [0] (st' := ⟨[(2, pA bw), (3, pA b1), (6, .func (.func 140) #[] #[pA bs])], [(b1, aO #[.func (.yield l) #[] #[]] 165)]⟩) (acc := []) (by kernel_rfl) (by kernel_rfl) trivial ?_
  refine run_auto [] 0 [] [] [2, 3, 6] [0] (st' := ⟨[(2, pA bw), (3, pA b1), (6, .func (.func 140) #[] #[pA bs])], [(b1, aO #[.func (.yield l) #[] #[]] 165)]⟩) (acc := []) (by kernel_rfl) (by kernel_rfl) trivial ?_
  refine run_range (σ := Ext) (τ := Ext) 140 #[pA bs] [7, 8] [] [(b1, aO #[.func (.yield l) #[] #[]] 165)] (fun D w => OwnD [(bs, aO #[.slice p.ea p.es.length p.ec] 24)] D w ∧ EvsD p.es p.ea D w) (fun l => l <+: rgL p.es.length (revN p.es.length (evA p.es))) (fun l => l = rgL p.es.length (revN p.es.length (evA p.es))) (by kernel_rfl) rfl rfl (fun l => by kernel_rfl) rfl (by kernel_rfl) (fun pre x hx => by rw [(rgL_at hx).2.2]; rfl) (back_give p.es p.ea p.ec bs hl8) (fun D w1 k1 hD => ⟨hos.kept k1 hD, hev.kept k1 hD⟩)
    (fun s => [(b1, aO #[.func (.yield l) #[] #[]] 165)]) (fun s => s) (fun pre s => J (rgL (pre).length (revN p.es.length (evI (p.ul, p.uh) p.es))) s ∧ s.n0 = E0.n0 ∧ (∀ b, b < w.heap.size → s.D b → E0.D b)) (fun y => [(b1, aO #[.func (.yield l) #[] #[]] 165)]) (fun y => y) (fun c y => c = .ret ∧ Jx y ∧ y.n0 = E0.n0) (E0) (⟨hst, rfl, fun _ _ h => h⟩) rfl rfl (fun pre s h => ⟨h.2.1, h.2.2⟩) (fun c y h => h.2.2)
    (fun pre x s hpre hI l0 ms ro ob w0 Jb Jn Je hkk hll hbeg hnext hexit => ?_) (fun ys s hys hI => ?_) (fun c y hI => ?_)
  · skip
    have hpre : pre ++ [x] <+: rgL p.es.length (revN p.es.length (evA p.es)) := hpre
    have hx := rgL_at hpre
    obtain ⟨hJs, hns, hsD⟩ := hI
    obtain rfl := hx.2.2
    refine run_auto [] 5 [] [] [2, 3, 8, 4] [0] (st' := ⟨[(2, pA bw), (3, pA b1), (8, .agg #[iV ((elE p.es (p.es.length - 1 - pre.length)).1), iV ((elE p.es (p.es.length - 1 - pre.length)).2.1), iV ((elE p.es (p.es.length - 1 - pre.length)).2.2.1), iV ((elE p.es (p.es.length - 1 - pre.length)).2.2.2)]), (4, iV (((p.es.length - 1 - pre.length) : Nat) : Int))], [(b1, aO #[.func (.yield l) #[] #[]] 165)]⟩) (acc := []) (by kernel_rfl) (by kernel_rfl) trivial ?_
    refine run_new (aO #[iV 0, iV 0, iV 0, iV 0] 55) (fun b2 => pA b2) (some 5) (fun _ => by kernel_rfl) (fun b2 hb2 => ?_)
    refine run_auto [] 2 [] [0] [2, 3, 4, 5] [0, 1] (st' := ⟨[(2, pA bw), (3, pA b1), (4, iV (((p.es.length - 1 - pre.length) : Nat) : Int)), (5, pA b2)], [(b2, aO #[iV ((elE p.es (p.es.length - 1 - pre.length)).1), iV ((elE p.es (p.es.length - 1 - pre.length)).2.1), iV ((elE p.es (p.es.length - 1 - pre.length)).2.2.1), iV ((elE p.es (p.es.length - 1 - pre.length)).2.2.2)] 55), (b1, aO #[.func (.yield l) #[] #[]] 165)]⟩) (acc := [(pA b2, pA b2)]) (by kernel_rfl) (by kernel_rfl) ⟨rfl, trivial⟩ ?_
    refine run_round rfl (hbeg _ ?_)
    refine run_auto [] 2 [] [] [2, 3, 4, 5] [0, 1] (st' := ⟨[(2, pA bw), (3, pA b1), (4, iV (((p.es.length - 1 - pre.length) : Nat) : Int)), (5, pA b2)], [(b2, aO #[iV ((elE p.es (p.es.length - 1 - pre.length)).1), iV ((elE p.es (p.es.length - 1 - pre.length)).2.1), iV ((elE p.es (p.es.length - 1 - pre.length)).2.2.1), iV ((elE p.es (p.es.length - 1 - pre.length)).2.2.2)] 55), (b1, aO #[.func (.yield l) #[] #[]] 165)]⟩) (acc := []) (by kernel_rfl) (by kernel_rfl) trivial ?_
    refine draw_cut 6 2 [{ val := fun _ => .func (.yield l) #[] #[], slots := [3], reads := [1] },
          { val := fun _ => iV (((p.es.length - 1 - pre.length) : Nat) : Int), slots := [4] },
          { val := fun _ => .agg #[iV ((elE p.es (p.es.length - 1 - pre.length)).1), iV ((elE p.es (p.es.length - 1 - pre.length)).2.1), iV ((elE p.es (p.es.length - 1 - pre.length)).2.2.1), iV ((elE p.es (p.es.length - 1 - pre.length)).2.2.2)], slots := [5], reads := [0] },
          { val := fun _ => .pointer (some ⟨bw, 2, none⟩), slots := [2] },
          { val := fun _ => .agg #[iV p.ul, iV p.uh], slots := [12] },
          { val := fun _ => evV (p.ul, p.uh) (elE p.es (p.es.length - 1 - pre.length)), slots := [11, 13] }] [[], [], [], [], [3], [2, 3, 4], [0, 1, 2, 3, 4, 5], [0, 1, 2, 3, 4, 5, 6]] (by kernel_rfl) (by kernel_rfl) (by kernel_rfl) (by kernel_rfl) (by kernel_rfl) [9, 10, 14] [1] (by kernel_rfl)
          ⟨⟨⟨⟨⟨⟨trivial,
          tri_quietW (fun β => []) [0] [0] (fun β => [(pA b1, pA b1)]) (by kernel_rfl) (fun β extra => by kernel_rfl) (by kernel_rfl) (fun β => ⟨rfl, trivial⟩)⟩,
          tri_quietW (fun β => []) [] [] (fun β => []) (by kernel_rfl) (fun β extra => by kernel_rfl) (by kernel_rfl) (fun β => trivial)⟩,
          tri_quietW (fun β => []) [0] [0] (fun β => [(pA b2, pA b2)]) (by kernel_rfl) (fun β extra => by kernel_rfl) (by kernel_rfl) (fun β => ⟨rfl, trivial⟩)⟩,
          tri_quietW (fun β => []) [] [] (fun β => []) (by kernel_rfl) (fun β extra => by kernel_rfl) (by kernel_rfl) (fun β => trivial)⟩,
          tri_vVW (fun β => .agg #[iV p.ul, iV p.uh]) (fun β => by kernel_rfl) (fun β => (Instr.loadAt 23 (.pointer (some ⟨bw, 2, none⟩)) >>= fun v => pure (Next.value v))) (by kernel_rfl) (fun β extra => by kernel_rfl) (fun β => by kernel_rfl) (fun β w1 k1 h1 => load_in (base := 0) (off := 2) (hkk _ k1) hnw [iV p.ll, iV p.lh, iV p.ul, iV p.uh, .slice p.ea p.es.length p.ec] (fun i u hi => by rw [Nat.zero_add]; exact cells_of_heap hw i u hi) (by kernel_rfl))⟩,
          tri_callVW (fun β => evV (p.ul, p.uh) (elE p.es (p.es.length - 1 - pre.length))) (fun β => by kernel_rfl) 134 (fun β => #[.agg #[iV ((elE p.es (p.es.length - 1 - pre.length)).1), iV ((elE p.es (p.es.length - 1 - pre.length)).2.1), iV ((elE p.es (p.es.length - 1 - pre.length)).2.2.1), iV ((elE p.es (p.es.length - 1 - pre.length)).2.2.2)], .agg #[iV p.ul, iV p.uh]]) (by kernel_rfl) (fun β extra => by kernel_rfl) (fun β => by kernel_rfl) (fun β w1 k1 h1 => eventOf_any (p.ul, p.uh) (elE p.es (p.es.length - 1 - pre.length)) w1)⟩
          (fun β => ⟨[(9, .func (.yield l) #[] #[]), (10, iV (((p.es.length - 1 - pre.length) : Nat) : Int)), (14, evV (p.ul, p.uh) (elE p.es (p.es.length - 1 - pre.length)))], [(b1, aO #[.func (.yield l) #[] #[]] 165)]⟩) (fun β => by kernel_rfl) (fun β3 => ?_)
    have hpre2 := rgL_pre (revN p.es.length (evI (p.ul, p.uh) p.es)) hx.1
    refine run_yield2 l #[iV (((p.es.length - 1 - pre.length) : Nat) : Int), evV (p.ul, p.uh) (elE p.es (p.es.length - 1 - pre.length))] (some 15) (by kernel_rfl) s.D (fun b h => .inr (.inr h)) (fun b _ h => .inr (.inr h)) (fun E' t => ∃ E1, E' = rE E1 l0 ob ms ∧ Yt (J (rgL pre.length (revN p.es.length (evI (p.ul, p.uh) p.es)) ++ [revN p.es.length (evI (p.ul, p.uh) p.es) pre.length])) Jx E1 t ∧ E1.n0 = s.n0 ∧ ∀ b, E1.D b → s.D b ∨ w0.heap.size ≤ b) (fun w1 hJ1 k1 => Ygives.round2 (Ygives.of (E := s) (hy _ (revN p.es.length (evI (p.ul, p.uh) p.es) pre.length) s w1 hpre2 hJs hns hJ1.1) hns) hJ1 hll.1 k1.size) (fun E' t hok hn' => ?_)
    obtain ⟨E1, rfl, hok, hn1, hs1⟩ := hok
    cases hd1 : t with
    | false =>
      rw [hd1] at hok
      dsimp only [Yt] at hok
      refine run_auto [(16, .bool true)] 3 [true] [] [] [0] (st' := ⟨[], [(b1, aO #[.func (.yield l) #[] #[]] 165)]⟩) (acc := [(.bool true, .bool true), (.bool true, .bool true)]) (by kernel_rfl) (by kernel_rfl) ⟨rfl, rfl, trivial⟩ ?_
      exact run_retQ rfl (fun a w1 g => hexit .ret E1 _ ⟨rfl, hok, hn1.trans hns⟩ (.inl rfl) hs1 a w1 g)
    | true =>
      rw [hd1] at hok
      dsimp only [Yt] at hok
      refine run_auto [(16, .bool false)] 5 [false] [] [] [0] (st' := ⟨[], [(b1, aO #[.func (.yield l) #[] #[]] 165)]⟩) (acc := [(.bool false, .bool false), (.bool false, .bool false)]) (by kernel_rfl) (by kernel_rfl) ⟨rfl, rfl, trivial⟩ ?_
      exact run_nil rfl (fun a w1 g => hnext E1 _ ⟨by rw [List.length_append, List.length_singleton, rgL_next]; exact hok, hn1.trans hns, fun b hb h => (hs1 b h).elim (hsD b hb) (fun h => absurd hb (by have := hll.2; dsimp only at this; omega))⟩ hs1 a w1 g)
  · skip
    obtain rfl : ys = rgL p.es.length (revN p.es.length (evA p.es)) := hys
    obtain ⟨hJs, hns, hsD⟩ := hI
    refine run_auto [] 1 [] [] [] [] (st' := ⟨[], []⟩) (acc := []) (by kernel_rfl) (by kernel_rfl) trivial ?_
    refine run_endE (fn := f133) rfl (Nat.le_refl _) (by kernel_rfl) [] [] (e := []) (by kernel_rfl) trivial (fun w1 k1 h1 hE1 => ?_)
    exact ⟨rfl, s, hns, hE1, .inl ⟨_, rfl, by rw [rgL_len] at hJs; exact hJs⟩⟩
  · skip
    obtain ⟨rfl, hJx, hny⟩ := hI
    refine run_endE (fn := f133) rfl (Nat.le_refl _) (by kernel_rfl) [] [] (e := []) (by kernel_rfl) trivial (fun w1 k1 h1 hE1 => ?_)
    exact ⟨rfl, y, hny, hE1, .inr hJx⟩
set_option maxRecDepth 100000 in
theorem onward_any (p : Wb) (w : World)  : Calls Tryz.prog 103 #[.agg #[.int .i64 p.ll, .int .i64 p.lh, .int .i64 p.ul, .int .i64 p.uh, .slice p.ea p.es.length p.ec]] w (NwL (α := Nat × Nat × Nat) (fun x => .func (.func 133) #[] #[.pointer (some ⟨(x.1), 0, none⟩), .pointer (some ⟨(x.2.1), 0, none⟩)]) (fun x => [((x.1), .cells #[.func (.func 135) #[] #[.pointer (some ⟨(x.2.2), 0, none⟩)]] 161 (0, 0)), ((x.2.1), .cells #[.int .i64 p.ll, .int .i64 p.lh, .int .i64 p.ul, .int .i64 p.uh, .slice p.ea p.es.length p.ec] 26 (0, 0)), ((x.2.2), .cells #[.slice p.ea p.es.length p.ec] 24 (0, 0))]) (fun _ => True) w) := by
  refine calls_run (fn := f103) (c := (f103.body).getD .skip) [.agg #[.int .i64 p.ll, .int .i64 p.lh, .int .i64 p.ul, .int .i64 p.uh, .slice p.ea p.es.length p.ec]] func103 (by kernel_rfl) (fun _ => False) [] (fun _ h => by cases h) (List.Pairwise.nil) 8 (by kernel_rfl) (by simp) ?_
  refine run_auto [] 2 [] [] [0] [] (st' := ⟨[(0, .agg #[iV p.ll, iV p.lh, iV p.ul, iV p.uh, .slice p.ea p.es.length p.ec])], []⟩) (acc := []) (by kernel_rfl) (by kernel_rfl) trivial ?_
  refine run_new (aO #[iV p.ll, iV p.lh, iV p.ul, iV p.uh, .slice p.ea p.es.length p.ec] 26) (fun b1 => pA b1) (some 1) (fun _ => by kernel_rfl) (fun b1 hb1 => ?_)
  refine run_auto [] 3 [] [] [1, 2] [0] (st' := ⟨[(1, pA b1), (2, .nilFunc)], [(b1, aO #[iV p.ll, iV p.lh, iV p.ul, iV p.uh, .slice p.ea p.es.length p.ec] 26)]⟩) (acc := []) (by kernel_rfl) (by kernel_rfl) trivial ?_
  refine draw_cut 4 2 [{ val := fun _ => .agg #[iV p.ll, iV p.lh, iV p.ul, iV p.uh, .slice p.ea p.es.length p.ec], slots := [1], reads := [0] },
      { val := fun _ => .pointer (some ⟨b1, 4, none⟩), slots := [1] },
      { val := fun _ => .slice p.ea p.es.length p.ec, slots := [4], reads := [0] },
      { names := [4], val := fun l => .func (.func 135) #[] #[.pointer (some ⟨(l.getD 0 0), 0, none⟩)], upd := [(4, fun l => aO #[.slice p.ea p.es.length p.ec] 24)], news := [4], slots := [5] }] [[], [], [1], [1, 2], [0, 1, 2, 3], [0, 1, 2, 3, 4]] (by kernel_rfl) (by kernel_rfl) (by kernel_rfl) (by kernel_rfl) (by kernel_rfl) [2, 3, 6] [4] (by kernel_rfl)
      ⟨⟨⟨⟨trivial,
      tri_quietW (fun β => []) [0] [0] (fun β => [(pA b1, pA b1)]) (by kernel_rfl) (fun β extra => by kernel_rfl) (by kernel_rfl) (fun β => ⟨rfl, trivial⟩)⟩,
      tri_quietW (fun β => []) [] [] (fun β => []) (by kernel_rfl) (fun β extra => by kernel_rfl) (by kernel_rfl) (fun β => trivial)⟩,
      tri_quietW (fun β => []) [0] [0] (fun β => [(pA b1, pA b1)]) (by kernel_rfl) (fun β extra => by kernel_rfl) (by kernel_rfl) (fun β => ⟨rfl, trivial⟩)⟩,
      tri_nwW 4 (fun β b => .func (.func 135) #[] #[pA b]) (fun β => aO #[.slice p.ea p.es.length p.ec] 24) 125 (fun β => #[.slice p.ea p.es.length p.ec]) (by kernel_rfl) (fun β extra => by kernel_rfl) (fun β => by kernel_rfl) (fun β b => by kernel_rfl) (fun β b => by kernel_rfl) (fun β b => by kernel_rfl) (fun β w1 k1 h1 => slAll_any p.ea p.es.length p.ec w1)⟩
      (fun β => ⟨[(2, .nilFunc), (3, .agg #[iV p.ll, iV p.lh, iV p.ul, iV p.uh, .slice p.ea p.es.length p.ec]), (6, .func (.func 135) #[] #[.pointer (some ⟨(β 4), 0, none⟩)])], [((β 4), aO #[.slice p.ea p.es.length p.ec] 24)]⟩) (fun β => by kernel_rfl) (fun β2 => ?_)
  refine run_ge0 0 (β2 4) (aO #[.slice p.ea p.es.length p.ec] 24) (by kernel_rfl) (fun _ h => h) (fun hge3 => ?_)
  refine run_nwl 124 #[.agg #[iV p.ll, iV p.lh, iV p.ul, iV p.uh, .slice p.ea p.es.length p.ec], .func (.func 135) #[] #[.pointer (some ⟨(β2 4), 0, none⟩)]] (some 7) (α := Nat × Nat) (fun x => .func (.func 133) #[] #[.pointer (some ⟨(x.1), 0, none⟩), .pointer (some ⟨(x.2), 0, none⟩)]) (fun x => [((x.1), aO #[.func (.func 135) #[] #[.pointer (some ⟨(β2 4), 0, none⟩)]] 161), ((x.2), aO #[iV p.ll, iV p.lh, iV p.ul, iV p.uh, .slice p.ea p.es.length p.ec] 26)]) (fun x => True) (by kernel_rfl) (fun x p hp => by simp only [List.mem_cons, List.not_mem_nil, or_false] at hp; rcases hp with rfl | rfl <;> rfl) (fun w1 k1 h1 => eventsOf_All p (β2 4) w1) (fun x hI4 hn4 => ?_)
  obtain ⟨bo4, bw4⟩ := x
  dsimp only at hI4 hn4
  have hbo4 := hn4 _ (List.mem_of_getElem? (i := 0) rfl)
  have hbw4 := hn4 _ (List.mem_of_getElem? (i := 1) rfl)
  refine run_auto [] 2 [] [] [2] [0, 1, 2] (st' := ⟨[(2, .func (.func 133) #[] #[pA bo4, pA bw4])], [(bo4, aO #[.func (.func 135) #[] #[.pointer (some ⟨(β2 4), 0, none⟩)]] 161), (bw4, aO #[iV p.ll, iV p.lh, iV p.ul, iV p.uh, .slice p.ea p.es.length p.ec] 26), ((β2 4), aO #[.slice p.ea p.es.length p.ec] 24)]⟩) (acc := []) (by kernel_rfl) (by kernel_rfl) trivial ?_
  refine run_end (fn := f103) rfl (Nat.le_refl _) (by kernel_rfl) [] [.func (.func 133) #[] #[pA bo4, pA bw4]] (e := []) (by kernel_rfl) trivial (fun w1 k1 h1 => ?_)
  refine ⟨(bo4, bw4, (β2 4)), trivial, rfl, k1.keeps (fun _ h => h), fun q hq => ?_, ?_⟩
  · simp only [List.mem_cons, List.not_mem_nil, or_false] at hq
    rcases hq with rfl | rfl | rfl
    · exact ⟨(h1 (bo4, _) (List.mem_of_getElem? (i := 0) rfl)), hbo4⟩
    · exact ⟨(h1 (bw4, _) (List.mem_of_getElem? (i := 1) rfl)), hbw4⟩
    · exact ⟨(h1 ((β2 4), _) (List.mem_of_getElem? (i := 2) rfl)), hge3⟩
  · have key : ∀ (b b2 : Nat) (o o2 : Obj), w1.heap[b]? = some o → w1.heap[b2]? = some o2 → o ≠ o2 → b ≠ b2 := fun b b2 o o2 q1 q2 hne he => by rw [he, q2] at q1; exact hne (Option.some.inj q1).symm
    refine List.pairwise_cons.2 ⟨fun q hq => ?_, ?_⟩
    · simp only [List.mem_cons, List.not_mem_nil, or_false] at hq
      rcases hq with rfl | rfl
      · exact key _ _ _ _ (h1 (bo4, _) (List.mem_of_getElem? (i := 0) rfl)) (h1 (bw4, _) (List.mem_of_getElem? (i := 1) rfl)) (by intro hx; first | (injection hx with _ hx; cases hx; done) | (injection hx with hx; cases hx; done) | cases hx)
      · exact key _ _ _ _ (h1 (bo4, _) (List.mem_of_getElem? (i := 0) rfl)) (h1 ((β2 4), _) (List.mem_of_getElem? (i := 2) rfl)) (by intro hx; first | (injection hx with _ hx; cases hx; done) | (injection hx with hx; cases hx; done) | cases hx)
    refine List.pairwise_cons.2 ⟨fun q hq => ?_, ?_⟩
    · simp only [List.mem_cons, List.not_mem_nil, or_false] at hq
      rcases hq with rfl
      · exact key _ _ _ _ (h1 (bw4, _) (List.mem_of_getElem? (i := 1) rfl)) (h1 ((β2 4), _) (List.mem_of_getElem? (i := 2) rfl)) (by intro hx; first | (injection hx with _ hx; cases hx; done) | (injection hx with hx; cases hx; done) | cases hx)
    exact List.pairwise_singleton _ _

set_option maxRecDepth 100000 in
theorem backward_any (p : Wb) (w : World)  : Calls Tryz.prog 131 #[.agg #[.int .i64 p.ll, .int .i64 p.lh, .int .i64 p.ul, .int .i64 p.uh, .slice p.ea p.es.length p.ec]] w (NwL (α := Nat × Nat × Nat) (fun x => .func (.func 133) #[] #[.pointer (some ⟨(x.1), 0, none⟩), .pointer (some ⟨(x.2.1), 0, none⟩)]) (fun x => [((x.1), .cells #[.func (.func 140) #[] #[.pointer (some ⟨(x.2.2), 0, none⟩)]] 161 (0, 0)), ((x.2.1), .cells #[.int .i64 p.ll, .int .i64 p.lh, .int .i64 p.ul, .int .i64 p.uh, .slice p.ea p.es.length p.ec] 26 (0, 0)), ((x.2.2), .cells #[.slice p.ea p.es.length p.ec] 24 (0, 0))]) (fun _ => True) w) := by
  refine calls_run (fn := f131) (c := (f131.body).getD .skip) [.agg #[.int .i64 p.ll, .int .i64 p.lh, .int .i64 p.ul, .int .i64 p.uh, .slice p.ea p.es.length p.ec]] func131 (by kernel_rfl) (fun _ => False) [] (fun _ h => by cases h) (List.Pairwise.nil) 8 (by kernel_rfl) (by simp) ?_
  refine run_auto [] 2 [] [] [0] [] (st' := ⟨[(0, .agg #[iV p.ll, iV p.lh, iV p.ul, iV p.uh, .slice p.ea p.es.length p.ec])], []⟩) (acc := []) (by kernel_rfl) (by kernel_rfl) trivial ?_
  refine run_new (aO #[iV p.ll, iV p.lh, iV p.ul, iV p.uh, .slice p.ea p.es.length p.ec] 26) (fun b1 => pA b1) (some 1) (fun _ => by kernel_rfl) (fun b1 hb1 => ?_)
  refine run_auto [] 3 [] [] [1, 2] [0] (st' := ⟨[(1, pA b1), (2, .nilFunc)], [(b1, aO #[iV p.ll, iV p.lh, iV p.ul, iV p.uh, .slice p.ea p.es.length p.ec] 26)]⟩) (acc := []) (by kernel_rfl) (by kernel_rfl) trivial ?_
  refine draw_cut 4 2 [{ val := fun _ => .agg #[iV p.ll, iV p.lh, iV p.ul, iV p.uh, .slice p.ea p.es.length p.ec], slots := [1], reads := [0] },
      { val := fun _ => .pointer (some ⟨b1, 4, none⟩), slots := [1] },
      { val := fun _ => .slice p.ea p.es.length p.ec, slots := [4], reads := [0] },
      { names := [4], val := fun l => .func (.func 140) #[] #[.pointer (some ⟨(l.getD 0 0), 0, none⟩)], upd := [(4, fun l => aO #[.slice p.ea p.es.length p.ec] 24)], news := [4], slots := [5] }] [[], [], [1], [1, 2], [0, 1, 2, 3], [0, 1, 2, 3, 4]] (by kernel_rfl) (by kernel_rfl) (by kernel_rfl) (by kernel_rfl) (by kernel_rfl) [2, 3, 6] [4] (by kernel_rfl)
      ⟨⟨⟨⟨trivial,
      tri_quietW (fun β => []) [0] [0] (fun β => [(pA b1, pA b1)]) (by kernel_rfl) (fun β extra => by kernel_rfl) (by kernel_rfl) (fun β => ⟨rfl, trivial⟩)⟩,
      tri_quietW (fun β => []) [] [] (fun β => []) (by kernel_rfl) (fun β extra => by kernel_rfl) (by kernel_rfl) (fun β => trivial)⟩,
      tri_quietW (fun β => []) [0] [0] (fun β => [(pA b1, pA b1)]) (by kernel_rfl) (fun β extra => by kernel_rfl) (by kernel_rfl) (fun β => ⟨rfl, trivial⟩)⟩,
      tri_nwW 4 (fun β b => .func (.func 140) #[] #[pA b]) (fun β => aO #[.slice p.ea p.es.length p.ec] 24) 137 (fun β => #[.slice p.ea p.es.length p.ec]) (by kernel_rfl) (fun β extra => by kernel_rfl) (fun β => by kernel_rfl) (fun β b => by kernel_rfl) (fun β b => by kernel_rfl) (fun β b => by kernel_rfl) (fun β w1 k1 h1 => slBackward_any p.ea p.es.length p.ec w1)⟩
      (fun β => ⟨[(2, .nilFunc), (3, .agg #[iV p.ll, iV p.lh, iV p.ul, iV p.uh, .slice p.ea p.es.length p.ec]), (6, .func (.func 140) #[] #[.pointer (some ⟨(β 4), 0, none⟩)])], [((β 4), aO #[.slice p.ea p.es.length p.ec] 24)]⟩) (fun β => by kernel_rfl) (fun β2 => ?_)
  refine run_ge0 0 (β2 4) (aO #[.slice p.ea p.es.length p.ec] 24) (by kernel_rfl) (fun _ h => h) (fun hge3 => ?_)
  refine run_nwl 124 #[.agg #[iV p.ll, iV p.lh, iV p.ul, iV p.uh, .slice p.ea p.es.length p.ec], .func (.func 140) #[] #[.pointer (some ⟨(β2 4), 0, none⟩)]] (some 7) (α := Nat × Nat) (fun x => .func (.func 133) #[] #[.pointer (some ⟨(x.1), 0, none⟩), .pointer (some ⟨(x.2), 0, none⟩)]) (fun x => [((x.1), aO #[.func (.func 140) #[] #[.pointer (some ⟨(β2 4), 0, none⟩)]] 161), ((x.2), aO #[iV p.ll, iV p.lh, iV p.ul, iV p.uh, .slice p.ea p.es.length p.ec] 26)]) (fun x => True) (by kernel_rfl) (fun x p hp => by simp only [List.mem_cons, List.not_mem_nil, or_false] at hp; rcases hp with rfl | rfl <;> rfl) (fun w1 k1 h1 => eventsOf_Backward p (β2 4) w1) (fun x hI4 hn4 => ?_)
  obtain ⟨bo4, bw4⟩ := x
  dsimp only at hI4 hn4
  have hbo4 := hn4 _ (List.mem_of_getElem? (i := 0) rfl)
  have hbw4 := hn4 _ (List.mem_of_getElem? (i := 1) rfl)
  refine run_auto [] 2 [] [] [2] [0, 1, 2] (st' := ⟨[(2, .func (.func 133) #[] #[pA bo4, pA bw4])], [(bo4, aO #[.func (.func 140) #[] #[.pointer (some ⟨(β2 4), 0, none⟩)]] 161), (bw4, aO #[iV p.ll, iV p.lh, iV p.ul, iV p.uh, .slice p.ea p.es.length p.ec] 26), ((β2 4), aO #[.slice p.ea p.es.length p.ec] 24)]⟩) (acc := []) (by kernel_rfl) (by kernel_rfl) trivial ?_
  refine run_end (fn := f131) rfl (Nat.le_refl _) (by kernel_rfl) [] [.func (.func 133) #[] #[pA bo4, pA bw4]] (e := []) (by kernel_rfl) trivial (fun w1 k1 h1 => ?_)
  refine ⟨(bo4, bw4, (β2 4)), trivial, rfl, k1.keeps (fun _ h => h), fun q hq => ?_, ?_⟩
  · simp only [List.mem_cons, List.not_mem_nil, or_false] at hq
    rcases hq with rfl | rfl | rfl
    · exact ⟨(h1 (bo4, _) (List.mem_of_getElem? (i := 0) rfl)), hbo4⟩
    · exact ⟨(h1 (bw4, _) (List.mem_of_getElem? (i := 1) rfl)), hbw4⟩
    · exact ⟨(h1 ((β2 4), _) (List.mem_of_getElem? (i := 2) rfl)), hge3⟩
  · have key : ∀ (b b2 : Nat) (o o2 : Obj), w1.heap[b]? = some o → w1.heap[b2]? = some o2 → o ≠ o2 → b ≠ b2 := fun b b2 o o2 q1 q2 hne he => by rw [he, q2] at q1; exact hne (Option.some.inj q1).symm
    refine List.pairwise_cons.2 ⟨fun q hq => ?_, ?_⟩
    · simp only [List.mem_cons, List.not_mem_nil, or_false] at hq
      rcases hq with rfl | rfl
      · exact key _ _ _ _ (h1 (bo4, _) (List.mem_of_getElem? (i := 0) rfl)) (h1 (bw4, _) (List.mem_of_getElem? (i := 1) rfl)) (by intro hx; first | (injection hx with _ hx; cases hx; done) | (injection hx with hx; cases hx; done) | cases hx)
      · exact key _ _ _ _ (h1 (bo4, _) (List.mem_of_getElem? (i := 0) rfl)) (h1 ((β2 4), _) (List.mem_of_getElem? (i := 2) rfl)) (by intro hx; first | (injection hx with _ hx; cases hx; done) | (injection hx with hx; cases hx; done) | cases hx)
    refine List.pairwise_cons.2 ⟨fun q hq => ?_, ?_⟩
    · simp only [List.mem_cons, List.not_mem_nil, or_false] at hq
      rcases hq with rfl
      · exact key _ _ _ _ (h1 (bw4, _) (List.mem_of_getElem? (i := 1) rfl)) (h1 ((β2 4), _) (List.mem_of_getElem? (i := 2) rfl)) (by intro hx; first | (injection hx with _ hx; cases hx; done) | (injection hx with hx; cases hx; done) | cases hx)
    exact List.pairwise_singleton _ _

end Go.Proofs.YtdehgplklgfcdaaGreat

namespace Go.Proofs.YtdehgplklgfcdaaGreat
open Go.RowKit Go.Proofs.Tryz


def spV (k : Sp) : List Value := [.int .i64 k.1, .int .i64 k.2]
def mF (w : Wn) (i k : Nat) : Sp := if k ≤ i then w.F k else (0, 0)
def mB (w : Wn) (j k : Nat) : Sp := if k < j then w.F k else if k ≤ w.es.length then w.B k else (0, 0)
def mC (w : Wn) (k : Nat) : Sp := if k ≤ w.es.length then w.B k else (0, 0)
def cF (w : Wn) (i k : Nat) : List Value := spV (mF w i k)
def cB (w : Wn) (j k : Nat) : List Value := spV (mB w j k)
def cC (w : Wn) (k : Nat) : List Value := spV (mC w k)
theorem mF_at (w : Wn) (i : Nat) : mF w i i = w.F i := if_pos (Nat.le_refl _)
theorem mF_bd {w : Wn} (h : w.Fine) {i : Nat} (hi : i ≤ w.es.length) : bdS (mF w i i) 3000 := by
  rw [mF_at]
  have := h.F_bd hi
  unfold bdS at *
  omega
theorem cF_step (w : Wn) {i : Nat} (hi : i < w.es.length) : ∀ j, j < 9 → cF w (i + 1) j = if j = i + 1 then [.int .i64 (fwdE w.u (elE w.es i) (mF w i i)).1, .int .i64 (fwdE w.u (elE w.es i) (mF w i i)).2] else cF w i j := by
  intro j _
  split
  · rename_i e
    subst e
    unfold cF mF
    rw [if_pos (Nat.le_refl _), if_pos (Nat.le_refl _), show w.F (i + 1) = fwdE w.u (elE w.es i) (w.F i) from FW_next _ _ hi]
    rfl
  · rename_i e
    unfold cF mF
    by_cases h : j ≤ i
    · rw [if_pos h, if_pos (by omega)]
    · rw [if_neg h, if_neg (by omega)]
theorem cF_all (w : Wn) : rowL 9 (cF w w.es.length) = rowL 9 (cB w w.es.length) := rowL_congr fun k _ => by
  unfold cF cB mF mB
  by_cases h : k < w.es.length
  · rw [if_pos h, if_pos (by omega)]
  · rw [if_neg h]
    by_cases h2 : k ≤ w.es.length
    · rw [if_pos h2, if_pos h2]
      have : k = w.es.length := by omega
      subst this
      rw [show w.B w.es.length = w.F w.es.length from BW_last _ _ _]
    · rw [if_neg h2, if_neg h2]
theorem mB_lo (w : Wn) (m : Nat) : mB w (m + 1) m = w.F m := if_pos (Nat.lt_succ_self m)
theorem mB_hi (w : Wn) {m : Nat} (h : m < w.es.length) : mB w (m + 1) (m + 1) = w.B (m + 1) := by unfold mB; rw [if_neg (Nat.lt_irrefl _), if_pos (by omega)]
theorem mB_bd {w : Wn} (h : w.Fine) {m : Nat} (hm : m < w.es.length) : bdS (mB w (m + 1) (m + 1)) 3000 := by
  rw [mB_hi w hm]
  have := h.B_bd (i := m + 1) (by omega)
  unfold bdS at *
  omega
theorem cB_step (w : Wn) {m : Nat} (hm : m < w.es.length) : ∀ j, j < 9 → cB w m j = if j = m then [.int .i64 (cutS (mB w (m + 1) m) (bckE w.u (elE w.es m) (mB w (m + 1) (m + 1)))).1, .int .i64 (cutS (mB w (m + 1) m) (bckE w.u (elE w.es m) (mB w (m + 1) (m + 1)))).2] else cB w (m + 1) j := by
  intro j _
  split
  · rename_i e
    subst e
    rw [mB_lo, mB_hi w hm]
    unfold cB mB
    rw [if_neg (Nat.lt_irrefl _), if_pos (by omega), show w.B j = cutS (w.F j) (bckE w.u (elE w.es j) (w.B (j + 1))) from BW_prev _ _ hm]
    rfl
  · rename_i e
    unfold cB mB
    by_cases h : j < m
    · rw [if_pos h, if_pos (show j < m + 1 by omega)]
    · rw [if_neg h, if_neg (show ¬ j < m + 1 by omega)]
theorem cB_all (w : Wn) : rowL 9 (cB w 0) = rowL 9 (cC w) := rowL_congr fun k _ => by
  unfold cB cC mB mC
  rw [if_neg (Nat.not_lt_zero _)]
set_option maxRecDepth 100000 in
theorem courseOf_any (p : Wb) (w : World) (hp : p.In w) (hF : p.n.Fine) : Calls Tryz.prog 122 #[.agg #[.int .i64 p.ll, .int .i64 p.lh, .int .i64 p.ul, .int .i64 p.uh, .slice p.ea p.es.length p.ec]] w (Ret (.agg (rowL 9 (cC p.n)).toArray) w) := by
  have hn8 := hF.n8
  have hn8 : p.es.length ≤ 8 := hn8
  refine calls_run (fn := f122) (c := (f122.body).getD .skip) [.agg #[.int .i64 p.ll, .int .i64 p.lh, .int .i64 p.ul, .int .i64 p.uh, .slice p.ea p.es.length p.ec]] func122 (by kernel_rfl) (fun _ => False) [] (fun _ h => by cases h) (List.Pairwise.nil) 48 (by kernel_rfl) (by simp) ?_
  refine run_auto [] 2 [] [] [0] [] (st' := ⟨[(0, .agg #[iV p.ll, iV p.lh, iV p.ul, iV p.uh, .slice p.ea p.es.length p.ec])], []⟩) (acc := []) (by kernel_rfl) (by kernel_rfl) trivial ?_
  refine run_new (aO #[iV p.ll, iV p.lh, iV p.ul, iV p.uh, .slice p.ea p.es.length p.ec] 26) (fun b1 => pA b1) (some 1) (fun _ => by kernel_rfl) (fun b1 hb1 => ?_)
  refine run_new (aO #[iV 0, iV 0, iV 0, iV 0, iV 0, iV 0, iV 0, iV 0, iV 0, iV 0, iV 0, iV 0, iV 0, iV 0, iV 0, iV 0, iV 0, iV 0] 77) (fun b2 => pA b2) (some 2) (fun _ => by kernel_rfl) (fun b2 hb2 => ?_)
  refine run_auto [] 7 [] [1] [1, 2, 11] [0, 1] (st' := ⟨[(1, pA b1), (2, pA b2), (11, .agg #[iV p.ll, iV p.lh, iV 0, iV 0, iV 0, iV 0, iV 0, iV 0, iV 0, iV 0, iV 0, iV 0, iV 0, iV 0, iV 0, iV 0, iV 0, iV 0])], [(b2, aO #[iV 0, iV 0, iV 0, iV 0, iV 0, iV 0, iV 0, iV 0, iV 0, iV 0, iV 0, iV 0, iV 0, iV 0, iV 0, iV 0, iV 0, iV 0] 77), (b1, aO #[iV p.ll, iV p.lh, iV p.ul, iV p.uh, .slice p.ea p.es.length p.ec] 26)]⟩) (acc := [(pA b1, pA b1)]) (by kernel_rfl) (by kernel_rfl) ⟨rfl, trivial⟩ ?_
  refine run_new (aO #[iV 0, iV 0, iV 0, iV 0, iV 0, iV 0, iV 0, iV 0, iV 0, iV 0, iV 0, iV 0, iV 0, iV 0, iV 0, iV 0, iV 0, iV 0] 77) (fun b3 => pA b3) (some 3) (fun _ => by kernel_rfl) (fun b3 hb3 => ?_)
  refine run_auto [] 6 [] [0, 2] [1, 2, 3, 12] [0, 1, 2] (st' := ⟨[(1, pA b1), (2, pA b2), (3, pA b3), (12, .agg #[iV p.ll, iV p.lh, iV p.ul, iV p.uh, .slice p.ea p.es.length p.ec])], [(b3, aO #[iV p.ll, iV p.lh, iV 0, iV 0, iV 0, iV 0, iV 0, iV 0, iV 0, iV 0, iV 0, iV 0, iV 0, iV 0, iV 0, iV 0, iV 0, iV 0] 77), (b2, aO #[iV 0, iV 0, iV 0, iV 0, iV 0, iV 0, iV 0, iV 0, iV 0, iV 0, iV 0, iV 0, iV 0, iV 0, iV 0, iV 0, iV 0, iV 0] 77), (b1, aO #[iV p.ll, iV p.lh, iV p.ul, iV p.uh, .slice p.ea p.es.length p.ec] 26)]⟩) (acc := [(pA b1, pA b1), (pA b3, pA b3)]) (by kernel_rfl) (by kernel_rfl) ⟨rfl, rfl, trivial⟩ ?_
  refine run_nwl 103 #[.agg #[iV p.ll, iV p.lh, iV p.ul, iV p.uh, .slice p.ea p.es.length p.ec]] (some 13) (α := Nat × Nat × Nat) (fun x => .func (.func 133) #[] #[.pointer (some ⟨(x.1), 0, none⟩), .pointer (some ⟨(x.2.1), 0, none⟩)]) (fun x => [((x.1), aO #[.func (.func 135) #[] #[.pointer (some ⟨(x.2.2), 0, none⟩)]] 161), ((x.2.1), aO #[iV p.ll, iV p.lh, iV p.ul, iV p.uh, .slice p.ea p.es.length p.ec] 26), ((x.2.2), aO #[.slice p.ea p.es.length p.ec] 24)]) (fun x => True) (by kernel_rfl) (fun x p hp => by simp only [List.mem_cons, List.not_mem_nil, or_false] at hp; rcases hp with rfl | rfl | rfl <;> rfl) (fun w1 k1 h1 => onward_any p w1) (fun x hI4 hn4 => ?_)
  obtain ⟨bo4, bw4, bs4⟩ := x
  dsimp only at hI4 hn4
  have hbo4 := hn4 _ (List.mem_of_getElem? (i := 0) rfl)
  have hbw4 := hn4 _ (List.mem_of_getElem? (i := 1) rfl)
  have hbs4 := hn4 _ (List.mem_of_getElem? (i := 2) rfl)
  refine run_auto [] 2 [] [] [1, 2, 3, 13] [0, 1, 2, 3, 4, 5] (st' := ⟨[(1, pA b1), (2, pA b2), (3, pA b3), (13, .func (.func 133) #[] #[pA bo4, pA bw4])], [(bo4, aO #[.func (.func 135) #[] #[pA bs4]] 161), (bw4, aO #[iV p.ll, iV p.lh, iV p.ul, iV p.uh, .slice p.ea p.es.length p.ec] 26), (bs4, aO #[.slice p.ea p.es.length p.ec] 24), (b3, aO #[iV p.ll, iV p.lh, iV 0, iV 0, iV 0, iV 0, iV 0, iV 0, iV 0, iV 0, iV 0, iV 0, iV 0, iV 0, iV 0, iV 0, iV 0, iV 0] 77), (b2, aO #[iV 0, iV 0, iV 0, iV 0, iV 0, iV 0, iV 0, iV 0, iV 0, iV 0, iV 0, iV 0, iV 0, iV 0, iV 0, iV 0, iV 0, iV 0] 77), (b1, aO #[iV p.ll, iV p.lh, iV p.ul, iV p.uh, .slice p.ea p.es.length p.ec] 26)]⟩) (acc := []) (by kernel_rfl) (by kernel_rfl) trivial ?_
  refine run_auto [] 0 [] [] [1, 2, 3, 13] [0, 1, 2, 3, 4, 5] (st' := ⟨[(1, pA b1), (2, pA b2), (3, pA b3), (13, .func (.func 133) #[] #[pA bo4, pA bw4])], [(bo4, aO #[.func (.func 135) #[] #[pA bs4]] 161), (bw4, aO #[iV p.ll, iV p.lh, iV p.ul, iV p.uh, .slice p.ea p.es.length p.ec] 26), (bs4, aO #[.slice p.ea p.es.length p.ec] 24), (b3, cO (rowL 9 (cF p.n 0)) 77), (b2, aO #[iV 0, iV 0, iV 0, iV 0, iV 0, iV 0, iV 0, iV 0, iV 0, iV 0, iV 0, iV 0, iV 0, iV 0, iV 0, iV 0, iV 0, iV 0] 77), (b1, aO #[iV p.ll, iV p.lh, iV p.ul, iV p.uh, .slice p.ea p.es.length p.ec] 26)]⟩) (acc := []) (by kernel_rfl) (by kernel_rfl) trivial ?_
  refine run_range (σ := Nat) (τ := Unit) 133 #[pA bo4, pA bw4] [14, 15] [(bo4, aO #[.func (.func 135) #[] #[pA bs4]] 161), (bw4, aO #[iV p.ll, iV p.lh, iV p.ul, iV p.uh, .slice p.ea p.es.length p.ec] 26), (bs4, aO #[.slice p.ea p.es.length p.ec] 24)] [(b3, cO (rowL 9 (cF p.n 0)) 77), (b2, aO #[iV 0, iV 0, iV 0, iV 0, iV 0, iV 0, iV 0, iV 0, iV 0, iV 0, iV 0, iV 0, iV 0, iV 0, iV 0, iV 0, iV 0, iV 0] 77), (b1, aO #[iV p.ll, iV p.lh, iV p.ul, iV p.uh, .slice p.ea p.es.length p.ec] 26)] (EvsD p.es p.ea) (fun l => l <+: rgL p.es.length (evI (p.ul, p.uh) p.es)) (fun l => l = rgL p.es.length (evI (p.ul, p.uh) p.es)) (by kernel_rfl) rfl rfl (fun l => by kernel_rfl) rfl (by kernel_rfl) (fun pre x hx => by rw [(rgL_at hx).2.2]; rfl) (Gives.own (events_All p bo4 bw4 bs4 hF.n8)) (fun D w1 k1 hD => (hp.ev.evD (D := fun _ => False) (fun _ _ h => h)).kept k1 hD)
    (fun s => [(b3, cO (rowL 9 (cF p.n s)) 77), (b2, aO #[iV 0, iV 0, iV 0, iV 0, iV 0, iV 0, iV 0, iV 0, iV 0, iV 0, iV 0, iV 0, iV 0, iV 0, iV 0, iV 0, iV 0, iV 0] 77), (b1, aO #[iV p.ll, iV p.lh, iV p.ul, iV p.uh, .slice p.ea p.es.length p.ec] 26)]) (fun s => Ext.none) (fun pre s => s = (pre).length) (fun y => []) (fun y => Ext.none) (fun c y => False) (0) (rfl) rfl rfl (fun _ _ _ => ⟨rfl, fun _ _ h => h.elim⟩) (fun _ _ _ => rfl)
    (fun pre x s hpre hI l0 ms ro ob w0 Jb Jn Je hkk hll hbeg hnext hexit => ?_) (fun ys s hys hI => ?_) (fun c y hI => ?_)
  · skip
    have hpre : pre ++ [x] <+: rgL p.es.length (evI (p.ul, p.uh) p.es) := hpre
    have hx := rgL_at hpre
    rw [← hI] at hx
    have hsn := hx.1
    obtain rfl := hx.2.2
    refine run_auto [] 7 [] [] [2, 3, 4, 5] [0, 1, 2] (st' := ⟨[(2, pA b2), (3, pA b3), (4, iV (s : Int)), (5, evV (p.ul, p.uh) (elE p.es s))], [(b3, cO (rowL 9 (cF p.n s)) 77), (b2, aO #[iV 0, iV 0, iV 0, iV 0, iV 0, iV 0, iV 0, iV 0, iV 0, iV 0, iV 0, iV 0, iV 0, iV 0, iV 0, iV 0, iV 0, iV 0] 77), (b1, aO #[iV p.ll, iV p.lh, iV p.ul, iV p.uh, .slice p.ea p.es.length p.ec] 26)]⟩) (acc := []) (by kernel_rfl) (by kernel_rfl) trivial ?_
    refine run_round rfl (hbeg _ ?_)
    refine run_auto [] 1 [] [] [2, 3, 4, 5] [0, 1, 2] (st' := ⟨[(2, pA b2), (3, pA b3), (4, iV (s : Int)), (5, evV (p.ul, p.uh) (elE p.es s))], [(b3, cO (rowL 9 (cF p.n s)) 77), (b2, aO #[iV 0, iV 0, iV 0, iV 0, iV 0, iV 0, iV 0, iV 0, iV 0, iV 0, iV 0, iV 0, iV 0, iV 0, iV 0, iV 0, iV 0, iV 0] 77), (b1, aO #[iV p.ll, iV p.lh, iV p.ul, iV p.uh, .slice p.ea p.es.length p.ec] 26)]⟩) (acc := []) (by kernel_rfl) (by kernel_rfl) trivial ?_
    cases hd1 : ((elE p.es s).1 == 0) with
    | false =>
      have hp1 : ¬ (elE p.es s).1 = 0 := by simpa using hd1
      cases hd2 : ((elE p.es s).1 == 2) with
      | false =>
        have hp2 : ¬ (elE p.es s).1 = 2 := by simpa using hd2
        rw [show evV (p.ul, p.uh) (elE p.es s) = .iface 175 (.agg #[iV (elE p.es s).2.2.1, iV (elE p.es s).2.2.2]) from by unfold evV; rw [hd1, hd2]; rfl]
        refine draw 12 [{ val := fun _ => iV (s : Int), slots := [4] },
                  { val := fun _ => iV ((s + 1 : Nat) : Int), slots := [16] },
                  { val := fun _ => .iface 175 (.agg #[iV (elE p.es s).2.2.1, iV (elE p.es s).2.2.2]), slots := [5] },
                  { val := fun _ => iV (s : Int), slots := [4] },
                  { val := fun _ => .pointer (some ⟨b3, s * 2, none⟩), slots := [3, 19] },
                  { val := fun _ => .agg #[iV (mF p.n s s).1, iV (mF p.n s s).2], slots := [20], reads := [0] },
                  { val := fun _ => .func (.method "blockworks/wear.forward") #[.iface 175 (.agg #[iV (elE p.es s).2.2.1, iV (elE p.es s).2.2.2])] #[], slots := [18] },
                  { val := fun _ => .func (.method "blockworks/wear.forward") #[.iface 175 (.agg #[iV (elE p.es s).2.2.1, iV (elE p.es s).2.2.2])] #[], slots := [22] },
                  { val := fun _ => .iface 175 (.agg #[iV (elE p.es s).2.2.1, iV (elE p.es s).2.2.2]), slots := [18] },
                  { val := fun _ => .agg #[iV ((fwdE (p.ul, p.uh) (elE p.es s) (mF p.n s s)).1), iV ((fwdE (p.ul, p.uh) (elE p.es s) (mF p.n s s)).2)], slots := [21, 24] },
                  { val := fun _ => .pointer (some ⟨b3, (s + 1 : Nat) * 2, none⟩), slots := [3, 17] },
                  { upd := [(0, fun _ => cO (rowL 9 (cF p.n (s + 1))) 77)], slots := [25, 26], reads := [0] }] [[], [0], [], [], [3], [3, 4], [2], [2, 6], [2, 6, 7], [2, 3, 4, 5, 6, 7, 8], [0, 1, 2, 3, 4, 5, 6, 7, 8, 9], [0, 1, 2, 3, 4, 5, 6, 7, 8, 9, 10]] (by kernel_rfl) (by kernel_rfl) (by kernel_rfl) (by kernel_rfl) [2] [0, 1, 2] (by kernel_rfl)
                  ⟨⟨⟨⟨⟨⟨⟨⟨⟨⟨⟨⟨trivial,
                  tri_quiet (fun β => []) [] [] (fun β => []) (by kernel_rfl) (fun β extra => by kernel_rfl) (by kernel_rfl) (fun β => trivial)⟩,
                  tri_quiet (fun β => [(17, iV ((s + 1 : Nat) : Int))]) [] [] (fun β => [(iV (IntKind.i64.wrap ((s : Int) + 1)), iV ((s + 1 : Nat) : Int))]) (by kernel_rfl) (fun β extra => by kernel_rfl) (by kernel_rfl) (fun β => ⟨(wr (by omega) (by omega)), trivial⟩)⟩,
                  tri_quiet (fun β => []) [] [] (fun β => []) (by kernel_rfl) (fun β extra => by kernel_rfl) (by kernel_rfl) (fun β => trivial)⟩,
                  tri_quiet (fun β => []) [] [] (fun β => []) (by kernel_rfl) (fun β extra => by kernel_rfl) (by kernel_rfl) (fun β => trivial)⟩,
                  tri_v (fun β => (Instr.indexAt 77 (pA b3) (iV (s : Int)) >>= fun v => pure (Next.value v))) (by kernel_rfl) (fun β extra => by kernel_rfl) (fun β => by kernel_rfl) (fun β w1 k1 h1 => idxA_run (e := 75) (n := 2) (len := 9) (by kernel_rfl) (by kernel_rfl) b3 (0) .i64 s (by omega) (s * 2) (by omega) w1)⟩,
                  tri_v (fun β => (Instr.loadAt 75 (.pointer (some ⟨b3, s * 2, none⟩)) >>= fun v => pure (Next.value v))) (by kernel_rfl) (fun β extra => by kernel_rfl) (fun β => by kernel_rfl) (fun β w1 k1 h1 => load_own (e := 77) (fr := (0, 0)) (c := rowL 9 (cF p.n s)) h1 (List.mem_of_getElem? (i := 0) (by kernel_rfl)) (row_loadS (n := 2) (i := s) (by kernel_rfl) (by kernel_rfl) (fun _ _ => rfl) (by omega)))⟩,
                  tri_quiet (fun β => []) [] [] (fun β => []) (by kernel_rfl) (fun β extra => by kernel_rfl) (by kernel_rfl) (fun β => trivial)⟩,
                  tri_quiet (fun β => []) [] [] (fun β => []) (by kernel_rfl) (fun β extra => by kernel_rfl) (by kernel_rfl) (fun β => trivial)⟩,
                  tri_quiet (fun β => []) [] [] (fun β => []) (by kernel_rfl) (fun β extra => by kernel_rfl) (by kernel_rfl) (fun β => trivial)⟩,
                  tri_call 162 (fun β => #[.agg #[iV (elE p.es s).2.2.1, iV (elE p.es s).2.2.2], .agg #[iV (mF p.n s s).1, iV (mF p.n s s).2]]) (by kernel_rfl) (fun β extra => by kernel_rfl) (fun β => by kernel_rfl) (fun β w1 k1 h1 => f2_any (p.ul, p.uh) (elE p.es s) (mF p.n s s) w1 hd1 hd2)⟩,
                  tri_v (fun β => (Instr.indexAt 77 (pA b3) (iV ((s + 1 : Nat) : Int)) >>= fun v => pure (Next.value v))) (by kernel_rfl) (fun β extra => by kernel_rfl) (fun β => by kernel_rfl) (fun β w1 k1 h1 => idxA_run (e := 75) (n := 2) (len := 9) (by kernel_rfl) (by kernel_rfl) b3 (0) .i64 (s + 1 : Nat) (by omega) ((s + 1 : Nat) * 2) (by omega) w1)⟩,
                  tri_store (fun β => b3) ((s + 1 : Nat) * 2) 75 (fun β => .agg #[iV ((fwdE (p.ul, p.uh) (elE p.es s) (mF p.n s s)).1), iV ((fwdE (p.ul, p.uh) (elE p.es s) (mF p.n s s)).2)]) (rowL 9 (cF p.n s)) (rowL 9 (cF p.n (s + 1))) 77 (by kernel_rfl) (by kernel_rfl) (fun β extra => by kernel_rfl) (fun β => by kernel_rfl) (fun β => by kernel_rfl) (fun β => row_store (n := 2) (i := (s + 1 : Nat)) (by kernel_rfl) (by rfl) rfl rfl (fun _ _ => rfl) (by omega) (cF_step p.n hsn))⟩
                  (fun β => ⟨[(2, pA b2)], [(b3, cO (rowL 9 (cF p.n (s + 1))) 77), (b2, aO #[iV 0, iV 0, iV 0, iV 0, iV 0, iV 0, iV 0, iV 0, iV 0, iV 0, iV 0, iV 0, iV 0, iV 0, iV 0, iV 0, iV 0, iV 0] 77), (b1, aO #[iV p.ll, iV p.lh, iV p.ul, iV p.uh, .slice p.ea p.es.length p.ec] 26)]⟩) (fun β => by kernel_rfl) (fun β5 => ?_)
        refine run_auto [] 1 [] [] [] [0, 1, 2] (st' := ⟨[], [(b3, cO (rowL 9 (cF p.n (s + 1))) 77), (b2, aO #[iV 0, iV 0, iV 0, iV 0, iV 0, iV 0, iV 0, iV 0, iV 0, iV 0, iV 0, iV 0, iV 0, iV 0, iV 0, iV 0, iV 0, iV 0] 77), (b1, aO #[iV p.ll, iV p.lh, iV p.ul, iV p.uh, .slice p.ea p.es.length p.ec] 26)]⟩) (acc := []) (by kernel_rfl) (by kernel_rfl) trivial ?_
        exact run_nil rfl (fun a w1 g => hnext (s + 1) _ (by rw [List.length_append, ← hI]; rfl) (fun b h => h.elim) a w1 g)
      | true =>
        have hp2 : (elE p.es s).1 = 2 := by simpa using hd2
        rw [show evV (p.ul, p.uh) (elE p.es s) = .iface 173 (.agg #[iV (elE p.es s).2.2.1, iV (elE p.es s).2.2.2]) from by unfold evV; rw [hd1, hd2]; rfl]
        refine draw 12 [{ val := fun _ => iV (s : Int), slots := [4] },
                  { val := fun _ => iV ((s + 1 : Nat) : Int), slots := [16] },
                  { val := fun _ => .iface 173 (.agg #[iV (elE p.es s).2.2.1, iV (elE p.es s).2.2.2]), slots := [5] },
                  { val := fun _ => iV (s : Int), slots := [4] },
                  { val := fun _ => .pointer (some ⟨b3, s * 2, none⟩), slots := [3, 19] },
                  { val := fun _ => .agg #[iV (mF p.n s s).1, iV (mF p.n s s).2], slots := [20], reads := [0] },
                  { val := fun _ => .func (.method "blockworks/wear.forward") #[.iface 173 (.agg #[iV (elE p.es s).2.2.1, iV (elE p.es s).2.2.2])] #[], slots := [18] },
                  { val := fun _ => .func (.method "blockworks/wear.forward") #[.iface 173 (.agg #[iV (elE p.es s).2.2.1, iV (elE p.es s).2.2.2])] #[], slots := [22] },
                  { val := fun _ => .iface 173 (.agg #[iV (elE p.es s).2.2.1, iV (elE p.es s).2.2.2]), slots := [18] },
                  { val := fun _ => .agg #[iV ((fwdE (p.ul, p.uh) (elE p.es s) (mF p.n s s)).1), iV ((fwdE (p.ul, p.uh) (elE p.es s) (mF p.n s s)).2)], slots := [21, 24] },
                  { val := fun _ => .pointer (some ⟨b3, (s + 1 : Nat) * 2, none⟩), slots := [3, 17] },
                  { upd := [(0, fun _ => cO (rowL 9 (cF p.n (s + 1))) 77)], slots := [25, 26], reads := [0] }] [[], [0], [], [], [3], [3, 4], [2], [2, 6], [2, 6, 7], [2, 3, 4, 5, 6, 7, 8], [0, 1, 2, 3, 4, 5, 6, 7, 8, 9], [0, 1, 2, 3, 4, 5, 6, 7, 8, 9, 10]] (by kernel_rfl) (by kernel_rfl) (by kernel_rfl) (by kernel_rfl) [2] [0, 1, 2] (by kernel_rfl)
                  ⟨⟨⟨⟨⟨⟨⟨⟨⟨⟨⟨⟨trivial,
                  tri_quiet (fun β => []) [] [] (fun β => []) (by kernel_rfl) (fun β extra => by kernel_rfl) (by kernel_rfl) (fun β => trivial)⟩,
                  tri_quiet (fun β => [(17, iV ((s + 1 : Nat) : Int))]) [] [] (fun β => [(iV (IntKind.i64.wrap ((s : Int) + 1)), iV ((s + 1 : Nat) : Int))]) (by kernel_rfl) (fun β extra => by kernel_rfl) (by kernel_rfl) (fun β => ⟨(wr (by omega) (by omega)), trivial⟩)⟩,
                  tri_quiet (fun β => []) [] [] (fun β => []) (by kernel_rfl) (fun β extra => by kernel_rfl) (by kernel_rfl) (fun β => trivial)⟩,
                  tri_quiet (fun β => []) [] [] (fun β => []) (by kernel_rfl) (fun β extra => by kernel_rfl) (by kernel_rfl) (fun β => trivial)⟩,
                  tri_v (fun β => (Instr.indexAt 77 (pA b3) (iV (s : Int)) >>= fun v => pure (Next.value v))) (by kernel_rfl) (fun β extra => by kernel_rfl) (fun β => by kernel_rfl) (fun β w1 k1 h1 => idxA_run (e := 75) (n := 2) (len := 9) (by kernel_rfl) (by kernel_rfl) b3 (0) .i64 s (by omega) (s * 2) (by omega) w1)⟩,
                  tri_v (fun β => (Instr.loadAt 75 (.pointer (some ⟨b3, s * 2, none⟩)) >>= fun v => pure (Next.value v))) (by kernel_rfl) (fun β extra => by kernel_rfl) (fun β => by kernel_rfl) (fun β w1 k1 h1 => load_own (e := 77) (fr := (0, 0)) (c := rowL 9 (cF p.n s)) h1 (List.mem_of_getElem? (i := 0) (by kernel_rfl)) (row_loadS (n := 2) (i := s) (by kernel_rfl) (by kernel_rfl) (fun _ _ => rfl) (by omega)))⟩,
                  tri_quiet (fun β => []) [] [] (fun β => []) (by kernel_rfl) (fun β extra => by kernel_rfl) (by kernel_rfl) (fun β => trivial)⟩,
                  tri_quiet (fun β => []) [] [] (fun β => []) (by kernel_rfl) (fun β extra => by kernel_rfl) (by kernel_rfl) (fun β => trivial)⟩,
                  tri_quiet (fun β => []) [] [] (fun β => []) (by kernel_rfl) (fun β extra => by kernel_rfl) (by kernel_rfl) (fun β => trivial)⟩,
                  tri_call 160 (fun β => #[.agg #[iV (elE p.es s).2.2.1, iV (elE p.es s).2.2.2], .agg #[iV (mF p.n s s).1, iV (mF p.n s s).2]]) (by kernel_rfl) (fun β extra => by kernel_rfl) (fun β => by kernel_rfl) (fun β w1 k1 h1 => f1_any (p.ul, p.uh) (elE p.es s) (mF p.n s s) w1 (hF.ev _ (elE_mem hsn)) (mF_bd hF (Nat.le_of_lt hsn)) hd1 hd2)⟩,
                  tri_v (fun β => (Instr.indexAt 77 (pA b3) (iV ((s + 1 : Nat) : Int)) >>= fun v => pure (Next.value v))) (by kernel_rfl) (fun β extra => by kernel_rfl) (fun β => by kernel_rfl) (fun β w1 k1 h1 => idxA_run (e := 75) (n := 2) (len := 9) (by kernel_rfl) (by kernel_rfl) b3 (0) .i64 (s + 1 : Nat) (by omega) ((s + 1 : Nat) * 2) (by omega) w1)⟩,
                  tri_store (fun β => b3) ((s + 1 : Nat) * 2) 75 (fun β => .agg #[iV ((fwdE (p.ul, p.uh) (elE p.es s) (mF p.n s s)).1), iV ((fwdE (p.ul, p.uh) (elE p.es s) (mF p.n s s)).2)]) (rowL 9 (cF p.n s)) (rowL 9 (cF p.n (s + 1))) 77 (by kernel_rfl) (by kernel_rfl) (fun β extra => by kernel_rfl) (fun β => by kernel_rfl) (fun β => by kernel_rfl) (fun β => row_store (n := 2) (i := (s + 1 : Nat)) (by kernel_rfl) (by rfl) rfl rfl (fun _ _ => rfl) (by omega) (cF_step p.n hsn))⟩
                  (fun β => ⟨[(2, pA b2)], [(b3, cO (rowL 9 (cF p.n (s + 1))) 77), (b2, aO #[iV 0, iV 0, iV 0, iV 0, iV 0, iV 0, iV 0, iV 0, iV 0, iV 0, iV 0, iV 0, iV 0, iV 0, iV 0, iV 0, iV 0, iV 0] 77), (b1, aO #[iV p.ll, iV p.lh, iV p.ul, iV p.uh, .slice p.ea p.es.length p.ec] 26)]⟩) (fun β => by kernel_rfl) (fun β5 => ?_)
        refine run_auto [] 1 [] [] [] [0, 1, 2] (st' := ⟨[], [(b3, cO (rowL 9 (cF p.n (s + 1))) 77), (b2, aO #[iV 0, iV 0, iV 0, iV 0, iV 0, iV 0, iV 0, iV 0, iV 0, iV 0, iV 0, iV 0, iV 0, iV 0, iV 0, iV 0, iV 0, iV 0] 77), (b1, aO #[iV p.ll, iV p.lh, iV p.ul, iV p.uh, .slice p.ea p.es.length p.ec] 26)]⟩) (acc := []) (by kernel_rfl) (by kernel_rfl) trivial ?_
        exact run_nil rfl (fun a w1 g => hnext (s + 1) _ (by rw [List.length_append, ← hI]; rfl) (fun b h => h.elim) a w1 g)
    | true =>
      have hp1 : (elE p.es s).1 = 0 := by simpa using hd1
      rw [show evV (p.ul, p.uh) (elE p.es s) = .iface 171 (.agg #[iV (elE p.es s).2.1, iV (p.ul, p.uh).1, iV (p.ul, p.uh).2]) from by unfold evV; rw [hd1]; rfl]
      refine draw 12 [{ val := fun _ => iV (s : Int), slots := [4] },
              { val := fun _ => iV ((s + 1 : Nat) : Int), slots := [16] },
              { val := fun _ => .iface 171 (.agg #[iV (elE p.es s).2.1, iV (p.ul, p.uh).1, iV (p.ul, p.uh).2]), slots := [5] },
              { val := fun _ => iV (s : Int), slots := [4] },
              { val := fun _ => .pointer (some ⟨b3, s * 2, none⟩), slots := [3, 19] },
              { val := fun _ => .agg #[iV (mF p.n s s).1, iV (mF p.n s s).2], slots := [20], reads := [0] },
              { val := fun _ => .func (.method "blockworks/wear.forward") #[.iface 171 (.agg #[iV (elE p.es s).2.1, iV (p.ul, p.uh).1, iV (p.ul, p.uh).2])] #[], slots := [18] },
              { val := fun _ => .func (.method "blockworks/wear.forward") #[.iface 171 (.agg #[iV (elE p.es s).2.1, iV (p.ul, p.uh).1, iV (p.ul, p.uh).2])] #[], slots := [22] },
              { val := fun _ => .iface 171 (.agg #[iV (elE p.es s).2.1, iV (p.ul, p.uh).1, iV (p.ul, p.uh).2]), slots := [18] },
              { val := fun _ => .agg #[iV ((fwdE (p.ul, p.uh) (elE p.es s) (mF p.n s s)).1), iV ((fwdE (p.ul, p.uh) (elE p.es s) (mF p.n s s)).2)], slots := [21, 24] },
              { val := fun _ => .pointer (some ⟨b3, (s + 1 : Nat) * 2, none⟩), slots := [3, 17] },
              { upd := [(0, fun _ => cO (rowL 9 (cF p.n (s + 1))) 77)], slots := [25, 26], reads := [0] }] [[], [0], [], [], [3], [3, 4], [2], [2, 6], [2, 6, 7], [2, 3, 4, 5, 6, 7, 8], [0, 1, 2, 3, 4, 5, 6, 7, 8, 9], [0, 1, 2, 3, 4, 5, 6, 7, 8, 9, 10]] (by kernel_rfl) (by kernel_rfl) (by kernel_rfl) (by kernel_rfl) [2] [0, 1, 2] (by kernel_rfl)
              ⟨⟨⟨⟨⟨⟨⟨⟨⟨⟨⟨⟨trivial,
              tri_quiet (fun β => []) [] [] (fun β => []) (by kernel_rfl) (fun β extra => by kernel_rfl) (by kernel_rfl) (fun β => trivial)⟩,
              tri_quiet (fun β => [(17, iV ((s + 1 : Nat) : Int))]) [] [] (fun β => [(iV (IntKind.i64.wrap ((s : Int) + 1)), iV ((s + 1 : Nat) : Int))]) (by kernel_rfl) (fun β extra => by kernel_rfl) (by kernel_rfl) (fun β => ⟨(wr (by omega) (by omega)), trivial⟩)⟩,
              tri_quiet (fun β => []) [] [] (fun β => []) (by kernel_rfl) (fun β extra => by kernel_rfl) (by kernel_rfl) (fun β => trivial)⟩,
              tri_quiet (fun β => []) [] [] (fun β => []) (by kernel_rfl) (fun β extra => by kernel_rfl) (by kernel_rfl) (fun β => trivial)⟩,
              tri_v (fun β => (Instr.indexAt 77 (pA b3) (iV (s : Int)) >>= fun v => pure (Next.value v))) (by kernel_rfl) (fun β extra => by kernel_rfl) (fun β => by kernel_rfl) (fun β w1 k1 h1 => idxA_run (e := 75) (n := 2) (len := 9) (by kernel_rfl) (by kernel_rfl) b3 (0) .i64 s (by omega) (s * 2) (by omega) w1)⟩,
              tri_v (fun β => (Instr.loadAt 75 (.pointer (some ⟨b3, s * 2, none⟩)) >>= fun v => pure (Next.value v))) (by kernel_rfl) (fun β extra => by kernel_rfl) (fun β => by kernel_rfl) (fun β w1 k1 h1 => load_own (e := 77) (fr := (0, 0)) (c := rowL 9 (cF p.n s)) h1 (List.mem_of_getElem? (i := 0) (by kernel_rfl)) (row_loadS (n := 2) (i := s) (by kernel_rfl) (by kernel_rfl) (fun _ _ => rfl) (by omega)))⟩,
              tri_quiet (fun β => []) [] [] (fun β => []) (by kernel_rfl) (fun β extra => by kernel_rfl) (by kernel_rfl) (fun β => trivial)⟩,
              tri_quiet (fun β => []) [] [] (fun β => []) (by kernel_rfl) (fun β extra => by kernel_rfl) (by kernel_rfl) (fun β => trivial)⟩,
              tri_quiet (fun β => []) [] [] (fun β => []) (by kernel_rfl) (fun β extra => by kernel_rfl) (by kernel_rfl) (fun β => trivial)⟩,
              tri_call 157 (fun β => #[.agg #[iV (elE p.es s).2.1, iV (p.ul, p.uh).1, iV (p.ul, p.uh).2], .agg #[iV (mF p.n s s).1, iV (mF p.n s s).2]]) (by kernel_rfl) (fun β extra => by kernel_rfl) (fun β => by kernel_rfl) (fun β w1 k1 h1 => f0_any (p.ul, p.uh) (elE p.es s) (mF p.n s s) w1 hF.u (hF.ev _ (elE_mem hsn)) (mF_bd hF (Nat.le_of_lt hsn)) hd1)⟩,
              tri_v (fun β => (Instr.indexAt 77 (pA b3) (iV ((s + 1 : Nat) : Int)) >>= fun v => pure (Next.value v))) (by kernel_rfl) (fun β extra => by kernel_rfl) (fun β => by kernel_rfl) (fun β w1 k1 h1 => idxA_run (e := 75) (n := 2) (len := 9) (by kernel_rfl) (by kernel_rfl) b3 (0) .i64 (s + 1 : Nat) (by omega) ((s + 1 : Nat) * 2) (by omega) w1)⟩,
              tri_store (fun β => b3) ((s + 1 : Nat) * 2) 75 (fun β => .agg #[iV ((fwdE (p.ul, p.uh) (elE p.es s) (mF p.n s s)).1), iV ((fwdE (p.ul, p.uh) (elE p.es s) (mF p.n s s)).2)]) (rowL 9 (cF p.n s)) (rowL 9 (cF p.n (s + 1))) 77 (by kernel_rfl) (by kernel_rfl) (fun β extra => by kernel_rfl) (fun β => by kernel_rfl) (fun β => by kernel_rfl) (fun β => row_store (n := 2) (i := (s + 1 : Nat)) (by kernel_rfl) (by rfl) rfl rfl (fun _ _ => rfl) (by omega) (cF_step p.n hsn))⟩
              (fun β => ⟨[(2, pA b2)], [(b3, cO (rowL 9 (cF p.n (s + 1))) 77), (b2, aO #[iV 0, iV 0, iV 0, iV 0, iV 0, iV 0, iV 0, iV 0, iV 0, iV 0, iV 0, iV 0, iV 0, iV 0, iV 0, iV 0, iV 0, iV 0] 77), (b1, aO #[iV p.ll, iV p.lh, iV p.ul, iV p.uh, .slice p.ea p.es.length p.ec] 26)]⟩) (fun β => by kernel_rfl) (fun β5 => ?_)
      refine run_auto [] 1 [] [] [] [0, 1, 2] (st' := ⟨[], [(b3, cO (rowL 9 (cF p.n (s + 1))) 77), (b2, aO #[iV 0, iV 0, iV 0, iV 0, iV 0, iV 0, iV 0, iV 0, iV 0, iV 0, iV 0, iV 0, iV 0, iV 0, iV 0, iV 0, iV 0, iV 0] 77), (b1, aO #[iV p.ll, iV p.lh, iV p.ul, iV p.uh, .slice p.ea p.es.length p.ec] 26)]⟩) (acc := []) (by kernel_rfl) (by kernel_rfl) trivial ?_
      exact run_nil rfl (fun a w1 g => hnext (s + 1) _ (by rw [List.length_append, ← hI]; rfl) (fun b h => h.elim) a w1 g)
  · skip
    obtain rfl : ys = rgL p.es.length (evI (p.ul, p.uh) p.es) := hys
    obtain rfl : s = p.es.length := by rw [hI, rgL_len]
    rw [show rowL 9 (cF p.n p.es.length) = rowL 9 (cB p.n p.es.length) from cF_all p.n]
    refine run_auto [] 5 [] [2] [2, 3, 27] [0, 1] (st' := ⟨[(2, pA b2), (3, pA b3), (27, .agg #[iV p.ll, iV p.lh, iV p.ul, iV p.uh, .slice p.ea p.es.length p.ec])], [(b3, cO (rowL 9 (cB p.n p.es.length)) 77), (b2, aO #[iV 0, iV 0, iV 0, iV 0, iV 0, iV 0, iV 0, iV 0, iV 0, iV 0, iV 0, iV 0, iV 0, iV 0, iV 0, iV 0, iV 0, iV 0] 77)]⟩) (acc := [(pA b1, pA b1)]) (by kernel_rfl) (by kernel_rfl) ⟨rfl, trivial⟩ ?_
    refine run_nwl 131 #[.agg #[iV p.ll, iV p.lh, iV p.ul, iV p.uh, .slice p.ea p.es.length p.ec]] (some 28) (α := Nat × Nat × Nat) (fun x => .func (.func 133) #[] #[.pointer (some ⟨(x.1), 0, none⟩), .pointer (some ⟨(x.2.1), 0, none⟩)]) (fun x => [((x.1), aO #[.func (.func 140) #[] #[.pointer (some ⟨(x.2.2), 0, none⟩)]] 161), ((x.2.1), aO #[iV p.ll, iV p.lh, iV p.ul, iV p.uh, .slice p.ea p.es.length p.ec] 26), ((x.2.2), aO #[.slice p.ea p.es.length p.ec] 24)]) (fun x => True) (by kernel_rfl) (fun x p hp => by simp only [List.mem_cons, List.not_mem_nil, or_false] at hp; rcases hp with rfl | rfl | rfl <;> rfl) (fun w1 k1 h1 => backward_any p w1) (fun x hI5 hn5 => ?_)
    obtain ⟨bo5, bw5, bs5⟩ := x
    dsimp only at hI5 hn5
    have hbo5 := hn5 _ (List.mem_of_getElem? (i := 0) rfl)
    have hbw5 := hn5 _ (List.mem_of_getElem? (i := 1) rfl)
    have hbs5 := hn5 _ (List.mem_of_getElem? (i := 2) rfl)
    refine run_auto [] 2 [] [] [2, 3, 28] [0, 1, 2, 3, 4] (st' := ⟨[(2, pA b2), (3, pA b3), (28, .func (.func 133) #[] #[pA bo5, pA bw5])], [(bo5, aO #[.func (.func 140) #[] #[pA bs5]] 161), (bw5, aO #[iV p.ll, iV p.lh, iV p.ul, iV p.uh, .slice p.ea p.es.length p.ec] 26), (bs5, aO #[.slice p.ea p.es.length p.ec] 24), (b3, cO (rowL 9 (cB p.n p.es.length)) 77), (b2, aO #[iV 0, iV 0, iV 0, iV 0, iV 0, iV 0, iV 0, iV 0, iV 0, iV 0, iV 0, iV 0, iV 0, iV 0, iV 0, iV 0, iV 0, iV 0] 77)]⟩) (acc := []) (by kernel_rfl) (by kernel_rfl) trivial ?_
    refine run_auto [] 0 [] [] [2, 3, 28] [0, 1, 2, 3, 4] (st' := ⟨[(2, pA b2), (3, pA b3), (28, .func (.func 133) #[] #[pA bo5, pA bw5])], [(bo5, aO #[.func (.func 140) #[] #[pA bs5]] 161), (bw5, aO #[iV p.ll, iV p.lh, iV p.ul, iV p.uh, .slice p.ea p.es.length p.ec] 26), (bs5, aO #[.slice p.ea p.es.length p.ec] 24), (b3, cO (rowL 9 (cB p.n p.es.length)) 77), (b2, aO #[iV 0, iV 0, iV 0, iV 0, iV 0, iV 0, iV 0, iV 0, iV 0, iV 0, iV 0, iV 0, iV 0, iV 0, iV 0, iV 0, iV 0, iV 0] 77)]⟩) (acc := []) (by kernel_rfl) (by kernel_rfl) trivial ?_
    refine run_range (σ := Nat) (τ := Unit) 133 #[pA bo5, pA bw5] [29, 30] [(bo5, aO #[.func (.func 140) #[] #[pA bs5]] 161), (bw5, aO #[iV p.ll, iV p.lh, iV p.ul, iV p.uh, .slice p.ea p.es.length p.ec] 26), (bs5, aO #[.slice p.ea p.es.length p.ec] 24)] [(b3, cO (rowL 9 (cB p.n p.es.length)) 77), (b2, aO #[iV 0, iV 0, iV 0, iV 0, iV 0, iV 0, iV 0, iV 0, iV 0, iV 0, iV 0, iV 0, iV 0, iV 0, iV 0, iV 0, iV 0, iV 0] 77)] (EvsD p.es p.ea) (fun l => l <+: rgL p.es.length (revN p.es.length (evI (p.ul, p.uh) p.es))) (fun l => l = rgL p.es.length (revN p.es.length (evI (p.ul, p.uh) p.es))) (by kernel_rfl) rfl rfl (fun l => by kernel_rfl) rfl (by kernel_rfl) (fun pre x hx => by rw [(rgL_at hx).2.2]; rfl) (Gives.own (events_Backward p bo5 bw5 bs5 hF.n8)) (fun D w1 k1 hD => (hp.ev.evD (D := fun _ => False) (fun _ _ h => h)).kept k1 hD)
      (fun s => [(b3, cO (rowL 9 (cB p.n s)) 77), (b2, aO #[iV 0, iV 0, iV 0, iV 0, iV 0, iV 0, iV 0, iV 0, iV 0, iV 0, iV 0, iV 0, iV 0, iV 0, iV 0, iV 0, iV 0, iV 0] 77)]) (fun s => Ext.none) (fun pre s => s + (pre).length = p.es.length) (fun y => []) (fun y => Ext.none) (fun c y => False) (p.es.length) (rfl) rfl rfl (fun _ _ _ => ⟨rfl, fun _ _ h => h.elim⟩) (fun _ _ _ => rfl)
      (fun pre x s hpre hI l0 ms ro ob w0 Jb Jn Je hkk hll hbeg hnext hexit => ?_) (fun ys s hys hI => ?_) (fun c y hI => ?_)
    · skip
      have hpre : pre ++ [x] <+: rgL p.es.length (revN p.es.length (evI (p.ul, p.uh) p.es)) := hpre
      have hx := rgL_at hpre
      have hlt := hx.1
      obtain ⟨m, rfl⟩ : ∃ m, s = m + 1 := ⟨s - 1, by omega⟩
      have hxe := hx.2.2
      rw [show revN p.es.length (evI (p.ul, p.uh) p.es) pre.length = evI (p.ul, p.uh) p.es m from by unfold revN; rw [show p.es.length - 1 - pre.length = m from by omega]] at hxe
      subst hxe
      have hsn : m < p.es.length := by omega
      refine run_auto [] 7 [] [] [2, 3, 6, 7] [0, 1] (st' := ⟨[(2, pA b2), (3, pA b3), (6, iV (m : Int)), (7, evV (p.ul, p.uh) (elE p.es m))], [(b3, cO (rowL 9 (cB p.n (m + 1))) 77), (b2, aO #[iV 0, iV 0, iV 0, iV 0, iV 0, iV 0, iV 0, iV 0, iV 0, iV 0, iV 0, iV 0, iV 0, iV 0, iV 0, iV 0, iV 0, iV 0] 77)]⟩) (acc := []) (by kernel_rfl) (by kernel_rfl) trivial ?_
      refine run_round rfl (hbeg _ ?_)
      refine run_auto [] 1 [] [] [2, 3, 6, 7] [0, 1] (st' := ⟨[(2, pA b2), (3, pA b3), (6, iV (m : Int)), (7, evV (p.ul, p.uh) (elE p.es m))], [(b3, cO (rowL 9 (cB p.n (m + 1))) 77), (b2, aO #[iV 0, iV 0, iV 0, iV 0, iV 0, iV 0, iV 0, iV 0, iV 0, iV 0, iV 0, iV 0, iV 0, iV 0, iV 0, iV 0, iV 0, iV 0] 77)]⟩) (acc := []) (by kernel_rfl) (by kernel_rfl) trivial ?_
      cases hd1 : ((elE p.es m).1 == 0) with
      | false =>
        have hp1 : ¬ (elE p.es m).1 = 0 := by simpa using hd1
        cases hd2 : ((elE p.es m).1 == 2) with
        | false =>
          have hp2 : ¬ (elE p.es m).1 = 2 := by simpa using hd2
          rw [show evV (p.ul, p.uh) (elE p.es m) = .iface 175 (.agg #[iV (elE p.es m).2.2.1, iV (elE p.es m).2.2.2]) from by unfold evV; rw [hd1, hd2]; rfl]
          refine draw 17 [{ val := fun _ => iV (m : Int), slots := [6] },
                      { val := fun _ => iV (m : Int), slots := [6] },
                      { val := fun _ => .pointer (some ⟨b3, m * 2, none⟩), slots := [3, 32] },
                      { val := fun _ => .agg #[iV ((mB p.n (m + 1) m).1), iV ((mB p.n (m + 1) m).2)], slots := [33], reads := [0] },
                      { val := fun _ => .iface 175 (.agg #[iV (elE p.es m).2.2.1, iV (elE p.es m).2.2.2]), slots := [7] },
                      { val := fun _ => iV (m : Int), slots := [6] },
                      { val := fun _ => iV ((m + 1 : Nat) : Int), slots := [36] },
                      { val := fun _ => .pointer (some ⟨b3, (m + 1 : Nat) * 2, none⟩), slots := [3, 37] },
                      { val := fun _ => .agg #[iV ((mB p.n (m + 1) (m + 1 : Nat)).1), iV ((mB p.n (m + 1) (m + 1 : Nat)).2)], slots := [38], reads := [0] },
                      { val := fun _ => .func (.method "blockworks/wear.back") #[.iface 175 (.agg #[iV (elE p.es m).2.2.1, iV (elE p.es m).2.2.2])] #[], slots := [35] },
                      { val := fun _ => .func (.method "blockworks/wear.back") #[.iface 175 (.agg #[iV (elE p.es m).2.2.1, iV (elE p.es m).2.2.2])] #[], slots := [40] },
                      { val := fun _ => .iface 175 (.agg #[iV (elE p.es m).2.2.1, iV (elE p.es m).2.2.2]), slots := [35] },
                      { val := fun _ => .agg #[iV ((bckE (p.ul, p.uh) (elE p.es m) (mB p.n (m + 1) (m + 1 : Nat))).1), iV ((bckE (p.ul, p.uh) (elE p.es m) (mB p.n (m + 1) (m + 1 : Nat))).2)], slots := [39, 42] },
                      { names := [15], val := fun l => .slice (some ⟨(l.getD 0 0), 0, none⟩) 1 1, upd := [(15, fun l => aO #[iV ((bckE (p.ul, p.uh) (elE p.es m) (mB p.n (m + 1) (m + 1 : Nat))).1), iV ((bckE (p.ul, p.uh) (elE p.es m) (mB p.n (m + 1) (m + 1 : Nat))).2)] 75)], news := [15], slots := [43] },
                      { val := fun _ => .agg #[iV ((cutS (mB p.n (m + 1) m) (bckE (p.ul, p.uh) (elE p.es m) (mB p.n (m + 1) (m + 1 : Nat)))).1), iV ((cutS (mB p.n (m + 1) m) (bckE (p.ul, p.uh) (elE p.es m) (mB p.n (m + 1) (m + 1 : Nat)))).2)], slots := [34, 44], reads := [15] },
                      { val := fun _ => .pointer (some ⟨b3, m * 2, none⟩), slots := [3, 31] },
                      { upd := [(0, fun _ => cO (rowL 9 (cB p.n m)) 77)], slots := [45, 46], reads := [0] }] [[], [], [1], [1, 2], [], [], [5], [5, 6], [5, 6, 7], [4], [4, 9], [4, 9, 10], [4, 5, 6, 7, 8, 9, 10, 11], [4, 5, 6, 7, 8, 9, 10, 11, 12], [1, 2, 3, 4, 5, 6, 7, 8, 9, 10, 11, 12, 13], [0, 1, 2, 3, 4, 5, 6, 7, 8, 9, 10, 11, 12, 13, 14], [0, 1, 2, 3, 4, 5, 6, 7, 8, 9, 10, 11, 12, 13, 14, 15]] (by kernel_rfl) (by kernel_rfl) (by kernel_rfl) (by kernel_rfl) [2] [0, 1] (by kernel_rfl)
                      ⟨⟨⟨⟨⟨⟨⟨⟨⟨⟨⟨⟨⟨⟨⟨⟨⟨trivial,
                      tri_quiet (fun β => []) [] [] (fun β => []) (by kernel_rfl) (fun β extra => by kernel_rfl) (by kernel_rfl) (fun β => trivial)⟩,
                      tri_quiet (fun β => []) [] [] (fun β => []) (by kernel_rfl) (fun β extra => by kernel_rfl) (by kernel_rfl) (fun β => trivial)⟩,
                      tri_v (fun β => (Instr.indexAt 77 (pA b3) (iV (m : Int)) >>= fun v => pure (Next.value v))) (by kernel_rfl) (fun β extra => by kernel_rfl) (fun β => by kernel_rfl) (fun β w1 k1 h1 => idxA_run (e := 75) (n := 2) (len := 9) (by kernel_rfl) (by kernel_rfl) b3 (0) .i64 m (by omega) (m * 2) (by omega) w1)⟩,
                      tri_v (fun β => (Instr.loadAt 75 (.pointer (some ⟨b3, m * 2, none⟩)) >>= fun v => pure (Next.value v))) (by kernel_rfl) (fun β extra => by kernel_rfl) (fun β => by kernel_rfl) (fun β w1 k1 h1 => load_own (e := 77) (fr := (0, 0)) (c := rowL 9 (cB p.n (m + 1))) h1 (List.mem_of_getElem? (i := 0) (by kernel_rfl)) (row_loadS (n := 2) (i := m) (by kernel_rfl) (by kernel_rfl) (fun _ _ => rfl) (by omega)))⟩,
                      tri_quiet (fun β => []) [] [] (fun β => []) (by kernel_rfl) (fun β extra => by kernel_rfl) (by kernel_rfl) (fun β => trivial)⟩,
                      tri_quiet (fun β => []) [] [] (fun β => []) (by kernel_rfl) (fun β extra => by kernel_rfl) (by kernel_rfl) (fun β => trivial)⟩,
                      tri_quiet (fun β => [(37, iV ((m + 1 : Nat) : Int))]) [] [] (fun β => [(iV (IntKind.i64.wrap ((m : Int) + 1)), iV ((m + 1 : Nat) : Int))]) (by kernel_rfl) (fun β extra => by kernel_rfl) (by kernel_rfl) (fun β => ⟨(wr (by omega) (by omega)), trivial⟩)⟩,
                      tri_v (fun β => (Instr.indexAt 77 (pA b3) (iV ((m + 1 : Nat) : Int)) >>= fun v => pure (Next.value v))) (by kernel_rfl) (fun β extra => by kernel_rfl) (fun β => by kernel_rfl) (fun β w1 k1 h1 => idxA_run (e := 75) (n := 2) (len := 9) (by kernel_rfl) (by kernel_rfl) b3 (0) .i64 (m + 1 : Nat) (by omega) ((m + 1 : Nat) * 2) (by omega) w1)⟩,
                      tri_v (fun β => (Instr.loadAt 75 (.pointer (some ⟨b3, (m + 1 : Nat) * 2, none⟩)) >>= fun v => pure (Next.value v))) (by kernel_rfl) (fun β extra => by kernel_rfl) (fun β => by kernel_rfl) (fun β w1 k1 h1 => load_own (e := 77) (fr := (0, 0)) (c := rowL 9 (cB p.n (m + 1))) h1 (List.mem_of_getElem? (i := 0) (by kernel_rfl)) (row_loadS (n := 2) (i := (m + 1 : Nat)) (by kernel_rfl) (by kernel_rfl) (fun _ _ => rfl) (by omega)))⟩,
                      tri_quiet (fun β => []) [] [] (fun β => []) (by kernel_rfl) (fun β extra => by kernel_rfl) (by kernel_rfl) (fun β => trivial)⟩,
                      tri_quiet (fun β => []) [] [] (fun β => []) (by kernel_rfl) (fun β extra => by kernel_rfl) (by kernel_rfl) (fun β => trivial)⟩,
                      tri_quiet (fun β => []) [] [] (fun β => []) (by kernel_rfl) (fun β extra => by kernel_rfl) (by kernel_rfl) (fun β => trivial)⟩,
                      tri_call 161 (fun β => #[.agg #[iV (elE p.es m).2.2.1, iV (elE p.es m).2.2.2], .agg #[iV ((mB p.n (m + 1) (m + 1 : Nat)).1), iV ((mB p.n (m + 1) (m + 1 : Nat)).2)]]) (by kernel_rfl) (fun β extra => by kernel_rfl) (fun β => by kernel_rfl) (fun β w1 k1 h1 => b2_any (p.ul, p.uh) (elE p.es m) (mB p.n (m + 1) (m + 1 : Nat)) w1 hd1 hd2)⟩,
                      tri_new 15 (fun β => aO #[iV ((bckE (p.ul, p.uh) (elE p.es m) (mB p.n (m + 1) (m + 1 : Nat))).1), iV ((bckE (p.ul, p.uh) (elE p.es m) (mB p.n (m + 1) (m + 1 : Nat))).2)] 75) (fun β b => sV b 1 1) [0] (by kernel_rfl) (fun β extra b => by kernel_rfl) (by kernel_rfl) (fun β b => by kernel_rfl) (fun β b => by kernel_rfl) (fun β b => by kernel_rfl)⟩,
                      tri_call 111 (fun β => #[.agg #[iV ((mB p.n (m + 1) m).1), iV ((mB p.n (m + 1) m).2)], .slice (some ⟨(β 15), 0, none⟩) 1 1]) (by kernel_rfl) (fun β extra => by kernel_rfl) (fun β => by kernel_rfl) (fun β w1 k1 h1 => cut_any (β 15) ((mB p.n (m + 1) m).1) ((mB p.n (m + 1) m).2) ((bckE (p.ul, p.uh) (elE p.es m) (mB p.n (m + 1) (m + 1 : Nat))).1) ((bckE (p.ul, p.uh) (elE p.es m) (mB p.n (m + 1) (m + 1 : Nat))).2) w1 (h1 ((β 15), aO #[iV ((bckE (p.ul, p.uh) (elE p.es m) (mB p.n (m + 1) (m + 1 : Nat))).1), iV ((bckE (p.ul, p.uh) (elE p.es m) (mB p.n (m + 1) (m + 1 : Nat))).2)] 75) (List.mem_of_getElem? (i := 0) (by kernel_rfl))))⟩,
                      tri_v (fun β => (Instr.indexAt 77 (pA b3) (iV (m : Int)) >>= fun v => pure (Next.value v))) (by kernel_rfl) (fun β extra => by kernel_rfl) (fun β => by kernel_rfl) (fun β w1 k1 h1 => idxA_run (e := 75) (n := 2) (len := 9) (by kernel_rfl) (by kernel_rfl) b3 (0) .i64 m (by omega) (m * 2) (by omega) w1)⟩,
                      tri_store (fun β => b3) (m * 2) 75 (fun β => .agg #[iV ((cutS (mB p.n (m + 1) m) (bckE (p.ul, p.uh) (elE p.es m) (mB p.n (m + 1) (m + 1 : Nat)))).1), iV ((cutS (mB p.n (m + 1) m) (bckE (p.ul, p.uh) (elE p.es m) (mB p.n (m + 1) (m + 1 : Nat)))).2)]) (rowL 9 (cB p.n (m + 1))) (rowL 9 (cB p.n m)) 77 (by kernel_rfl) (by kernel_rfl) (fun β extra => by kernel_rfl) (fun β => by kernel_rfl) (fun β => by kernel_rfl) (fun β => row_store (n := 2) (i := m) (by kernel_rfl) (by rfl) rfl rfl (fun _ _ => rfl) (by omega) (cB_step p.n hsn))⟩
                      (fun β => ⟨[(2, pA b2)], [(b3, cO (rowL 9 (cB p.n m)) 77), (b2, aO #[iV 0, iV 0, iV 0, iV 0, iV 0, iV 0, iV 0, iV 0, iV 0, iV 0, iV 0, iV 0, iV 0, iV 0, iV 0, iV 0, iV 0, iV 0] 77)]⟩) (fun β => by kernel_rfl) (fun β6 => ?_)
          refine run_auto [] 1 [] [] [] [0, 1] (st' := ⟨[], [(b3, cO (rowL 9 (cB p.n m)) 77), (b2, aO #[iV 0, iV 0, iV 0, iV 0, iV 0, iV 0, iV 0, iV 0, iV 0, iV 0, iV 0, iV 0, iV 0, iV 0, iV 0, iV 0, iV 0, iV 0] 77)]⟩) (acc := []) (by kernel_rfl) (by kernel_rfl) trivial ?_
          exact run_nil rfl (fun a w1 g => hnext m _ (by rw [List.length_append, List.length_singleton]; omega) (fun b h => h.elim) a w1 g)
        | true =>
          have hp2 : (elE p.es m).1 = 2 := by simpa using hd2
          rw [show evV (p.ul, p.uh) (elE p.es m) = .iface 173 (.agg #[iV (elE p.es m).2.2.1, iV (elE p.es m).2.2.2]) from by unfold evV; rw [hd1, hd2]; rfl]
          refine draw 17 [{ val := fun _ => iV (m : Int), slots := [6] },
                      { val := fun _ => iV (m : Int), slots := [6] },
                      { val := fun _ => .pointer (some ⟨b3, m * 2, none⟩), slots := [3, 32] },
                      { val := fun _ => .agg #[iV ((mB p.n (m + 1) m).1), iV ((mB p.n (m + 1) m).2)], slots := [33], reads := [0] },
                      { val := fun _ => .iface 173 (.agg #[iV (elE p.es m).2.2.1, iV (elE p.es m).2.2.2]), slots := [7] },
                      { val := fun _ => iV (m : Int), slots := [6] },
                      { val := fun _ => iV ((m + 1 : Nat) : Int), slots := [36] },
                      { val := fun _ => .pointer (some ⟨b3, (m + 1 : Nat) * 2, none⟩), slots := [3, 37] },
                      { val := fun _ => .agg #[iV ((mB p.n (m + 1) (m + 1 : Nat)).1), iV ((mB p.n (m + 1) (m + 1 : Nat)).2)], slots := [38], reads := [0] },
                      { val := fun _ => .func (.method "blockworks/wear.back") #[.iface 173 (.agg #[iV (elE p.es m).2.2.1, iV (elE p.es m).2.2.2])] #[], slots := [35] },
                      { val := fun _ => .func (.method "blockworks/wear.back") #[.iface 173 (.agg #[iV (elE p.es m).2.2.1, iV (elE p.es m).2.2.2])] #[], slots := [40] },
                      { val := fun _ => .iface 173 (.agg #[iV (elE p.es m).2.2.1, iV (elE p.es m).2.2.2]), slots := [35] },
                      { val := fun _ => .agg #[iV ((bckE (p.ul, p.uh) (elE p.es m) (mB p.n (m + 1) (m + 1 : Nat))).1), iV ((bckE (p.ul, p.uh) (elE p.es m) (mB p.n (m + 1) (m + 1 : Nat))).2)], slots := [39, 42] },
                      { names := [15], val := fun l => .slice (some ⟨(l.getD 0 0), 0, none⟩) 1 1, upd := [(15, fun l => aO #[iV ((bckE (p.ul, p.uh) (elE p.es m) (mB p.n (m + 1) (m + 1 : Nat))).1), iV ((bckE (p.ul, p.uh) (elE p.es m) (mB p.n (m + 1) (m + 1 : Nat))).2)] 75)], news := [15], slots := [43] },
                      { val := fun _ => .agg #[iV ((cutS (mB p.n (m + 1) m) (bckE (p.ul, p.uh) (elE p.es m) (mB p.n (m + 1) (m + 1 : Nat)))).1), iV ((cutS (mB p.n (m + 1) m) (bckE (p.ul, p.uh) (elE p.es m) (mB p.n (m + 1) (m + 1 : Nat)))).2)], slots := [34, 44], reads := [15] },
                      { val := fun _ => .pointer (some ⟨b3, m * 2, none⟩), slots := [3, 31] },
                      { upd := [(0, fun _ => cO (rowL 9 (cB p.n m)) 77)], slots := [45, 46], reads := [0] }] [[], [], [1], [1, 2], [], [], [5], [5, 6], [5, 6, 7], [4], [4, 9], [4, 9, 10], [4, 5, 6, 7, 8, 9, 10, 11], [4, 5, 6, 7, 8, 9, 10, 11, 12], [1, 2, 3, 4, 5, 6, 7, 8, 9, 10, 11, 12, 13], [0, 1, 2, 3, 4, 5, 6, 7, 8, 9, 10, 11, 12, 13, 14], [0, 1, 2, 3, 4, 5, 6, 7, 8, 9, 10, 11, 12, 13, 14, 15]] (by kernel_rfl) (by kernel_rfl) (by kernel_rfl) (by kernel_rfl) [2] [0, 1] (by kernel_rfl)
                      ⟨⟨⟨⟨⟨⟨⟨⟨⟨⟨⟨⟨⟨⟨⟨⟨⟨trivial,
                      tri_quiet (fun β => []) [] [] (fun β => []) (by kernel_rfl) (fun β extra => by kernel_rfl) (by kernel_rfl) (fun β => trivial)⟩,
                      tri_quiet (fun β => []) [] [] (fun β => []) (by kernel_rfl) (fun β extra => by kernel_rfl) (by kernel_rfl) (fun β => trivial)⟩,
                      tri_v (fun β => (Instr.indexAt 77 (pA b3) (iV (m : Int)) >>= fun v => pure (Next.value v))) (by kernel_rfl) (fun β extra => by kernel_rfl) (fun β => by kernel_rfl) (fun β w1 k1 h1 => idxA_run (e := 75) (n := 2) (len := 9) (by kernel_rfl) (by kernel_rfl) b3 (0) .i64 m (by omega) (m * 2) (by omega) w1)⟩,
                      tri_v (fun β => (Instr.loadAt 75 (.pointer (some ⟨b3, m * 2, none⟩)) >>= fun v => pure (Next.value v))) (by kernel_rfl) (fun β extra => by kernel_rfl) (fun β => by kernel_rfl) (fun β w1 k1 h1 => load_own (e := 77) (fr := (0, 0)) (c := rowL 9 (cB p.n (m + 1))) h1 (List.mem_of_getElem? (i := 0) (by kernel_rfl)) (row_loadS (n := 2) (i := m) (by kernel_rfl) (by kernel_rfl) (fun _ _ => rfl) (by omega)))⟩,
                      tri_quiet (fun β => []) [] [] (fun β => []) (by kernel_rfl) (fun β extra => by kernel_rfl) (by kernel_rfl) (fun β => trivial)⟩,
                      tri_quiet (fun β => []) [] [] (fun β => []) (by kernel_rfl) (fun β extra => by kernel_rfl) (by kernel_rfl) (fun β => trivial)⟩,
                      tri_quiet (fun β => [(37, iV ((m + 1 : Nat) : Int))]) [] [] (fun β => [(iV (IntKind.i64.wrap ((m : Int) + 1)), iV ((m + 1 : Nat) : Int))]) (by kernel_rfl) (fun β extra => by kernel_rfl) (by kernel_rfl) (fun β => ⟨(wr (by omega) (by omega)), trivial⟩)⟩,
                      tri_v (fun β => (Instr.indexAt 77 (pA b3) (iV ((m + 1 : Nat) : Int)) >>= fun v => pure (Next.value v))) (by kernel_rfl) (fun β extra => by kernel_rfl) (fun β => by kernel_rfl) (fun β w1 k1 h1 => idxA_run (e := 75) (n := 2) (len := 9) (by kernel_rfl) (by kernel_rfl) b3 (0) .i64 (m + 1 : Nat) (by omega) ((m + 1 : Nat) * 2) (by omega) w1)⟩,
                      tri_v (fun β => (Instr.loadAt 75 (.pointer (some ⟨b3, (m + 1 : Nat) * 2, none⟩)) >>= fun v => pure (Next.value v))) (by kernel_rfl) (fun β extra => by kernel_rfl) (fun β => by kernel_rfl) (fun β w1 k1 h1 => load_own (e := 77) (fr := (0, 0)) (c := rowL 9 (cB p.n (m + 1))) h1 (List.mem_of_getElem? (i := 0) (by kernel_rfl)) (row_loadS (n := 2) (i := (m + 1 : Nat)) (by kernel_rfl) (by kernel_rfl) (fun _ _ => rfl) (by omega)))⟩,
                      tri_quiet (fun β => []) [] [] (fun β => []) (by kernel_rfl) (fun β extra => by kernel_rfl) (by kernel_rfl) (fun β => trivial)⟩,
                      tri_quiet (fun β => []) [] [] (fun β => []) (by kernel_rfl) (fun β extra => by kernel_rfl) (by kernel_rfl) (fun β => trivial)⟩,
                      tri_quiet (fun β => []) [] [] (fun β => []) (by kernel_rfl) (fun β extra => by kernel_rfl) (by kernel_rfl) (fun β => trivial)⟩,
                      tri_call 159 (fun β => #[.agg #[iV (elE p.es m).2.2.1, iV (elE p.es m).2.2.2], .agg #[iV ((mB p.n (m + 1) (m + 1 : Nat)).1), iV ((mB p.n (m + 1) (m + 1 : Nat)).2)]]) (by kernel_rfl) (fun β extra => by kernel_rfl) (fun β => by kernel_rfl) (fun β w1 k1 h1 => b1_any (p.ul, p.uh) (elE p.es m) (mB p.n (m + 1) (m + 1 : Nat)) w1 (hF.ev _ (elE_mem hsn)) (mB_bd hF hsn) hd1 hd2)⟩,
                      tri_new 15 (fun β => aO #[iV ((bckE (p.ul, p.uh) (elE p.es m) (mB p.n (m + 1) (m + 1 : Nat))).1), iV ((bckE (p.ul, p.uh) (elE p.es m) (mB p.n (m + 1) (m + 1 : Nat))).2)] 75) (fun β b => sV b 1 1) [0] (by kernel_rfl) (fun β extra b => by kernel_rfl) (by kernel_rfl) (fun β b => by kernel_rfl) (fun β b => by kernel_rfl) (fun β b => by kernel_rfl)⟩,
                      tri_call 111 (fun β => #[.agg #[iV ((mB p.n (m + 1) m).1), iV ((mB p.n (m + 1) m).2)], .slice (some ⟨(β 15), 0, none⟩) 1 1]) (by kernel_rfl) (fun β extra => by kernel_rfl) (fun β => by kernel_rfl) (fun β w1 k1 h1 => cut_any (β 15) ((mB p.n (m + 1) m).1) ((mB p.n (m + 1) m).2) ((bckE (p.ul, p.uh) (elE p.es m) (mB p.n (m + 1) (m + 1 : Nat))).1) ((bckE (p.ul, p.uh) (elE p.es m) (mB p.n (m + 1) (m + 1 : Nat))).2) w1 (h1 ((β 15), aO #[iV ((bckE (p.ul, p.uh) (elE p.es m) (mB p.n (m + 1) (m + 1 : Nat))).1), iV ((bckE (p.ul, p.uh) (elE p.es m) (mB p.n (m + 1) (m + 1 : Nat))).2)] 75) (List.mem_of_getElem? (i := 0) (by kernel_rfl))))⟩,
                      tri_v (fun β => (Instr.indexAt 77 (pA b3) (iV (m : Int)) >>= fun v => pure (Next.value v))) (by kernel_rfl) (fun β extra => by kernel_rfl) (fun β => by kernel_rfl) (fun β w1 k1 h1 => idxA_run (e := 75) (n := 2) (len := 9) (by kernel_rfl) (by kernel_rfl) b3 (0) .i64 m (by omega) (m * 2) (by omega) w1)⟩,
                      tri_store (fun β => b3) (m * 2) 75 (fun β => .agg #[iV ((cutS (mB p.n (m + 1) m) (bckE (p.ul, p.uh) (elE p.es m) (mB p.n (m + 1) (m + 1 : Nat)))).1), iV ((cutS (mB p.n (m + 1) m) (bckE (p.ul, p.uh) (elE p.es m) (mB p.n (m + 1) (m + 1 : Nat)))).2)]) (rowL 9 (cB p.n (m + 1))) (rowL 9 (cB p.n m)) 77 (by kernel_rfl) (by kernel_rfl) (fun β extra => by kernel_rfl) (fun β => by kernel_rfl) (fun β => by kernel_rfl) (fun β => row_store (n := 2) (i := m) (by kernel_rfl) (by rfl) rfl rfl (fun _ _ => rfl) (by omega) (cB_step p.n hsn))⟩
                      (fun β => ⟨[(2, pA b2)], [(b3, cO (rowL 9 (cB p.n m)) 77), (b2, aO #[iV 0, iV 0, iV 0, iV 0, iV 0, iV 0, iV 0, iV 0, iV 0, iV 0, iV 0, iV 0, iV 0, iV 0, iV 0, iV 0, iV 0, iV 0] 77)]⟩) (fun β => by kernel_rfl) (fun β6 => ?_)
          refine run_auto [] 1 [] [] [] [0, 1] (st' := ⟨[], [(b3, cO (rowL 9 (cB p.n m)) 77), (b2, aO #[iV 0, iV 0, iV 0, iV 0, iV 0, iV 0, iV 0, iV 0, iV 0, iV 0, iV 0, iV 0, iV 0, iV 0, iV 0, iV 0, iV 0, iV 0] 77)]⟩) (acc := []) (by kernel_rfl) (by kernel_rfl) trivial ?_
          exact run_nil rfl (fun a w1 g => hnext m _ (by rw [List.length_append, List.length_singleton]; omega) (fun b h => h.elim) a w1 g)
      | true =>
        have hp1 : (elE p.es m).1 = 0 := by simpa using hd1
        rw [show evV (p.ul, p.uh) (elE p.es m) = .iface 171 (.agg #[iV (elE p.es m).2.1, iV (p.ul, p.uh).1, iV (p.ul, p.uh).2]) from by unfold evV; rw [hd1]; rfl]
        refine draw 17 [{ val := fun _ => iV (m : Int), slots := [6] },
                  { val := fun _ => iV (m : Int), slots := [6] },
                  { val := fun _ => .pointer (some ⟨b3, m * 2, none⟩), slots := [3, 32] },
                  { val := fun _ => .agg #[iV ((mB p.n (m + 1) m).1), iV ((mB p.n (m + 1) m).2)], slots := [33], reads := [0] },
                  { val := fun _ => .iface 171 (.agg #[iV (elE p.es m).2.1, iV (p.ul, p.uh).1, iV (p.ul, p.uh).2]), slots := [7] },
                  { val := fun _ => iV (m : Int), slots := [6] },
                  { val := fun _ => iV ((m + 1 : Nat) : Int), slots := [36] },
                  { val := fun _ => .pointer (some ⟨b3, (m + 1 : Nat) * 2, none⟩), slots := [3, 37] },
                  { val := fun _ => .agg #[iV ((mB p.n (m + 1) (m + 1 : Nat)).1), iV ((mB p.n (m + 1) (m + 1 : Nat)).2)], slots := [38], reads := [0] },
                  { val := fun _ => .func (.method "blockworks/wear.back") #[.iface 171 (.agg #[iV (elE p.es m).2.1, iV (p.ul, p.uh).1, iV (p.ul, p.uh).2])] #[], slots := [35] },
                  { val := fun _ => .func (.method "blockworks/wear.back") #[.iface 171 (.agg #[iV (elE p.es m).2.1, iV (p.ul, p.uh).1, iV (p.ul, p.uh).2])] #[], slots := [40] },
                  { val := fun _ => .iface 171 (.agg #[iV (elE p.es m).2.1, iV (p.ul, p.uh).1, iV (p.ul, p.uh).2]), slots := [35] },
                  { val := fun _ => .agg #[iV ((bckE (p.ul, p.uh) (elE p.es m) (mB p.n (m + 1) (m + 1 : Nat))).1), iV ((bckE (p.ul, p.uh) (elE p.es m) (mB p.n (m + 1) (m + 1 : Nat))).2)], slots := [39, 42] },
                  { names := [15], val := fun l => .slice (some ⟨(l.getD 0 0), 0, none⟩) 1 1, upd := [(15, fun l => aO #[iV ((bckE (p.ul, p.uh) (elE p.es m) (mB p.n (m + 1) (m + 1 : Nat))).1), iV ((bckE (p.ul, p.uh) (elE p.es m) (mB p.n (m + 1) (m + 1 : Nat))).2)] 75)], news := [15], slots := [43] },
                  { val := fun _ => .agg #[iV ((cutS (mB p.n (m + 1) m) (bckE (p.ul, p.uh) (elE p.es m) (mB p.n (m + 1) (m + 1 : Nat)))).1), iV ((cutS (mB p.n (m + 1) m) (bckE (p.ul, p.uh) (elE p.es m) (mB p.n (m + 1) (m + 1 : Nat)))).2)], slots := [34, 44], reads := [15] },
                  { val := fun _ => .pointer (some ⟨b3, m * 2, none⟩), slots := [3, 31] },
                  { upd := [(0, fun _ => cO (rowL 9 (cB p.n m)) 77)], slots := [45, 46], reads := [0] }] [[], [], [1], [1, 2], [], [], [5], [5, 6], [5, 6, 7], [4], [4, 9], [4, 9, 10], [4, 5, 6, 7, 8, 9, 10, 11], [4, 5, 6, 7, 8, 9, 10, 11, 12], [1, 2, 3, 4, 5, 6, 7, 8, 9, 10, 11, 12, 13], [0, 1, 2, 3, 4, 5, 6, 7, 8, 9, 10, 11, 12, 13, 14], [0, 1, 2, 3, 4, 5, 6, 7, 8, 9, 10, 11, 12, 13, 14, 15]] (by kernel_rfl) (by kernel_rfl) (by kernel_rfl) (by kernel_rfl) [2] [0, 1] (by kernel_rfl)
                  ⟨⟨⟨⟨⟨⟨⟨⟨⟨⟨⟨⟨⟨⟨⟨⟨⟨trivial,
                  tri_quiet (fun β => []) [] [] (fun β => []) (by kernel_rfl) (fun β extra => by kernel_rfl) (by kernel_rfl) (fun β => trivial)⟩,
                  tri_quiet (fun β => []) [] [] (fun β => []) (by kernel_rfl) (fun β extra => by kernel_rfl) (by kernel_rfl) (fun β => trivial)⟩,
                  tri_v (fun β => (Instr.indexAt 77 (pA b3) (iV (m : Int)) >>= fun v => pure (Next.value v))) (by kernel_rfl) (fun β extra => by kernel_rfl) (fun β => by kernel_rfl) (fun β w1 k1 h1 => idxA_run (e := 75) (n := 2) (len := 9) (by kernel_rfl) (by kernel_rfl) b3 (0) .i64 m (by omega) (m * 2) (by omega) w1)⟩,
                  tri_v (fun β => (Instr.loadAt 75 (.pointer (some ⟨b3, m * 2, none⟩)) >>= fun v => pure (Next.value v))) (by kernel_rfl) (fun β extra => by kernel_rfl) (fun β => by kernel_rfl) (fun β w1 k1 h1 => load_own (e := 77) (fr := (0, 0)) (c := rowL 9 (cB p.n (m + 1))) h1 (List.mem_of_getElem? (i := 0) (by kernel_rfl)) (row_loadS (n := 2) (i := m) (by kernel_rfl) (by kernel_rfl) (fun _ _ => rfl) (by omega)))⟩,
                  tri_quiet (fun β => []) [] [] (fun β => []) (by kernel_rfl) (fun β extra => by kernel_rfl) (by kernel_rfl) (fun β => trivial)⟩,
                  tri_quiet (fun β => []) [] [] (fun β => []) (by kernel_rfl) (fun β extra => by kernel_rfl) (by kernel_rfl) (fun β => trivial)⟩,
                  tri_quiet (fun β => [(37, iV ((m + 1 : Nat) : Int))]) [] [] (fun β => [(iV (IntKind.i64.wrap ((m : Int) + 1)), iV ((m + 1 : Nat) : Int))]) (by kernel_rfl) (fun β extra => by kernel_rfl) (by kernel_rfl) (fun β => ⟨(wr (by omega) (by omega)), trivial⟩)⟩,
                  tri_v (fun β => (Instr.indexAt 77 (pA b3) (iV ((m + 1 : Nat) : Int)) >>= fun v => pure (Next.value v))) (by kernel_rfl) (fun β extra => by kernel_rfl) (fun β => by kernel_rfl) (fun β w1 k1 h1 => idxA_run (e := 75) (n := 2) (len := 9) (by kernel_rfl) (by kernel_rfl) b3 (0) .i64 (m + 1 : Nat) (by omega) ((m + 1 : Nat) * 2) (by omega) w1)⟩,
                  tri_v (fun β => (Instr.loadAt 75 (.pointer (some ⟨b3, (m + 1 : Nat) * 2, none⟩)) >>= fun v => pure (Next.value v))) (by kernel_rfl) (fun β extra => by kernel_rfl) (fun β => by kernel_rfl) (fun β w1 k1 h1 => load_own (e := 77) (fr := (0, 0)) (c := rowL 9 (cB p.n (m + 1))) h1 (List.mem_of_getElem? (i := 0) (by kernel_rfl)) (row_loadS (n := 2) (i := (m + 1 : Nat)) (by kernel_rfl) (by kernel_rfl) (fun _ _ => rfl) (by omega)))⟩,
                  tri_quiet (fun β => []) [] [] (fun β => []) (by kernel_rfl) (fun β extra => by kernel_rfl) (by kernel_rfl) (fun β => trivial)⟩,
                  tri_quiet (fun β => []) [] [] (fun β => []) (by kernel_rfl) (fun β extra => by kernel_rfl) (by kernel_rfl) (fun β => trivial)⟩,
                  tri_quiet (fun β => []) [] [] (fun β => []) (by kernel_rfl) (fun β extra => by kernel_rfl) (by kernel_rfl) (fun β => trivial)⟩,
                  tri_call 156 (fun β => #[.agg #[iV (elE p.es m).2.1, iV (p.ul, p.uh).1, iV (p.ul, p.uh).2], .agg #[iV ((mB p.n (m + 1) (m + 1 : Nat)).1), iV ((mB p.n (m + 1) (m + 1 : Nat)).2)]]) (by kernel_rfl) (fun β extra => by kernel_rfl) (fun β => by kernel_rfl) (fun β w1 k1 h1 => b0_any (p.ul, p.uh) (elE p.es m) (mB p.n (m + 1) (m + 1 : Nat)) w1 hF.u (hF.ev _ (elE_mem hsn)) (mB_bd hF hsn) hd1)⟩,
                  tri_new 15 (fun β => aO #[iV ((bckE (p.ul, p.uh) (elE p.es m) (mB p.n (m + 1) (m + 1 : Nat))).1), iV ((bckE (p.ul, p.uh) (elE p.es m) (mB p.n (m + 1) (m + 1 : Nat))).2)] 75) (fun β b => sV b 1 1) [0] (by kernel_rfl) (fun β extra b => by kernel_rfl) (by kernel_rfl) (fun β b => by kernel_rfl) (fun β b => by kernel_rfl) (fun β b => by kernel_rfl)⟩,
                  tri_call 111 (fun β => #[.agg #[iV ((mB p.n (m + 1) m).1), iV ((mB p.n (m + 1) m).2)], .slice (some ⟨(β 15), 0, none⟩) 1 1]) (by kernel_rfl) (fun β extra => by kernel_rfl) (fun β => by kernel_rfl) (fun β w1 k1 h1 => cut_any (β 15) ((mB p.n (m + 1) m).1) ((mB p.n (m + 1) m).2) ((bckE (p.ul, p.uh) (elE p.es m) (mB p.n (m + 1) (m + 1 : Nat))).1) ((bckE (p.ul, p.uh) (elE p.es m) (mB p.n (m + 1) (m + 1 : Nat))).2) w1 (h1 ((β 15), aO #[iV ((bckE (p.ul, p.uh) (elE p.es m) (mB p.n (m + 1) (m + 1 : Nat))).1), iV ((bckE (p.ul, p.uh) (elE p.es m) (mB p.n (m + 1) (m + 1 : Nat))).2)] 75) (List.mem_of_getElem? (i := 0) (by kernel_rfl))))⟩,
                  tri_v (fun β => (Instr.indexAt 77 (pA b3) (iV (m : Int)) >>= fun v => pure (Next.value v))) (by kernel_rfl) (fun β extra => by kernel_rfl) (fun β => by kernel_rfl) (fun β w1 k1 h1 => idxA_run (e := 75) (n := 2) (len := 9) (by kernel_rfl) (by kernel_rfl) b3 (0) .i64 m (by omega) (m * 2) (by omega) w1)⟩,
                  tri_store (fun β => b3) (m * 2) 75 (fun β => .agg #[iV ((cutS (mB p.n (m + 1) m) (bckE (p.ul, p.uh) (elE p.es m) (mB p.n (m + 1) (m + 1 : Nat)))).1), iV ((cutS (mB p.n (m + 1) m) (bckE (p.ul, p.uh) (elE p.es m) (mB p.n (m + 1) (m + 1 : Nat)))).2)]) (rowL 9 (cB p.n (m + 1))) (rowL 9 (cB p.n m)) 77 (by kernel_rfl) (by kernel_rfl) (fun β extra => by kernel_rfl) (fun β => by kernel_rfl) (fun β => by kernel_rfl) (fun β => row_store (n := 2) (i := m) (by kernel_rfl) (by rfl) rfl rfl (fun _ _ => rfl) (by omega) (cB_step p.n hsn))⟩
                  (fun β => ⟨[(2, pA b2)], [(b3, cO (rowL 9 (cB p.n m)) 77), (b2, aO #[iV 0, iV 0, iV 0, iV 0, iV 0, iV 0, iV 0, iV 0, iV 0, iV 0, iV 0, iV 0, iV 0, iV 0, iV 0, iV 0, iV 0, iV 0] 77)]⟩) (fun β => by kernel_rfl) (fun β6 => ?_)
        refine run_auto [] 1 [] [] [] [0, 1] (st' := ⟨[], [(b3, cO (rowL 9 (cB p.n m)) 77), (b2, aO #[iV 0, iV 0, iV 0, iV 0, iV 0, iV 0, iV 0, iV 0, iV 0, iV 0, iV 0, iV 0, iV 0, iV 0, iV 0, iV 0, iV 0, iV 0] 77)]⟩) (acc := []) (by kernel_rfl) (by kernel_rfl) trivial ?_
        exact run_nil rfl (fun a w1 g => hnext m _ (by rw [List.length_append, List.length_singleton]; omega) (fun b h => h.elim) a w1 g)
    · skip
      obtain rfl : ys = rgL p.es.length (revN p.es.length (evI (p.ul, p.uh) p.es)) := hys
      obtain rfl : s = 0 := by rw [rgL_len] at hI; omega
      rw [cB_all]
      refine run_auto [] 6 [] [0, 1] [2] [1] (st' := ⟨[(2, pA b2)], [(b2, cO (rowL 9 (cC p.n)) 77)]⟩) (acc := [(pA b2, pA b2), (pA b3, pA b3)]) (by kernel_rfl) (by kernel_rfl) ⟨rfl, rfl, trivial⟩ ?_
      refine run_end (fn := f122) rfl (Nat.le_refl _) (by kernel_rfl) [0] [.agg (rowL 9 (cC p.n)).toArray] (e := [(pA b2, pA b2)]) (by kernel_rfl) ⟨rfl, trivial⟩ (fun w1 k1 h1 => ?_)
      exact ⟨rfl, k1.keeps (fun _ h => h)⟩
    · skip
      exact hI.elim
  · skip
    exact hI.elim

end Go.Proofs.YtdehgplklgfcdaaGreat

namespace Go.Proofs.YtdehgplklgfcdaaGreat
open Go.RowKit Go.Proofs.Tryz


/-- An event of which a reading that is not looked at is none. -/
def lkE (s k : Nat) (e : Ev) : Ev := bif e.1 == 1 && !s.testBit k then (0, 0, 0, 0) else e
def lkL (s : Nat) (es : List Ev) : List Ev := (List.range es.length).map fun k => lkE s k (elE es k)
theorem lkL_len (s : Nat) (es : List Ev) : (lkL s es).length = es.length := by unfold lkL; rw [List.length_map, List.length_range]
theorem lkL_at (s : Nat) {es : List Ev} {k : Nat} (h : k < es.length) : elE (lkL s es) k = lkE s k (elE es k) := by
  unfold lkL
  conv => lhs; unfold elE
  rw [List.getElem?_map, List.getElem?_range h]
  rfl
def Wn.look (w : Wn) (s : Nat) : Wn := ⟨w.l, w.u, lkL s w.es⟩
theorem vEv_none : vEv (0, 0, 0, 0) = true := by decide
theorem Wn.Fine.look {w : Wn} (h : w.Fine) (s : Nat) : (w.look s).Fine := by
  refine ⟨h.l, h.lw, h.u, by show (lkL s w.es).length ≤ 8; rw [lkL_len]; exact h.n8, fun e he => ?_⟩
  obtain ⟨k, hk, rfl⟩ := List.mem_map.1 (show e ∈ (List.range w.es.length).map _ from he)
  have hk := List.mem_range.1 hk
  unfold lkE
  cases hb : (elE w.es k).1 == 1 && !s.testBit k with
  | true => exact vEv_none
  | false => exact h.ev _ (elE_mem hk)
/-- Which events are readings. -/
def Wn.reads (w : Wn) : Nat := bitsP (fun k => (elE w.es k).1 == 1) w.es.length
theorem Wn.look_all (w : Wn) : w.look w.reads = w := by
  have h : lkL w.reads w.es = w.es := by
    apply List.ext_getElem
    · rw [lkL_len]
    · intro k h1 h2
      have h3 := lkL_at w.reads h2
      rw [elE_at h1, elE_at h2] at h3
      rw [h3]
      unfold lkE Wn.reads
      rw [bitsP_has, decide_eq_true h2, elE_at h2]
      cases w.es[k].1 == 1 <;> rfl
  unfold Wn.look
  rw [h]
def zE : List Value := [.int .i64 0, .int .i64 0, .int .i64 0, .int .i64 0]
theorem rowL_zero (n : Nat) : rowL n (fun _ => zE) = rowG evR zE [] n := by
  unfold rowL rowG
  have : ∀ l : List Nat, l.flatMap (fun _ => zE) = (List.replicate l.length zE).flatten := by
    intro l
    induction l with
    | nil => rfl
    | cons x l ih => rw [List.flatMap_cons, ih, List.length_cons, List.replicate_succ, List.flatten_cons]
  rw [this, List.length_range]
  rfl
def lkC (s : Nat) (es : List Ev) (i k : Nat) : List Value := evR (if k < i then lkE s k (elE es k) else elE es k)
theorem rowL_map (g : Nat → Ev) (n : Nat) : rowL n (fun k => evR (g k)) = ((List.range n).map g).flatMap evR := by
  unfold rowL
  rw [List.flatMap_map]
theorem range_el (es : List Ev) : (List.range es.length).map (elE es) = es := by
  apply List.ext_getElem
  · simp
  · intro k h1 h2
    rw [List.getElem_map, List.getElem_range, elE_at h2]
theorem lkC_start (s : Nat) (es : List Ev) : rowL es.length (lkC s es 0) = es.flatMap evR := by
  rw [show rowL es.length (lkC s es 0) = rowL es.length (fun k => evR (elE es k)) from rowL_congr fun k _ => by unfold lkC; rw [if_neg (Nat.not_lt_zero _)], rowL_map, range_el]
theorem lkC_all (s : Nat) (es : List Ev) : rowL es.length (lkC s es es.length) = (lkL s es).flatMap evR ++ [] := by
  rw [show rowL es.length (lkC s es es.length) = rowL es.length (fun k => evR (lkE s k (elE es k))) from rowL_congr fun k hk => by unfold lkC; rw [if_pos hk], rowL_map, List.append_nil]
  rfl
theorem lkC_at (s : Nat) (es : List Ev) (i : Nat) : lkC s es i i = evR (elE es i) := by unfold lkC; rw [if_neg (Nat.lt_irrefl _)]
theorem lkC_step (s : Nat) (es : List Ev) (i : Nat) (k : Nat) : lkC s es (i + 1) k = if k = i then evR (lkE s i (elE es i)) else lkC s es i k := by
  unfold lkC
  by_cases e : k = i
  · subst e
    rw [if_pos (Nat.lt_succ_self k), if_pos rfl]
  · rw [if_neg e]
    by_cases h : k < i
    · rw [if_pos h, if_pos (by omega)]
    · rw [if_neg h, if_neg (by omega)]
theorem lk_no {s : Nat} {es : List Ev} {i : Nat} (h : lkE s i (elE es i) = elE es i) : rowL es.length (lkC s es (i + 1)) = rowL es.length (lkC s es i) := rowL_congr fun k _ => by
  rw [lkC_step]
  split
  · rename_i e
    subst e
    rw [h, lkC_at]
  · rfl
theorem copy_evs {b cap cs : Nat} {a : Option Addr} {L : List Ev} (s : Nat) {w : World} (hw : w.heap[b]? = some (.cells (rowL L.length fun _ => zE).toArray 55 (0, 0))) (hs : Evs w a L) :
    (Builtin.copy_ #[24, 24] 3 #[.slice (some ⟨b, 0, none⟩) L.length cap, .slice a L.length cs] >>= fun v => pure (Next.value v)).run Tryz.prog w = .ok (.value (.int .i64 (L.length : Int))) (w.setRow b (rowL L.length (lkC s L 0)).toArray) := by
  rw [rowL_zero] at hw
  have h := copy_run (P := Tryz.prog) (t := 24) (ty := 3) (e := 55) (n := 4) (c := evR) (z := zE) (cap := cap) (cs := cs) (by kernel_rfl) evR_len evR_one rfl (by kernel_rfl) hw hs.flat
  rw [h, lkC_start]
  unfold rowG
  simp
/-- With other events. -/
def Wb.evs (p : Wb) (g cap : Nat) (L : List Ev) : Wb := { p with ea := some ⟨g, 0, none⟩, ec := cap, es := L }
theorem Wb.In.evs {p : Wb} {w : World} {g cap : Nat} {L : List Ev} {sp : List Value} {t : TypeId} {fr : Nat × Nat} (hw : w.heap[g]? = some (.cells (L.flatMap evR ++ sp).toArray t fr)) (hl : L.length ≤ maxLen) : (p.evs g cap L).In w := ⟨Evs.of_flat hw, hl⟩
set_option maxRecDepth 100000 in
theorem readingsOf_any (p : Wb) (w : World) (hp : p.In w) (hF : p.n.Fine) : Calls Tryz.prog 99 #[.agg #[.int .i64 p.ll, .int .i64 p.lh, .int .i64 p.ul, .int .i64 p.uh, .slice p.ea p.es.length p.ec]] w (RetI (p.n.reads : Nat) w) := by
  have hn8 : p.es.length ≤ 8 := hF.n8
  refine calls_run (fn := f99) (c := (f99.body).getD .skip) [.agg #[.int .i64 p.ll, .int .i64 p.lh, .int .i64 p.ul, .int .i64 p.uh, .slice p.ea p.es.length p.ec]] func99 (by kernel_rfl) (fun _ => False) [] (fun _ h => by cases h) (List.Pairwise.nil) 22 (by kernel_rfl) (by simp) ?_
  refine run_auto [] 2 [] [] [0] [] (st' := ⟨[(0, .agg #[iV p.ll, iV p.lh, iV p.ul, iV p.uh, .slice p.ea p.es.length p.ec])], []⟩) (acc := []) (by kernel_rfl) (by kernel_rfl) trivial ?_
  refine run_new (aO #[iV p.ll, iV p.lh, iV p.ul, iV p.uh, .slice p.ea p.es.length p.ec] 26) (fun b1 => pA b1) (some 1) (fun _ => by kernel_rfl) (fun b1 hb1 => ?_)
  refine run_auto [] 15 [] [0] [2, 3, 7, 8, 9] [] (st' := ⟨[(2, iV 0), (3, iV 0), (7, .slice p.ea p.es.length p.ec), (8, iV (p.es.length : Int)), (9, iV 0)], []⟩) (acc := [(pA b1, pA b1)]) (by kernel_rfl) (by kernel_rfl) ⟨rfl, trivial⟩ ?_
  refine run_auto [] 0 [] [] [2, 3, 7, 8, 9] [] (st' := ⟨[(2, iV 0), (3, iV 0), (7, .slice p.ea p.es.length p.ec), (8, iV (p.es.length : Int)), (9, iV 0)], []⟩) (acc := []) (by kernel_rfl) (by kernel_rfl) trivial ?_
  refine run_loop (S := fun (k : Nat) => ⟨[(2, iV 0), (3, iV ((bitsP (fun j => (elE p.es j).1 == 1) k : Nat) : Int)), (7, .slice p.ea p.es.length p.ec), (8, iV (p.es.length : Int)), (9, iV (k : Int))], []⟩) (fun k => k ≤ p.es.length) (fun k => p.es.length - k) (0) (by kernel_rfl) (Nat.zero_le _) (by kernel_rfl) (fun k hI0 J0 hJ0 => ?_)
  have hbl := bitsP_lt (fun j => (elE p.es j).1 == 1) k
  have hb8 : 2 ^ k ≤ 256 := (Nat.pow_le_pow_right (by omega) (show k ≤ 8 by omega) : 2 ^ k ≤ 2 ^ 8)
  cases hd1 : (decide ((k : Int) < (p.es.length : Int))) with
  | false =>
    have hp1 := of_decide_eq_false hd1
    refine run_auto [(10, .bool false)] 12 [false] [] [2] [] (st' := ⟨[(2, iV ((bitsP (fun j => (elE p.es j).1 == 1) k : Nat) : Int))], []⟩) (acc := [(.bool false, .bool false), (.bool (decide ((k : Int) < (p.es.length : Int))), .bool false)]) (by kernel_rfl) (by kernel_rfl) ⟨rfl, (bo hd1), trivial⟩ ?_
    refine run_end (fn := f99) rfl (Nat.le_refl _) (by kernel_rfl) [] [iV ((bitsP (fun j => (elE p.es j).1 == 1) k : Nat) : Int)] (e := []) (by kernel_rfl) trivial (fun w1 k1 h1 => ?_)
    exact ⟨by rw [show k = p.es.length by omega]; rfl, k1.keeps (fun _ h => h)⟩
  | true =>
    have hp1 := of_decide_eq_true hd1
    have hlt : k < p.es.length := by omega
    obtain ⟨be, oe, hbe, hc⟩ := hp.ev (by intro h; rw [h] at hlt; cases hlt)
    have hc := hc k hlt
    refine run_auto [(10, .bool true)] 12 [true] [] [2, 3, 7, 8, 9, 11] [] (st' := ⟨[(2, iV 0), (3, iV ((bitsP (fun j => (elE p.es j).1 == 1) k : Nat) : Int)), (7, .slice p.ea p.es.length p.ec), (8, iV (p.es.length : Int)), (9, iV (k : Int)), (11, iV (k : Int))], []⟩) (acc := [(.bool true, .bool true), (.bool (decide ((k : Int) < (p.es.length : Int))), .bool true)]) (by kernel_rfl) (by kernel_rfl) ⟨rfl, (bo hd1), trivial⟩ ?_
    refine run_v (Instr.indexAt 24 (.slice p.ea p.es.length p.ec) (iV (k : Int)) >>= fun v => pure (Next.value v)) (some 12) (.pointer (some ⟨be, oe + k * 4, none⟩)) (by kernel_rfl) (fun w1 k1 h1 => (by rw [hbe]; exact idx_off (e := 55) (n := 4) (by kernel_rfl) (by kernel_rfl) be oe p.es.length p.ec .i64 k hlt (oe + k * 4) (by omega) w1)) ?_
    refine run_v (Instr.loadAt 55 (.pointer (some ⟨be, oe + k * 4, none⟩)) >>= fun v => pure (Next.value v)) (some 13) (.agg #[iV (elE p.es k).1, iV (elE p.es k).2.1, iV (elE p.es k).2.2.1, iV (elE p.es k).2.2.2]) (by kernel_rfl) (fun w1 k1 h1 => load_in (off := 0) k1 (fun h => h) [iV (elE p.es k).1, iV (elE p.es k).2.1, iV (elE p.es k).2.2.1, iV (elE p.es k).2.2.2] (c4 hc.1 hc.2.1 hc.2.2.1 hc.2.2.2) (by kernel_rfl)) ?_
    refine run_new (aO #[iV 0, iV 0, iV 0, iV 0] 55) (fun b2 => pA b2) (some 5) (fun _ => by kernel_rfl) (fun b2 hb2 => ?_)
    cases hd2 : ((elE p.es k).1 == 1) with
    | false =>
      have hp2 : ¬ (elE p.es k).1 = 1 := by simpa using hd2
      refine run_auto [(16, .bool false), (20, iV ((k + 1 : Nat) : Int))] 16 [false] [0, 0] [2, 3, 7, 8, 9] [] (st' := ⟨[(2, iV 0), (3, iV ((bitsP (fun j => (elE p.es j).1 == 1) k : Nat) : Int)), (7, .slice p.ea p.es.length p.ec), (8, iV (p.es.length : Int)), (9, iV ((k + 1 : Nat) : Int))], []⟩) (acc := [(iV (IntKind.i64.wrap ((k : Int) + 1)), iV ((k + 1 : Nat) : Int)), (.bool false, .bool false), (.bool ((elE p.es k).1 == 1), .bool false), (pA b2, pA b2), (pA b2, pA b2)]) (by kernel_rfl) (by kernel_rfl) ⟨(wr (by omega) (by omega)), rfl, (bo hd2), rfl, rfl, trivial⟩ ?_
      have hj := hJ0 (k + 1) (by omega) (by omega)
      rw [bitsP_next, show ((elE p.es k).1 == 1) = false from hd2] at hj
      simp only [cond_false] at hj
      exact run_round (by kernel_rfl) hj
    | true =>
      have hp2 : (elE p.es k).1 = 1 := by simpa using hd2
      refine run_auto [(16, .bool true)] 13 [true] [0, 0] [2, 3, 7, 8, 9, 17, 18] [] (st' := ⟨[(2, iV 0), (3, iV ((bitsP (fun j => (elE p.es j).1 == 1) k : Nat) : Int)), (7, .slice p.ea p.es.length p.ec), (8, iV (p.es.length : Int)), (9, iV (k : Int)), (17, iV ((bitsP (fun j => (elE p.es j).1 == 1) k : Nat) : Int)), (18, iV (k : Int))], []⟩) (acc := [(.bool true, .bool true), (.bool ((elE p.es k).1 == 1), .bool true), (pA b2, pA b2), (pA b2, pA b2)]) (by kernel_rfl) (by kernel_rfl) ⟨rfl, (bo hd2), rfl, rfl, trivial⟩ ?_
      refine run_ret1 108 #[iV ((bitsP (fun j => (elE p.es j).1 == 1) k : Nat) : Int), iV (k : Int)] (some 19) (iV (((bitsP (fun j => (elE p.es j).1 == 1) k : Nat) ||| (1 <<< k) : Nat) : Int)) (by kernel_rfl) (fun w1 k1 h1 => with_any (bitsP (fun j => (elE p.es j).1 == 1) k : Nat) k (by omega) (by omega) w1) ?_
      refine run_auto [(20, iV ((k + 1 : Nat) : Int))] 7 [] [] [2, 3, 7, 8, 9] [] (st' := ⟨[(2, iV 0), (3, iV (((bitsP (fun j => (elE p.es j).1 == 1) k : Nat) ||| (1 <<< k) : Nat) : Int)), (7, .slice p.ea p.es.length p.ec), (8, iV (p.es.length : Int)), (9, iV ((k + 1 : Nat) : Int))], []⟩) (acc := [(iV (IntKind.i64.wrap ((k : Int) + 1)), iV ((k + 1 : Nat) : Int))]) (by kernel_rfl) (by kernel_rfl) ⟨(wr (by omega) (by omega)), trivial⟩ ?_
      have hj := hJ0 (k + 1) (by omega) (by omega)
      rw [bitsP_next, show ((elE p.es k).1 == 1) = true from hd2] at hj
      simp only [cond_true] at hj
      exact run_round (by kernel_rfl) hj

set_option maxRecDepth 100000 in
theorem looking_any (p : Wb) (s : Nat) (w : World) (hp : p.In w) (hF : p.n.Fine) (hs : s < 256) : Calls Tryz.prog 123 #[.agg #[.int .i64 p.ll, .int .i64 p.lh, .int .i64 p.ul, .int .i64 p.uh, .slice p.ea p.es.length p.ec], .agg #[.int .i64 (s : Int)]] w (Nw (α := Unit) (fun _ b => .agg #[.int .i64 p.ll, .int .i64 p.lh, .int .i64 p.ul, .int .i64 p.uh, .slice (some ⟨b, 0, none⟩) p.es.length p.es.length]) (fun _ => .cells ((lkL s p.es).flatMap evR ++ []).toArray 55 (0, 0)) (fun _ => True) w) := by
  have hn8 : p.es.length ≤ 8 := hF.n8
  refine calls_run (fn := f123) (c := (f123.body).getD .skip) [.agg #[.int .i64 p.ll, .int .i64 p.lh, .int .i64 p.ul, .int .i64 p.uh, .slice p.ea p.es.length p.ec], .agg #[.int .i64 (s : Int)]] func123 (by kernel_rfl) (fun _ => False) [] (fun _ h => by cases h) (List.Pairwise.nil) 41 (by kernel_rfl) (by simp) ?_
  refine run_auto [] 2 [] [] [0, 1] [] (st' := ⟨[(0, .agg #[iV p.ll, iV p.lh, iV p.ul, iV p.uh, .slice p.ea p.es.length p.ec]), (1, .agg #[iV (s : Int)])], []⟩) (acc := []) (by kernel_rfl) (by kernel_rfl) trivial ?_
  refine run_new (aO #[iV p.ll, iV p.lh, iV p.ul, iV p.uh, .slice p.ea p.es.length p.ec] 26) (fun b1 => pA b1) (some 2) (fun _ => by kernel_rfl) (fun b1 hb1 => ?_)
  refine run_new (aO #[iV (s : Int)] 132) (fun b2 => pA b2) (some 3) (fun _ => by kernel_rfl) (fun b2 hb2 => ?_)
  refine run_new (aO #[iV 0, iV 0, iV 0, iV 0, .slice none 0 0] 26) (fun b3 => pA b3) (some 4) (fun _ => by kernel_rfl) (fun b3 hb3 => ?_)
  refine run_auto [] 6 [] [2] [2, 3, 4, 10] [0, 1, 2] (st' := ⟨[(2, pA b1), (3, pA b2), (4, pA b3), (10, iV (p.es.length : Int))], [(b3, aO #[iV 0, iV 0, iV 0, iV 0, .slice none 0 0] 26), (b2, aO #[iV (s : Int)] 132), (b1, aO #[iV p.ll, iV p.lh, iV p.ul, iV p.uh, .slice p.ea p.es.length p.ec] 26)]⟩) (acc := [(pA b1, pA b1)]) (by kernel_rfl) (by kernel_rfl) ⟨rfl, trivial⟩ ?_
  refine run_mk 24 55 4 (.agg #[iV 0, iV 0, iV 0, iV 0]) (by kernel_rfl) (by kernel_rfl) (by kernel_rfl) rfl (by omega) (some 11) (p.es.length) (by simp only [maxLen]; omega) (by omega) (by rw [show tyBytes _ _ = 32 from by kernel_rfl]; omega) (by kernel_rfl) (fun b4 hb4 => ?_)
  refine run_auto [] 7 [] [3] [2, 3, 4, 5, 12, 14] [0, 1, 2, 3] (st' := ⟨[(2, pA b1), (3, pA b2), (4, pA b3), (5, sV b4 p.es.length p.es.length), (12, sV b4 p.es.length p.es.length), (14, .slice p.ea p.es.length p.ec)], [(b4, cO (rowL (p.es.length) fun _ => [iV 0, iV 0, iV 0, iV 0]) 55), (b3, aO #[iV 0, iV 0, iV 0, iV 0, .slice none 0 0] 26), (b2, aO #[iV (s : Int)] 132), (b1, aO #[iV p.ll, iV p.lh, iV p.ul, iV p.uh, .slice p.ea p.es.length p.ec] 26)]⟩) (acc := [(pA b1, pA b1)]) (by kernel_rfl) (by kernel_rfl) ⟨rfl, trivial⟩ ?_
  refine run_upd (Builtin.copy_ #[24, 24] 3 #[sV b4 p.es.length p.es.length, .slice p.ea p.es.length p.ec] >>= fun v => pure (Next.value v)) (some 15) (iV (p.es.length : Int)) 0 b4 (rowL (p.es.length) fun _ => [iV 0, iV 0, iV 0, iV 0]) (rowL p.es.length (lkC s p.es 0)) 55 (by kernel_rfl) (by kernel_rfl) (fun w1 k1 h1 => copy_evs s (h1 (b4, cO (rowL (p.es.length) fun _ => [iV 0, iV 0, iV 0, iV 0]) 55) (List.mem_of_getElem? (i := 0) (by kernel_rfl))) (hp.ev.keep (k1.keeps (fun _ h => h)))) ?_
  refine run_auto [] 9 [] [] [2, 3, 4, 5, 16, 17, 18] [0, 1, 2, 3] (st' := ⟨[(2, pA b1), (3, pA b2), (4, pA b3), (5, sV b4 p.es.length p.es.length), (16, sV b4 p.es.length p.es.length), (17, iV (p.es.length : Int)), (18, iV 0)], [(b4, cO (rowL p.es.length (lkC s p.es 0)) 55), (b3, aO #[iV 0, iV 0, iV 0, iV 0, .slice none 0 0] 26), (b2, aO #[iV (s : Int)] 132), (b1, aO #[iV p.ll, iV p.lh, iV p.ul, iV p.uh, .slice p.ea p.es.length p.ec] 26)]⟩) (acc := []) (by kernel_rfl) (by kernel_rfl) trivial ?_
  refine run_auto [] 0 [] [] [2, 3, 4, 5, 16, 17, 18] [0, 1, 2, 3] (st' := ⟨[(2, pA b1), (3, pA b2), (4, pA b3), (5, sV b4 p.es.length p.es.length), (16, sV b4 p.es.length p.es.length), (17, iV (p.es.length : Int)), (18, iV 0)], [(b4, cO (rowL p.es.length (lkC s p.es 0)) 55), (b3, aO #[iV 0, iV 0, iV 0, iV 0, .slice none 0 0] 26), (b2, aO #[iV (s : Int)] 132), (b1, aO #[iV p.ll, iV p.lh, iV p.ul, iV p.uh, .slice p.ea p.es.length p.ec] 26)]⟩) (acc := []) (by kernel_rfl) (by kernel_rfl) trivial ?_
  refine run_loop (S := fun (k : Nat) => ⟨[(2, pA b1), (3, pA b2), (4, pA b3), (5, sV b4 p.es.length p.es.length), (16, sV b4 p.es.length p.es.length), (17, iV (p.es.length : Int)), (18, iV (k : Int))], [(b4, cO (rowL p.es.length (lkC s p.es k)) 55), (b3, aO #[iV 0, iV 0, iV 0, iV 0, .slice none 0 0] 26), (b2, aO #[iV (s : Int)] 132), (b1, aO #[iV p.ll, iV p.lh, iV p.ul, iV p.uh, .slice p.ea p.es.length p.ec] 26)]⟩) (fun k => k ≤ p.es.length) (fun k => p.es.length - k) (0) (by kernel_rfl) (Nat.zero_le _) (by kernel_rfl) (fun k hI0 J0 hJ0 => ?_)
  cases hd1 : (decide ((k : Int) < (p.es.length : Int))) with
  | false =>
    have hp1 := of_decide_eq_false hd1
    refine run_auto [(19, .bool false)] 18 [false] [3, 3, 1] [4] [0, 1] (st' := ⟨[(4, pA b3)], [(b4, cO (rowL p.es.length (lkC s p.es k)) 55), (b3, aO #[iV p.ll, iV p.lh, iV p.ul, iV p.uh, sV b4 p.es.length p.es.length] 26)]⟩) (acc := [(pA b3, pA b3), (pA b1, pA b1), (pA b1, pA b1), (.bool false, .bool false), (.bool (decide ((k : Int) < (p.es.length : Int))), .bool false)]) (by kernel_rfl) (by kernel_rfl) ⟨rfl, rfl, rfl, rfl, (bo hd1), trivial⟩ ?_
    refine run_end (fn := f123) rfl (Nat.le_refl _) (by kernel_rfl) [1] [.agg #[iV p.ll, iV p.lh, iV p.ul, iV p.uh, sV b4 p.es.length p.es.length]] (e := [(pA b3, pA b3)]) (by kernel_rfl) ⟨rfl, trivial⟩ (fun w1 k1 h1 => ?_)
    exact ⟨(), b4, trivial, hb4, rfl, k1.keeps (fun _ h => h), by have h := h1 (b4, _) (List.mem_of_getElem? (i := 0) rfl); dsimp only at h; rw [show k = p.es.length by omega, lkC_all] at h; exact h⟩
  | true =>
    have hp1 := of_decide_eq_true hd1
    have hlt : k < p.es.length := by omega
    refine run_auto [(19, .bool true)] 12 [true] [] [2, 3, 4, 5, 16, 17, 18, 20] [0, 1, 2, 3] (st' := ⟨[(2, pA b1), (3, pA b2), (4, pA b3), (5, sV b4 p.es.length p.es.length), (16, sV b4 p.es.length p.es.length), (17, iV (p.es.length : Int)), (18, iV (k : Int)), (20, iV (k : Int))], [(b4, cO (rowL p.es.length (lkC s p.es k)) 55), (b3, aO #[iV 0, iV 0, iV 0, iV 0, .slice none 0 0] 26), (b2, aO #[iV (s : Int)] 132), (b1, aO #[iV p.ll, iV p.lh, iV p.ul, iV p.uh, .slice p.ea p.es.length p.ec] 26)]⟩) (acc := [(.bool true, .bool true), (.bool (decide ((k : Int) < (p.es.length : Int))), .bool true)]) (by kernel_rfl) (by kernel_rfl) ⟨rfl, (bo hd1), trivial⟩ ?_
    refine run_v (Instr.indexAt 24 (sV b4 p.es.length p.es.length) (iV (k : Int)) >>= fun v => pure (Next.value v)) (some 21) (.pointer (some ⟨b4, k * 4, none⟩)) (by kernel_rfl) (fun w1 k1 h1 => idx_off (e := 55) (n := 4) (by kernel_rfl) (by kernel_rfl) b4 (0) p.es.length p.es.length .i64 k (by omega) (k * 4) (by omega) w1) ?_
    refine run_v (Instr.loadAt 55 (.pointer (some ⟨b4, k * 4, none⟩)) >>= fun v => pure (Next.value v)) (some 22) (.agg #[iV (elE p.es k).1, iV (elE p.es k).2.1, iV (elE p.es k).2.2.1, iV (elE p.es k).2.2.2]) (by kernel_rfl) (fun w1 k1 h1 => load_own (e := 55) (fr := (0, 0)) (c := rowL p.es.length (lkC s p.es k)) h1 (List.mem_of_getElem? (i := 0) (by kernel_rfl)) ((row_loadS (n := 4) (i := k) (by kernel_rfl) (by kernel_rfl) (fun _ _ => rfl) (by omega)).trans (by rw [lkC_at]; rfl))) ?_
    refine run_new (aO #[iV 0, iV 0, iV 0, iV 0] 55) (fun b5 => pA b5) (some 7) (fun _ => by kernel_rfl) (fun b5 hb5 => ?_)
    cases hd2 : ((elE p.es k).1 == 1) with
    | false =>
      have hp2 : ¬ (elE p.es k).1 = 1 := by simpa using hd2
      refine run_auto [(25, .bool false), (37, iV ((k + 1 : Nat) : Int))] 23 [false] [0, 0] [2, 3, 4, 5, 16, 17, 18] [1, 2, 3, 4] (st' := ⟨[(2, pA b1), (3, pA b2), (4, pA b3), (5, sV b4 p.es.length p.es.length), (16, sV b4 p.es.length p.es.length), (17, iV (p.es.length : Int)), (18, iV ((k + 1 : Nat) : Int))], [(b4, cO (rowL p.es.length (lkC s p.es k)) 55), (b3, aO #[iV 0, iV 0, iV 0, iV 0, .slice none 0 0] 26), (b2, aO #[iV (s : Int)] 132), (b1, aO #[iV p.ll, iV p.lh, iV p.ul, iV p.uh, .slice p.ea p.es.length p.ec] 26)]⟩) (acc := [(iV (IntKind.i64.wrap ((k : Int) + 1)), iV ((k + 1 : Nat) : Int)), (.bool false, .bool false), (.bool ((elE p.es k).1 == 1), .bool false), (pA b5, pA b5), (pA b5, pA b5)]) (by kernel_rfl) (by kernel_rfl) ⟨(wr (by omega) (by omega)), rfl, (bo hd2), rfl, rfl, trivial⟩ ?_
      have hj := hJ0 (k + 1) (by omega) (by omega)
      rw [lk_no (by unfold lkE; rw [hd2]; rfl)] at hj
      exact run_round (by kernel_rfl) hj
    | true =>
      have hp2 : (elE p.es k).1 = 1 := by simpa using hd2
      refine run_auto [(25, .bool true)] 12 [] [0, 0, 3] [2, 3, 4, 5, 16, 17, 18, 6, 26, 28, 29] [1, 2, 3, 4] (st' := ⟨[(2, pA b1), (3, pA b2), (4, pA b3), (5, sV b4 p.es.length p.es.length), (16, sV b4 p.es.length p.es.length), (17, iV (p.es.length : Int)), (18, iV (k : Int)), (6, iV (k : Int)), (26, .bool true), (28, iV (s : Int)), (29, iV (k : Int))], [(b4, cO (rowL p.es.length (lkC s p.es k)) 55), (b3, aO #[iV 0, iV 0, iV 0, iV 0, .slice none 0 0] 26), (b2, aO #[iV (s : Int)] 132), (b1, aO #[iV p.ll, iV p.lh, iV p.ul, iV p.uh, .slice p.ea p.es.length p.ec] 26)]⟩) (acc := [(pA b2, pA b2), (.bool ((elE p.es k).1 == 1), .bool true), (pA b5, pA b5), (pA b5, pA b5)]) (by kernel_rfl) (by kernel_rfl) ⟨rfl, (bo hd2), rfl, rfl, trivial⟩ ?_
      cases hd3 : (s.testBit k) with
      | false =>
        have hlk : lkE s k (elE p.es k) = (0, 0, 0, 0) := by unfold lkE; rw [show ((elE p.es k).1 == 1) = true from hd2, hd3]; rfl
        refine run_ret1 132 #[iV (s : Int), iV (k : Int)] (some 30) (.bool false) (by kernel_rfl) (fun w1 k1 h1 => (by have h := has_any s k (by omega) (by omega) w1; rw [hd3] at h; exact h)) ?_
        refine run_auto [(31, .bool true)] 8 [true] [] [2, 3, 4, 5, 16, 17, 18, 33, 34, 35] [0, 1, 2, 3] (st' := ⟨[(2, pA b1), (3, pA b2), (4, pA b3), (5, sV b4 p.es.length p.es.length), (16, sV b4 p.es.length p.es.length), (17, iV (p.es.length : Int)), (18, iV (k : Int)), (33, sV b4 p.es.length p.es.length), (34, iV (k : Int)), (35, .agg #[iV 0, iV 0, iV 0, iV 0])], [(b4, cO (rowL p.es.length (lkC s p.es k)) 55), (b3, aO #[iV 0, iV 0, iV 0, iV 0, .slice none 0 0] 26), (b2, aO #[iV (s : Int)] 132), (b1, aO #[iV p.ll, iV p.lh, iV p.ul, iV p.uh, .slice p.ea p.es.length p.ec] 26)]⟩) (acc := [(.bool true, .bool true), (.bool true, .bool true)]) (by kernel_rfl) (by kernel_rfl) ⟨rfl, rfl, trivial⟩ ?_
        refine run_v (Instr.indexAt 24 (sV b4 p.es.length p.es.length) (iV (k : Int)) >>= fun v => pure (Next.value v)) (some 36) (.pointer (some ⟨b4, k * 4, none⟩)) (by kernel_rfl) (fun w1 k1 h1 => idx_off (e := 55) (n := 4) (by kernel_rfl) (by kernel_rfl) b4 (0) p.es.length p.es.length .i64 k (by omega) (k * 4) (by omega) w1) ?_
        refine run_store 0 b4 (k * 4) 55 (.agg #[iV 0, iV 0, iV 0, iV 0]) (rowL p.es.length (lkC s p.es k)) (rowL p.es.length (lkC s p.es (k + 1))) 55 (by kernel_rfl) (by kernel_rfl) (row_store (n := 4) (i := k) (by kernel_rfl) (by rfl) rfl rfl (fun _ _ => rfl) (by omega) (fun j _ => (lkC_step s p.es k j).trans (by rw [hlk]; rfl))) ?_
        refine run_auto [(37, iV ((k + 1 : Nat) : Int))] 6 [] [] [2, 3, 4, 5, 16, 17, 18] [0, 1, 2, 3] (st' := ⟨[(2, pA b1), (3, pA b2), (4, pA b3), (5, sV b4 p.es.length p.es.length), (16, sV b4 p.es.length p.es.length), (17, iV (p.es.length : Int)), (18, iV ((k + 1 : Nat) : Int))], [(b4, cO (rowL p.es.length (lkC s p.es (k + 1))) 55), (b3, aO #[iV 0, iV 0, iV 0, iV 0, .slice none 0 0] 26), (b2, aO #[iV (s : Int)] 132), (b1, aO #[iV p.ll, iV p.lh, iV p.ul, iV p.uh, .slice p.ea p.es.length p.ec] 26)]⟩) (acc := [(iV (IntKind.i64.wrap ((k : Int) + 1)), iV ((k + 1 : Nat) : Int))]) (by kernel_rfl) (by kernel_rfl) ⟨(wr (by omega) (by omega)), trivial⟩ ?_
        exact run_round (by kernel_rfl) (hJ0 (k + 1) (by omega) (by omega))
      | true =>
        refine run_ret1 132 #[iV (s : Int), iV (k : Int)] (some 30) (.bool true) (by kernel_rfl) (fun w1 k1 h1 => (by have h := has_any s k (by omega) (by omega) w1; rw [hd3] at h; exact h)) ?_
        refine run_auto [(31, .bool false), (37, iV ((k + 1 : Nat) : Int))] 10 [false] [] [2, 3, 4, 5, 16, 17, 18] [0, 1, 2, 3] (st' := ⟨[(2, pA b1), (3, pA b2), (4, pA b3), (5, sV b4 p.es.length p.es.length), (16, sV b4 p.es.length p.es.length), (17, iV (p.es.length : Int)), (18, iV ((k + 1 : Nat) : Int))], [(b4, cO (rowL p.es.length (lkC s p.es k)) 55), (b3, aO #[iV 0, iV 0, iV 0, iV 0, .slice none 0 0] 26), (b2, aO #[iV (s : Int)] 132), (b1, aO #[iV p.ll, iV p.lh, iV p.ul, iV p.uh, .slice p.ea p.es.length p.ec] 26)]⟩) (acc := [(iV (IntKind.i64.wrap ((k : Int) + 1)), iV ((k + 1 : Nat) : Int)), (.bool false, .bool false), (.bool false, .bool false)]) (by kernel_rfl) (by kernel_rfl) ⟨(wr (by omega) (by omega)), rfl, rfl, trivial⟩ ?_
        have hj := hJ0 (k + 1) (by omega) (by omega)
        rw [lk_no (by unfold lkE; rw [hd2, hd3]; rfl)] at hj
        exact run_round (by kernel_rfl) hj

end Go.Proofs.YtdehgplklgfcdaaGreat
