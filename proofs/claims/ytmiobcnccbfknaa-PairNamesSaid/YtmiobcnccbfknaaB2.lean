/-
  PAIR: maps.Values and maps.Keys of what is known.
-/
import Derived.Test.YtmiobcnccbfknaaB1
namespace Go.Proofs.Ytmiobcnccbfknaa
open Go.RowKit Go.Proofs.Try


theorem entF_nodup (s : List ((Int × Int) × Gp)) : ((entF s).toList.map (·.born)).Nodup := by
  have : ∀ (s : List ((Int × Int) × Gp)) (es : Array MapEntry), (∀ i (h : i < es.size), es[i].born = i) → ∀ i (h : i < (s.foldl entK es).size), (s.foldl entK es)[i].born = i := by
    intro s
    induction s with
    | nil => exact fun es h => h
    | cons k s ih =>
      intro es h
      refine ih (entK es k) fun i hi => ?_
      unfold entK at hi ⊢
      rw [Array.getElem_push]
      split
      · exact h _ _
      · have : i = es.size := by simp at hi; omega
        exact this.symm
  have h := this s #[] (fun i h => by simp at h)
  unfold List.Nodup
  rw [List.pairwise_iff_getElem]
  intro i j hi hj hlt
  simp only [List.getElem_map, Array.getElem_toList]
  have e1 := h i (by simpa [entF] using hi)
  have e2 := h j (by simpa [entF] using hj)
  unfold entF
  omega
theorem entF_born (s : List ((Int × Int) × Gp)) : ∀ x ∈ (entF s).toList, x.born < s.length := fun _ hx => by
  obtain ⟨_, _, _, _, h⟩ := entF_mem hx
  exact h
def valV (e : MapEntry) : List Value := [e.val]
def keyV (e : MapEntry) : List Value := [e.key]
/-- The map and what holds it lie where nobody writes. -/
def MapPin (s : List ((Int × Int) × Gp)) (b bm : Nat) (D : Nat → Prop) (w : World) : Prop := w.heap[b]? = some (.cells #[.map (some bm)] 77 (0, 0)) ∧ w.heap[bm]? = some (.map (entF s) s.length) ∧ ¬ D b ∧ ¬ D bm
/-- A list that goes on to one of these elements in some order. -/
def PrePerm (xs l : List (List Value)) : Prop := ∃ r, (l ++ r).Perm xs
def FinPerm (xs l : List (List Value)) : Prop := l.Perm xs
theorem pre_perm {es : Array MapEntry} {l : List MapEntry} (V : MapEntry → List Value) (hn : (es.toList.map (·.born)).Nodup) (h : MapIn es l) {e : MapEntry} (he : e ∈ (leftOf es (bornsL l)).toList) : PrePerm (es.toList.map V) (l.map V ++ [V e]) := by
  have h2 := h.next hn he
  exact ⟨(leftOf es (bornsL (l ++ [e]))).toList.map V, by have := List.Perm.map V h2; simpa using this⟩
set_option maxRecDepth 100000 in
theorem values_any (bm : Nat) (w : World)  : Calls Try.prog 39 #[.map (some bm)] w (Nw (α := Unit) (fun _ b => .func (.func 76) #[] #[.pointer (some ⟨b, 0, none⟩)]) (fun _ => .cells #[.map (some bm)] 77 (0, 0)) (fun _ => True) w) := by
  refine calls_run (fn := f39) (c := (f39.body).getD .skip) [.map (some bm)] func39 (by kernel_rfl) (fun _ => False) [] (fun _ h => by cases h) (List.Pairwise.nil) 4 (by kernel_rfl) (by simp) ?_
  refine run_auto [] 2 [] [] [0] [] (st' := ⟨[(0, .map (some bm))], []⟩) (acc := []) (by kernel_rfl) (by kernel_rfl) trivial ?_
  refine run_new (.cells #[.map (some bm)] 77 (0, 0)) (fun b1 => .pointer (some ⟨b1, 0, none⟩)) (some 1) (fun _ => by kernel_rfl) (fun b1 hb1 => ?_)
  refine run_auto [] 7 [] [] [2] [0] (st' := ⟨[(2, .func (.func 76) #[] #[.pointer (some ⟨b1, 0, none⟩)])], [(b1, .cells #[.map (some bm)] 77 (0, 0))]⟩) (acc := []) (by kernel_rfl) (by kernel_rfl) trivial ?_
  refine run_end (fn := f39) rfl (Nat.le_refl _) (by kernel_rfl) [] [.func (.func 76) #[] #[.pointer (some ⟨b1, 0, none⟩)]] (e := []) (by kernel_rfl) trivial (fun w1 k1 h1 => ?_)
  exact ⟨(), b1, trivial, hb1, rfl, k1.keeps (fun _ h => h), h1 (b1, _) (List.mem_of_getElem? (i := 0) rfl)⟩

set_option maxRecDepth 100000 in
theorem keys_any (bm : Nat) (w : World)  : Calls Try.prog 46 #[.map (some bm)] w (Nw (α := Unit) (fun _ b => .func (.func 79) #[] #[.pointer (some ⟨b, 0, none⟩)]) (fun _ => .cells #[.map (some bm)] 77 (0, 0)) (fun _ => True) w) := by
  refine calls_run (fn := f46) (c := (f46.body).getD .skip) [.map (some bm)] func46 (by kernel_rfl) (fun _ => False) [] (fun _ h => by cases h) (List.Pairwise.nil) 4 (by kernel_rfl) (by simp) ?_
  refine run_auto [] 2 [] [] [0] [] (st' := ⟨[(0, .map (some bm))], []⟩) (acc := []) (by kernel_rfl) (by kernel_rfl) trivial ?_
  refine run_new (.cells #[.map (some bm)] 77 (0, 0)) (fun b1 => .pointer (some ⟨b1, 0, none⟩)) (some 1) (fun _ => by kernel_rfl) (fun b1 hb1 => ?_)
  refine run_auto [] 7 [] [] [2] [0] (st' := ⟨[(2, .func (.func 79) #[] #[.pointer (some ⟨b1, 0, none⟩)])], [(b1, .cells #[.map (some bm)] 77 (0, 0))]⟩) (acc := []) (by kernel_rfl) (by kernel_rfl) trivial ?_
  refine run_end (fn := f46) rfl (Nat.le_refl _) (by kernel_rfl) [] [.func (.func 79) #[] #[.pointer (some ⟨b1, 0, none⟩)]] (e := []) (by kernel_rfl) trivial (fun w1 k1 h1 => ?_)
  exact ⟨(), b1, trivial, hb1, rfl, k1.keeps (fun _ h => h), h1 (b1, _) (List.mem_of_getElem? (i := 0) rfl)⟩

set_option maxRecDepth 100000 in
theorem values_give (s : List ((Int × Int) × Gp)) (b bm : Nat) : Gives Try.prog 76 #[.pointer (some ⟨b, 0, none⟩)] [] (MapPin s b bm) (PrePerm ((entF s).toList.map valV)) (FinPerm ((entF s).toList.map valV)) := by
  intro l J Jx E0 w hE0 hst hJw hown hdis hpin hy
  obtain ⟨hb, hm, hnd, hmnd⟩ := hpin
  have hmlt : bm < w.heap.size := (Array.getElem?_eq_some_iff.1 hm).1
  refine calls_runE (fn := f76) (c := (f76.body).getD .skip) [.func (.yield l) #[] #[], .pointer (some ⟨b, 0, none⟩)] func76 (by kernel_rfl) E0 hE0 hJw 15 (by kernel_rfl) (by simp) ?_
  refine run_auto [] 2 [] [] [0, 1] [] (st' := ⟨[(0, .func (.yield l) #[] #[]), (1, .pointer (some ⟨b, 0, none⟩))], []⟩) (acc := []) (by kernel_rfl) (by kernel_rfl) trivial ?_
  refine run_v (Instr.loadAt 77 (.pointer (some ⟨b, 0, none⟩)) >>= fun v => pure (Next.value v)) (some 5) (.map (some bm)) (by kernel_rfl) (fun w1 k1 h1 => load_in (base := 0) (off := 0) k1 hnd [.map (some bm)] (fun i u hi => by rw [Nat.zero_add]; exact cells_of_heap hb i u hi) (by kernel_rfl)) ?_
  refine run_rangeMap (some 6) 77 79 70 bm (entF s) s.length (by kernel_rfl) (by kernel_rfl) (fun w1 k1 h1 => (k1.block bm hmlt hmnd).trans hm) (fun b1 hb1 => ?_)
  refine run_auto [] 2 [] [] [0, 6] [0] (st' := ⟨[(0, .func (.yield l) #[] #[]), (6, .pointer (some ⟨b1, 0, none⟩))], [(b1, .mapIter (some bm) s.length #[] s.length)]⟩) (acc := []) (by kernel_rfl) (by kernel_rfl) trivial ?_
  refine run_auto [] 0 [] [] [0, 6] [0] (st' := ⟨[(0, .func (.yield l) #[] #[]), (6, .pointer (some ⟨b1, 0, none⟩))], [(b1, .mapIter (some bm) s.length #[] s.length)]⟩) (acc := []) (by kernel_rfl) (by kernel_rfl) trivial ?_
  refine run_loopE (σ := List MapEntry × Ext) (S := fun (x : List MapEntry × Ext) => ⟨[(0, .func (.yield l) #[] #[]), (6, .pointer (some ⟨b1, 0, none⟩))], [(b1, .mapIter (some bm) s.length (bornsL x.1) s.length)]⟩) (fun (x : List MapEntry × Ext) => x.2) (fun (x : List MapEntry × Ext) => MapIn (entF s) x.1 ∧ J (x.1.map valV) x.2 ∧ x.2.n0 = E0.n0 ∧ (∀ b, b < w.heap.size → x.2.D b → E0.D b)) (fun (x : List MapEntry × Ext) => (leftOf (entF s) (bornsL x.1)).size) (([], E0)) (by kernel_rfl) (⟨MapIn.start _, hst, rfl, fun _ _ h => h⟩) (by kernel_rfl) rfl (fun x hI0 J0 hJ0 => ?_)
  obtain ⟨L, Ea⟩ := x
  obtain ⟨hI1, hI2, hI3, hI4⟩ := hI0
  dsimp only at hI1 hI2 hI3 hI4 hJ0
  refine run_auto [] 2 [] [] [0, 6] [0] (st' := ⟨[(0, .func (.yield l) #[] #[]), (6, .pointer (some ⟨b1, 0, none⟩))], [(b1, .mapIter (some bm) s.length (bornsL L) s.length)]⟩) (acc := []) (by kernel_rfl) (by kernel_rfl) trivial ?_
  refine run_nextMap (some 7) 0 b1 bm s.length s.length (bornsL L) (entF s) s.length 0 (by kernel_rfl) (by kernel_rfl) (fun w1 k1 h1 => (k1.block bm hmlt hmnd).trans hm) (entF_born s) (Nat.le_refl _) (fun hno => ?_) (fun e he => ?_)
  · skip
    refine run_auto [] 5 [false] [] [] [] (st' := ⟨[], []⟩) (acc := [(.bool false, .bool false)]) (by kernel_rfl) (by kernel_rfl) ⟨rfl, trivial⟩ ?_
    refine run_endE (fn := f76) rfl (Nat.le_refl _) (by kernel_rfl) [] [] (e := []) (by kernel_rfl) trivial (fun w1 k1 h1 hE1 => ?_)
    exact ⟨rfl, Ea, hI3, hE1, .inl ⟨L.map valV, List.Perm.map valV (hI1.done hno), hI2⟩⟩
  · skip
    obtain ⟨k, hk, hek, hev, _⟩ := entF_mem (MapIn.mem he)
    rw [hek, hev]
    refine run_auto [] 8 [true] [] [0, 6] [0] (st' := ⟨[(0, .func (.yield l) #[] #[]), (6, .pointer (some ⟨b1, 0, none⟩))], [(b1, .mapIter (some bm) s.length ((bornsL L).push e.born) s.length)]⟩) (acc := [(.bool true, .bool true)]) (by kernel_rfl) (by kernel_rfl) ⟨rfl, trivial⟩ ?_
    refine run_v (Instr.entry (.pointer (some ⟨b1, 0, none⟩)) >>= fun v => pure (Next.value v)) (some 9) (.tuple #[.agg #[.int .i64 k.1.1, .int .i64 k.1.2], .agg (gc k.2).toArray]) (by kernel_rfl) (fun w1 k1 h1 => entry_run (e := e) (h1 (b1, .mapIter (some bm) s.length ((bornsL L).push e.born) s.length) (List.mem_of_getElem? (i := 0) (by kernel_rfl))) ((k1.block bm hmlt hmnd).trans hm) (MapIn.mem he) (entF_nodup s) hek hev) ?_
    refine run_auto [] 1 [] [] [0, 6, 10] [0] (st' := ⟨[(0, .func (.yield l) #[] #[]), (6, .pointer (some ⟨b1, 0, none⟩)), (10, .agg (gc k.2).toArray)], [(b1, .mapIter (some bm) s.length ((bornsL L).push e.born) s.length)]⟩) (acc := []) (by kernel_rfl) (by kernel_rfl) trivial ?_
    refine run_new (.cells #[.int .i64 0, .int .i64 0, .int .i64 0, .int .i64 0, .int .i64 0, .int .i64 0, .int .i64 0, .int .i64 0, .int .i64 0, .int .i64 0, .int .i64 0, .int .i64 0, .int .i64 0, .int .i64 0, .int .i64 0, .int .i64 0, .int .i64 0, .int .i64 0, .int .i64 0, .int .i64 0, .int .i64 0, .int .i64 0, .int .i64 0, .int .i64 0, .int .i64 0, .int .i64 0, .int .i64 0, .int .i64 0, .int .i64 0, .int .i64 0, .int .i64 0, .int .i64 0, .int .i64 0, .int .i64 0, .int .i64 0, .int .i64 0] 70 (0, 0)) (fun b2 => .pointer (some ⟨b2, 0, none⟩)) (some 4) (fun _ => by kernel_rfl) (fun b2 hb2 => ?_)
    refine run_auto [] 6 [] [0, 0] [0, 6, 11, 12] [1] (st' := ⟨[(0, .func (.yield l) #[] #[]), (6, .pointer (some ⟨b1, 0, none⟩)), (11, .func (.yield l) #[] #[]), (12, .agg (gc k.2).toArray)], [(b1, .mapIter (some bm) s.length ((bornsL L).push e.born) s.length)]⟩) (acc := [(.pointer (some ⟨b2, 0, none⟩), .pointer (some ⟨b2, 0, none⟩)), (.pointer (some ⟨b2, 0, none⟩), .pointer (some ⟨b2, 0, none⟩))]) (by kernel_rfl) (by kernel_rfl) ⟨rfl, rfl, trivial⟩ ?_
    have hpre : PrePerm ((entF s).toList.map valV) (L.map valV ++ [valV e]) := pre_perm valV (entF_nodup s) hI1 he
    refine run_yield l #[.agg (gc k.2).toArray] (some 13) (by kernel_rfl) hI4 (Yt (J (L.map valV ++ [valV e])) Jx) (fun w1 hJ1 k1 => by have h := Ygives.out (Ygives.of (E := Ea) (hy _ (valV e) Ea w1 hpre hI2 hI3 hJ1) hI3); rw [show (valV e).toArray = #[.agg (gc k.2).toArray] from (by unfold valV; rw [hev])] at h; exact h) (fun E3 t hok hn3 hs3 => ?_)
    have hs4 : ∀ b, b < w.heap.size → E3.D b → E0.D b := fun b hb h => (hs3 b h).elim (hI4 b hb) (fun h => absurd hb (Nat.not_lt.2 h))
    cases hd1 : t with
    | false =>
      rw [hd1] at hok
      dsimp only [Yt] at hok
      refine run_auto [(14, .bool true)] 3 [true] [] [0, 6] [0] (st' := ⟨[(0, .func (.yield l) #[] #[]), (6, .pointer (some ⟨b1, 0, none⟩))], [(b1, .mapIter (some bm) s.length ((bornsL L).push e.born) s.length)]⟩) (acc := [(.bool true, .bool true), (.bool true, .bool true)]) (by kernel_rfl) (by kernel_rfl) ⟨rfl, rfl, trivial⟩ ?_
      refine run_endE (fn := f76) rfl (Nat.le_refl _) (by kernel_rfl) [] [] (e := []) (by kernel_rfl) trivial (fun w1 k1 h1 hE1 => ?_)
      exact ⟨rfl, E3, hn3.trans hI3, hE1, .inr hok⟩
    | true =>
      rw [hd1] at hok
      dsimp only [Yt] at hok
      refine run_auto [(14, .bool false)] 5 [false] [] [0, 6] [0] (st' := ⟨[(0, .func (.yield l) #[] #[]), (6, .pointer (some ⟨b1, 0, none⟩))], [(b1, .mapIter (some bm) s.length ((bornsL L).push e.born) s.length)]⟩) (acc := [(.bool false, .bool false), (.bool false, .bool false)]) (by kernel_rfl) (by kernel_rfl) ⟨rfl, rfl, trivial⟩ ?_
      rw [bornsL_push]
      exact run_round (by kernel_rfl) (hJ0 ((L ++ [e], E3)) (⟨hI1.next (entF_nodup s) he, by rw [List.map_append]; exact hok, hn3.trans hI3, hs4⟩) (MapIn.less he))
set_option maxRecDepth 100000 in
theorem keys_give (s : List ((Int × Int) × Gp)) (b bm : Nat) : Gives Try.prog 79 #[.pointer (some ⟨b, 0, none⟩)] [] (MapPin s b bm) (PrePerm ((entF s).toList.map keyV)) (FinPerm ((entF s).toList.map keyV)) := by
  intro l J Jx E0 w hE0 hst hJw hown hdis hpin hy
  obtain ⟨hb, hm, hnd, hmnd⟩ := hpin
  have hmlt : bm < w.heap.size := (Array.getElem?_eq_some_iff.1 hm).1
  refine calls_runE (fn := f79) (c := (f79.body).getD .skip) [.func (.yield l) #[] #[], .pointer (some ⟨b, 0, none⟩)] func79 (by kernel_rfl) E0 hE0 hJw 14 (by kernel_rfl) (by simp) ?_
  refine run_auto [] 2 [] [] [0, 1] [] (st' := ⟨[(0, .func (.yield l) #[] #[]), (1, .pointer (some ⟨b, 0, none⟩))], []⟩) (acc := []) (by kernel_rfl) (by kernel_rfl) trivial ?_
  refine run_v (Instr.loadAt 77 (.pointer (some ⟨b, 0, none⟩)) >>= fun v => pure (Next.value v)) (some 4) (.map (some bm)) (by kernel_rfl) (fun w1 k1 h1 => load_in (base := 0) (off := 0) k1 hnd [.map (some bm)] (fun i u hi => by rw [Nat.zero_add]; exact cells_of_heap hb i u hi) (by kernel_rfl)) ?_
  refine run_rangeMap (some 5) 77 79 70 bm (entF s) s.length (by kernel_rfl) (by kernel_rfl) (fun w1 k1 h1 => (k1.block bm hmlt hmnd).trans hm) (fun b1 hb1 => ?_)
  refine run_auto [] 2 [] [] [0, 5] [0] (st' := ⟨[(0, .func (.yield l) #[] #[]), (5, .pointer (some ⟨b1, 0, none⟩))], [(b1, .mapIter (some bm) s.length #[] s.length)]⟩) (acc := []) (by kernel_rfl) (by kernel_rfl) trivial ?_
  refine run_auto [] 0 [] [] [0, 5] [0] (st' := ⟨[(0, .func (.yield l) #[] #[]), (5, .pointer (some ⟨b1, 0, none⟩))], [(b1, .mapIter (some bm) s.length #[] s.length)]⟩) (acc := []) (by kernel_rfl) (by kernel_rfl) trivial ?_
  refine run_loopE (σ := List MapEntry × Ext) (S := fun (x : List MapEntry × Ext) => ⟨[(0, .func (.yield l) #[] #[]), (5, .pointer (some ⟨b1, 0, none⟩))], [(b1, .mapIter (some bm) s.length (bornsL x.1) s.length)]⟩) (fun (x : List MapEntry × Ext) => x.2) (fun (x : List MapEntry × Ext) => MapIn (entF s) x.1 ∧ J (x.1.map keyV) x.2 ∧ x.2.n0 = E0.n0 ∧ (∀ b, b < w.heap.size → x.2.D b → E0.D b)) (fun (x : List MapEntry × Ext) => (leftOf (entF s) (bornsL x.1)).size) (([], E0)) (by kernel_rfl) (⟨MapIn.start _, hst, rfl, fun _ _ h => h⟩) (by kernel_rfl) rfl (fun x hI0 J0 hJ0 => ?_)
  obtain ⟨L, Ea⟩ := x
  obtain ⟨hI1, hI2, hI3, hI4⟩ := hI0
  dsimp only at hI1 hI2 hI3 hI4 hJ0
  refine run_auto [] 2 [] [] [0, 5] [0] (st' := ⟨[(0, .func (.yield l) #[] #[]), (5, .pointer (some ⟨b1, 0, none⟩))], [(b1, .mapIter (some bm) s.length (bornsL L) s.length)]⟩) (acc := []) (by kernel_rfl) (by kernel_rfl) trivial ?_
  refine run_nextMap (some 6) 0 b1 bm s.length s.length (bornsL L) (entF s) s.length 0 (by kernel_rfl) (by kernel_rfl) (fun w1 k1 h1 => (k1.block bm hmlt hmnd).trans hm) (entF_born s) (Nat.le_refl _) (fun hno => ?_) (fun e he => ?_)
  · skip
    refine run_auto [] 5 [false] [] [] [] (st' := ⟨[], []⟩) (acc := [(.bool false, .bool false)]) (by kernel_rfl) (by kernel_rfl) ⟨rfl, trivial⟩ ?_
    refine run_endE (fn := f79) rfl (Nat.le_refl _) (by kernel_rfl) [] [] (e := []) (by kernel_rfl) trivial (fun w1 k1 h1 hE1 => ?_)
    exact ⟨rfl, Ea, hI3, hE1, .inl ⟨L.map keyV, List.Perm.map keyV (hI1.done hno), hI2⟩⟩
  · skip
    obtain ⟨k, hk, hek, hev, _⟩ := entF_mem (MapIn.mem he)
    rw [hek, hev]
    refine run_auto [] 8 [true] [] [0, 5] [0] (st' := ⟨[(0, .func (.yield l) #[] #[]), (5, .pointer (some ⟨b1, 0, none⟩))], [(b1, .mapIter (some bm) s.length ((bornsL L).push e.born) s.length)]⟩) (acc := [(.bool true, .bool true)]) (by kernel_rfl) (by kernel_rfl) ⟨rfl, trivial⟩ ?_
    refine run_v (Instr.entry (.pointer (some ⟨b1, 0, none⟩)) >>= fun v => pure (Next.value v)) (some 8) (.tuple #[.agg #[.int .i64 k.1.1, .int .i64 k.1.2], .agg (gc k.2).toArray]) (by kernel_rfl) (fun w1 k1 h1 => entry_run (e := e) (h1 (b1, .mapIter (some bm) s.length ((bornsL L).push e.born) s.length) (List.mem_of_getElem? (i := 0) (by kernel_rfl))) ((k1.block bm hmlt hmnd).trans hm) (MapIn.mem he) (entF_nodup s) hek hev) ?_
    refine run_auto [] 1 [] [] [0, 5, 9] [0] (st' := ⟨[(0, .func (.yield l) #[] #[]), (5, .pointer (some ⟨b1, 0, none⟩)), (9, .agg #[.int .i64 k.1.1, .int .i64 k.1.2])], [(b1, .mapIter (some bm) s.length ((bornsL L).push e.born) s.length)]⟩) (acc := []) (by kernel_rfl) (by kernel_rfl) trivial ?_
    refine run_new (.cells #[.int .i64 0, .int .i64 0] 79 (0, 0)) (fun b2 => .pointer (some ⟨b2, 0, none⟩)) (some 3) (fun _ => by kernel_rfl) (fun b2 hb2 => ?_)
    refine run_auto [] 6 [] [0, 0] [0, 5, 10, 11] [1] (st' := ⟨[(0, .func (.yield l) #[] #[]), (5, .pointer (some ⟨b1, 0, none⟩)), (10, .func (.yield l) #[] #[]), (11, .agg #[.int .i64 k.1.1, .int .i64 k.1.2])], [(b1, .mapIter (some bm) s.length ((bornsL L).push e.born) s.length)]⟩) (acc := [(.pointer (some ⟨b2, 0, none⟩), .pointer (some ⟨b2, 0, none⟩)), (.pointer (some ⟨b2, 0, none⟩), .pointer (some ⟨b2, 0, none⟩))]) (by kernel_rfl) (by kernel_rfl) ⟨rfl, rfl, trivial⟩ ?_
    have hpre : PrePerm ((entF s).toList.map keyV) (L.map keyV ++ [keyV e]) := pre_perm keyV (entF_nodup s) hI1 he
    refine run_yield l #[.agg #[.int .i64 k.1.1, .int .i64 k.1.2]] (some 12) (by kernel_rfl) hI4 (Yt (J (L.map keyV ++ [keyV e])) Jx) (fun w1 hJ1 k1 => by have h := Ygives.out (Ygives.of (E := Ea) (hy _ (keyV e) Ea w1 hpre hI2 hI3 hJ1) hI3); rw [show (keyV e).toArray = #[.agg #[.int .i64 k.1.1, .int .i64 k.1.2]] from (by unfold keyV; rw [hek])] at h; exact h) (fun E3 t hok hn3 hs3 => ?_)
    have hs4 : ∀ b, b < w.heap.size → E3.D b → E0.D b := fun b hb h => (hs3 b h).elim (hI4 b hb) (fun h => absurd hb (Nat.not_lt.2 h))
    cases hd1 : t with
    | false =>
      rw [hd1] at hok
      dsimp only [Yt] at hok
      refine run_auto [(13, .bool true)] 3 [true] [] [0, 5] [0] (st' := ⟨[(0, .func (.yield l) #[] #[]), (5, .pointer (some ⟨b1, 0, none⟩))], [(b1, .mapIter (some bm) s.length ((bornsL L).push e.born) s.length)]⟩) (acc := [(.bool true, .bool true), (.bool true, .bool true)]) (by kernel_rfl) (by kernel_rfl) ⟨rfl, rfl, trivial⟩ ?_
      refine run_endE (fn := f79) rfl (Nat.le_refl _) (by kernel_rfl) [] [] (e := []) (by kernel_rfl) trivial (fun w1 k1 h1 hE1 => ?_)
      exact ⟨rfl, E3, hn3.trans hI3, hE1, .inr hok⟩
    | true =>
      rw [hd1] at hok
      dsimp only [Yt] at hok
      refine run_auto [(13, .bool false)] 5 [false] [] [0, 5] [0] (st' := ⟨[(0, .func (.yield l) #[] #[]), (5, .pointer (some ⟨b1, 0, none⟩))], [(b1, .mapIter (some bm) s.length ((bornsL L).push e.born) s.length)]⟩) (acc := [(.bool false, .bool false), (.bool false, .bool false)]) (by kernel_rfl) (by kernel_rfl) ⟨rfl, rfl, trivial⟩ ?_
      rw [bornsL_push]
      exact run_round (by kernel_rfl) (hJ0 ((L ++ [e], E3)) (⟨hI1.next (entF_nodup s) he, by rw [List.map_append]; exact hok, hn3.trans hI3, hs4⟩) (MapIn.less he))
end Go.Proofs.Ytmiobcnccbfknaa
