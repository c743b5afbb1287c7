/-
  WARM: the iterator over what a function tells of each pair of a set.
-/
import Derived.Test.YtmhpgjlegajpeaaB3
namespace Go.Proofs.Ytmhpgjlegajpeaa
open Go.RowKit Go.Shelf Go.Maps
attribute [local go_sem] Oper.semAt_some

/-- A range over the set of pairs at b is under way: its iterator is r, the pairs of done have come. -/
def Prng (W : World) (b r : Nat) (m : Int) (l done : List Pr) (D : DataW Nat) (left : Lit → Bool) (cnt : Nat) : Prop :=
  W.ranges Try.prog 85 (plainElem Try.prog 4) b r l.length D left cnt ∧ l.Nodup ∧ done.Nodup ∧ (∀ p ∈ done, p ∈ l) ∧ (∀ kl, left kl = true ↔ ∃ p ∈ l, p ∉ done ∧ kl = prK m p) ∧ done.length + cnt ≤ l.length
theorem Prng.start {W : World} {b r : Nat} {m : Int} {l : List Pr} {D : DataW Nat} (h : W.ranges Try.prog 85 (plainElem Try.prog 4) b r l.length D (Maps.has D) (Maps.size D)) (hn : l.Nodup) (hs : Maps.size D = l.length)
    (hh : ∀ kl, Maps.has D kl = true ↔ ∃ p ∈ l, kl = prK m p) : Prng W b r m l [] D (Maps.has D) (Maps.size D) :=
  ⟨h, hn, List.nodup_nil, fun p hp => absurd hp List.not_mem_nil, fun kl => by rw [hh]; simp, by simp [hs]⟩
theorem Prng.came {W : World} {b r : Nat} {m : Int} (m1 : 1 ≤ m) (m2 : m ≤ 100) {l done : List Pr} {D : DataW Nat} {left : Lit → Bool} {cnt : Nat} (h : Prng W b r m l done D left cnt) {x : Value} {kl : Lit} (hk : keyOf Try.prog 85 x = some kl) (hl : left kl = true) :
    ∃ p, p ∈ l ∧ p ∉ done ∧ kl = prK m p ∧ x = pV m p := by
  obtain ⟨p, hp, hnp, rfl⟩ := (h.2.2.2.2.1 kl).1 hl
  exact ⟨p, hp, hnp, rfl, pair_law.inj hk (pair_key m1 m2 p)⟩
theorem Prng.step {W W' : World} {b r : Nat} {m : Int} (m1 : 1 ≤ m) (m2 : m ≤ 100) {l done : List Pr} {D : DataW Nat} {left : Lit → Bool} {cnt cnt' : Nat} (h : Prng W b r m l done D left cnt) {p : Pr} (hp : p ∈ l) (hnp : p ∉ done)
    (hr : W'.ranges Try.prog 85 (plainElem Try.prog 4) b r l.length D (fun z => left z && !z.sameKey (prK m p)) cnt') (hlt : cnt' < cnt) : Prng W' b r m l (done ++ [p]) D (fun z => left z && !z.sameKey (prK m p)) cnt' := by
  obtain ⟨_, hn, hd, hs, hl, hc⟩ := h
  refine ⟨hr, hn, ?_, ?_, fun kl => ?_, by simp; omega⟩
  · rw [List.nodup_append]
    exact ⟨hd, by simp, by
      intro a ha c hcm e
      rw [List.mem_singleton] at hcm
      exact hnp (hcm ▸ e ▸ ha)⟩
  · intro q hq
    rcases List.mem_append.1 hq with h | h
    · exact hs q h
    · rw [List.mem_singleton] at h; exact h ▸ hp
  · dsimp only
    rw [Bool.and_eq_true, hl]
    constructor
    · rintro ⟨⟨q, hq, hnq, rfl⟩, e⟩
      refine ⟨q, hq, ?_, rfl⟩
      intro hm
      rcases List.mem_append.1 hm with h | h
      · exact hnq h
      · rw [List.mem_singleton] at h
        subst h
        simp [prK, Lit.sameKey] at e
    · rintro ⟨q, hq, hnq, rfl⟩
      refine ⟨⟨q, hq, fun h => hnq (List.mem_append_left _ h), rfl⟩, ?_⟩
      rw [Maps.sameKey_ne (fun e => hnq (by rw [prK_inj m1 m2 e]; simp))]
      rfl
theorem Prng.all {W : World} {b r : Nat} {m : Int} {l done : List Pr} {D : DataW Nat} {left : Lit → Bool} {cnt : Nat} (h : Prng W b r m l done D left cnt) (hl : ∀ kl, left kl = false) : done.Perm l := by
  obtain ⟨_, hn, hd, hs, hl2, hc⟩ := h
  refine (List.perm_ext_iff_of_nodup hd hn).2 fun a => ⟨hs a, fun ha => ?_⟩
  by_cases hm : a ∈ done
  · exact hm
  · have := (hl2 (prK m a)).2 ⟨a, ha, hm, rfl⟩
    rw [hl] at this
    cases this
theorem Prng.keepX {X : Nat → Prop} {W W' : World} {b r : Nat} {m : Int} {l done : List Pr} {D : DataW Nat} {left : Lit → Bool} {cnt : Nat} (h : Prng W b r m l done D left cnt) (hk : KeepX X W W') (hb : ¬ X b) (hr : ¬ X r) : Prng W' b r m l done D left cnt := by
  obtain ⟨⟨es, clock, since, seen, c0, h1, F, h2, h3, h4, h5⟩, h6⟩ := h
  exact ⟨⟨es, clock, since, seen, c0, hk.same _ _ h1 (.inr rfl) hb, F, h2, h3, hk.same _ _ h4 (.inr rfl) hr, h5⟩, h6⟩
theorem KeepX.grown_new {X : Nat → Prop} {W wr w2 : World} {r : Nat} (h : KeepX X W wr) (hg : wr.grownBy w2 (some r)) (hr : W.heap.size ≤ r) : KeepX X W w2 :=
  ⟨Nat.le_trans h.size hg.size, fun k o hk ho hx => by
    have hlt := (Array.getElem?_eq_some_iff.1 hk).1
    have h1 := h.same k o hk ho hx
    exact (hg.block k (Array.getElem?_eq_some_iff.1 h1).1 (fun e => by cases e; omega)).trans h1⟩
theorem Keeps.grown {w w' : World} (k : Keeps w w') (row : Option Nat) : w.grownBy w' row := ⟨k.os, k.tape, k.output, k.size, fun _ hi _ => k.heap hi⟩

set_option maxRecDepth 100000 in
set_option maxHeartbeats 3200000 in
theorem each1_in (n : Nat) (hn : 1 ≤ n) (l b1 b2 b : Nat) (X : Nat → Prop) (m : Int) (m1 : 1 ≤ m) (m2 : m ≤ 100) (ps : List Pr) (T : Nat) (f : Pr → Int) (hT : ∀ args w, (callFunc T args).run Try.prog w = .ok (.enter T args) w) (hf : ∀ p w, Calls Try.prog T #[pV m p] w (RetI (f p) w)) (J Jx : List Int → World → Prop)
    (hY : ∀ pre x W, J pre W → pre.length < ps.length → YieldAt Fence.wide (n - 1) Try.prog l #[.int .i64 x] W fun e W' =>
      (e = .returned (.bool true) ∧ J (pre ++ [x]) W' ∧ KeepX X W W') ∨ (e = .returned (.bool false) ∧ Jx (pre ++ [x]) W'))
    (W : World) (hJ : AbidesFrom W.heap.size J) (hX : ∀ k, X k → k < W.heap.size) (hx1 : ¬ X b1) (hx2 : ¬ X b2) (hxb : ¬ X b) (h1 : W.cell? ⟨b1, 0, none⟩ = some (.map (some b))) (h2 : W.cell? ⟨b2, 0, none⟩ = some (.func (.func T) #[] #[])) (hP : Pset W b m ps) (h0 : J [] W) :
    CallsIn Fence.wide n Try.prog 97 #[.func (.yield l) #[] #[], .pointer (some ⟨b1, 0, none⟩), .pointer (some ⟨b2, 0, none⟩)] W fun e W' => (∃ v, e = .returned v) ∧
      ((∃ ys, (∃ qs : List Pr, qs.Perm ps ∧ ys = qs.map f) ∧ J ys W') ∨ (∃ pre, True ∧ Jx pre W')) := by
  obtain ⟨D, hown, hnd, hsz, hhas⟩ := hP
  have HY := Lib.hid hY
  have HJ := Lib.hid hJ
  have HX1 := Lib.hid hx1
  have HX2 := Lib.hid hx2
  have HXb := Lib.hid hxb
  have HXr := Lib.hid (show ¬ X W.heap.size from fun h => by have := hX _ h; omega)
  have HF := Lib.hid (fun p w1 => (callsIn_wide (n := n - 1)).2 (hf p w1))
  have HH := Lib.hid hhas
  have hlb1 := lt_of_cell h1
  have hlb2 := lt_of_cell h2
  clear hY hJ hx1 hx2 hxb hX hf hhas
  have hfw : ∀ f, Fence.wide.fn f := fun _ => trivial
  refine callsIn_of_wp Try.func97 rfl trivial ?_
  simp only [Try.ntmps97, List.size_toArray, List.length_cons, List.length_nil, Nat.reduceAdd, Nat.reduceSub, Array.replicate_succ, Array.replicate_zero, List.push_toArray, List.append_toArray, List.nil_append, List.cons_append]
  gi_wp2_with (first
    | (gi_at_range; refine wpListIn_range_own _ rfl _ 80 rfl 85 4 pair_keyed Try.underlying80 _ b _ _ rfl hown ?_; intro w0 hrg0 hg0 hs0)
    | gi_in)
  go_frame
  gi_loopw [4] (fun _ wr => ∃ (done : List Pr) (left : Lit → Bool) (cnt : Nat), Prng wr b W.heap.size m ps done D left cnt ∧ J (done.map f) wr ∧ KeepX X W wr) (fun _ wr => wr.rangeLeft b W.heap.size)
  case atStart =>
    exact ⟨[], _, _, Prng.start hrg0 hnd hsz HH.out, HJ.out [] W w0 none h0 hg0 (fun r e => by cases e), KeepX.of_keeps ⟨hg0.os, hg0.tape, hg0.output, hg0.size, fun k hk => hg0.block k hk (by simp)⟩⟩
  case round =>
    obtain ⟨done, left, cnt, hrg, hJs, hB⟩ := hrel
    have d1 := hB.cell h1 HX1.out
    have d2 := hB.cell h2 HX2.out
    have hl1 := lt_of_cell d1
    have hl2 := lt_of_cell d2
    have hrs := hB.size
    clear h0 hg0 hs0 hrg0 hown
    gi_wp2_with (first
      | (gi_at_next; refine wpListIn_next_ranges _ rfl _ rfl 85 pair_keyed _ (fun v : Value => v) (fun v : Value => v) (fun key kl _ => ⟨key, rfl⟩) (fun v y _ => ⟨v, rfl⟩) b W.heap.size _ _ _ _ rfl hrg.1 ?_ ?_)
      | gi_in)
    · intro _ hl0
      gi_wp2
      refine bodyPost_end (results_none rfl _ _ _) rfl ?_
      exact ⟨⟨_, rfl⟩, .inl ⟨_, ⟨done, hrg.all hl0, rfl⟩, hJs⟩⟩
    · intro x c kl yd yp w2 cnt2 hkey hlk hv hat hrg2 hlt hg2 hs2 hen
      obtain ⟨p, hp, hnp, rfl, rfl⟩ := hrg.came m1 m2 hkey hlk
      have hst := hrg.step m1 m2 hp hnp hrg2 hlt
      have hJ2 := HJ.out _ wr w2 (some W.heap.size) hJs hg2 (fun r e => by cases e; exact ⟨Nat.le_refl _, hrg.1.iter_walk⟩)
      have hB2 := hB.grown_new hg2 (Nat.le_refl _)
      have e1 := hB2.cell h1 HX1.out
      have e2 := hB2.cell h2 HX2.out
      have hm1 := lt_of_cell e1
      have hm2 := lt_of_cell e2
      have hdl : (done.map f).length < ps.length := by
        have := hst.2.2.2.2.2
        rw [List.length_map]
        simp at this
        omega
      have HF1 := Lib.hid (fun w1 => HF.out p w1)
      have HFE := Lib.hid (show (done ++ [p]).map f = done.map f ++ [f p] by simp)
      have HST := Lib.hid hst
      have HRG := Lib.hid hrg
      obtain ⟨z, hz⟩ : ∃ z, f p = z := ⟨_, rfl⟩
      rw [hz] at HF1 HFE
      obtain ⟨⟨p1, p2⟩, hpx⟩ := p
      simp only [pV] at hen HF1 ⊢
      clear hst hrg hp hnp hkey hlk hv hat hrg2 hg2 hs2 d1 d2 hl1 hl2 hz
      gi_wp2_with fail
      refine (HF1.out _).mono ?_
      rintro e w3 ⟨rfl, k3⟩
      have kk : Keeps w2 w3 := ((Keeps.refl _).alloc _).trans k3
      obtain ⟨fn, tmps, assign, body, hy, hR⟩ := HY.out _ z w3 (HJ.out _ w2 w3 none hJ2 (kk.grown none) (fun r e => by cases e)) hdl
      have KK := Lib.hid kk
      clear kk
      gi_wp2_with fail
      refine hR.mono ?_
      rintro e W3 (⟨rfl, hJ3, hk3⟩ | ⟨rfl, hJx3⟩)
      · gi_wp2_with fail
        have hP3 := (HST.out.keepX (KeepX.of_keeps KK.out) HXb.out HXr.out).keepX hk3 HXb.out HXr.out
        go_roundw
        case rel => exact ⟨_, _, cnt2, hP3, by rw [HFE.out]; exact hJ3, (hB2.trans (KeepX.of_keeps KK.out)).trans hk3⟩
        case measure => rw [hP3.1.left_eq, HRG.out.1.left_eq]; exact hlt
      · gi_wp2_with fail
        refine bodyPost_ret (results_none rfl _ _ _) rfl ?_
        exact ⟨⟨_, rfl⟩, .inr ⟨_, trivial, hJx3⟩⟩
end Go.Proofs.Ytmhpgjlegajpeaa
