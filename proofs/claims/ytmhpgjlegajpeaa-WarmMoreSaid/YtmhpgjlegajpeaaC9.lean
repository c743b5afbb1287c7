/-
  WARM: mostAlike: of how many pairs of a set the same number is shown at a warmth, at most.
  WARM: mostAlike, walked.
-/
import Derived.Maps.RangeWalk
import Derived.Maps.Keyed
import Derived.Maps.OwnIn
import Derived.Test.YtmhpgjlegajpeaaA7
import Derived.Test.YtmhpgjlegajpeaaB9
import Derived.Test.YtmhpgjlegajpeaaB7
namespace Go.Proofs.Ytmhpgjlegajpeaa
open Go.RowKit Go.Maps

/-- How many of these pairs show a number. -/
def cnt (f : Pr → Int) (l : List Pr) (z : Int) : Nat := (l.filter (fun p => f p == z)).length
theorem cnt_snoc (f : Pr → Int) (l : List Pr) (p : Pr) (z : Int) : cnt f (l ++ [p]) z = cnt f l z + if f p = z then 1 else 0 := by
  unfold cnt
  rw [List.filter_append, List.length_append]
  by_cases h : f p = z <;> simp [h]
theorem cnt_perm (f : Pr → Int) {l l' : List Pr} (h : l.Perm l') (z : Int) : cnt f l z = cnt f l' z := (h.filter _).length_eq
/-- The greatest of these numbers is n. -/
def IsMost (f : Pr → Int) (l : List Pr) (n : Nat) : Prop := (∀ z, cnt f l z ≤ n) ∧ (n = 0 ∨ ∃ z, cnt f l z = n)
theorem IsMost.uniq {f : Pr → Int} {l : List Pr} {n n' : Nat} (h : IsMost f l n) (h' : IsMost f l n') : n = n' := by
  obtain ⟨a, b⟩ := h
  obtain ⟨a', b'⟩ := h'
  rcases b with b | ⟨z, hz⟩ <;> rcases b' with b' | ⟨z', hz'⟩
  · omega
  · have := a z'; omega
  · have := a' z; omega
  · have := a z'; have := a' z; omega
theorem IsMost.perm {f : Pr → Int} {l l' : List Pr} {n : Nat} (h : IsMost f l n) (hp : l.Perm l') : IsMost f l' n := by
  obtain ⟨a, b⟩ := h
  exact ⟨fun z => by rw [← cnt_perm f hp]; exact a z, b.imp id (fun ⟨z, hz⟩ => ⟨z, by rw [← cnt_perm f hp]; exact hz⟩)⟩
theorem IsMost.step {f : Pr → Int} {l : List Pr} {n : Nat} (h : IsMost f l n) (p : Pr) : IsMost f (l ++ [p]) (max n (cnt f l (f p) + 1)) := by
  obtain ⟨a, b⟩ := h
  refine ⟨fun z => ?_, .inr ?_⟩
  · rw [cnt_snoc]
    have := a z
    split
    · rename_i e; subst e; omega
    · omega
  · by_cases hm : n ≤ cnt f l (f p) + 1
    · exact ⟨f p, by rw [cnt_snoc, if_pos rfl]; omega⟩
    · rcases b with b | ⟨z, hz⟩
      · omega
      · refine ⟨z, ?_⟩
        rw [cnt_snoc, if_neg]
        · omega
        · intro e; subst e; omega
def alikeN (f : Pr → Int) (l : List Pr) : Nat := (l.map (fun p => cnt f l (f p))).foldl max 0
theorem foldl_max_ge (l : List Nat) : ∀ a, a ≤ l.foldl max a ∧ ∀ x ∈ l, x ≤ l.foldl max a := by
  induction l with
  | nil => exact fun a => ⟨Nat.le_refl _, fun x hx => absurd hx List.not_mem_nil⟩
  | cons b r ih =>
    intro a
    obtain ⟨h1, h2⟩ := ih (max a b)
    refine ⟨by rw [List.foldl_cons]; omega, fun x hx => ?_⟩
    rw [List.foldl_cons]
    rcases List.mem_cons.1 hx with e | e
    · subst e; omega
    · exact h2 x e
theorem foldl_max_in (l : List Nat) : ∀ a, l.foldl max a = a ∨ l.foldl max a ∈ l := by
  induction l with
  | nil => exact fun a => .inl rfl
  | cons b r ih =>
    intro a
    rw [List.foldl_cons]
    rcases ih (max a b) with h | h
    · rw [h]
      by_cases hab : a ≤ b
      · right; rw [show max a b = b by omega]; simp
      · left; omega
    · exact .inr (List.mem_cons_of_mem _ h)
theorem alike_most (f : Pr → Int) (l : List Pr) : IsMost f l (alikeN f l) := by
  constructor
  · intro z
    by_cases h : cnt f l z = 0
    · omega
    · have : ∃ p, p ∈ l ∧ f p = z := by
        unfold cnt at h
        obtain ⟨p, hp⟩ := List.exists_mem_of_length_pos (by omega : 0 < (l.filter (fun p => f p == z)).length)
        rw [List.mem_filter] at hp
        exact ⟨p, hp.1, by simpa using hp.2⟩
      obtain ⟨p, hp, rfl⟩ := this
      exact (foldl_max_ge _ 0).2 _ (List.mem_map.2 ⟨p, hp, rfl⟩)
  · rcases foldl_max_in (l.map (fun p => cnt f l (f p))) 0 with h | h
    · exact .inl h
    · obtain ⟨p, _, hp⟩ := List.mem_map.1 h
      exact .inr ⟨f p, hp⟩
theorem cnt_len (f : Pr → Int) (l : List Pr) (z : Int) : cnt f l z ≤ l.length := List.length_filter_le _ _

/-- Block b is a map of ints that says of each number of how many pairs of l it is shown. -/
def Often (w : World) (b : Nat) (f : Pr → Int) (l : List Pr) : Prop :=
  ∃ (D : DataW Nat) (n : Nat), w.ownsMap Try.prog 3 (plainElem Try.prog 3) b n D ∧ n ≤ l.length ∧ ∀ z, -100000 ≤ z → z ≤ 100000 → D.atKey (.int .i64 z) (.lit (.int .i64 0)) = .lit (.int .i64 (cnt f l z))
theorem int_wf2 {x : Int} (h1 : -100000 ≤ x) (h2 : x ≤ 100000) : (Lit.int .i64 x).wf = true := int_wf h1 h2
theorem int_elem {v : Value} {z : Int} {ps : List MemPlace} (h : plainElem (H := Nat) Try.prog 3 v = some (.lit (.int .i64 z), ps)) : v = .int .i64 z := by
  obtain ⟨a, rfl, h2, _⟩ := plainElem_int_inv Try.underlying3 h
  simp only [Prod.mk.injEq, DataW.lit.injEq, Lit.int.injEq, true_and] at h2
  rw [h2.1]
theorem Often.made (w : World) (f : Pr → Int) : Often (w.alloc (.map #[] 0)) w.heap.size f [] :=
  ⟨.map [], 0, World.ownsMap_made w _ _ _, Nat.le_refl _, fun z _ _ => by rw [WideAt.atKey_none _ (fun p hp => absurd hp List.not_mem_nil)]; rfl⟩
theorem Often.kept {w w' : World} {row : Option Nat} {b : Nat} {f : Pr → Int} {l : List Pr} (h : Often w b f l) (hg : w.grownBy w' row) (hne : some b ≠ row) : Often w' b f l := by
  obtain ⟨D, n, h1, h2⟩ := h
  exact ⟨D, n, h1.kept hg hne, h2⟩
theorem Often.lt {w : World} {b : Nat} {f : Pr → Int} {l : List Pr} (h : Often w b f l) : b < w.heap.size := by
  obtain ⟨D, n, h1, _⟩ := h
  exact h1.lt
theorem Often.keep {w w' : World} {b : Nat} {f : Pr → Int} {l : List Pr} (h : Often w b f l) (k : Keeps w w') : Often w' b f l := h.kept (k.grown none) (by simp)
theorem Often.look {w : World} {b : Nat} {f : Pr → Int} {l : List Pr} (h : Often w b f l) {z : Int} (h1 : -100000 ≤ z) (h2 : z ≤ 100000) :
    (Instr.lookup 142 (.map (some b)) (.int .i64 z) false).run Try.prog w = .ok (.int .i64 (cnt f l z)) w := by
  obtain ⟨D, n, ho, hn, ha⟩ := h
  obtain ⟨v, ps, hrun, hv⟩ := ho.lookup (int_keyed Try.underlying3) Try.underlying142 (Try.zeroValue3 w) (plainElem_int Try.underlying3 (int_wf (by omega) (by omega) : (Lit.int .i64 0).wf = true)) (keyOf_int_mk Try.underlying3 (int_wf h1 h2))
  rw [ha z h1 h2] at hv
  rw [hrun, int_elem hv]
theorem Often.put {w : World} {b : Nat} {f : Pr → Int} {l : List Pr} (h : Often w b f l) (p : Pr) (h1 : -100000 ≤ f p) (h2 : f p ≤ 100000) (hl : l.length < 1000) :
    ∃ w', (Instr.mapUpdate 142 (.map (some b)) (.int .i64 (f p)) (.int .i64 ((cnt f l (f p) : Int) + 1))).run Try.prog w = .ok () w' ∧ Often w' b f (l ++ [p]) ∧ w.grownBy w' (some b) := by
  obtain ⟨D, n, ho, hn, ha⟩ := h
  have hc := cnt_len f l (f p)
  have ht := ho.tidy (int_keyed Try.underlying3)
  obtain ⟨w', hrun, ho', hg⟩ := ho.update (int_keyed Try.underlying3) Try.underlying142 (by unfold maxLen; omega) (keyOf_int_mk Try.underlying3 (int_wf h1 h2)) (plainElem_int Try.underlying3 (int_wf (by omega) (by omega) : (Lit.int .i64 ((cnt f l (f p) : Int) + 1)).wf = true))
  refine ⟨w', hrun, ⟨_, n + 1, ho', by simp; omega, fun z z1 z2 => ?_⟩, hg⟩
  by_cases e : z = f p
  · subst e
    rw [atKey_put_same ht.isMap (show WideAt.IsKeyLit (.int .i64 (f p)) from trivial), cnt_snoc, if_pos rfl]
    rfl
  · rw [atKey_put_other (fun h => e (by injection h)), ha z z1 z2, cnt_snoc, if_neg (fun h => e h.symm)]
    rfl
end Go.Proofs.Ytmhpgjlegajpeaa

namespace Go.Proofs.Ytmhpgjlegajpeaa
open Go.RowKit Go.Maps

theorem shows_pr2 (m : Int) (p : Pr) (t : Int) (w : World) (m1 : 1 ≤ m) (m2 : m ≤ 100) (t1 : -101 ≤ t) (t2 : t ≤ 101) : Calls Try.prog 99 #[.agg #[.int .i64 m, .int .i64 p.1.1, .int .i64 p.1.2], .int .i64 t] w (RetI (shI m p.1.1 p.1.2 t) w) :=
  shows_any m p.1.1 p.1.2 t w m1 m2 p.2.1 p.2.2.1 p.2.2.2.1 p.2.2.2.2 t1 t2
theorem shI_bd2 {m : Int} (p : Pr) {t : Int} (m1 : 1 ≤ m) (m2 : m ≤ 100) (t1 : -101 ≤ t) (t2 : t ≤ 101) : -30000 ≤ shI m p.1.1 p.1.2 t ∧ shI m p.1.1 p.1.2 t ≤ 30000 := by
  obtain ⟨_, q1, q2⟩ := mct_bd m1 m2 p.2.2.2.1 p.2.2.2.2 t1 t2
  have := p.2.1
  have := p.2.2.1
  unfold shI
  omega
/-- Of how many of these pairs the same number is shown at a warmth, at most. -/
def alike (m t : Int) (ps : List Pr) : Nat := alikeN (fun p => shI m p.1.1 p.1.2 t) ps

set_option maxRecDepth 100000 in
set_option maxHeartbeats 6400000 in
theorem mostAlike_any (b : Nat) (m t : Int) (ps : List Pr) (m1 : 1 ≤ m) (m2 : m ≤ 100) (t1 : -101 ≤ t) (t2 : t ≤ 101) (hl : ps.length ≤ 100) (w : World) (hP : Pset w b m ps) :
    Calls Try.prog 83 #[.map (some b), .int .i64 t] w (RetI (alike m t ps) w) := by
  have hbl := hP.lt
  have SH := Lib.hid (fun (p : Pr) w1 => shows_pr2 m p t w1 m1 m2 t1 t2)
  have SB := Lib.hid (fun (p : Pr) => shI_bd2 (m := m) p m1 m2 t1 t2)
  have AE := Lib.hid (show alike m t ps = alikeN (fun p => shI m p.1.1 p.1.2 t) ps from rfl)
  obtain ⟨f, hf⟩ : ∃ f : Pr → Int, (fun p : Pr => shI m p.1.1 p.1.2 t) = f := ⟨_, rfl⟩
  have hf' : ∀ p : Pr, shI m p.1.1 p.1.2 t = f p := fun p => congrFun hf p
  rw [hf] at AE
  simp only [hf'] at SH SB
  have hmm := @run_makeMap Try.prog
  obtain ⟨D, hown, hnd, hsz, hhas⟩ := hP
  have hown1 := hown.alloc (.map #[] 0)
  have hkm := (Keeps.refl w).alloc (.map #[] 0)
  have hom := Often.made w f
  clear hf hf'
  go_enter Try.func83, Try.ntmps83
  go_wp2_with (first
    | (at_range; refine wpList_range_own _ rfl _ 80 rfl 85 4 pair_keyed Try.underlying80 _ b _ _ rfl hown1 ?_; intro w0 hrg0 hg0 hs0)
    | fail)
  go_frame
  rw [World.size_alloc] at hrg0 hs0
  have kg0 : Keeps w w0 := hkm.trans ⟨hg0.os, hg0.tape, hg0.output, hg0.size, fun k hk => hg0.block k hk (by simp)⟩
  have ho0 : Often w0 w.heap.size f [] := hom.kept hg0 (by simp)
  have HD := Lib.hid (Prng.start hrg0 hnd hsz hhas)
  clear hown hown1 hhas hg0 hom hkm hrg0 hs0
  rw [World.size_alloc]
  go_loopw [6] (fun mo wr => ∃ (done : List Pr) (left : Lit → Bool) (c n : Nat), mo = .int .i64 n ∧ Prng wr b (w.heap.size + 1) m ps done D left c ∧ Often wr w.heap.size f done ∧ IsMost f done n ∧ Keeps w wr) (fun _ wr => wr.rangeLeft b (w.heap.size + 1))
  case atStart => exact ⟨[], _, _, 0, rfl, HD.out, ho0, ⟨fun z => Nat.le_refl _, .inl rfl⟩, kg0⟩
  case round =>
    obtain ⟨done, left, c0, n, rfl, hrg, hof, hmo, hkp⟩ := hrel
    clear ho0 kg0
    go_wp2_with (first
      | (at_next; refine wpList_next_ranges _ rfl _ rfl 85 pair_keyed _ (fun v : Value => v) (fun v : Value => v) (fun key kl _ => ⟨key, rfl⟩) (fun v y _ => ⟨v, rfl⟩) b (w.heap.size + 1) _ _ _ _ rfl hrg.1 ?_ ?_)
      | fail)
    · intro _ hl0
      have hper := hrg.all hl0
      have HE := Lib.hid (show n = alike m t ps by rw [AE.out]; exact (hmo.perm hper).uniq (alike_most f ps))
      go_wp2_with fail
      go_ret
      exact RetI.mk (by rw [HE.out]) hkp
    · intro x v kl yd yp w2 cnt2 hkey hlk hv hat hrg2 hlt2 hg2 hs2 hen
      obtain ⟨p, hp, hnp, rfl, rfl⟩ := hrg.came m1 m2 hkey hlk
      have hst := hrg.step m1 m2 hp hnp hrg2 hlt2
      have hk2 : Keeps w w2 := Below.grown hkp hg2 hkp.size (fun k e => by cases e; omega)
      have ho2 : Often w2 w.heap.size f done := hof.kept hg2 (by simp)
      have hdl : done.length + 1 ≤ ps.length := by
        have := hst.2.2.2.2.2
        simp at this
        omega
      have hm2 := hmo.step p
      have hz := SB.out p
      have S1 := Lib.hid (SH.out p)
      have LK := Lib.hid (fun w1 (h : Often w1 w.heap.size f done) => h.look (z := f p) (by omega) (by omega))
      have PT := Lib.hid (fun w1 (h : Often w1 w.heap.size f done) => h.put p (by omega) (by omega) (by omega))
      have LK2 := Lib.hid (fun w1 (h : Often w1 w.heap.size f (done ++ [p])) => h.look (z := f p) (by omega) (by omega))
      have hcs := cnt_snoc f done p (f p)
      rw [if_pos rfl] at hcs
      rw [hcs] at LK2
      have hcl := cnt_len f done (f p)
      have HO2 := Lib.hid ho2
      have HST := Lib.hid hst
      have HRG := Lib.hid hrg
      have HM := Lib.hid hm2
      obtain ⟨cc, hcc⟩ : ∃ cc, cnt f done (f p) = cc := ⟨_, rfl⟩
      rw [hcc] at LK PT LK2 hcl HM
      obtain ⟨z, hzz⟩ : ∃ z, f p = z := ⟨_, rfl⟩
      rw [hzz] at LK PT LK2 S1 hz
      obtain ⟨⟨p1, p2⟩, hpx⟩ := p
      dsimp only at S1
      simp only [pV] at hen ⊢
      clear hst hrg hp hnp hkey hlk hv hat hrg2 hg2 hs2 hmo hm2 hof ho2 hcs hcc hzz
      go_wp2_with fail
      refine (S1.out _).mono ?_
      rintro e w3 ⟨rfl, k3⟩
      have kk : Keeps w2 w3 := ((Keeps.refl _).alloc _).trans k3
      have ho3 := HO2.out.keep kk
      have hlook := LK.out w3 ho3
      obtain ⟨w4, hput, ho4, hg4⟩ := PT.out w3 ho3
      have hlook2 := LK2.out w4 ho4
      have HO4 := Lib.hid ho4
      have HG4 := Lib.hid hg4
      clear ho3 ho4 hg4
      go_wp2_with fail
      have hP4 := (HST.out.keepX (KeepX.of_keeps (X := fun k => k = w.heap.size) kk) (by omega) (by omega)).keepX (KeepX.of_grown HG4.out) (by omega) (by omega)
      go_roundw
      case rel => exact ⟨_, _, cnt2, max n (cc + 1), congrArg (Value.int .i64) (by split <;> omega), hP4, HO4.out, HM.out, Below.grown (hk2.trans kk) HG4.out (hk2.trans kk).size (fun k e => by cases e; exact Nat.le_refl _)⟩
      case measure => rw [hP4.1.left_eq, HRG.out.1.left_eq]; exact hlt2
end Go.Proofs.Ytmhpgjlegajpeaa
