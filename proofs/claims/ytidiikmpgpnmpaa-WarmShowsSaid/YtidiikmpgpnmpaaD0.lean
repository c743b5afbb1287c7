/-
  WARM: mostAlike, walked.
-/
import Derived.Test.YtidiikmpgpnmpaaC9
import Derived.Test.YtidiikmpgpnmpaaB8
namespace Go.Proofs.Ytidiikmpgpnmpaa
open Go.RowKit Go.Maps

theorem shows_pr2 (m : Int) (p : Pr) (t : Int) (w : World) (m1 : 1 ≤ m) (m2 : m ≤ 100) (t1 : -101 ≤ t) (t2 : t ≤ 101) : Calls Try.prog 99 #[.agg #[.int .i64 m, .int .i64 p.1.1, .int .i64 p.1.2], .int .i64 t] w (RetI (shI m p.1.1 p.1.2 t) w) :=
  shows_any m p.1.1 p.1.2 t w m1 m2 p.2.1 p.2.2.1 p.2.2.2.1 p.2.2.2.2 t1 t2
theorem shI_bd2 {m : Int} (p : Pr) {t : Int} (m1 : 1 ≤ m) (m2 : m ≤ 100) (t1 : -101 ≤ t) (t2 : t ≤ 101) : -30000 ≤ shI m p.1.1 p.1.2 t ∧ shI m p.1.1 p.1.2 t ≤ 30000 := by
  obtain ⟨_, q1, q2⟩ := mct_bd m1 m2 p.2.2.2.1 p.2.2.2.2 t1 t2
  have := p.2.1
  have := p.2.2.1
  unfold shI
  omega
/-- Of how many of these pairs the same number is shown at a warmth, at most. -/
def alike (m t : Int) (ps : List Pr) : Nat := alikeN (fun p => shI m p.1.1 p.1.2 t) ps

set_option maxRecDepth 100000 in
set_option maxHeartbeats 6400000 in
theorem mostAlike_any (b : Nat) (m t : Int) (ps : List Pr) (m1 : 1 ≤ m) (m2 : m ≤ 100) (t1 : -101 ≤ t) (t2 : t ≤ 101) (hl : ps.length ≤ 100) (w : World) (hP : Pset w b m ps) :
    Calls Try.prog 83 #[.map (some b), .int .i64 t] w (RetI (alike m t ps) w) := by
  have hbl := hP.lt
  have SH := Lib.hid (fun (p : Pr) w1 => shows_pr2 m p t w1 m1 m2 t1 t2)
  have SB := Lib.hid (fun (p : Pr) => shI_bd2 (m := m) p m1 m2 t1 t2)
  have AE := Lib.hid (show alike m t ps = alikeN (fun p => shI m p.1.1 p.1.2 t) ps from rfl)
  obtain ⟨f, hf⟩ : ∃ f : Pr → Int, (fun p : Pr => shI m p.1.1 p.1.2 t) = f := ⟨_, rfl⟩
  have hf' : ∀ p : Pr, shI m p.1.1 p.1.2 t = f p := fun p => congrFun hf p
  rw [hf] at AE
  simp only [hf'] at SH SB
  have hmm := @run_makeMap Try.prog
  obtain ⟨D, hown, hnd, hsz, hhas⟩ := hP
  have hown1 := hown.alloc (.map #[] 0)
  have hkm := (Keeps.refl w).alloc (.map #[] 0)
  have hom := Often.made w f
  clear hf hf'
  go_enter Try.func83, Try.ntmps83
  go_wp2_with (first
    | (at_range; refine wpList_range_own _ rfl _ 80 rfl 85 4 pair_keyed Try.underlying80 _ b _ _ rfl hown1 ?_; intro w0 hrg0 hg0 hs0)
    | fail)
  go_frame
  rw [World.size_alloc] at hrg0 hs0
  have kg0 : Keeps w w0 := hkm.trans ⟨hg0.os, hg0.tape, hg0.output, hg0.size, fun k hk => hg0.block k hk (by simp)⟩
  have ho0 : Often w0 w.heap.size f [] := hom.kept hg0 (by simp)
  have HD := Lib.hid (Prng.start hrg0 hnd hsz hhas)
  clear hown hown1 hhas hg0 hom hkm hrg0 hs0
  rw [World.size_alloc]
  go_loopw [6] (fun mo wr => ∃ (done : List Pr) (left : Lit → Bool) (c n : Nat), mo = .int .i64 n ∧ Prng wr b (w.heap.size + 1) m ps done D left c ∧ Often wr w.heap.size f done ∧ IsMost f done n ∧ Keeps w wr) (fun _ wr => wr.rangeLeft b (w.heap.size + 1))
  case atStart => exact ⟨[], _, _, 0, rfl, HD.out, ho0, ⟨fun z => Nat.le_refl _, .inl rfl⟩, kg0⟩
  case round =>
    obtain ⟨done, left, c0, n, rfl, hrg, hof, hmo, hkp⟩ := hrel
    clear ho0 kg0
    go_wp2_with (first
      | (at_next; refine wpList_next_ranges _ rfl _ rfl 85 pair_keyed _ (fun v : Value => v) (fun v : Value => v) (fun key kl _ => ⟨key, rfl⟩) (fun v y _ => ⟨v, rfl⟩) b (w.heap.size + 1) _ _ _ _ rfl hrg.1 ?_ ?_)
      | fail)
    · intro _ hl0
      have hper := hrg.all hl0
      have HE := Lib.hid (show n = alike m t ps by rw [AE.out]; exact (hmo.perm hper).uniq (alike_most f ps))
      go_wp2_with fail
      go_ret
      exact RetI.mk (by rw [HE.out]) hkp
    · intro x v kl yd yp w2 cnt2 hkey hlk hv hat hrg2 hlt2 hg2 hs2 hen
      obtain ⟨p, hp, hnp, rfl, rfl⟩ := hrg.came m1 m2 hkey hlk
      have hst := hrg.step m1 m2 hp hnp hrg2 hlt2
      have hk2 : Keeps w w2 := Below.grown hkp hg2 hkp.size (fun k e => by cases e; omega)
      have ho2 : Often w2 w.heap.size f done := hof.kept hg2 (by simp)
      have hdl : done.length + 1 ≤ ps.length := by
        have := hst.2.2.2.2.2
        simp at this
        omega
      have hm2 := hmo.step p
      have hz := SB.out p
      have S1 := Lib.hid (SH.out p)
      have LK := Lib.hid (fun w1 (h : Often w1 w.heap.size f done) => h.look (z := f p) (by omega) (by omega))
      have PT := Lib.hid (fun w1 (h : Often w1 w.heap.size f done) => h.put p (by omega) (by omega) (by omega))
      have LK2 := Lib.hid (fun w1 (h : Often w1 w.heap.size f (done ++ [p])) => h.look (z := f p) (by omega) (by omega))
      have hcs := cnt_snoc f done p (f p)
      rw [if_pos rfl] at hcs
      rw [hcs] at LK2
      have hcl := cnt_len f done (f p)
      have HO2 := Lib.hid ho2
      have HST := Lib.hid hst
      have HRG := Lib.hid hrg
      have HM := Lib.hid hm2
      obtain ⟨cc, hcc⟩ : ∃ cc, cnt f done (f p) = cc := ⟨_, rfl⟩
      rw [hcc] at LK PT LK2 hcl HM
      obtain ⟨z, hzz⟩ : ∃ z, f p = z := ⟨_, rfl⟩
      rw [hzz] at LK PT LK2 S1 hz
      obtain ⟨⟨p1, p2⟩, hpx⟩ := p
      dsimp only at S1
      simp only [pV] at hen ⊢
      clear hst hrg hp hnp hkey hlk hv hat hrg2 hg2 hs2 hmo hm2 hof ho2 hcs hcc hzz
      go_wp2_with fail
      refine (S1.out _).mono ?_
      rintro e w3 ⟨rfl, k3⟩
      have kk : Keeps w2 w3 := ((Keeps.refl _).alloc _).trans k3
      have ho3 := HO2.out.keep kk
      have hlook := LK.out w3 ho3
      obtain ⟨w4, hput, ho4, hg4⟩ := PT.out w3 ho3
      have hlook2 := LK2.out w4 ho4
      have HO4 := Lib.hid ho4
      have HG4 := Lib.hid hg4
      clear ho3 ho4 hg4
      go_wp2_with fail
      have hP4 := (HST.out.keepX (KeepX.of_keeps (X := fun k => k = w.heap.size) kk) (by omega) (by omega)).keepX (KeepX.of_grown HG4.out) (by omega) (by omega)
      go_roundw
      case rel => exact ⟨_, _, cnt2, max n (cc + 1), congrArg (Value.int .i64) (by split <;> omega), hP4, HO4.out, HM.out, Below.grown (hk2.trans kk) HG4.out (hk2.trans kk).size (fun k e => by cases e; exact Nat.le_refl _)⟩
      case measure => rw [hP4.1.left_eq, HRG.out.1.left_eq]; exact hlt2
end Go.Proofs.Ytidiikmpgpnmpaa
