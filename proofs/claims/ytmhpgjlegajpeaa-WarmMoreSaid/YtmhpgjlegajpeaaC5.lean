/-
  WARM: the iterator over the warmths that a reading can have had, with each pair of a set: exact readings.
-/
import Derived.Test.YtmhpgjlegajpeaaC2
import Derived.Test.YtmhpgjlegajpeaaB2
import Derived.Test.YtmhpgjlegajpeaaB9
namespace Go.Proofs.Ytmhpgjlegajpeaa
open Go.RowKit Go.Shelf Go.Maps
attribute [local go_sem] Oper.semAt_some

theorem warms_len (m : Int) (p : Int × Int) (r : Wr) : (warms m p r).length ≤ (r.2.1 + 1 - r.1).toNat := by
  unfold warms warmsTo
  exact Nat.le_trans (List.length_filter_le _ _) (by simp)
theorem flat_warms (m : Int) (r : Wr) (qs : List Pr) : (qs.flatMap (fun p => warms m p.1 r)).length ≤ qs.length * (r.2.1 + 1 - r.1).toNat := by
  induction qs with
  | nil => simp
  | cons a t ih =>
    rw [List.flatMap_cons, List.length_append, List.length_cons, Nat.succ_mul]
    have := warms_len m a.1 r
    omega

set_option maxRecDepth 100000 in
set_option maxHeartbeats 6400000 in
theorem held_exact (n : Nat) (hn : 3 ≤ n) (b1 b2 b : Nat) (X : Nat → Prop) (m : Int) (m1 : 1 ≤ m) (m2 : m ≤ 100) (ps : List Pr) (r : Wr) (hr : okW r) (he : r.1 = r.2.1) (w : World) (hX : ∀ k, X k → k < w.heap.size) (_ : ¬ X b1) (hx2 : ¬ X b2) (hxb : ¬ X b)
    (hm1 : w.cell? ⟨b1, 0, none⟩ = some (.map (some b))) (hm2 : w.cell? ⟨b2, 0, none⟩ = some (.iface 135 (.agg #[.int .i64 r.1, .int .i64 r.2.2.1, .int .i64 r.2.2.2]))) (hP : Pset w b m ps) :
    SeqS n 98 #[.pointer (some ⟨b1, 0, none⟩), .pointer (some ⟨b2, 0, none⟩)] X (fun ys => ∃ qs : List Pr, qs.Perm ps ∧ ys = qs.flatMap (fun p => warms m p.1 r)) (ps.length * (r.2.1 + 1 - r.1).toNat) w := by
  intro l J W hW hwl hl hJ hY h0
  have hbw := hP.lt
  have hb2w := lt_of_cell hm2
  replace hm1 := Keeps.cell hW hm1
  replace hm2 := Keeps.cell hW hm2
  replace hP := hP.keep hW
  have hWs := Keeps.size hW
  obtain ⟨D, hown, hnd, hsz, hhas⟩ := hP
  have hcm := meth_exact
  have hmf : ∀ (fn : Fn) (first cap : Array Value) (w : World), (Instr.makeFunc fn first cap).run Try.prog w = .ok (.func fn first cap) w := fun _ _ _ _ => rfl
  have HY := Lib.hid hY
  have HJ := Lib.hid hJ
  have hbl := hown.lt
  have hlb1 := lt_of_cell hm1
  have hlb2 := lt_of_cell hm2
  have HXb := Lib.hid (show ¬ (X b ∨ b = l) from fun h => h.elim hxb (fun h => by omega))
  have HX2 := Lib.hid (show ¬ (X b2 ∨ b2 = l) from fun h => h.elim hx2 (fun h => by omega))
  have HXn := Lib.hid (show ∀ q, W.heap.size ≤ q → ¬ (X q ∨ q = l) from fun q hq h => h.elim (fun h => by have := hX _ h; omega) (fun h => by omega))
  have HXm := Lib.hid (show ∀ q, W.heap.size ≤ q → ¬ X q ∧ q ≠ l from fun q hq => ⟨fun h => by have := hX _ h; omega, by omega⟩)
  have HH := Lib.hid hhas
  have WM := Lib.hid (fun (p : Pr) w1 => (callsIn_wide (n := n - 1)).2 (exact_warmths r.1 r.2.2.1 r.2.2.2 99 #[prV m p.1] w1))
  have ST := Lib.hid (fun (p : Pr) b1 b2 X w1 h1 h2 h3 h4 => exact_stops (n - 1) (by omega) b1 b2 X m p.1 r w1 ⟨m1, m2, p.2⟩ hr he h1 h2 h3 h4)
  obtain ⟨kk, hkk⟩ : ∃ kk, (r.2.1 + 1 - r.1).toNat = kk := ⟨_, rfl⟩
  have WL := Lib.hid (fun (p : Pr) => warms_len m p.1 r)
  have FL := Lib.hid (fun qs => flat_warms m r qs)
  rw [hkk] at HY WL FL
  obtain ⟨ws, hws⟩ : ∃ ws : Pr → List Int, (fun p : Pr => warms m p.1 r) = ws := ⟨_, rfl⟩
  have hws' : ∀ p : Pr, warms m p.1 r = ws p := fun p => congrFun hws p
  simp only [hws'] at ST WL FL ⊢
  obtain ⟨t, t', slo, shi⟩ := r
  dsimp only at *
  clear hY hJ hx2 hxb hX hhas hws hws' hkk hr hbw hb2w he
  have hfw : ∀ f, Fence.wide.fn f := fun _ => trivial
  have hn1 : 1 ≤ n := by omega
  refine callsIn_of_wp_marks Try.func98 rfl trivial ?_ rfl
  simp only [Try.ntmps98, List.size_toArray, List.length_cons, List.length_nil, Nat.reduceAdd, Nat.reduceSub, Array.replicate_succ, Array.replicate_zero, List.push_toArray, List.append_toArray, List.nil_append, List.cons_append]
  have hkb := (Keeps.refl W).alloc (.cells #[.func (.yield l) #[] #[]] 63)
  have hownb := hown.alloc (.cells #[.func (.yield l) #[] #[]] 63)
  gi_wp2_with (first
    | (gi_at_range; refine wpListIn_range_own _ rfl _ 80 rfl 85 4 pair_keyed Try.underlying80 _ b _ _ rfl hownb ?_; intro w0 hrg0 hg0 hs0)
    | gi_in)
  go_frame
  rw [World.size_alloc] at hrg0 hs0
  have kg0 : Keeps W w0 := hkb.trans ⟨hg0.os, hg0.tape, hg0.output, hg0.size, fun k hk => hg0.block k hk (by simp)⟩
  have cb0 : w0.cell? ⟨W.heap.size, 0, none⟩ = some (.func (.yield l) #[] #[]) := (Keeps.cell (a := W.alloc (.cells #[.func (.yield l) #[] #[]] 63)) ⟨hg0.os, hg0.tape, hg0.output, hg0.size, fun k hk => hg0.block k hk (by simp)⟩ (by simp [go_sem]))
  have hJ0 := HJ.out _ W w0 none h0 (kg0.grown none) (fun r e => by cases e)
  have cm2 := kg0.cell hm2
  clear hg0 kg0 hkb hownb h0
  refine wpIn_loop (fun a' w' => ∃ (Ds : List Nat) (done : List Pr) (left : Lit → Bool) (cnt : Nat) (u4 u5 u8 u9 u10 u11 u12 u13 u14 u15 u16 u17 u18 u19 u20 : Value),
    (Prng w' b (W.heap.size + 1) m ps done D left cnt ∧ J (done.flatMap (fun p => ws p)) w' ∧ CollAt W.heap.size Ds w' ∧ w'.cell? ⟨b2, 0, none⟩ = some (.iface 135 (.agg #[.int .i64 t, .int .i64 slo, .int .i64 shi])) ∧ w'.cell? ⟨W.heap.size, 0, none⟩ = some (.func (.yield l) #[] #[])) ∧ a' = { tmps := #[.func (.yield l) #[] #[], .pointer (some ⟨b1, 0, none⟩), .pointer (some ⟨b2, 0, none⟩), .pointer (some ⟨W.heap.size, 0, none⟩), u4, u5, .map (some b), .pointer (some ⟨W.heap.size + 1, 0, none⟩), u8, u9, u10, u11, u12, u13, u14, u15, u16, u17, u18, u19, u20], defers := coll Ds }) (fun _ w' => w'.rangeLeft b (W.heap.size + 1)) ?start ?round
  case start => exact ⟨[], [], _, _, _, _, _, _, _, _, _, _, _, _, _, _, _, _, _, ⟨Prng.start hrg0 hnd hsz HH.out, hJ0, ⟨List.nodup_nil, fun D hD => absurd hD List.not_mem_nil⟩, cm2, cb0⟩, by rw [World.size_alloc]; rfl⟩
  case round =>
    rintro a' wr ⟨Ds, done, left, cnt, u4, u5, u8, u9, u10, u11, u12, u13, u14, u15, u16, u17, u18, u19, u20, ⟨hrg, hJs, hC, c2, cb⟩, rfl⟩
    have hl1 := lt_of_cell c2
    have hl2 := lt_of_cell cb
    clear hm1 hm2 cm2 cb0 hJ0 hrg0 hs0 hown
    gi_wp2_with (first
      | (gi_at_next; refine wpListIn_next_ranges _ rfl _ rfl 85 pair_keyed _ (fun v : Value => v) (fun v : Value => v) (fun key kl _ => ⟨key, rfl⟩) (fun v y _ => ⟨v, rfl⟩) b (W.heap.size + 1) _ _ _ _ rfl hrg.1 ?_ ?_)
      | gi_in)
    · intro _ hl0
      gi_wp2
      have hper := hrg.all hl0
      refine leaves_coll (fun W' => J (done.flatMap (fun p => ws p)) W') (fun W' E h1 h2 h3 => HJ.out.putObj _ h1 h2 h3 rfl) Ds wr hC hJs (fun W' hJ' => ?_)
      exact ⟨_, results_none rfl _ _ _, ⟨_, rfl⟩, _, ⟨done, hper, rfl⟩, hJ'⟩
    · intro x c kl yd yp w2 cnt2 hkey hlk hv hat hrg2 hlt hg2 hs2 hen
      obtain ⟨p, hp, hnp, rfl, rfl⟩ := hrg.came m1 m2 hkey hlk
      have hst := hrg.step m1 m2 hp hnp hrg2 hlt
      have hJ2 := HJ.out _ wr w2 (some (W.heap.size + 1)) hJs hg2 (fun r e => by
        cases e
        obtain ⟨o, ho, hw⟩ := hrg.1.iter_walk
        exact ⟨by omega, o, ho, Obj.not_cells_of_walk hw⟩)
      have d2 : w2.cell? ⟨b2, 0, none⟩ = _ := hg2.cell c2 (by intro e; injection e with e; dsimp only at e; omega)
      have db : w2.cell? ⟨W.heap.size, 0, none⟩ = _ := hg2.cell cb (by intro e; injection e with e; dsimp only at e; omega)
      have hC2 : CollAt W.heap.size Ds w2 := hC.keep (fun E hE => hg2.block E (hC.lt hE) (fun e => by
        cases e
        obtain ⟨o, ho, hw⟩ := hrg.1.iter_walk
        rw [(hC.2 _ hE).2] at ho
        cases ho
        cases hw))
      have hdl : done.length + 1 ≤ ps.length := by
        have := hst.2.2.2.2.2
        simp at this
        omega
      have hdk := Nat.mul_le_mul_right kk hdl
      rw [Nat.succ_mul] at hdk
      have hfl := FL.out done
      have hwl2 := WL.out p
      have HFE := Lib.hid (show (done ++ [p]).flatMap (fun p => ws p) = done.flatMap (fun p => ws p) ++ ws p by simp)
      have WM1 := Lib.hid (fun w1 => WM.out p w1)
      have ST1 := Lib.hid (ST.out p)
      obtain ⟨wp, hwp⟩ : ∃ wp, ws p = wp := ⟨_, rfl⟩
      rw [hwp] at HFE ST1 hwl2
      obtain ⟨L, hL⟩ : ∃ L, done.flatMap (fun p => ws p) = L := ⟨_, rfl⟩
      rw [hL] at hJ2 HFE hfl
      have HST := Lib.hid hst
      have HRG := Lib.hid hrg
      have HLen := Lib.hid (show ∀ q, q < wp.length → L.length + q < ps.length * kk from fun q hq => by omega)
      obtain ⟨⟨p1, p2⟩, hpx⟩ := p
      simp only [pV, prV, shF] at hen WM1 ST1 ⊢
      have hw2s : W.heap.size + 1 < w2.heap.size := by rw [hs2]; exact hrg.1.lt
      have HC2 := Lib.hid hC2
      have HJ2 := Lib.hid hJ2
      clear hst hrg hp hnp hkey hlk hv hat hrg2 hg2 hs2 hwp hL hJs hdl hdk hfl hwl2 hC hC2 hJ2 c2 cb hl1 hl2
      have hm1 := lt_of_cell d2
      have hm2 := lt_of_cell db
      gi_wp2_with fail
      refine (WM1.out _).mono ?_
      rintro e w3 ⟨rfl, k3, h1, h2, h3, h4⟩
      have kk2 : Keeps w2 w3 := ((Keeps.refl _).alloc _).trans k3
      have k3s := k3.size
      rw [World.size_alloc] at k3s
      simp only [World.size_alloc] at h1 h2 h3 h4
      have hP3 := HST.out.keepX (KeepX.of_keeps (X := fun q => X q ∨ q = l) kk2) HXb.out (HXn.out _ (by omega))
      have hJ3 := HJ.out _ w2 w3 none HJ2.out (kk2.grown none) (fun r e => by cases e)
      have hC3 := HC2.out.keep (fun E hE => kk2.heap (HC2.out.lt hE))
      have e2 := kk2.cell d2
      have eb := kk2.cell db
      have HDlt := Lib.hid (show ∀ E ∈ Ds, E < w3.heap.size from fun E hE => hC3.lt hE)
      gi_wp2_with fail
      refine wpIn_rangeFunc_ownH rfl (by omega) (gf := 135) (lb := #[.pointer (some ⟨w2.heap.size + 1, 0, none⟩), .pointer (some ⟨w2.heap.size + 1 + 1, 0, none⟩)]) rfl trivial (enters_of Try.func135 (by kernel_rfl) rfl)
        (ST1.out _ _ (fun q => X q ∨ q = l) w3 h1 h2 h3 h4)
        (fun h k => KeepX.trans h k) KeepX.putObj (Below.refl _ _) (fun _ => rfl)
        (fun pre Wq => J (L ++ pre) Wq ∧ Prng Wq b (W.heap.size + 1) m ps (done ++ [⟨(p1, p2), hpx⟩]) D (fun z => left z && !z.sameKey (prK m ⟨(p1, p2), hpx⟩)) cnt2 ∧ CollAt W.heap.size Ds Wq ∧ Wq.cell? ⟨b2, 0, none⟩ = some (.iface 135 (.agg #[.int .i64 t, .int .i64 slo, .int .i64 shi])) ∧ Wq.cell? ⟨W.heap.size, 0, none⟩ = some (.func (.yield l) #[] #[]))
        (fun _ _ _ => False)
        (fun s A C row hs hg hr => ⟨HJ.out _ A C row hs.1 hg (fun r e => ⟨by have := (hr r e).1; omega, (hr r e).2⟩), ⟨hs.2.1.1.kept hg (fun e => by have := (hr _ e.symm).1; omega) (fun e => by have := (hr _ e.symm).1; omega), hs.2.1.2⟩, hs.2.2.1.keep (fun E hE => hg.block E (hs.2.2.1.lt hE) (fun e => by have := (hr _ e.symm).1; have := HDlt.out E hE; omega)),
          cell_kept hs.2.2.2.1 hg (fun r e => (hr r e).2), cell_kept hs.2.2.2.2 hg (fun r e => (hr r e).2)⟩)
        (fun _ _ _ _ _ hs _ _ => hs)
        ⟨by rw [List.append_nil]; exact hJ3, hP3, hC3, e2, eb⟩
        (fun x a' _ => a' = { tmps := #[.func (.yield l) #[] #[], .pointer (some ⟨b1, 0, none⟩), .pointer (some ⟨b2, 0, none⟩), .pointer (some ⟨W.heap.size, 0, none⟩), .pointer (some ⟨w2.heap.size, 0, none⟩), .int .i64 x, .map (some b), .pointer (some ⟨W.heap.size + 1, 0, none⟩), .tuple #[.bool true, .agg #[.int .i64 m, .int .i64 p1, .int .i64 p2], c], .bool true, .tuple #[.agg #[.int .i64 m, .int .i64 p1, .int .i64 p2], c], .agg #[.int .i64 m, .int .i64 p1, .int .i64 p2], .iface 135 (.agg #[.int .i64 t, .int .i64 slo, .int .i64 shi]), .agg #[.int .i64 m, .int .i64 p1, .int .i64 p2], .func (.func 99) #[.agg #[.int .i64 m, .int .i64 p1, .int .i64 p2]] #[], .func (.func 135) #[] #[.pointer (some ⟨w2.heap.size + 1, 0, none⟩), .pointer (some ⟨w2.heap.size + 1 + 1, 0, none⟩)], .int .i64 x, u17, u18, u19, u20], defers := [] })
        (fun x a' s A C row hs _ _ => hs) ?assign ?body ?done ?stop
      case assign =>
        intro l2 pre x Wq K hIq hK
        gi_wp2
        exact hK _ _ (KeepsFrom.refl _ _) (KeepX.refl _ _) hIq rfl
      case body =>
        rintro l2 pre x a' Wq hl2 hlr ⟨hJq, hPq, hCq, c2q, cbq⟩ rfl hN
        obtain ⟨fn, tmps, assign, body, hy, hR⟩ := HY.out (L ++ pre) x Wq hJq (by rw [List.length_append]; exact HLen.out _ hN)
        have hn3 : 1 ≤ n - 1 - 1 := by omega
        have hbl2 := lt_of_cell cbq
        have HCq := Lib.hid hCq
        have HPq := Lib.hid hPq
        have C2q := Lib.hid c2q
        have Cbq := Lib.hid cbq
        clear hJq hPq hCq hP3 hC3
        gi_wp2_with fail
        refine (roundIn_wide hR).mono ?_
        rintro e W3 ⟨rfl, hJ4, hk4⟩
        gi_wp2_with fail
        exact ⟨⟨hk4.size, fun k o hB hk _ => hk4.same k o hk (HXm.out k (by omega)).1 (HXm.out k (by omega)).2⟩, hk4.toX, by rw [← List.append_assoc]; exact hJ4, HPq.out.keepX hk4.toX HXb.out (HXn.out _ (by omega)),
          HCq.out.keep (fun E hE => (hk4.same E _ (HCq.out.2 E hE).2 (HXm.out E (HCq.out.2 E hE).1).1 (HXm.out E (HCq.out.2 E hE).1).2).trans (HCq.out.2 E hE).2.symm), hk4.toX.cell C2q.out HX2.out, hk4.toX.cell Cbq.out (HXn.out _ (Nat.le_refl _))⟩
      case done =>
        rintro Dn zs Wq hD rfl ⟨hJq, hPq, hCq, c2q, cbq⟩ hK
        gi_wp2_with fail
        exact ⟨⟨Dn :: Ds, _, _, cnt2, _, _, _, _, _, _, _, _, _, _, _, _, _, _, _, ⟨hPq, by rw [HFE.out]; exact hJq, hCq.cons HDlt.out hD (by omega) hK, c2q, cbq⟩, rfl⟩, by rw [hPq.1.left_eq, HRG.out.1.left_eq]; exact hlt⟩
      case stop =>
        rintro D c pre W _ _ h _
        exact h.elim
end Go.Proofs.Ytmhpgjlegajpeaa
