/-
  The document's own package, of WARM: the pairs by the readings of a set.
-/
import Derived.Test.YtmhpgjlegajpeaaI4
import Derived.Test.YtmhpgjlegajpeaaH1
namespace Go.Proofs.Ytmhpgjlegajpeaa
open Go.RowKit Go.Shelf
attribute [local go_sem] Oper.semAt_some

/-- The slice at a holds these pairs, two cells each. -/
def Prs (w : World) (a : Option Addr) (L : List Pr) : Prop :=
  L ≠ [] → ∃ b o, a = some ⟨b, o, none⟩ ∧ ∀ i (h : i < L.length), w.cell? ⟨b, o + i * 2, none⟩ = some (.int .i64 (L[i]'h).1.1) ∧ w.cell? ⟨b, o + i * 2 + 1, none⟩ = some (.int .i64 (L[i]'h).1.2)
theorem Prs.keep {w w' : World} {a : Option Addr} {L : List Pr} (h : Prs w a L) (k : Keeps w w') : Prs w' a L := by
  intro hx
  obtain ⟨b, o, e, hc⟩ := h hx
  exact ⟨b, o, e, fun i hi => ⟨k.cell (hc i hi).1, k.cell (hc i hi).2⟩⟩
def prCells (l : List Pr) : List Value := l.flatMap fun r => [.int .i64 r.1.1, .int .i64 r.1.2]
theorem prCells_at (l : List Pr) : ∀ i (h : i < l.length), (prCells l)[i * 2]? = some (.int .i64 (l[i]'h).1.1) ∧ (prCells l)[i * 2 + 1]? = some (.int .i64 (l[i]'h).1.2) := by
  induction l with
  | nil => intro i hi; simp at hi
  | cons s l ih =>
    intro i hi
    have e : prCells (s :: l) = .int .i64 s.1.1 :: .int .i64 s.1.2 :: prCells l := rfl
    rw [e]
    cases i with
    | zero => exact ⟨rfl, rfl⟩
    | succ i =>
      have h := ih i (by simpa using hi)
      have e1 : (i + 1) * 2 = i * 2 + 1 + 1 := by omega
      rw [e1]
      exact ⟨by simpa using h.1, by simpa using h.2⟩
theorem prCells_append (l m : List Pr) : prCells (l ++ m) = prCells l ++ prCells m := by simp [prCells]
theorem Prs.of_owns {w : World} {base : Nat} {v : Value} {l : List Pr} (h : w.ownsRow base 91 2 v l.length (prCells l)) : ∃ a cap, v = .slice a l.length cap ∧ Prs w a l := by
  rcases h.2 with ⟨rfl, h0⟩ | ⟨g, cap, cur, rfl, h2, h3, h4, h5, h6, h7⟩
  · obtain rfl : l = [] := List.length_eq_zero_iff.1 h0
    exact ⟨none, 0, rfl, fun h => absurd rfl h⟩
  · refine ⟨some ⟨g, 0, none⟩, cap, rfl, fun _ => ⟨g, 0, rfl, fun i hi => ?_⟩⟩
    have hc := prCells_at l i hi
    rw [Nat.zero_add]
    exact ⟨(h.cellAt (i * 2) (by omega)).trans hc.1, (h.cellAt (i * 2 + 1) (by omega)).trans hc.2⟩
theorem info_pair : (Try.prog.info? 91).map (fun i => (i.zero, i.size, i.bytes)) = some (some (.agg #[.int .i64 0, .int .i64 0]), 2, 16) := by kernel_rfl
/-- Pairs are returned, in a row of their own. -/
def RetPs (L : List Pr) (w : World) (e : Ending) (w' : World) : Prop := (∃ a cap, e = .returned (.slice a L.length cap) ∧ Prs w' a L) ∧ Keeps w w'
/-- Can those of the first j readings be right that are in a set? -/
def okTo (m : Int) (rs : List Wr) (s : Nat) (p : Int × Int) (j : Nat) : Bool := (List.range j).all fun i => !hasB s i || canB m p (rs[i]?.getD (0, 0, 0, 0))
theorem okTo_succ (m : Int) (rs : List Wr) (s : Nat) (p : Int × Int) (j : Nat) : okTo m rs s p (j + 1) = (okTo m rs s p j && (!hasB s j || canB m p (rs[j]?.getD (0, 0, 0, 0)))) := by
  simp [okTo, List.range_succ]
def Wm.byL (B : Wm) (s : Nat) : List Pr := B.all.filter fun p => okTo B.mark B.rs s p.1 B.rs.length
/-- The pairs that have been gone through, those of which all can be right. -/
def goneP (ok : Pr → Bool) (llo clo : Int) (nc i j : Nat) : List Pr := (rowsTo llo clo nc i ++ rowTo (llo + (i : Int)) clo j).filter ok
theorem goneP_next (ok : Pr → Bool) (llo clo : Int) (nc i : Nat) : goneP ok llo clo nc i nc = goneP ok llo clo nc (i + 1) 0 := by
  simp [goneP, rowsTo_succ, rowTo]
theorem goneP_succ {ok : Pr → Bool} {llo clo : Int} {nc i j : Nat} (h : -1000 ≤ llo + (i : Int) ∧ llo + (i : Int) ≤ 1000 ∧ 0 ≤ clo + (j : Int) ∧ clo + (j : Int) ≤ 20) :
    goneP ok llo clo nc i (j + 1) = if ok ⟨(llo + (i : Int), clo + (j : Int)), h⟩ then goneP ok llo clo nc i j ++ [⟨(llo + (i : Int), clo + (j : Int)), h⟩] else goneP ok llo clo nc i j := by
  simp only [goneP]
  rw [rowTo_succ h, ← List.append_assoc, List.filter_append (l₂ := [_])]
  split <;> rename_i e <;> simp [e]
theorem goneP_len {ok : Pr → Bool} {llo clo : Int} {nc nl i j : Nat} (hi : i < nl) (hj : j ≤ nc) (hc : nc ≤ 4) (hl : nl ≤ 25) : (goneP ok llo clo nc i j).length ≤ 100 := by
  refine Nat.le_trans (List.length_filter_le _ _) ?_
  refine Nat.le_trans (prs_pre hi hj).length_le ?_
  refine Nat.le_trans (rowsTo_len _ _ _ _) ?_
  exact Nat.mul_le_mul hl hc
theorem goneP_zero (ok : Pr → Bool) (llo clo : Int) (nc : Nat) : goneP ok llo clo nc 0 0 = [] := rfl

set_option maxRecDepth 100000 in
set_option maxHeartbeats 6400000 in
theorem refPairs_any (B : Wm) (s : Nat) (w : World) (hI : B.In w) (hok : B.ok = true) (hs : s < 32) : Calls Try.prog 89 #[B.v, .int .i64 s] w (RetPs (B.byL s) w) := by
  obtain ⟨i0, hi0, hz0, hz1, hz2⟩ := info_parts info_pair
  have hrl := (ok_rs hok).1
  obtain ⟨m1, m2, l1, l2, l3, l4, c1, c2, c3, c4⟩ := Wm.ok_lim hok
  have WR := Lib.hid (fun L c (i : Nat) r w1 (k : Keeps w w1) l1 l2 c1 c2 hi hr => refWarms_any B L c i r w1 (hI.keep k) hok l1 l2 c1 c2 hi hr)
  have HAS := Lib.hid (fun (j : Nat) (hj : j ≤ 20) v (hv : hasB s j = v) w1 => refHas_any s j (by omega) hj v hv w1)
  have BX := Wm.Box.new B w
  have HOK := Lib.hid (fun p j => okTo_succ B.mark B.rs s p j)
  have hby : B.byL s = goneP (fun p => okTo B.mark B.rs s p.1 B.rs.length) B.llo B.clo (B.chi + 1 - B.clo).toNat (B.lhi + 1 - B.llo).toNat 0 := by
    simp [Wm.byL, Wm.all, goneP, rowTo]
  rw [hby]
  obtain ⟨mark, llo, lhi, clo, chi, ra, rc, rs⟩ := B
  dsimp only [Wm.v] at *
  obtain ⟨nc, hnc⟩ : ∃ nc, (chi + 1 - clo).toNat = nc := ⟨_, rfl⟩
  obtain ⟨nl, hnl⟩ : ∃ nl, (lhi + 1 - llo).toNat = nl := ⟨_, rfl⟩
  rw [hnc, hnl]
  have hc4 : nc ≤ 4 := by omega
  have hl25 : nl ≤ 25 := by omega
  obtain ⟨OK, hOK⟩ : ∃ f : Int × Int → Nat → Bool, okTo mark rs s = f := ⟨_, rfl⟩
  rw [hOK] at HOK ⊢
  have HO0 := Lib.hid (show ∀ p, OK p 0 = true from fun p => by rw [← hOK]; rfl)
  obtain ⟨CB, hCB⟩ : ∃ f : Int × Int → Wr → Bool, canB mark = f := ⟨_, rfl⟩
  have HCB := Lib.hid (show ∀ p r, CB p r = decide (0 < ((warms mark p r).length : Int)) from fun p r => by
    rw [← hCB, canB]
    cases warms mark p r <;> simp)
  rw [hCB] at HOK
  have HGY := Lib.hid (fun (i j : Nat) (hi : i < nl) (hj : j < nc) => goneP_succ (ok := fun p => OK p.1 rs.length) (llo := llo) (clo := clo) (nc := nc) (i := i) (j := j) ⟨by omega, by omega, by omega, by omega⟩)
  have HGL := Lib.hid (fun (i j : Nat) (hi : i < nl) (hj : j ≤ nc) => goneP_len (ok := fun p => OK p.1 rs.length) (llo := llo) (clo := clo) hi hj hc4 hl25)
  have HGN := Lib.hid (fun i => goneP_next (fun p => OK p.1 rs.length) llo clo nc i)
  obtain ⟨G, hG⟩ : ∃ f : Nat → Nat → List Pr, goneP (fun p => OK p.1 rs.length) llo clo nc = f := ⟨_, rfl⟩
  rw [hG] at HGY HGL HGN ⊢
  have HG0 := Lib.hid (show G 0 0 = [] from by rw [← hG]; rfl)
  clear hI hok hby hOK hCB hG
  obtain ⟨W, hW⟩ : ∃ W, w.alloc (.cells #[.int .i64 mark, .int .i64 llo, .int .i64 lhi, .int .i64 clo, .int .i64 chi, .slice ra rs.length rc] 26) = W := ⟨_, rfl⟩
  rw [hW] at BX
  have kB : Keeps w W := by rw [← hW]; exact (Keeps.refl _).alloc _
  obtain ⟨g0, g1, g2, g3, g4, g5⟩ := BX
  dsimp only at g0 g1 g2 g3 g4 g5
  obtain ⟨b0, hb0⟩ : ∃ b0, w.heap.size = b0 := ⟨_, rfl⟩
  rw [hb0] at g0 g1 g2 g3 g4 g5
  have hl1 := lt_of_cell g0
  go_enter Try.func89, Try.ntmps89
  go_wp2_with fail
  clear hW
  go_loopw [5, 6] (fun o i wr => ∃ k : Nat, k ≤ nl ∧ i = .int .i64 (llo + (k : Int)) ∧ wr.ownsRow W.heap.size 91 2 o (G k 0).length (prCells (G k 0)) ∧ Keeps W wr) (fun _ i _ => (lhi + 1 - intOf i).toNat)
  case atStart => exact ⟨0, Nat.zero_le _, by simp, by rw [HG0.out]; exact World.ownsRow_nil _ _ _ _, Keeps.refl _⟩
  case round =>
    obtain ⟨i, hi, rfl, hown, kr⟩ := hrel
    have HO := Lib.hid hown
    have f0 := kr.cell g0
    have f1 := kr.cell g1
    have f2 := kr.cell g2
    have f3 := kr.cell g3
    have f4 := kr.cell g4
    have f5 := kr.cell g5
    have hlf := lt_of_cell f0
    clear hown
    by_cases hlt : i < nl
    · obtain ⟨x, hx⟩ : ∃ x, llo + (i : Int) = x := ⟨_, rfl⟩
      have hx1 : -1000 ≤ x ∧ x ≤ 1000 := by omega
      have hxl : x ≤ lhi := by omega
      have HXS := Lib.hid (show llo + ((i + 1 : Nat) : Int) = x + 1 from by omega)
      have HX := Lib.hid hx
      rw [hx]
      clear hx
      obtain ⟨wo, rfl⟩ : ∃ wo : World, wo = wr := ⟨_, rfl⟩
      go_wp2_with fail
      go_loopw [5, 7] (fun o a wx => ∃ j : Nat, j ≤ nc ∧ a = .int .i64 (clo + (j : Int)) ∧ wx.ownsRow W.heap.size 91 2 o (G i j).length (prCells (G i j)) ∧ Keeps W wx) (fun _ a _ => (chi + 1 - intOf a).toNat)
      case atStart => exact ⟨0, Nat.zero_le _, by simp, HO.out, kr⟩
      case round =>
        obtain ⟨j, hj, rfl, hown, kx⟩ := hrel
        have HO := Lib.hid hown
        clear f0 f1 f2 f3 f4 f5 hlf hown
        have f0 := kx.cell g0
        have f1 := kx.cell g1
        have f2 := kx.cell g2
        have f3 := kx.cell g3
        have f4 := kx.cell g4
        have f5 := kx.cell g5
        have hlf := lt_of_cell f0
        by_cases hlj : j < nc
        · have HGYJ := Lib.hid (HGY.out i j hlt hlj)
          have HGLJ := HGL.out i j hlt hj
          obtain ⟨y, hy⟩ : ∃ y, clo + (j : Int) = y := ⟨_, rfl⟩
          have hy1 : 0 ≤ y ∧ y ≤ 20 := by omega
          have hyc : y ≤ chi := by omega
          have HYS := Lib.hid (show clo + ((j + 1 : Nat) : Int) = y + 1 from by omega)
          have HYJ := Lib.hid hy
          rw [hy]
          clear hy
          obtain ⟨wp, rfl⟩ : ∃ wp : World, wp = wr := ⟨_, rfl⟩
          go_wp2_with fail
          go_loopw [8, 9] (fun f a wz => ∃ k : Nat, k ≤ rs.length ∧ a = .int .i64 k ∧ f = .bool (OK (x, y) k) ∧ Keeps wp wz) (fun _ a _ => rs.length - (intOf a).toNat)
          case atStart => exact ⟨0, Nat.zero_le _, rfl, by rw [HO0.out], Keeps.refl _⟩
          case round =>
            obtain ⟨k, hk, rfl, rfl, kz⟩ := hrel
            have q0 := kz.cell f0
            have q1 := kz.cell f1
            have q2 := kz.cell f2
            have q3 := kz.cell f3
            have q4 := kz.cell f4
            have q5 := kz.cell f5
            have hlq := lt_of_cell q0
            obtain ⟨u, hu⟩ : ∃ u, OK (x, y) k = u := ⟨_, rfl⟩
            by_cases hlk : k < rs.length
            · have HS := Lib.hid (HOK.out (x, y) k)
              rw [hu] at HS ⊢
              have H0 := Lib.hid (fun b hb w1 => HAS.out k (by omega) b hb w1)
              obtain ⟨h, hh⟩ : ∃ h, hasB s k = h := ⟨_, rfl⟩
              replace H0 := Lib.hid (H0.out h hh)
              rw [hh] at HS
              obtain ⟨r, hr⟩ : ∃ r, rs[k]?.getD (0, 0, 0, 0) = r := ⟨_, rfl⟩
              have WK := Lib.hid (fun w1 (kk : Keeps w w1) => WR.out x y k r w1 kk hx1.1 hx1.2 hy1.1 hy1.2 hlk hr)
              rw [hr] at HS
              have HV := Lib.hid (HCB.out (x, y) r)
              obtain ⟨v, hv⟩ : ∃ v, CB (x, y) r = v := ⟨_, rfl⟩
              rw [hv] at HS HV
              obtain ⟨ws, hws⟩ : ∃ ws, warms mark (x, y) r = ws := ⟨_, rfl⟩
              rw [hws] at WK HV
              have kk := (kB.trans kx).trans kz
              clear hu hh hr hv hws f0 f1 f2 f3 f4 f5 hlf
              cases u with
              | false =>
                go_wp2_with fail
                go_roundw
                case rel => exact ⟨k + 1, by omega, by go_num, by rw [HS.out]; rfl, kz⟩
                case measure => simp [intOf]; omega
              | true =>
                cases h with
                | false =>
                  go_wp2_with fail
                  refine (H0.out _).mono ?_
                  rintro e w1 ⟨rfl, rfl⟩
                  go_wp2_with fail
                  go_roundw
                  case rel => exact ⟨k + 1, by omega, by go_num, by rw [HS.out]; rfl, kz⟩
                  case measure => simp [intOf]; omega
                | true =>
                  go_wp2_with fail
                  refine (H0.out _).mono ?_
                  rintro e w1 ⟨rfl, rfl⟩
                  go_wp2_with fail
                  refine (WK.out _ kk).mono ?_
                  rintro e w1 ⟨⟨a, cap, rfl, _⟩, k1⟩
                  go_wp2_with fail
                  go_roundw
                  case rel => exact ⟨k + 1, by omega, by go_num, by rw [HS.out, HV.out]; simp, kz.trans k1⟩
                  case measure => simp [intOf]; omega
            · obtain rfl : k = rs.length := by omega
              have hgy := HGYJ.out
              simp only [HX.out, HYJ.out] at hgy
              rw [hu] at hgy ⊢
              have HO2 := Lib.hid (HO.out.kept (kz.grown none) (ownN _))
              have kw := kx.trans kz
              have hszw := kw.size
              clear hu f0 f1 f2 f3 f4 f5 hlf
              cases u with
              | false =>
                have HF := Lib.hid (show G i (j + 1) = G i j from by simpa using hgy)
                clear hgy
                go_wp2_with fail
                go_roundw
                case rel => exact ⟨j + 1, by omega, by rw [HYS.out], by rw [HF.out]; exact HO2.out, kw⟩
                case measure => simp [intOf]; omega
              | true =>
                have HF := Lib.hid (show (G i (j + 1)).length = (G i j).length + 1 ∧ prCells (G i (j + 1)) = prCells (G i j) ++ [.int .i64 x, .int .i64 y] from by
                  rw [if_pos rfl] at hgy
                  rw [hgy, prCells_append]
                  exact ⟨by simp, rfl⟩)
                clear hgy
                go_wp2_with (at_builtin; refine wpList_append_own _ rfl _ _ 87 rfl W.heap.size 91 i0 (.agg #[.int .i64 0, .int .i64 0]) 2 16 Try.underlying87 hi0 hz0 hz1 hz2 rfl (by decide) _ _ _ rfl (HO2.out.alloc _) ⟨wr.heap.size, 0, none⟩ 1 1 [.int .i64 x, .int .i64 y] rfl rfl (by intro j u h; match j, h with | 0, h => (cases h; simp [go_sem]) | 1, h => (cases h; simp [go_sem])) (by simp [Value.oneCell']) (by unfold maxLen; omega) (by omega) (by simp; omega) ?_; intro v' w5 hown' hgrow _)
                have hk5 : Keeps W w5 := Below.grown (kw.alloc _) hgrow (by simp; omega) (fun j e => (HO2.out.lt j e).1)
                clear hgrow
                have HO5 := Lib.hid hown'
                clear hown'
                go_wp2
                go_roundw
                case rel => exact ⟨j + 1, by omega, by rw [HYS.out], by rw [HF.out.1, HF.out.2]; exact HO5.out, hk5⟩
                case measure => simp [intOf]; omega
        · obtain rfl : j = nc := by omega
          rw [HGN.out] at HO
          have hge : decide (clo + (j : Int) ≤ chi) = false := decide_eq_false (by omega)
          go_wp2_with fail
          go_roundw
          case rel => exact ⟨i + 1, by omega, by rw [HXS.out], HO.out, kx⟩
          case measure => simp [intOf]; omega
    · obtain rfl : i = nl := by omega
      obtain ⟨a, cap, rfl, hP⟩ := Prs.of_owns HO.out
      have HP := Lib.hid hP
      have hge : decide (llo + (i : Int) ≤ lhi) = false := decide_eq_false (by omega)
      clear hP
      go_wp2_with fail
      go_ret
      exact ⟨⟨a, cap, rfl, HP.out⟩, kB.trans kr⟩
end Go.Proofs.Ytmhpgjlegajpeaa
