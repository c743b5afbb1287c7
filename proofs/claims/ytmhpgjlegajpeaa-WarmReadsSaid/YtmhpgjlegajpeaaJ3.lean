/-
  The document's own package, of WARM: Next.
-/
import Derived.Test.YtmhpgjlegajpeaaJ2
namespace Go.Proofs.Ytmhpgjlegajpeaa
open Go.RowKit Go.Shelf
attribute [local go_sem] Oper.semAt_some

/-- The best of the first k offers is the b-th; of none the first. -/
def QB (f : Int → Int) (xs : List Int) (k b : Nat) : Prop := (k = 0 ∧ b = 0) ∨ (0 < k ∧ b < k ∧ bestTo f xs k = ((b : Int), f (xs[b]?.getD 0)))
theorem QB.lt {f : Int → Int} {xs : List Int} {k b n : Nat} (h : QB f xs k b) (hk : k ≤ n) (hn : 0 < n) : b < n := by
  rcases h with ⟨_, rfl⟩ | ⟨_, h, _⟩ <;> omega
theorem QB.yes {f : Int → Int} {xs : List Int} {k b : Nat} (h : QB f xs k b) (hl : f (xs[k]?.getD 0) < f (xs[b]?.getD 0)) : QB f xs (k + 1) k := by
  rcases h with ⟨rfl, rfl⟩ | ⟨h1, h2, h3⟩
  · omega
  · exact .inr ⟨by omega, by omega, bestTo_yes (.inr (by rw [h3]; exact hl))⟩
theorem QB.no {f : Int → Int} {xs : List Int} {k b : Nat} (h : QB f xs k b) (hl : ¬ f (xs[k]?.getD 0) < f (xs[b]?.getD 0)) : QB f xs (k + 1) b := by
  rcases h with ⟨rfl, rfl⟩ | ⟨h1, h2, h3⟩
  · exact .inr ⟨by omega, by omega, bestTo_yes (.inl rfl)⟩
  · exact .inr ⟨by omega, by omega, by rw [bestTo_no (by omega) (by rw [h3]; exact hl), h3]⟩
theorem QB.done {f : Int → Int} {xs : List Int} {b : Nat} (h : QB f xs xs.length b) (hn : xs ≠ []) : bestOf f xs = ((b : Int), f (xs[b]?.getD 0)) := by
  have := List.length_pos_iff.2 hn
  rcases h with ⟨h1, _⟩ | ⟨_, _, h3⟩
  · omega
  · exact h3
set_option maxRecDepth 100000 in
set_option maxHeartbeats 12800000 in
theorem refNext_any (B : Wm) (xs : List Int) (xa : Option Addr) (xc : Nat) (w : World) (hI : B.In w) (hX : Ints w xa xs) (hxl : xs.length ≤ maxLen) :
    Calls Try.prog 28 #[B.v, .slice xa xs.length xc] w (Ret (.tuple #[.int .i64 (B.nextA xs).1.1, .int .i64 (B.nextA xs).1.2, .int .i64 (B.nextA xs).2]) w) := by
  obtain ⟨valid, hvalid⟩ : ∃ v, decide (xs ≠ [] ∧ xs.all okOffer = true) = v := ⟨_, rfl⟩
  have RD := Lib.hid (fun w1 (k : Keeps w w1) => refOffers_any xa xc xs w1 (fun h => (by
    obtain ⟨b, o, e, hc⟩ := hX h
    exact ⟨b, o, e, fun i hi => k.cell (hc i hi)⟩)) hxl)
  rw [hvalid] at RD
  have TD := Lib.hid (fun w1 (k : Keeps w w1) => refTold_any B (xs.length : Int) valid w1 (hI.keep k))
  have hbad : offersE xs = badA (xs.length : Int) valid := by
    rw [← hvalid]; unfold badA offersE
    by_cases h6 : 6 < xs.length
    · have h7 : (6 : Int) < (xs.length : Int) := by omega
      rw [if_pos h6, if_pos h7]
    · have h7 : ¬ (6 : Int) < (xs.length : Int) := by omega
      rw [if_neg h6, if_neg h7]
      by_cases h : xs ≠ [] ∧ xs.all okOffer = true
      · rw [if_pos h, decide_eq_true h]; rfl
      · rw [if_neg h, decide_eq_false h]; rfl
  have hA : B.nextA xs = if B.errA (badA (xs.length : Int) valid) = 0 then (bestOf (fun t => (alike B.mark t B.truths : Int)) xs, 0) else ((0, 0), B.errA (badA (xs.length : Int) valid)) := by
    rw [Wm.nextA, hbad]; exact say_err B _ _ _
  have HTF := Lib.hid (told_facts B (badA (xs.length : Int) valid))
  have HNV := Lib.hid (show badA (xs.length : Int) valid = 0 → xs ≠ [] ∧ ∀ x ∈ xs, -100 ≤ x ∧ x ≤ 100 from fun h => by
    rw [← hbad] at h
    unfold offersE at h
    split at h
    · cases h
    · split at h
      · rename_i h'
        exact ⟨h'.1, fun x hx => by simpa [okOffer] using List.all_eq_true.1 h'.2 x hx⟩
      · cases h)
  have HLF := Lib.hid (fun (L : List Pr) a cap t w1 h hP hl t1 t2 => refLeft_any B a cap L t w1 h hP hl t1 t2)
  have HX := Lib.hid hX
  have BX := Wm.Box.new B w
  rw [hA]
  obtain ⟨T, hT⟩ : ∃ T, B.truths = T := ⟨_, rfl⟩
  obtain ⟨bad, hbd⟩ : ∃ b, badA (xs.length : Int) valid = b := ⟨_, rfl⟩
  rw [hbd] at TD HTF HNV ⊢
  obtain ⟨E, hE⟩ : ∃ E, B.errA bad = E := ⟨_, rfl⟩
  obtain ⟨L, hL⟩ : ∃ L, B.toldL bad = L := ⟨_, rfl⟩
  rw [hT, hE, hL] at HTF
  rw [hE, hL] at TD
  rw [hT, hE]
  obtain ⟨okb, hokb⟩ : ∃ b, B.ok = b := ⟨_, rfl⟩
  rw [hokb] at HTF HLF
  have hmx : Try.prog.follows .mixedOrders = true := by kernel_rfl
  obtain ⟨mark, llo, lhi, clo, chi, ra, rc, rs⟩ := B
  dsimp only [Wm.v, spV] at *
  clear hI hA hT hE hL hbad hvalid hokb hX hbd
  unfold maxLen at hxl
  obtain ⟨W, hW⟩ : ∃ W, w.alloc (.cells #[.int .i64 mark, .int .i64 llo, .int .i64 lhi, .int .i64 clo, .int .i64 chi, .slice ra rs.length rc] 26) = W := ⟨_, rfl⟩
  rw [hW] at BX
  have kB : Keeps w W := by rw [← hW]; exact (Keeps.refl _).alloc _
  obtain ⟨g0, g1, g2, g3, g4, g5⟩ := BX
  dsimp only at g0 g1 g2 g3 g4 g5
  have hl0 := lt_of_cell g0
  obtain ⟨b0, hb0⟩ : ∃ b, w.heap.size = b := ⟨_, rfl⟩
  rw [hb0] at g0 g1 g2 g3 g4 g5 hl0
  haveI : Nonempty (Since W.drew) := Since.some _
  have kd := (Keeps.refl W).drew
  have j0 : ∀ q : Since W.drew, q.W.cell? ⟨b0, 0, none⟩ = some (.int .i64 mark) := fun q => (kd.trans q.keeps).cell g0
  have j1 : ∀ q : Since W.drew, q.W.cell? ⟨b0, 1, none⟩ = some (.int .i64 llo) := fun q => (kd.trans q.keeps).cell g1
  have j2 : ∀ q : Since W.drew, q.W.cell? ⟨b0, 2, none⟩ = some (.int .i64 lhi) := fun q => (kd.trans q.keeps).cell g2
  have j3 : ∀ q : Since W.drew, q.W.cell? ⟨b0, 3, none⟩ = some (.int .i64 clo) := fun q => (kd.trans q.keeps).cell g3
  have j4 : ∀ q : Since W.drew, q.W.cell? ⟨b0, 4, none⟩ = some (.int .i64 chi) := fun q => (kd.trans q.keeps).cell g4
  have j5 : ∀ q : Since W.drew, q.W.cell? ⟨b0, 5, none⟩ = some (.slice ra rs.length rc) := fun q => (kd.trans q.keeps).cell g5
  by_cases hz : E = 0
  · obtain ⟨rfl, hne, hlen, rfl, hbd⟩ := HTF.out hz
    rw [if_pos hz]
    subst hz
    obtain ⟨n0, n1⟩ := HNV.out hbd
    have hpos := List.length_pos_iff.2 n0
    obtain ⟨b, o, rfl, hcs⟩ := HX.out n0
    obtain ⟨f, hf⟩ : ∃ f : Int → Int, f = fun t => (alike mark t L : Int) := ⟨_, rfl⟩
    have HFX := Lib.hid (show ∀ t, (alike mark t L : Int) = f t from fun t => by rw [hf])
    rw [show bestOf (fun t => (alike mark t L : Int)) xs = bestOf f xs by rw [hf]]
    have HIN := Lib.hid n1
    have HC := Lib.hid (fun i hi w1 (k : Keeps w w1) => k.cell (hcs i hi))
    have HDONE := Lib.hid (fun b (h : QB f xs xs.length b) => h.done n0)
    obtain ⟨be, hbe⟩ : ∃ b, bestOf f xs = b := ⟨_, rfl⟩
    rw [hbe] at HDONE ⊢
    clear HTF HNV HX hne hbd hf hcs n1 hbe
    go_enter Try.func28, Try.ntmps28
    go_wp2_with fail
    refine (wpIn_wide (n := 3)).1 ?_
    refine region_calm 11 [(0, [0, 1, 2, 3]), (1, [4]), (1, [5]), (0, [6, 7, 8, 9, 10])] (fun _ => trivial) (by kernel_rfl) hmx (by kernel_rfl) (by kernel_rfl) ?_
    show wpQuietIn _ _ _ _ _ _ [_, _, _, _] _
    iterate 4 (gi_big_quiet_step (fail))
    refine wpQuietIn_nil ?_
    clear j0 j1 j2 j3 j4 j5
    show wpListIn _ _ _ _ _ [_] _ _
    gi_wp2_with fail
    rename_i hK
    refine ⟨trivial, ((callsIn_wide (n := 3 - 1)).2 (RD.out _ (kB.trans kd))).mono ?_⟩
    rintro e w0 ⟨rfl, rfl⟩
    refine hK _ _ ⟨rfl, Keeps.refl _, ?_⟩
    clear hK
    show wpListIn _ _ _ _ _ [_] _ _
    gi_wp2_with fail
    rename_i hK
    refine ⟨trivial, ((callsIn_wide (n := 3 - 1)).2 (TD.out _ (kB.trans kd))).mono ?_⟩
    rintro e w1 ⟨⟨a, cap, rfl, hP⟩, k2⟩
    refine hK _ _ ⟨rfl, k2, ?_⟩
    have HP := Lib.hid hP
    clear hK hP TD RD
    haveI : Nonempty (Since w1) := Since.some _
    show wpQuietIn _ _ _ _ _ _ [_, _, _, _, _] _
    iterate 5 (gi_big_quiet_step (fail))
    refine wpQuietIn_nil ?_
    unfold wpMix
    refine ⟨rfl, ?_⟩
    have k3 : Keeps W w1 := kd.trans k2
    have kw := kB.trans k3
    clear k2
    replace g0 := k3.cell g0
    replace g1 := k3.cell g1
    replace g2 := k3.cell g2
    replace g3 := k3.cell g3
    replace g4 := k3.cell g4
    replace g5 := k3.cell g5
    go_wp2_with fail
    go_loopw [9, 10] (fun u i wr => ∃ k bb : Nat, k ≤ xs.length ∧ i = .int .i64 k ∧ u = .int .i64 bb ∧ QB f xs k bb ∧ Keeps w1 wr) (fun _ i _ => xs.length - (intOf i).toNat)
    case atStart => exact ⟨0, 0, Nat.zero_le _, rfl, rfl, .inl ⟨rfl, rfl⟩, Keeps.refl _⟩
    case round =>
      obtain ⟨k, bb, hk, rfl, rfl, hq, kr⟩ := hrel
      have HQ := Lib.hid hq
      have hbb := hq.lt hk hpos
      have hPr := HP.out.keep kr
      have c0 := HC.out bb hbb wr (kw.trans kr)
      have hy : xs[bb]?.getD 0 = xs[bb]'hbb := by rw [List.getElem?_eq_getElem hbb, Option.getD_some]
      have hym := HIN.out _ (List.getElem_mem hbb)
      have HLT := Lib.hid (fun t w' (kx : Keeps wr w') t1 t2 => HLF.out L a cap t w' (by simp) (hPr.keep kx) hlen t1 t2)
      obtain ⟨y, hyy⟩ : ∃ y, xs[bb]'hbb = y := ⟨_, rfl⟩
      rw [hy, hyy] at c0
      rw [hyy] at hym
      have HLY := Lib.hid (fun w' kx => HLT.out y w' kx (by omega) (by omega))
      rw [HFX.out] at HLY
      have HYV := Lib.hid (show f (xs[bb]?.getD 0) = f y from by rw [hy, hyy])
      obtain ⟨Y, hY⟩ : ∃ Y, f y = Y := ⟨_, rfl⟩
      rw [hY] at HLY HYV
      have hlc := lt_of_cell c0
      have kd1 := kr.drew
      clear hq hy hyy hY hPr hym
      haveI : Nonempty (Since wr.drew) := Since.some _
      have j0 : ∀ q : Since wr.drew, q.W.cell? ⟨b0, 0, none⟩ = some (.int .i64 mark) := fun q => (kd1.trans q.keeps).cell g0
      have j1 : ∀ q : Since wr.drew, q.W.cell? ⟨b0, 1, none⟩ = some (.int .i64 llo) := fun q => (kd1.trans q.keeps).cell g1
      have j2 : ∀ q : Since wr.drew, q.W.cell? ⟨b0, 2, none⟩ = some (.int .i64 lhi) := fun q => (kd1.trans q.keeps).cell g2
      have j3 : ∀ q : Since wr.drew, q.W.cell? ⟨b0, 3, none⟩ = some (.int .i64 clo) := fun q => (kd1.trans q.keeps).cell g3
      have j4 : ∀ q : Since wr.drew, q.W.cell? ⟨b0, 4, none⟩ = some (.int .i64 chi) := fun q => (kd1.trans q.keeps).cell g4
      have j5 : ∀ q : Since wr.drew, q.W.cell? ⟨b0, 5, none⟩ = some (.slice ra rs.length rc) := fun q => (kd1.trans q.keeps).cell g5
      have j6 : ∀ q : Since wr.drew, q.W.cell? ⟨b, o + bb, none⟩ = some (.int .i64 y) := fun q => ((Keeps.refl wr).drew.trans q.keeps).cell c0
      by_cases hlt : k < xs.length
      · have c1 := HC.out k hlt wr (kw.trans kr)
        have hx : xs[k]?.getD 0 = xs[k]'hlt := by rw [List.getElem?_eq_getElem hlt, Option.getD_some]
        have hxm := HIN.out _ (List.getElem_mem hlt)
        obtain ⟨x, hxx⟩ : ∃ y, xs[k]'hlt = y := ⟨_, rfl⟩
        rw [hx, hxx] at c1
        rw [hxx] at hxm
        have HLX := Lib.hid (fun w' kx => HLT.out x w' kx (by omega) (by omega))
        rw [HFX.out] at HLX
        have HXV := Lib.hid (show f (xs[k]?.getD 0) = f x from by rw [hx, hxx])
        obtain ⟨X, hX⟩ : ∃ X, f x = X := ⟨_, rfl⟩
        rw [hX] at HLX HXV
        have hld := lt_of_cell c1
        clear hx hxx hX hxm
        have j7 : ∀ q : Since wr.drew, q.W.cell? ⟨b, o + k, none⟩ = some (.int .i64 x) := fun q => ((Keeps.refl wr).drew.trans q.keeps).cell c1
        go_wp2_with fail
        refine (wpIn_wide (n := 3)).1 ?_
        refine region_calm 15 [(0, [0, 1, 2, 3, 4, 5, 7, 8, 9, 10, 11, 12]), (1, [6]), (1, [13]), (0, [14])] (fun _ => trivial) (by kernel_rfl) hmx (by kernel_rfl) (by kernel_rfl) ?_
        show wpQuietIn _ _ _ _ _ _ [_, _, _, _, _, _, _, _, _, _, _, _] _
        iterate 12 (gi_big_quiet_step (fail))
        refine wpQuietIn_nil ?_
        clear j0 j1 j2 j3 j4 j5 j6 j7
        show wpListIn _ _ _ _ _ [_] _ _
        gi_wp2_with fail
        rename_i hK
        refine ⟨trivial, ((callsIn_wide (n := 3 - 1)).2 (HLX.out _ (Keeps.refl _).drew)).mono ?_⟩
        rintro e w4 ⟨rfl, k4⟩
        refine hK _ _ ⟨rfl, k4, ?_⟩
        clear hK
        show wpListIn _ _ _ _ _ [_] _ _
        gi_wp2_with fail
        rename_i hK
        refine ⟨trivial, ((callsIn_wide (n := 3 - 1)).2 (HLY.out _ ((Keeps.refl _).drew.trans k4))).mono ?_⟩
        rintro e w5 ⟨rfl, k5⟩
        refine hK _ _ ⟨rfl, k5, ?_⟩
        clear hK
        haveI : Nonempty (Since w5) := Since.some _
        by_cases hXY : X < Y
        · have hd : decide (X < Y) = true := decide_eq_true hXY
          have HQ2 := Lib.hid (HQ.out.yes (by rw [HXV.out, HYV.out]; exact hXY))
          clear hXY
          show wpQuietIn _ _ _ _ _ _ [_] _
          iterate 1 (gi_big_quiet_step (fail))
          refine wpQuietIn_nil ?_
          unfold wpMix
          refine ⟨rfl, ?_⟩
          go_wp2_with fail
          go_roundw
          case rel => exact ⟨k + 1, k, by omega, by go_num, rfl, HQ2.out, (kd1.trans k4).trans k5⟩
          case measure => simp [intOf]; omega
        · have hd : decide (X < Y) = false := decide_eq_false hXY
          have HQ2 := Lib.hid (HQ.out.no (by rw [HXV.out, HYV.out]; exact hXY))
          clear hXY
          show wpQuietIn _ _ _ _ _ _ [_] _
          iterate 1 (gi_big_quiet_step (fail))
          refine wpQuietIn_nil ?_
          unfold wpMix
          refine ⟨rfl, ?_⟩
          go_wp2_with fail
          go_roundw
          case rel => exact ⟨k + 1, bb, by omega, by go_num, rfl, HQ2.out, (kd1.trans k4).trans k5⟩
          case measure => simp [intOf]; omega
      · obtain rfl : k = xs.length := by omega
        have HBE := Lib.hid (HDONE.out bb HQ.out)
        rw [HYV.out] at HBE
        have hge : decide ((xs.length : Int) < (xs.length : Int)) = false := decide_eq_false (by omega)
        go_wp2_with fail
        refine (wpIn_wide (n := 3)).1 ?_
        refine region_calm 11 [(0, [0, 1, 2, 3, 4, 5, 6]), (1, [7]), (0, [8, 9, 10])] (fun _ => trivial) (by kernel_rfl) hmx (by kernel_rfl) (by kernel_rfl) ?_
        show wpQuietIn _ _ _ _ _ _ [_, _, _, _, _, _, _] _
        iterate 7 (gi_big_quiet_step (fail))
        refine wpQuietIn_nil ?_
        clear j0 j1 j2 j3 j4 j5 j6
        show wpListIn _ _ _ _ _ [_] _ _
        gi_wp2_with fail
        rename_i hK
        refine ⟨trivial, ((callsIn_wide (n := 3 - 1)).2 (HLY.out _ (Keeps.refl _).drew)).mono ?_⟩
        rintro e w4 ⟨rfl, k4⟩
        refine hK _ _ ⟨rfl, k4, ?_⟩
        clear hK
        haveI : Nonempty (Since w4) := Since.some _
        show wpQuietIn _ _ _ _ _ _ [_, _, _] _
        iterate 3 (gi_big_quiet_step (fail))
        refine wpQuietIn_nil ?_
        unfold wpMix
        refine ⟨rfl, ?_⟩
        go_wp2_with fail
        refine bodyPost_ret (v := .tuple #[.int .i64 bb, .int .i64 Y, .int .i64 0]) ?_ rfl ⟨by rw [HBE.out], kw.trans (kd1.trans k4)⟩
        simp [results, Try.results28, go_sem]
  · rw [if_neg hz]
    have hzb : (E == 0) = false := by rw [beq_eq_false_iff_ne]; exact hz
    clear HTF HNV HLF HX
    go_enter Try.func28, Try.ntmps28
    go_wp2_with fail
    refine (wpIn_wide (n := 3)).1 ?_
    refine region_calm 11 [(0, [0, 1, 2, 3]), (1, [4]), (1, [5]), (0, [6, 7, 8, 9, 10])] (fun _ => trivial) (by kernel_rfl) hmx (by kernel_rfl) (by kernel_rfl) ?_
    show wpQuietIn _ _ _ _ _ _ [_, _, _, _] _
    iterate 4 (gi_big_quiet_step (fail))
    refine wpQuietIn_nil ?_
    clear j0 j1 j2 j3 j4 j5
    show wpListIn _ _ _ _ _ [_] _ _
    gi_wp2_with fail
    rename_i hK
    refine ⟨trivial, ((callsIn_wide (n := 3 - 1)).2 (RD.out _ (kB.trans kd))).mono ?_⟩
    rintro e w0 ⟨rfl, rfl⟩
    refine hK _ _ ⟨rfl, Keeps.refl _, ?_⟩
    clear hK
    show wpListIn _ _ _ _ _ [_] _ _
    gi_wp2_with fail
    rename_i hK
    refine ⟨trivial, ((callsIn_wide (n := 3 - 1)).2 (TD.out _ (kB.trans kd))).mono ?_⟩
    rintro e w1 ⟨⟨a, cap, rfl, hP⟩, k2⟩
    refine hK _ _ ⟨rfl, k2, ?_⟩
    have HP := Lib.hid hP
    clear hK hP TD RD
    haveI : Nonempty (Since w1) := Since.some _
    show wpQuietIn _ _ _ _ _ _ [_, _, _, _, _] _
    iterate 5 (gi_big_quiet_step (fail))
    refine wpQuietIn_nil ?_
    unfold wpMix
    refine ⟨rfl, ?_⟩
    have k3 : Keeps W w1 := kd.trans k2
    have kw := kB.trans k3
    clear k2
    go_wp2_with fail
    refine bodyPost_ret (v := .tuple #[.int .i64 0, .int .i64 0, .int .i64 E]) ?_ rfl ⟨rfl, kw⟩
    simp [results, Try.results28, go_sem]
end Go.Proofs.Ytmhpgjlegajpeaa
