/-
  The document's own package, of WARM: fine, left.
-/
import Derived.Test.YtmhpgjlegajpeaaI9
namespace Go.Proofs.Ytmhpgjlegajpeaa
open Go.RowKit Go.Shelf
attribute [local go_sem] Oper.semAt_some

/-- Does what each pair shows at a warmth differ from its length by at most so much? -/
def fineL (m t off : Int) (L : List Pr) : Bool := L.all fun p => decide (-off ≤ shI m p.1.1 p.1.2 t - p.1.1 ∧ shI m p.1.1 p.1.2 t - p.1.1 ≤ off)
set_option maxRecDepth 100000 in
set_option maxHeartbeats 6400000 in
theorem refFine_any (B : Wm) (a : Option Addr) (cap : Nat) (L : List Pr) (t off : Int) (w : World) (hok : B.ok = true) (hP : Prs w a L) (hl : L.length ≤ 100) (t1 : -101 ≤ t) (t2 : t ≤ 101) (o1 : 0 ≤ off) (o2 : off ≤ 30000) :
    Calls Try.prog 74 #[B.v, .slice a L.length cap, .int .i64 t, .int .i64 off] w (RetB (fineL B.mark t off L) w) := by
  have hmx : Try.prog.follows .mixedOrders = true := by kernel_rfl
  have SH := Lib.hid (fun (p : Pr) w1 => refShow_any B p.1.1 p.1.2 t w1 (Wm.ok_lim hok).m1 (Wm.ok_lim hok).m2 p.2.1 p.2.2.1 p.2.2.2.1 p.2.2.2.2 t1 t2)
  have SB := Lib.hid (fun (p : Pr) => shI_bd p (t := t) (Wm.ok_lim hok).m1 (Wm.ok_lim hok).m2 t1 t2)
  have IN := Lib.hid (fun x w1 => refIn_any x (-off) off w1)
  have HP := Lib.hid hP
  have BX := Wm.Box.new B w
  obtain ⟨ok, hokp⟩ : ∃ ok : Pr → Bool, ok = fun p => decide (-off ≤ shI B.mark p.1.1 p.1.2 t - p.1.1 ∧ shI B.mark p.1.1 p.1.2 t - p.1.1 ≤ off) := ⟨_, rfl⟩
  have HOK := Lib.hid (show ∀ p : Pr, decide (-off ≤ shI B.mark p.1.1 p.1.2 t - p.1.1 ∧ shI B.mark p.1.1 p.1.2 t - p.1.1 ≤ off) = ok p from fun p => by rw [hokp])
  rw [show fineL B.mark t off L = L.all ok by rw [hokp]; rfl]
  obtain ⟨v, hv⟩ : ∃ v, L.all ok = v := ⟨_, rfl⟩
  have HV := Lib.hid hv
  rw [hv]
  obtain ⟨mark, llo, lhi, clo, chi, ra, rc, rs⟩ := B
  dsimp only [Wm.v] at *
  clear hP hok hokp hv
  obtain ⟨W, hW⟩ : ∃ W, w.alloc (.cells #[.int .i64 mark, .int .i64 llo, .int .i64 lhi, .int .i64 clo, .int .i64 chi, .slice ra rs.length rc] 26) = W := ⟨_, rfl⟩
  rw [hW] at BX
  have kB : Keeps w W := by rw [← hW]; exact (Keeps.refl _).alloc _
  obtain ⟨g0, g1, g2, g3, g4, g5⟩ := BX
  dsimp only at g0 g1 g2 g3 g4 g5
  obtain ⟨b0, hb0⟩ : ∃ b0, w.heap.size = b0 := ⟨_, rfl⟩
  rw [hb0] at g0 g1 g2 g3 g4 g5
  have wneg : IntKind.i64.wrap (-off) = -off := IntWalk.i64_in _ (by constructor <;> omega)
  go_enter Try.func74, Try.ntmps74
  go_wp2_with fail
  clear hW
  go_loopw [9] (fun i wr => ∃ k : Nat, k ≤ L.length ∧ i = .int .i64 k ∧ (L.take k).all ok = true ∧ Keeps W wr) (fun i _ => L.length - (intOf i).toNat)
  case atStart => exact ⟨0, Nat.zero_le _, rfl, rfl, Keeps.refl _⟩
  case round =>
    obtain ⟨k, hk, rfl, hall, kr⟩ := hrel
    have HA := Lib.hid hall
    have kw := kB.trans kr
    clear hall
    by_cases hlt : k < L.length
    · obtain ⟨b, o, rfl, hcs⟩ := (HP.out.keep kw) (by intro e; rw [e] at hlt; simp at hlt)
      obtain ⟨c0, c1⟩ := hcs k hlt
      have HTK := Lib.hid (take_one hlt)
      have HM := Lib.hid (List.getElem_mem hlt)
      obtain ⟨p, hp⟩ : ∃ p, L[k]'hlt = p := ⟨_, rfl⟩
      rw [hp] at c0 c1 HTK HM
      have hlc := lt_of_cell c0
      have SHP := Lib.hid (SH.out p)
      have hsb := SB.out p
      have hpb := p.2
      have HOP := HOK.out p
      obtain ⟨u, hu⟩ : ∃ u, ok p = u := ⟨_, rfl⟩
      rw [hu] at HOP
      have HU := Lib.hid hu
      obtain ⟨px, hpx⟩ : ∃ x, p.1.1 = x := ⟨_, rfl⟩
      obtain ⟨py, hpy⟩ : ∃ x, p.1.2 = x := ⟨_, rfl⟩
      rw [hpx, hpy] at SHP hsb HOP hpb
      rw [hpx] at c0
      rw [hpy] at c1
      obtain ⟨z, hz⟩ : ∃ z, shI mark px py t = z := ⟨_, rfl⟩
      rw [hz] at SHP hsb HOP
      have wsub : IntKind.i64.wrap (z - px) = z - px := IntWalk.i64_in _ (by constructor <;> omega)
      have INZ := Lib.hid (IN.out (z - px))
      rw [HOP] at INZ
      clear hcs hp hu hpx hpy hz HOP hsb hpb
      have kd := kr.drew
      haveI : Nonempty (Since wr.drew) := Since.some _
      have j0 : ∀ q : Since wr.drew, q.W.cell? ⟨b0, 0, none⟩ = some (.int .i64 mark) := fun q => (kd.trans q.keeps).cell g0
      have j1 : ∀ q : Since wr.drew, q.W.cell? ⟨b0, 1, none⟩ = some (.int .i64 llo) := fun q => (kd.trans q.keeps).cell g1
      have j2 : ∀ q : Since wr.drew, q.W.cell? ⟨b0, 2, none⟩ = some (.int .i64 lhi) := fun q => (kd.trans q.keeps).cell g2
      have j3 : ∀ q : Since wr.drew, q.W.cell? ⟨b0, 3, none⟩ = some (.int .i64 clo) := fun q => (kd.trans q.keeps).cell g3
      have j4 : ∀ q : Since wr.drew, q.W.cell? ⟨b0, 4, none⟩ = some (.int .i64 chi) := fun q => (kd.trans q.keeps).cell g4
      have j5 : ∀ q : Since wr.drew, q.W.cell? ⟨b0, 5, none⟩ = some (.slice ra rs.length rc) := fun q => (kd.trans q.keeps).cell g5
      have j6 : ∀ q : Since wr.drew, q.W.cell? ⟨b, o + k * 2, none⟩ = some (.int .i64 px) := fun q => ((Keeps.refl wr).drew.trans q.keeps).cell c0
      have j7 : ∀ q : Since wr.drew, q.W.cell? ⟨b, o + k * 2 + 1, none⟩ = some (.int .i64 py) := fun q => ((Keeps.refl wr).drew.trans q.keeps).cell c1
      go_wp2_with fail
      refine (wpIn_wide (n := 3)).1 ?_
      refine region_calm 18 [(0, [0, 1, 2, 3, 4, 5, 7, 8, 9, 10, 11, 13, 14, 15]), (1, [6]), (0, [12]), (1, [16]), (0, [17])] (fun _ => trivial) (by kernel_rfl) hmx (by kernel_rfl) (by kernel_rfl) ?_
      show wpQuietIn _ _ _ _ _ _ [_, _, _, _, _, _, _, _, _, _, _, _, _, _] _
      iterate 14 (gi_big_quiet_step (fail))
      refine wpQuietIn_nil ?_
      clear j0 j1 j2 j3 j4 j5 j6 j7
      show wpListIn _ _ _ _ _ [_] _ _
      gi_wp2_with fail
      rename_i hK
      refine ⟨trivial, ((callsIn_wide (n := 3 - 1)).2 (SHP.out _)).mono ?_⟩
      rintro e w3 ⟨rfl, k3⟩
      refine hK _ _ ⟨rfl, k3, ?_⟩
      clear hK
      haveI : Nonempty (Since w3) := Since.some _
      show wpQuietIn _ _ _ _ _ _ [_] _
      iterate 1 (gi_big_quiet_step (fail))
      refine wpQuietIn_nil ?_
      show wpListIn _ _ _ _ _ [_] _ _
      gi_wp2_with fail
      rename_i hK
      refine ⟨trivial, ((callsIn_wide (n := 3 - 1)).2 (INZ.out _)).mono ?_⟩
      rintro e w4 ⟨rfl, rfl⟩
      refine hK _ _ ⟨rfl, Keeps.refl _, ?_⟩
      clear hK
      show wpQuietIn _ _ _ _ _ _ [_] _
      iterate 1 (gi_big_quiet_step (fail))
      refine wpQuietIn_nil ?_
      unfold wpMix
      refine ⟨rfl, ?_⟩
      have kq : Keeps W w3 := kr.trans (Keeps.undrew k3)
      cases u with
      | false =>
        have HF := Lib.hid (show false = v from by
          rw [← HV.out]; symm
          rw [← Bool.not_eq_true, List.all_eq_true]
          intro h
          have := h p HM.out
          rw [HU.out] at this
          cases this)
        go_wp2_with fail
        go_ret
        exact RetB.mk HF.out (kB.trans kq)
      | true =>
        have hua := HA.out
        have HA2 := Lib.hid (show (L.take (k + 1)).all ok = true from by rw [HTK.out, List.all_append, hua]; simp [HU.out])
        clear hua
        go_wp2_with fail
        go_roundw
        case rel => exact ⟨k + 1, by omega, by go_num, HA2.out, kq⟩
        case measure => simp [intOf]; omega
    · obtain rfl : k = L.length := by omega
      rw [List.take_length, HV.out] at HA
      have HF := Lib.hid (show true = v from HA.out.symm)
      have hge : decide ((L.length : Int) < (L.length : Int)) = false := decide_eq_false (by omega)
      go_wp2_with fail
      go_ret
      exact RetB.mk HF.out kw

set_option maxRecDepth 100000 in
set_option maxHeartbeats 6400000 in
theorem refLeft_any (B : Wm) (a : Option Addr) (cap : Nat) (L : List Pr) (t : Int) (w : World) (hok : B.ok = true) (hP : Prs w a L) (hl : L.length ≤ 100) (t1 : -101 ≤ t) (t2 : t ≤ 101) :
    Calls Try.prog 85 #[B.v, .slice a L.length cap, .int .i64 t] w (RetI (alike B.mark t L : Int) w) := by
  have hmx : Try.prog.follows .mixedOrders = true := by kernel_rfl
  have SH := Lib.hid (fun (p : Pr) w1 => refShow_any B p.1.1 p.1.2 t w1 (Wm.ok_lim hok).m1 (Wm.ok_lim hok).m2 p.2.1 p.2.2.1 p.2.2.2.1 p.2.2.2.2 t1 t2)
  have HP := Lib.hid hP
  have BX := Wm.Box.new B w
  obtain ⟨f, hf⟩ : ∃ f : Pr → Int, (fun p : Pr => shI B.mark p.1.1 p.1.2 t) = f := ⟨_, rfl⟩
  have HSF := Lib.hid (show ∀ p : Pr, shI B.mark p.1.1 p.1.2 t = f p from fun p => by rw [← hf])
  obtain ⟨G, hG⟩ : ∃ G : Nat → Nat, G = fun k => ((L.take k).map (fun p => cnt f L (f p))).foldl max 0 := ⟨_, rfl⟩
  rw [show alike B.mark t L = G L.length by rw [alike, hf, alikeN, hG]; simp]
  have HG0 := Lib.hid (show G 0 = 0 by rw [hG]; rfl)
  have HGS := Lib.hid (show ∀ k (h : k < L.length), G (k + 1) = max (G k) (cnt f L (f (L[k]'h))) from fun k h => by
    rw [hG]; dsimp only
    rw [take_one h, List.map_append, List.foldl_append]; rfl)
  have HGB := Lib.hid (show ∀ k, G k ≤ 100 from fun k => by
    rw [hG]; dsimp only
    rcases foldl_max_in ((L.take k).map (fun p => cnt f L (f p))) 0 with h | h
    · omega
    · obtain ⟨p, _, h⟩ := List.mem_map.1 h
      rw [← h]
      exact Nat.le_trans (List.length_filter_le _ _) hl)
  have HCS := Lib.hid (show ∀ z k (h : k < L.length), cnt f (L.take (k + 1)) z = cnt f (L.take k) z + if f (L[k]'h) = z then 1 else 0 from fun z k h => by rw [take_one h, cnt_snoc])
  have HCB := Lib.hid (show ∀ z k, cnt f (L.take k) z ≤ 100 from fun z k => Nat.le_trans (List.length_filter_le _ _) (by rw [List.length_take]; omega))
  obtain ⟨mark, llo, lhi, clo, chi, ra, rc, rs⟩ := B
  dsimp only [Wm.v] at *
  clear hP hok hf hG
  obtain ⟨W, hW⟩ : ∃ W, w.alloc (.cells #[.int .i64 mark, .int .i64 llo, .int .i64 lhi, .int .i64 clo, .int .i64 chi, .slice ra rs.length rc] 26) = W := ⟨_, rfl⟩
  rw [hW] at BX
  have kB : Keeps w W := by rw [← hW]; exact (Keeps.refl _).alloc _
  obtain ⟨g0, g1, g2, g3, g4, g5⟩ := BX
  dsimp only at g0 g1 g2 g3 g4 g5
  obtain ⟨b0, hb0⟩ : ∃ b0, w.heap.size = b0 := ⟨_, rfl⟩
  rw [hb0] at g0 g1 g2 g3 g4 g5
  go_enter Try.func85, Try.ntmps85
  go_wp2_with fail
  clear hW
  go_loopw [7, 8] (fun u i wr => ∃ k : Nat, k ≤ L.length ∧ i = .int .i64 k ∧ u = .int .i64 (G k : Nat) ∧ Keeps W wr) (fun _ i _ => L.length - (intOf i).toNat)
  case atStart => exact ⟨0, Nat.zero_le _, rfl, by rw [HG0.out]; rfl, Keeps.refl _⟩
  case round =>
    obtain ⟨k, hk, rfl, rfl, kr⟩ := hrel
    by_cases hlt : k < L.length
    · obtain ⟨b, o, rfl, hcs⟩ := HP.out (by intro e; rw [e] at hlt; simp at hlt)
      obtain ⟨c0, c1⟩ := hcs k hlt
      replace c0 := kB.cell c0
      replace c1 := kB.cell c1
      have HC := Lib.hid hcs
      have HGK := Lib.hid (HGS.out k hlt)
      have hgb := HGB.out k
      obtain ⟨p, hp⟩ : ∃ p, L[k]'hlt = p := ⟨_, rfl⟩
      rw [hp] at c0 c1 HGK
      have SHP := Lib.hid (SH.out p)
      rw [HSF.out] at SHP
      obtain ⟨z, hz⟩ : ∃ z, f p = z := ⟨_, rfl⟩
      rw [hz] at SHP HGK
      obtain ⟨px, hpx⟩ : ∃ x, p.1.1 = x := ⟨_, rfl⟩
      obtain ⟨py, hpy⟩ : ∃ x, p.1.2 = x := ⟨_, rfl⟩
      rw [hpx, hpy] at SHP
      rw [hpx] at c0
      rw [hpy] at c1
      obtain ⟨gk, hgk⟩ : ∃ g, G k = g := ⟨_, rfl⟩
      rw [hgk] at HGK hgb ⊢
      clear hcs hp hz hpx hpy hgk
      obtain ⟨wo, rfl⟩ : ∃ wo : World, wo = wr := ⟨_, rfl⟩
      go_wp2_with fail
      go_loopw [9, 10] (fun c i wx => ∃ j : Nat, j ≤ L.length ∧ i = .int .i64 j ∧ c = .int .i64 (cnt f (L.take j) z : Nat) ∧ Keeps W wx) (fun _ i _ => L.length - (intOf i).toNat)
      case atStart => exact ⟨0, Nat.zero_le _, rfl, rfl, kr⟩
      case round =>
        obtain ⟨j, hj, rfl, rfl, kx⟩ := hrel
        have hcb := HCB.out z j
        by_cases hlj : j < L.length
        · obtain ⟨d0, d1⟩ := HC.out j hlj
          replace d0 := kB.cell d0
          replace d1 := kB.cell d1
          have hcs := HCS.out z j hlj
          obtain ⟨p2, hp2⟩ : ∃ p, L[j]'hlj = p := ⟨_, rfl⟩
          rw [hp2] at d0 d1 hcs
          have SHQ := Lib.hid (SH.out p2)
          rw [HSF.out] at SHQ
          obtain ⟨y, hy⟩ : ∃ z, f p2 = z := ⟨_, rfl⟩
          rw [hy] at SHQ hcs
          obtain ⟨qx, hqx⟩ : ∃ x, p2.1.1 = x := ⟨_, rfl⟩
          obtain ⟨qy, hqy⟩ : ∃ x, p2.1.2 = x := ⟨_, rfl⟩
          rw [hqx, hqy] at SHQ
          rw [hqx] at d0
          rw [hqy] at d1
          obtain ⟨cj, hcj⟩ : ∃ c, cnt f (L.take j) z = c := ⟨_, rfl⟩
          rw [hcj] at hcs hcb ⊢
          have HCS2 := Lib.hid hcs
          clear hp2 hy hqx hqy hcj hcs
          have kd := kx.drew
          haveI : Nonempty (Since wr.drew) := Since.some _
          have j0 : ∀ q : Since wr.drew, q.W.cell? ⟨b0, 0, none⟩ = some (.int .i64 mark) := fun q => (kd.trans q.keeps).cell g0
          have j1 : ∀ q : Since wr.drew, q.W.cell? ⟨b0, 1, none⟩ = some (.int .i64 llo) := fun q => (kd.trans q.keeps).cell g1
          have j2 : ∀ q : Since wr.drew, q.W.cell? ⟨b0, 2, none⟩ = some (.int .i64 lhi) := fun q => (kd.trans q.keeps).cell g2
          have j3 : ∀ q : Since wr.drew, q.W.cell? ⟨b0, 3, none⟩ = some (.int .i64 clo) := fun q => (kd.trans q.keeps).cell g3
          have j4 : ∀ q : Since wr.drew, q.W.cell? ⟨b0, 4, none⟩ = some (.int .i64 chi) := fun q => (kd.trans q.keeps).cell g4
          have j5 : ∀ q : Since wr.drew, q.W.cell? ⟨b0, 5, none⟩ = some (.slice ra rs.length rc) := fun q => (kd.trans q.keeps).cell g5
          have j6 : ∀ q : Since wr.drew, q.W.cell? ⟨b, o + k * 2, none⟩ = some (.int .i64 px) := fun q => (kd.trans q.keeps).cell c0
          have j7 : ∀ q : Since wr.drew, q.W.cell? ⟨b, o + k * 2 + 1, none⟩ = some (.int .i64 py) := fun q => (kd.trans q.keeps).cell c1
          have j8 : ∀ q : Since wr.drew, q.W.cell? ⟨b, o + j * 2, none⟩ = some (.int .i64 qx) := fun q => (kd.trans q.keeps).cell d0
          have j9 : ∀ q : Since wr.drew, q.W.cell? ⟨b, o + j * 2 + 1, none⟩ = some (.int .i64 qy) := fun q => (kd.trans q.keeps).cell d1
          go_wp2_with fail
          refine (wpIn_wide (n := 3)).1 ?_
          refine region_calm 15 [(0, [0, 1, 2, 3, 4, 5, 7, 8, 9, 10, 11, 12]), (1, [6]), (1, [13]), (0, [14])] (fun _ => trivial) (by kernel_rfl) hmx (by kernel_rfl) (by kernel_rfl) ?_
          show wpQuietIn _ _ _ _ _ _ [_, _, _, _, _, _, _, _, _, _, _, _] _
          iterate 12 (gi_big_quiet_step (fail))
          refine wpQuietIn_nil ?_
          clear j0 j1 j2 j3 j4 j5 j6 j7 j8 j9
          show wpListIn _ _ _ _ _ [_] _ _
          gi_wp2_with fail
          rename_i hK
          refine ⟨trivial, ((callsIn_wide (n := 3 - 1)).2 (SHQ.out _)).mono ?_⟩
          rintro e w3 ⟨rfl, k3⟩
          refine hK _ _ ⟨rfl, k3, ?_⟩
          clear hK
          show wpListIn _ _ _ _ _ [_] _ _
          gi_wp2_with fail
          rename_i hK
          refine ⟨trivial, ((callsIn_wide (n := 3 - 1)).2 (SHP.out _)).mono ?_⟩
          rintro e w4 ⟨rfl, k4⟩
          refine hK _ _ ⟨rfl, k4, ?_⟩
          clear hK
          haveI : Nonempty (Since w4) := Since.some _
          by_cases hyz : y = z
          · have hyb : (y == z) = true := beq_iff_eq.2 hyz
            have hyd : decide (y = z) = true := decide_eq_true hyz
            have HN := Lib.hid (show cnt f (L.take (j + 1)) z = cj + 1 from by rw [HCS2.out, if_pos hyz])
            clear hyz
            show wpQuietIn _ _ _ _ _ _ [_] _
            iterate 1 (gi_big_quiet_step (fail))
            refine wpQuietIn_nil ?_
            unfold wpMix
            refine ⟨rfl, ?_⟩
            go_wp2_with fail
            go_roundw
            case rel => exact ⟨j + 1, by omega, by go_num, by rw [HN.out]; go_num, (kd.trans k3).trans k4⟩
            case measure => simp [intOf]; omega
          · have hyb : (y == z) = false := beq_eq_false_iff_ne.2 hyz
            have hyd : decide (y = z) = false := decide_eq_false hyz
            have HN := Lib.hid (show cnt f (L.take (j + 1)) z = cj from by rw [HCS2.out, if_neg hyz]; rfl)
            clear hyz
            show wpQuietIn _ _ _ _ _ _ [_] _
            iterate 1 (gi_big_quiet_step (fail))
            refine wpQuietIn_nil ?_
            unfold wpMix
            refine ⟨rfl, ?_⟩
            go_wp2_with fail
            go_roundw
            case rel => exact ⟨j + 1, by omega, by go_num, by rw [HN.out], (kd.trans k3).trans k4⟩
            case measure => simp [intOf]; omega
        · obtain rfl : j = L.length := by omega
          have hge : decide ((L.length : Int) < (L.length : Int)) = false := decide_eq_false (by omega)
          rw [List.take_length] at hcb ⊢
          obtain ⟨c, hc⟩ : ∃ c, cnt f L z = c := ⟨_, rfl⟩
          rw [hc] at HGK hcb ⊢
          clear hc
          go_wp2_with fail
          all_goals
            go_roundw
            case rel => exact ⟨k + 1, by omega, by go_num, by rw [HGK.out, show ((max gk c : Nat) : Int) = max (gk : Int) (c : Int) by omega], kx⟩
            case measure => simp [intOf]; omega
    · obtain rfl : k = L.length := by omega
      have hge : decide ((L.length : Int) < (L.length : Int)) = false := decide_eq_false (by omega)
      go_wp2_with fail
      go_ret
      exact RetI.mk rfl (kB.trans kr)
end Go.Proofs.Ytmhpgjlegajpeaa
