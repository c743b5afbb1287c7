/-
  The document's own package, of WARM: Shows.
-/
import Derived.Test.YtmhpgjlegajpeaaI8
namespace Go.Proofs.Ytmhpgjlegajpeaa
open Go.RowKit Go.Shelf
attribute [local go_sem] Oper.semAt_some

/-- What is known of what is shown. -/
theorem shows_facts {B : Wm} {lo hi : Int} (hok : B.ok = true) (hT : B.truths ≠ []) (h0 : -100 ≤ lo) (h1 : lo ≤ hi) (h2 : hi ≤ 100) : B.showL lo hi ≠ [] ∧ ∀ x ∈ B.showL lo hi, -30000 ≤ x ∧ x ≤ 30000 := by
  have hL := Wm.ok_lim hok
  refine ⟨fun e => ?_, fun x hx => ?_⟩
  · obtain ⟨p, hp⟩ := List.exists_mem_of_ne_nil _ hT
    have : shI B.mark p.1.1 p.1.2 lo ∈ B.showL lo hi := mem_showL.2 ⟨p, hp, lo, ⟨by omega, h1⟩, rfl⟩
    rw [e] at this
    cases this
  · obtain ⟨p, _, t, ⟨t1, t2⟩, rfl⟩ := mem_showL.1 hx
    exact shI_bd p hL.m1 hL.m2 (by omega) (by omega)

set_option maxRecDepth 100000 in
set_option maxHeartbeats 6400000 in
theorem refShows_any (B : Wm) (lo hi : Int) (w : World) (hI : B.In w) : Calls Try.prog 22 #[B.v, .agg #[.int .i64 lo, .int .i64 hi]] w (Ret (.tuple #[spV (B.showsA lo hi).1, .int .i64 (B.showsA lo hi).2]) w) := by
  obtain ⟨i0, hi0, hz0, hz1, hz2⟩ := info_parts info_i
  obtain ⟨valid, hvalid⟩ : ∃ v, inS lo hi (-100) 100 = v := ⟨_, rfl⟩
  have RD := Lib.hid (fun w1 => refWarmth_any lo hi w1)
  rw [hvalid] at RD
  have TD := Lib.hid (fun w1 (k : Keeps w w1) => refTold_any B 0 valid w1 (hI.keep k))
  have hbad : (if inS lo hi (-100) 100 then (0 : Int) else 2) = badA 0 valid := by
    rw [hvalid]; unfold badA
    cases valid <;> simp
  have hA : B.showsA lo hi = if B.errA (badA 0 valid) = 0 then ((loI (B.showL lo hi), hiI (B.showL lo hi)), 0) else ((0, 0), B.errA (badA 0 valid)) := by
    rw [Wm.showsA, hbad]; exact say_err B _ _ _
  have HTF := Lib.hid (told_facts B (badA 0 valid))
  have HNV := Lib.hid (show badA 0 valid = 0 → -100 ≤ lo ∧ lo ≤ hi ∧ hi ≤ 100 from fun h => by
    rw [← hbad] at h
    cases hv : inS lo hi (-100) 100 with
    | true => simpa [inS] using hv
    | false => rw [hv] at h; cases h)
  have HHF := Lib.hid (fun h1 h2 h3 h4 h5 => shows_facts (B := B) (lo := lo) (hi := hi) h1 h2 h3 h4 h5)
  have HHL := Lib.hid (show B.showL lo hi = B.truths.flatMap (fun p => shTo B.mark lo p (hi + 1 - lo).toNat) from rfl)
  have HWM := Lib.hid (fun (p : Pr) t w1 (h : B.ok = true) t1 t2 => refShow_any B p.1.1 p.1.2 t w1 (Wm.ok_lim h).m1 (Wm.ok_lim h).m2 p.2.1 p.2.2.1 p.2.2.2.1 p.2.2.2.2 t1 t2)
  have BX := Wm.Box.new B w
  rw [hA]
  obtain ⟨T, hT⟩ : ∃ T, B.truths = T := ⟨_, rfl⟩
  obtain ⟨E, hE⟩ : ∃ E, B.errA (badA 0 valid) = E := ⟨_, rfl⟩
  obtain ⟨L, hL⟩ : ∃ L, B.toldL (badA 0 valid) = L := ⟨_, rfl⟩
  obtain ⟨HLs, hHLs⟩ : ∃ f, B.showL lo hi = f := ⟨_, rfl⟩
  rw [hT, hE, hL] at HTF
  rw [hE, hL] at TD
  rw [hT, hHLs] at HHL HHF
  rw [hHLs, hE]
  obtain ⟨okb, hokb⟩ : ∃ b, B.ok = b := ⟨_, rfl⟩
  rw [hokb] at HTF HHF HWM
  have hmx : Try.prog.follows .mixedOrders = true := by kernel_rfl
  obtain ⟨mark, llo, lhi, clo, chi, ra, rc, rs⟩ := B
  dsimp only [Wm.v, spV] at *
  clear hI hA hT hE hL hHLs hbad hvalid hokb
  obtain ⟨W0, hW0⟩ : ∃ W, w.alloc (.cells #[.int .i64 mark, .int .i64 llo, .int .i64 lhi, .int .i64 clo, .int .i64 chi, .slice ra rs.length rc] 26) = W := ⟨_, rfl⟩
  rw [hW0] at BX
  have kB : Keeps w W0 := by rw [← hW0]; exact (Keeps.refl _).alloc _
  have hs0 : W0.heap.size = w.heap.size + 1 := by rw [← hW0]; simp
  obtain ⟨V0, hV0⟩ : ∃ W, W0.alloc (.cells #[.int .i64 lo, .int .i64 hi] 23) = W := ⟨_, rfl⟩
  have kV : Keeps W0 V0 := by rw [← hV0]; exact (Keeps.refl _).alloc _
  have hsV : V0.heap.size = w.heap.size + 1 + 1 := by rw [← hV0, ← hs0]; simp
  have s0' : V0.cell? ⟨w.heap.size + 1, 0, none⟩ = some (.int .i64 lo) := by rw [← hV0, ← hs0]; simp [go_sem]
  have s1' : V0.cell? ⟨w.heap.size + 1, 1, none⟩ = some (.int .i64 hi) := by rw [← hV0, ← hs0]; simp [go_sem]
  obtain ⟨W, hW⟩ : ∃ W, V0.alloc (.cells #[.int .i64 0, .int .i64 0] 23) = W := ⟨_, rfl⟩
  have kV2 : Keeps V0 W := by rw [← hW]; exact (Keeps.refl _).alloc _
  have k0 : Keeps W0 W := kV.trans kV2
  replace s0' := kV2.cell s0'
  replace s1' := kV2.cell s1'
  obtain ⟨b1, hb1⟩ : ∃ b, w.heap.size + 1 + 1 = b := ⟨_, rfl⟩
  obtain ⟨bs, hbs⟩ : ∃ b, w.heap.size + 1 = b := ⟨_, rfl⟩
  have r0 : W.cell? ⟨b1, 0, none⟩ = some (.int .i64 0) := by rw [← hW, ← hb1, ← hsV]; simp [go_sem]
  have r1 : W.cell? ⟨b1, 1, none⟩ = some (.int .i64 0) := by rw [← hW, ← hb1, ← hsV]; simp [go_sem]
  have z0 : W.frozen? ⟨b1, 0, none⟩ = false := by rw [← hW, ← hb1, ← hsV]; simp [go_sem]
  have z1 : W.frozen? ⟨b1, 1, none⟩ = false := by rw [← hW, ← hb1, ← hsV]; simp [go_sem]
  obtain ⟨g0, g1, g2, g3, g4, g5⟩ := BX.keep k0
  dsimp only at g0 g1 g2 g3 g4 g5
  have kk := kB.trans k0
  have hl0 := lt_of_cell g0
  have hl1 := lt_of_cell r0
  have hls := lt_of_cell s0'
  have hbw : w.heap.size ≤ b1 := by omega
  rw [hbs] at s0' s1' hls hb1
  clear BX
  obtain ⟨b0, hb0⟩ : ∃ b, w.heap.size = b := ⟨_, rfl⟩
  rw [hb0] at g0 g1 g2 g3 g4 g5 hl0 hbs
  haveI : Nonempty (Since W.drew) := Since.some _
  have kd := (Keeps.refl W).drew
  have j0 : ∀ q : Since W.drew, q.W.cell? ⟨b0, 0, none⟩ = some (.int .i64 mark) := fun q => (kd.trans q.keeps).cell g0
  have j1 : ∀ q : Since W.drew, q.W.cell? ⟨b0, 1, none⟩ = some (.int .i64 llo) := fun q => (kd.trans q.keeps).cell g1
  have j2 : ∀ q : Since W.drew, q.W.cell? ⟨b0, 2, none⟩ = some (.int .i64 lhi) := fun q => (kd.trans q.keeps).cell g2
  have j3 : ∀ q : Since W.drew, q.W.cell? ⟨b0, 3, none⟩ = some (.int .i64 clo) := fun q => (kd.trans q.keeps).cell g3
  have j4 : ∀ q : Since W.drew, q.W.cell? ⟨b0, 4, none⟩ = some (.int .i64 chi) := fun q => (kd.trans q.keeps).cell g4
  have j5 : ∀ q : Since W.drew, q.W.cell? ⟨b0, 5, none⟩ = some (.slice ra rs.length rc) := fun q => (kd.trans q.keeps).cell g5
  have j6 : ∀ q : Since W.drew, q.W.cell? ⟨bs, 0, none⟩ = some (.int .i64 lo) := fun q => (kd.trans q.keeps).cell s0'
  have j7 : ∀ q : Since W.drew, q.W.cell? ⟨bs, 1, none⟩ = some (.int .i64 hi) := fun q => (kd.trans q.keeps).cell s1'
  by_cases hz : E = 0
  · obtain ⟨rfl, hne, hlen, rfl, hbd⟩ := HTF.out hz
    rw [if_pos hz]
    subst hz
    obtain ⟨n0, n1, n2⟩ := HNV.out hbd
    obtain ⟨h1, h2⟩ := HHF.out rfl hne n0 n1 n2
    have hHL := HHL.out
    obtain ⟨n, hn⟩ : ∃ n, (hi + 1 - lo).toNat = n := ⟨_, rfl⟩
    rw [hn] at hHL
    have HWP := Lib.hid (fun (p : Pr) t w1 t1 t2 => HWM.out p t w1 rfl t1 t2)
    obtain ⟨R, hR⟩ : ∃ R : Pr → Nat → List Int, shTo mark lo = R := ⟨_, rfl⟩
    have HRS := Lib.hid (show ∀ p j, R p (j + 1) = R p j ++ [shI mark p.1.1 p.1.2 (lo + (j : Int))] from fun p j => by rw [← hR]; exact shTo_succ _ _ _ _)
    have HRL := Lib.hid (show ∀ p j, (R p j).length = j from fun p j => by rw [← hR]; exact shTo_len _ _ _ _)
    have HR0 := Lib.hid (show ∀ p, R p 0 = [] from fun p => by rw [← hR]; rfl)
    rw [hR] at hHL
    obtain ⟨f, hf⟩ : ∃ f : Pr → List Int, (fun p : Pr => R p n) = f := ⟨_, rfl⟩
    have HF := Lib.hid (show ∀ p : Pr, R p n = f p from fun p => by rw [← hf])
    rw [hf] at hHL
    have hn201 : n ≤ 201 := by omega
    have HF5 := Lib.hid (show ∀ p : Pr, (f p).length ≤ 201 from fun p => by rw [← HF.out, HRL.out]; exact hn201)
    rw [hHL]
    rw [hHL] at h1 h2
    have HNE := Lib.hid h1
    have HB := Lib.hid h2
    have HTS := Lib.hid (fun k h => take_flat_succ f L k h)
    have HLN := Lib.hid (show ∀ k, ((L.take k).flatMap f).length ≤ 20100 from fun k => by
      have h := flat_bd f 201 (L.take k) (fun x _ => HF5.out x)
      rw [List.length_take] at h
      have : min k L.length * 201 ≤ 100 * 201 := Nat.mul_le_mul (by omega) (Nat.le_refl _)
      omega)
    have HGET := Lib.hid (fun w1 (a : Option Addr) (h : Prs w1 a L) => h hne)
    obtain ⟨ys, hys⟩ : ∃ ys, L.flatMap f = ys := ⟨_, rfl⟩
    rw [hys] at HNE HB ⊢
    have HYS := Lib.hid hys
    clear hys
    clear hf hHL h1 h2 HHL HHF HTF HNV HWM hne hbd hR
    go_enter Try.func22, Try.ntmps22
    go_wp2_with fail
    refine (wpIn_wide (n := 3)).1 ?_
    refine region_calm 9 [(0, [0, 1]), (1, [2]), (1, [3]), (0, [4, 5, 6, 7, 8])] (fun _ => trivial) (by kernel_rfl) hmx (by kernel_rfl) (by kernel_rfl) ?_
    show wpQuietIn _ _ _ _ _ _ [_, _] _
    iterate 2 (gi_big_quiet_step (fail))
    refine wpQuietIn_nil ?_
    clear j0 j1 j2 j3 j4 j5 j6 j7
    show wpListIn _ _ _ _ _ [_] _ _
    gi_wp2_with fail
    rename_i hK
    refine ⟨trivial, ((callsIn_wide (n := 3 - 1)).2 (RD.out _)).mono ?_⟩
    rintro e w0 ⟨rfl, k1⟩
    refine hK _ _ ⟨rfl, k1, ?_⟩
    clear hK
    show wpListIn _ _ _ _ _ [_] _ _
    gi_wp2_with fail
    rename_i hK
    refine ⟨trivial, ((callsIn_wide (n := 3 - 1)).2 (TD.out _ (kk.trans (kd.trans k1)))).mono ?_⟩
    rintro e w1 ⟨⟨a, cap, rfl, hP⟩, k2⟩
    refine hK _ _ ⟨rfl, k2, ?_⟩
    obtain ⟨b, o, rfl, hc⟩ := HGET.out w1 a hP
    have HC := Lib.hid hc
    clear hK hc hP HGET TD RD
    haveI : Nonempty (Since w1) := Since.some _
    show wpQuietIn _ _ _ _ _ _ [_, _, _, _, _] _
    iterate 5 (gi_big_quiet_step (fail))
    refine wpQuietIn_nil ?_
    unfold wpMix
    refine ⟨rfl, ?_⟩
    have k3 : Keeps W w1 := (kd.trans k1).trans k2
    replace g0 := k3.cell g0
    replace g1 := k3.cell g1
    replace g2 := k3.cell g2
    replace g3 := k3.cell g3
    replace g4 := k3.cell g4
    replace g5 := k3.cell g5
    replace hl0 := lt_of_cell g0
    replace s0' := k3.cell s0'
    replace s1' := k3.cell s1'
    replace hls := lt_of_cell s0'
    clear k1 k2
    go_wp2_with fail
    go_loopw [8, 9] (fun o i wr => ∃ k : Nat, k ≤ L.length ∧ i = .int .i64 k ∧ wr.ownsRow w1.heap.size 3 1 o ((L.take k).flatMap f).length (((L.take k).flatMap f).map (Value.int .i64)) ∧ Keeps w1 wr) (fun _ i _ => L.length - (intOf i).toNat)
    case atStart => exact ⟨0, Nat.zero_le _, rfl, World.ownsRow_nil _ _ _ _, Keeps.refl _⟩
    case round =>
      obtain ⟨k, hk, rfl, hown, kr⟩ := hrel
      have HO := Lib.hid hown
      have hszw := kr.size
      clear hown
      by_cases hlt : k < L.length
      · have c0 := (HC.out k hlt).1
        have c1 := (HC.out k hlt).2
        have HTK := Lib.hid (HTS.out k hlt)
        have hln := HLN.out k
        obtain ⟨p, hp⟩ : ∃ p, L[k]'hlt = p := ⟨_, rfl⟩
        rw [hp] at c0 c1 HTK
        have hlc := lt_of_cell c0
        have WK := Lib.hid (fun t w' t1 t2 => HWP.out p t w' t1 t2)
        have HRP := Lib.hid (HRS.out p)
        have HRPL := Lib.hid (HRL.out p)
        have HFP := HF.out p
        have hr0 := HR0.out p
        obtain ⟨r, hr⟩ : ∃ r, R p = r := ⟨_, rfl⟩
        rw [hr] at HRP HRPL HFP hr0
        rw [← HFP] at HTK
        obtain ⟨⟨px, py⟩, hpb⟩ := p
        dsimp only at c0 c1 WK HRP
        clear hp hr HFP
        obtain ⟨zs, hzs⟩ : ∃ zs, (L.take k).flatMap f = zs := ⟨_, rfl⟩
        rw [hzs] at HTK HO hln
        have HO0 := Lib.hid (show wr.ownsRow w1.heap.size 3 1 u8 (zs ++ r 0).length ((zs ++ r 0).map (Value.int .i64)) from by rw [hr0, List.append_nil]; exact HO.out)
        clear hzs hr0 HO
        have l1 := kr.cell s0'
        have l2 := lt_of_cell l1
        obtain ⟨wo, rfl⟩ : ∃ wo : World, wo = wr := ⟨_, rfl⟩
        go_wp2_with fail
        clear l1 l2
        go_loopw [8, 10] (fun o t wx => ∃ j : Nat, j ≤ n ∧ t = .int .i64 (lo + (j : Int)) ∧ wx.ownsRow w1.heap.size 3 1 o (zs ++ r j).length ((zs ++ r j).map (Value.int .i64)) ∧ Keeps w1 wx) (fun _ t _ => (hi + 1 - intOf t).toNat)
        case atStart => exact ⟨0, Nat.zero_le _, by simp, HO0.out, kr⟩
        case round =>
          obtain ⟨j, hj, rfl, hown, kx⟩ := hrel
          have HO := Lib.hid hown
          have hszx := kx.size
          have l1 := kx.cell s1'
          have l2 := lt_of_cell l1
          clear hown
          by_cases hlj : j < n
          · have HRJ := Lib.hid (HRP.out j)
            have HRJL := HRPL.out j
            obtain ⟨t, ht⟩ : ∃ t, lo + (j : Int) = t := ⟨_, rfl⟩
            have ht1 : -101 ≤ t ∧ t ≤ 101 := by omega
            have hth : t ≤ hi := by omega
            have HT1 := Lib.hid (show lo + ((j + 1 : Nat) : Int) = t + 1 from by omega)
            rw [ht] at HRJ ⊢
            have WT := Lib.hid (fun w' => WK.out t w' ht1.1 ht1.2)
            obtain ⟨y, hy⟩ : ∃ y, shI mark px py t = y := ⟨_, rfl⟩
            rw [hy] at WT HRJ
            clear ht hy
            haveI : Nonempty (Inw (fun w' => Keeps w1 w')) := ⟨⟨w1, Keeps.refl _⟩⟩
            have e0 : ∀ q : Inw (fun w' => Keeps w1 w'), q.W.cell? ⟨b0, 0, none⟩ = some (.int .i64 mark) := fun q => q.h.cell g0
            have e1 : ∀ q : Inw (fun w' => Keeps w1 w'), q.W.cell? ⟨b0, 1, none⟩ = some (.int .i64 llo) := fun q => q.h.cell g1
            have e2 : ∀ q : Inw (fun w' => Keeps w1 w'), q.W.cell? ⟨b0, 2, none⟩ = some (.int .i64 lhi) := fun q => q.h.cell g2
            have e3 : ∀ q : Inw (fun w' => Keeps w1 w'), q.W.cell? ⟨b0, 3, none⟩ = some (.int .i64 clo) := fun q => q.h.cell g3
            have e4 : ∀ q : Inw (fun w' => Keeps w1 w'), q.W.cell? ⟨b0, 4, none⟩ = some (.int .i64 chi) := fun q => q.h.cell g4
            have e5 : ∀ q : Inw (fun w' => Keeps w1 w'), q.W.cell? ⟨b0, 5, none⟩ = some (.slice ra rs.length rc) := fun q => q.h.cell g5
            have e6 : ∀ q : Inw (fun w' => Keeps w1 w'), q.W.cell? ⟨b, o + k * 2, none⟩ = some (.int .i64 px) := fun q => q.h.cell c0
            have e7 : ∀ q : Inw (fun w' => Keeps w1 w'), q.W.cell? ⟨b, o + k * 2 + 1, none⟩ = some (.int .i64 py) := fun q => q.h.cell c1
            have kwd : Keeps w1 wr.drew := kx.drew
            go_wp2_with fail
            refine (wpIn_wide (n := 3)).1 (calm ?_)
            refine cix_start hmx (fun w' => Keeps w1 w') ?_
            refine cix_quiet (m := 4) (calm_ok (fun _ => trivial) (by kernel_rfl)) [0, 1, 2, 3, 4, 5, 6] rfl (by kernel_rfl) kwd ?_
            show wpQuietIn _ _ _ _ _ _ [_, _, _, _, _, _, _] _
            iterate 7 (gi_big_quiet_step (fail))
            refine wpQuietIn_nil ?_
            clear e0 e1 e2 e3 e4 e5 e6 e7
            refine cix_one (m := 3) 7 _ rfl rfl (by kernel_rfl) ?_
            show wpListIn _ _ _ _ _ [_] _ _
            gi_wp2_with fail
            rename_i hK
            refine ⟨trivial, ((callsIn_wide (n := 2)).2 (WT.out _)).mono ?_⟩
            rintro e w5 ⟨rfl, k5⟩
            refine hK _ _ (.inl ⟨rfl, kwd.trans k5, ?_⟩)
            clear hK
            have k5a : Keeps w1 (w5.alloc (.cells #[.int .i64 y] 3)) := (kwd.trans k5).alloc _
            have HO5 := Lib.hid ((HO.out.kept ((Keeps.undrew k5).grown none) (ownN _)).alloc (.cells #[.int .i64 y] 3))
            have hsz5 := (kwd.trans k5).size
            refine cix_one (m := 2) 8 _ rfl rfl (by kernel_rfl) ?_
            show wpListIn _ _ _ _ _ [_] _ _
            gi_wp2_with fail
            refine cix_one (m := 1) 9 _ rfl rfl (by kernel_rfl) ?_
            show wpListIn _ _ _ _ _ [_] _ _
            refine wpListIn_append_own _ rfl _ _ 35 rfl w1.heap.size 3 i0 (.int .i64 0) 1 8 Try.underlying35 hi0 hz0 hz1 hz2 rfl (by decide) _ _ _ rfl HO5.out ⟨w5.heap.size, 0, none⟩ 1 1 [.int .i64 y] rfl rfl (by simp [go_sem]) (by simp [Value.oneCell']) (by rw [List.length_append]; unfold maxLen; omega) (by rw [List.length_append]; omega) k5a.size ?_
            intro v' w6 hown' hgrow _
            have hk6 : Keeps w1 w6 := Below.grown k5a hgrow k5a.size (fun j e => (HO5.out.lt j e).1)
            have HO6 := Lib.hid hown'
            clear hown' hgrow
            gi_wp2_with fail
            refine cix_one (m := 0) 10 _ rfl rfl (by kernel_rfl) ?_
            show wpListIn _ _ _ _ _ [_] _ _
            gi_wp2_with fail
            refine cix_done (by kernel_rfl) ?_ _
            refine ⟨rfl, ?_⟩
            go_wp2_with fail
            go_roundw
            case rel => exact ⟨j + 1, by omega, by rw [HT1.out], by rw [HRJ.out, ← List.append_assoc, List.length_append (bs := [y]), List.map_append (l₂ := [y])]; exact HO6.out, hk6⟩
            case measure => simp [intOf]; omega
          · obtain rfl : j = n := by omega
            have hge : decide (lo + (j : Int) ≤ hi) = false := decide_eq_false (by omega)
            rw [← HTK.out] at HO
            go_wp2_with fail
            go_roundw
            case rel => exact ⟨k + 1, by omega, by go_num, HO.out, kx⟩
            case measure => simp [intOf]; omega
      · obtain rfl : k = L.length := by omega
        have hys := HYS.out
        rw [List.take_length] at HO
        have hln := HLN.out L.length
        rw [List.take_length, hys] at hln
        rw [hys] at HO
        obtain ⟨ya, yc, rfl, hIL⟩ := ints_rowI HO.out
        have HU := Lib.hid (refHull_any ya yc ys wr hIL (by unfold maxLen; omega) HNE.out HB.out)
        have kw := k3.trans kr
        have hge : decide ((L.length : Int) < (L.length : Int)) = false := decide_eq_false (by omega)
        clear hIL HO hys
        go_wp2_with fail
        refine HU.out.mono ?_
        rintro e w2 ⟨rfl, k2⟩
        have kz := kw.trans k2
        have s0 := kz.cell r0
        have s1 := kz.cell r1
        have f0 := (kz.cells.2 _ _ (lt_of_cell r0)).trans z0
        have f1 := (kz.cells.2 _ _ (lt_of_cell r1)).trans z1
        have hls := lt_of_cell s0
        have h2 := (TwoI.set0 ⟨s0, s1, f0, f1⟩ (loI ys)).set1 (hiI ys)
        clear r0 r1 z0 z1
        go_wp2_with fail
        refine bodyPost_ret (v := .tuple #[.agg #[.int .i64 (loI ys), .int .i64 (hiI ys)], .int .i64 0]) ?_ rfl ⟨rfl, ((kk.trans kz).setCell (p := ⟨b1, 0, none⟩) _ hbw).setCell (p := ⟨b1, 1, none⟩) _ hbw⟩
        simp [results, Try.results22, go_sem, h2.c0, h2.c1]
  · rw [if_neg hz]
    have hzb : (E == 0) = false := by rw [beq_eq_false_iff_ne]; exact hz
    clear HTF HNV HHF HHL HWM
    go_enter Try.func22, Try.ntmps22
    go_wp2_with fail
    refine (wpIn_wide (n := 3)).1 ?_
    refine region_calm 9 [(0, [0, 1]), (1, [2]), (1, [3]), (0, [4, 5, 6, 7, 8])] (fun _ => trivial) (by kernel_rfl) hmx (by kernel_rfl) (by kernel_rfl) ?_
    show wpQuietIn _ _ _ _ _ _ [_, _] _
    iterate 2 (gi_big_quiet_step (fail))
    refine wpQuietIn_nil ?_
    clear j0 j1 j2 j3 j4 j5 j6 j7
    show wpListIn _ _ _ _ _ [_] _ _
    gi_wp2_with fail
    rename_i hK
    refine ⟨trivial, ((callsIn_wide (n := 3 - 1)).2 (RD.out _)).mono ?_⟩
    rintro e w0 ⟨rfl, k1⟩
    refine hK _ _ ⟨rfl, k1, ?_⟩
    clear hK
    show wpListIn _ _ _ _ _ [_] _ _
    gi_wp2_with fail
    rename_i hK
    refine ⟨trivial, ((callsIn_wide (n := 3 - 1)).2 (TD.out _ (kk.trans (kd.trans k1)))).mono ?_⟩
    rintro e w1 ⟨⟨a, cap, rfl, _⟩, k2⟩
    refine hK _ _ ⟨rfl, k2, ?_⟩
    clear hK TD RD
    haveI : Nonempty (Since w1) := Since.some _
    show wpQuietIn _ _ _ _ _ _ [_, _, _, _, _] _
    iterate 5 (gi_big_quiet_step (fail))
    refine wpQuietIn_nil ?_
    unfold wpMix
    refine ⟨rfl, ?_⟩
    have k3 : Keeps W w1 := (kd.trans k1).trans k2
    have s0 := k3.cell r0
    have s1 := k3.cell r1
    have f0 := (k3.cells.2 _ _ (lt_of_cell r0)).trans z0
    have f1 := (k3.cells.2 _ _ (lt_of_cell r1)).trans z1
    have hls := lt_of_cell s0
    have h2 := (TwoI.set0 ⟨s0, s1, f0, f1⟩ 0).set1 0
    clear r0 r1 z0 z1
    go_wp2_with fail
    refine bodyPost_ret (v := .tuple #[.agg #[.int .i64 0, .int .i64 0], .int .i64 E]) ?_ rfl ⟨rfl, ((kk.trans k3).setCell (p := ⟨b1, 0, none⟩) _ hbw).setCell (p := ⟨b1, 1, none⟩) _ hbw⟩
    simp [results, Try.results22, go_sem, h2.c0, h2.c1]
end Go.Proofs.Ytmhpgjlegajpeaa
