/-
  WarmNext: the law's own most: how many pairs an exact reading leaves at most, and all of them.
-/
import Derived.Test.YtdfiebfgmpdceaaN1
import Derived.Test.YtdfiebfgmpdceaaH1
import Derived.Test.YtdfiebfgmpdceaaE2
import Derived.Test.YtdfiebfgmpdceaaT3
import Derived.Deep.DeepCutAuto
namespace Go.Proofs.Ytdfiebfgmpdceaa
open Go.RowKit

/-- A span in a block of its own, and what is said beside it. -/
def Tels (W : World) (u v err : Int) (a b : Value) (wx : World) : Prop := ∃ s, a = .pointer (some ⟨s, 0, none⟩) ∧ W.heap.size ≤ s ∧ TwoI wx s u v ∧ Keeps W wx ∧ b = .int .i64 err
set_option maxRecDepth 100000 in
set_option maxHeartbeats 12800000 in
theorem most_any (B : Wm) (hok : B.ok = true) (h5 : B.rs.length < 5) (ht : B.truths.isEmpty = false) (t : Int) (t0 : -100 ≤ t) (t1 : t ≤ 100) (w : World) (hI : B.In w) : Calls Try.prog 39 #[B.v, .int .i64 t] w (Ret (.tuple #[.int .i64 (alike B.mark t B.truths : Int), .int .i64 (B.truths.length : Int), .bool true]) w) := by
  have hmx : Try.prog.follows .mixedOrders = true := by kernel_rfl
  obtain ⟨i0, hi0, hz0, hz1, hz2⟩ := info_parts info_read
  have SP := Lib.hid (fun a b w1 => lawSpan_any a b w1)
  have RD := Lib.hid (fun a b c d w1 => reading_any a b c d w1)
  obtain ⟨us, vs, eS, hE, hu, hv⟩ := shows_ends hok ht t0 (Int.le_refl t) t1
  have SH := Lib.hid (fun w1 (k : Keeps w w1) => show Calls Try.prog 21 #[B.v, .agg #[.int .i64 t, .int .i64 t]] w1 (Ret (.tuple #[.agg #[.int .i64 us, .int .i64 vs], .int .i64 0]) w1) from by have h := Shows_any B t t w1 (hI.keep k); rw [eS] at h; exact h)
  have HLO : ∀ p ∈ B.truths, us ≤ atT B.mark t p ∧ atT B.mark t p ≤ vs := fun p hp => hE.2.2 _ ⟨p, hp, t, ⟨Int.le_refl _, Int.le_refl _⟩, rfl⟩
  obtain ⟨f, hf⟩ : ∃ f, atT B.mark t = f := ⟨_, rfl⟩
  obtain ⟨ps, hps⟩ : ∃ l, B.truths = l := ⟨_, rfl⟩
  have hl100 : ps.length ≤ 100 := by rw [← hps]; exact Nat.le_trans (List.length_filter_le _ _) (Wm.all_len (Wm.ok_lim hok))
  have CN := Lib.hid (fun z (z0 : -30000 ≤ z) (z1 : z ≤ 30000) a c w1 (h : (exB B t z a c).In w1) => show Calls Try.prog 25 #[(exB B t z a c).v] w1 (Ret (.tuple #[.int .i64 (cnt f ps z : Int), .int .i64 0]) w1) from by have h := Count_any _ w1 h; rw [exB_count hok h5 t0 t1 z0 z1, hf, hps] at h; exact h)
  rw [hf, hps] at HLO
  have HST := Lib.hid (MostTo.start (f := f) (l := ps) (n := us) (fun p hp => (HLO p hp).1))
  have HSO := Lib.hid (fun n a b (h : MostTo f ps n a b) (hn : vs < n) => MostTo.stop h (fun p hp => by have := (HLO p hp).2; omega))
  have hal : alike B.mark t ps = alikeN f ps := by rw [← hf]; rfl
  have huv := hE.le
  rw [hps, hal]
  have HLE := Lib.hid (fun n => show cnt f ps n ≤ ps.length from cnt_len f ps n)
  have HBE := Lib.hid (fun n => show cntBelow f ps n ≤ ps.length from List.length_filter_le _ _)
  have HI := Lib.hid hI
  have BX := Wm.Box.new B w
  have hrl : B.rs.length ≤ 5 := by omega
  obtain ⟨mark, llo, lhi, clo, chi, ra, rc, rs⟩ := B
  obtain ⟨g0, g1, g2, g3, g4, g5⟩ := BX
  dsimp only [Wm.v, exB] at *
  obtain ⟨W, hW⟩ : ∃ W, w.alloc (.cells #[.int .i64 mark, .int .i64 llo, .int .i64 lhi, .int .i64 clo, .int .i64 chi, .slice ra rs.length rc] 26) = W := ⟨_, rfl⟩
  have k0 : Keeps w W := by rw [← hW]; exact (Keeps.refl w).alloc _
  rw [hW] at g0 g1 g2 g3 g4 g5
  obtain ⟨b0, hb0⟩ : ∃ b, w.heap.size = b := ⟨_, rfl⟩
  rw [hb0] at g0 g1 g2 g3 g4 g5
  have hd : decide ((5 : Int) ≤ (rs.length : Int)) = false := decide_eq_false (by omega)
  clear hok hI eS hE HLO hf hps hal ht
  go_enter Try.func39, Try.ntmps39
  go_upto_region 1 with fail
  go_cut [7, 8] (fun a b wx => Tels W us vs 0 a b wx)
  case first =>
    have k5d := (Keeps.refl W).drew
    haveI : Nonempty (Inw (fun w' => Keeps W w')) := ⟨⟨W, Keeps.refl _⟩⟩
    have e0 : ∀ q : Inw (fun w' => Keeps W w'), q.W.cell? ⟨b0, 0, none⟩ = some (.int .i64 mark) := fun q => q.h.cell g0
    have e1 : ∀ q : Inw (fun w' => Keeps W w'), q.W.cell? ⟨b0, 1, none⟩ = some (.int .i64 llo) := fun q => q.h.cell g1
    have e2 : ∀ q : Inw (fun w' => Keeps W w'), q.W.cell? ⟨b0, 2, none⟩ = some (.int .i64 lhi) := fun q => q.h.cell g2
    have e3 : ∀ q : Inw (fun w' => Keeps W w'), q.W.cell? ⟨b0, 3, none⟩ = some (.int .i64 clo) := fun q => q.h.cell g3
    have e4 : ∀ q : Inw (fun w' => Keeps W w'), q.W.cell? ⟨b0, 4, none⟩ = some (.int .i64 chi) := fun q => q.h.cell g4
    have e5 : ∀ q : Inw (fun w' => Keeps W w'), q.W.cell? ⟨b0, 5, none⟩ = some (.slice ra rs.length rc) := fun q => q.h.cell g5
    go_wp2_with fail
    refine (wpIn_wide (n := 3)).1 ?_
    refine cix_start hmx (fun w' => Keeps W w') ?_
    refine cix_quiet (m := 8) (CixOk.of (fun _ => trivial) (fun _ _ _ _ hd h => ⟨hd.symm.trans h.1, h.2⟩) (by kernel_rfl)) [0, 1, 2] rfl (by kernel_rfl) k5d ?_
    show wpQuietIn _ _ _ _ _ _ [_, _, _] _
    iterate 3 (gi_big_quiet_step (fail))
    refine wpQuietIn_nil ?_
    refine cix_two (m := 7) 3 _ 8 _ rfl rfl rfl (by kernel_rfl) ?_ ?_
    · show wpListIn _ _ _ _ _ [_] _ _
      gi_wp2_with fail
      rename_i hK
      refine ⟨trivial, ((callsIn_wide (n := 2)).2 (SP.out (t) (t) _)).mono ?_⟩
      rintro e u1 ⟨rfl, k⟩
      have c1 := k5d.trans k
      refine hK _ _ (.inl ⟨rfl, c1, ?_⟩)
      clear hK k
      refine cix_two (m := 6) 4 _ 8 _ rfl rfl rfl (by kernel_rfl) ?_ ?_
      · show wpListIn _ _ _ _ _ [_] _ _
        gi_wp2_with fail
        rename_i hK
        refine ⟨trivial, ((callsIn_wide (n := 2)).2 (SH.out _ (k0.trans c1))).mono ?_⟩
        rintro e u2 ⟨rfl, k⟩
        have c2 := c1.trans k
        refine hK _ _ (.inl ⟨rfl, c2, ?_⟩)
        clear hK k
        refine cix_quiet (m := 3) (CixOk.of (fun _ => trivial) (fun _ _ _ _ hd h => ⟨hd.symm.trans h.1, h.2⟩) (by kernel_rfl)) [5, 6, 7] rfl (by kernel_rfl) c2 ?_
        show wpQuietIn _ _ _ _ _ _ [_, _, _] _
        iterate 3 (gi_big_quiet_step (fail))
        refine wpQuietIn_nil ?_
        refine cix_one (m := 2) 8 _ rfl rfl (by kernel_rfl) ?_
        show wpListIn _ _ _ _ _ [_] _ _
        gi_wp2_with fail
        obtain ⟨s, hs⟩ : ∃ s, u2.heap.size = s := ⟨_, rfl⟩
        obtain ⟨u3, hu3⟩ : ∃ v, u2.alloc (.cells #[.int .i64 0, .int .i64 0] 23) = v := ⟨_, rfl⟩
        have c3 : Keeps W u3 := by rw [← hu3]; exact c2.alloc _
        have a0 : u3.cell? ⟨s, 0, none⟩ = some (.int .i64 0) := by rw [← hu3, ← hs]; simp [go_sem]
        have a1 : u3.cell? ⟨s, 1, none⟩ = some (.int .i64 0) := by rw [← hu3, ← hs]; simp [go_sem]
        have z0 : u3.frozen? ⟨s, 0, none⟩ = false := by rw [← hu3, ← hs]; simp [go_sem]
        have z1 : u3.frozen? ⟨s, 1, none⟩ = false := by rw [← hu3, ← hs]; simp [go_sem]
        have hsz : W.heap.size ≤ s := by rw [← hs]; exact c2.size
        rw [hu3, hs]
        clear hu3 hs
        refine ⟨c3, ?_⟩
        refine cix_one (m := 1) 9 _ rfl rfl (by kernel_rfl) ?_
        show wpListIn _ _ _ _ _ [_] _ _
        have hT : TwoI u3 s 0 0 := ⟨a0, a1, z0, z1⟩
        have kY : Keeps W ((u3.setCell ⟨s, 0, none⟩ (.int .i64 us)).setCell ⟨s, 1, none⟩ (.int .i64 vs)) := (c3.setCell (p := ⟨s, 0, none⟩) _ hsz).setCell (p := ⟨s, 1, none⟩) _ hsz
        have hT2 := (hT.set0 (us)).set1 (vs)
        gi_wp2_with fail
        refine cix_one (m := 0) 10 _ rfl rfl (by kernel_rfl) ?_
        show wpListIn _ _ _ _ _ [_] _ _
        gi_wp2_with fail
        refine cix_done (by kernel_rfl) ?_ _
        go_wp2_with fail
        go_meet
        exact ⟨s, rfl, hsz, hT2, kY, rfl⟩
      · show wpListIn _ _ _ _ _ [_] _ _
        gi_wp2_with fail
        obtain ⟨s, hs⟩ : ∃ s, u1.heap.size = s := ⟨_, rfl⟩
        obtain ⟨u2, hu2⟩ : ∃ v, u1.alloc (.cells #[.int .i64 0, .int .i64 0] 23) = v := ⟨_, rfl⟩
        have c2 : Keeps W u2 := by rw [← hu2]; exact c1.alloc _
        have a0 : u2.cell? ⟨s, 0, none⟩ = some (.int .i64 0) := by rw [← hu2, ← hs]; simp [go_sem]
        have a1 : u2.cell? ⟨s, 1, none⟩ = some (.int .i64 0) := by rw [← hu2, ← hs]; simp [go_sem]
        have z0 : u2.frozen? ⟨s, 0, none⟩ = false := by rw [← hu2, ← hs]; simp [go_sem]
        have z1 : u2.frozen? ⟨s, 1, none⟩ = false := by rw [← hu2, ← hs]; simp [go_sem]
        have hsz : W.heap.size ≤ s := by rw [← hs]; exact c1.size
        rw [hu2, hs]
        clear hu2 hs
        refine ⟨c2, ?_⟩
        refine cix_one (m := 5) 4 _ rfl rfl (by kernel_rfl) ?_
        show wpListIn _ _ _ _ _ [_] _ _
        gi_wp2_with fail
        rename_i hK
        refine ⟨trivial, ((callsIn_wide (n := 2)).2 (SH.out _ (k0.trans c2))).mono ?_⟩
        rintro e u3 ⟨rfl, k⟩
        have c3 := c2.trans k
        have hss := lt_of_cell a0
        replace z0 := (k.cells.2 s 0 hss).trans z0
        replace z1 := (k.cells.2 s 1 hss).trans z1
        replace a0 := k.cell a0
        replace a1 := k.cell a1
        refine hK _ _ (.inl ⟨rfl, c3, ?_⟩)
        clear hK k
        refine cix_quiet (m := 2) (CixOk.of (fun _ => trivial) (fun _ _ _ _ hd h => ⟨hd.symm.trans h.1, h.2⟩) (by kernel_rfl)) [5, 6, 7] rfl (by kernel_rfl) c3 ?_
        show wpQuietIn _ _ _ _ _ _ [_, _, _] _
        iterate 3 (gi_big_quiet_step (fail))
        refine wpQuietIn_nil ?_
        refine cix_one (m := 1) 9 _ rfl rfl (by kernel_rfl) ?_
        show wpListIn _ _ _ _ _ [_] _ _
        have hT : TwoI u3 s 0 0 := ⟨a0, a1, z0, z1⟩
        have kY : Keeps W ((u3.setCell ⟨s, 0, none⟩ (.int .i64 us)).setCell ⟨s, 1, none⟩ (.int .i64 vs)) := (c3.setCell (p := ⟨s, 0, none⟩) _ hsz).setCell (p := ⟨s, 1, none⟩) _ hsz
        have hT2 := (hT.set0 (us)).set1 (vs)
        gi_wp2_with fail
        refine cix_one (m := 0) 10 _ rfl rfl (by kernel_rfl) ?_
        show wpListIn _ _ _ _ _ [_] _ _
        gi_wp2_with fail
        refine cix_done (by kernel_rfl) ?_ _
        go_wp2_with fail
        go_meet
        exact ⟨s, rfl, hsz, hT2, kY, rfl⟩
    · show wpListIn _ _ _ _ _ [_] _ _
      gi_wp2_with fail
      obtain ⟨s, hs⟩ : ∃ s, W.heap.size = s := ⟨_, rfl⟩
      obtain ⟨u1, hu1⟩ : ∃ v, (W.alloc (.cells #[.int .i64 0, .int .i64 0] 23)).drew = v := ⟨_, rfl⟩
      have c1 : Keeps W u1 := by rw [← hu1]; exact ((Keeps.refl W).alloc _).drew
      have a0 : u1.cell? ⟨s, 0, none⟩ = some (.int .i64 0) := by rw [← hu1, ← hs]; simp [go_sem]
      have a1 : u1.cell? ⟨s, 1, none⟩ = some (.int .i64 0) := by rw [← hu1, ← hs]; simp [go_sem]
      have z0 : u1.frozen? ⟨s, 0, none⟩ = false := by rw [← hu1, ← hs]; simp [go_sem]
      have z1 : u1.frozen? ⟨s, 1, none⟩ = false := by rw [← hu1, ← hs]; simp [go_sem]
      have hsz : W.heap.size ≤ s := by rw [← hs]; exact (Keeps.refl W).size
      rw [hu1, hs]
      clear hu1 hs
      refine ⟨c1, ?_⟩
      refine cix_one (m := 6) 3 _ rfl rfl (by kernel_rfl) ?_
      show wpListIn _ _ _ _ _ [_] _ _
      gi_wp2_with fail
      rename_i hK
      refine ⟨trivial, ((callsIn_wide (n := 2)).2 (SP.out (t) (t) _)).mono ?_⟩
      rintro e u2 ⟨rfl, k⟩
      have c2 := c1.trans k
      have hss := lt_of_cell a0
      replace z0 := (k.cells.2 s 0 hss).trans z0
      replace z1 := (k.cells.2 s 1 hss).trans z1
      replace a0 := k.cell a0
      replace a1 := k.cell a1
      refine hK _ _ (.inl ⟨rfl, c2, ?_⟩)
      clear hK k
      refine cix_one (m := 5) 4 _ rfl rfl (by kernel_rfl) ?_
      show wpListIn _ _ _ _ _ [_] _ _
      gi_wp2_with fail
      rename_i hK
      refine ⟨trivial, ((callsIn_wide (n := 2)).2 (SH.out _ (k0.trans c2))).mono ?_⟩
      rintro e u3 ⟨rfl, k⟩
      have c3 := c2.trans k
      have hss := lt_of_cell a0
      replace z0 := (k.cells.2 s 0 hss).trans z0
      replace z1 := (k.cells.2 s 1 hss).trans z1
      replace a0 := k.cell a0
      replace a1 := k.cell a1
      refine hK _ _ (.inl ⟨rfl, c3, ?_⟩)
      clear hK k
      refine cix_quiet (m := 2) (CixOk.of (fun _ => trivial) (fun _ _ _ _ hd h => ⟨hd.symm.trans h.1, h.2⟩) (by kernel_rfl)) [5, 6, 7] rfl (by kernel_rfl) c3 ?_
      show wpQuietIn _ _ _ _ _ _ [_, _, _] _
      iterate 3 (gi_big_quiet_step (fail))
      refine wpQuietIn_nil ?_
      refine cix_one (m := 1) 9 _ rfl rfl (by kernel_rfl) ?_
      show wpListIn _ _ _ _ _ [_] _ _
      have hT : TwoI u3 s 0 0 := ⟨a0, a1, z0, z1⟩
      have kY : Keeps W ((u3.setCell ⟨s, 0, none⟩ (.int .i64 us)).setCell ⟨s, 1, none⟩ (.int .i64 vs)) := (c3.setCell (p := ⟨s, 0, none⟩) _ hsz).setCell (p := ⟨s, 1, none⟩) _ hsz
      have hT2 := (hT.set0 (us)).set1 (vs)
      gi_wp2_with fail
      refine cix_one (m := 0) 10 _ rfl rfl (by kernel_rfl) ?_
      show wpListIn _ _ _ _ _ [_] _ _
      gi_wp2_with fail
      refine cix_done (by kernel_rfl) ?_ _
      go_wp2_with fail
      go_meet
      exact ⟨s, rfl, hsz, hT2, kY, rfl⟩
  case rest =>
    obtain ⟨sS, rfl, hsz, hTS, kc, rfl⟩ := hcut
    obtain ⟨z1, hz1'⟩ : ∃ W : World, W = wc := ⟨_, rfl⟩
    cases hz1'
    rename_i hK
    refine hK _ _ ?_
    clear hK SH
    have kk := k0.trans kc
    replace g0 := kc.cell g0
    replace g1 := kc.cell g1
    replace g2 := kc.cell g2
    replace g3 := kc.cell g3
    replace g4 := kc.cell g4
    replace g5 := kc.cell g5
    have s0 := hTS.c0
    have s1 := hTS.c1
    clear hTS
    obtain ⟨wB, hwB⟩ : ∃ W : World, W = wc := ⟨_, rfl⟩
    go_wp2_with fail
    go_loopw [4, 5, 9] (fun av bv nv wr => ∃ (wst al : Nat) (z : Int), av = .int .i64 wst ∧ bv = .int .i64 al ∧ nv = .int .i64 z ∧ (us ≤ z ∧ z ≤ vs + 1) ∧ MostTo f ps z wst al ∧ Keeps wc wr) (fun _ _ nv _ => (vs + 1 - intOf nv).toNat)
    case atStart => exact ⟨0, 0, us, rfl, rfl, rfl, ⟨Int.le_refl _, by omega⟩, HST.out, Keeps.refl _⟩
    case round =>
      obtain ⟨wst, al, z, rfl, rfl, rfl, ⟨z1, z2⟩, hm, kr⟩ := hrel
      have HM := Lib.hid hm
      have hal3 := hm.2.2
      have hbe := HBE.out z
      have hal4 : al ≤ 100 := by omega
      clear hm hal3 hbe
      replace s0 := kr.cell s0
      replace s1 := kr.cell s1
      replace g0 := kr.cell g0
      replace g1 := kr.cell g1
      replace g2 := kr.cell g2
      replace g3 := kr.cell g3
      replace g4 := kr.cell g4
      replace g5 := kr.cell g5
      have kw := kk.trans kr
      by_cases hz : z ≤ vs
      · have hd1 : decide (z ≤ vs) = true := decide_eq_true hz
        have hwz : IntKind.i64.wrap (z + 1) = z + 1 := IntWalk.i64_in _ (by constructor <;> omega)
        obtain ⟨S, hS⟩ : ∃ s, wr.heap.size = s := ⟨_, rfl⟩
        obtain ⟨X1, hX1⟩ : ∃ x, wr.alloc (.cells #[.int .i64 mark, .int .i64 llo, .int .i64 lhi, .int .i64 clo, .int .i64 chi, .slice ra rs.length rc] 26) = x := ⟨_, rfl⟩
        have k1 : Keeps wr X1 := by rw [← hX1]; exact (Keeps.refl _).alloc _
        have SX : Six X1 S (.int .i64 mark) (.int .i64 llo) (.int .i64 lhi) (.int .i64 clo) (.int .i64 chi) (.slice ra rs.length rc) := by rw [← hX1, ← hS]; exact Six.boxed _ _ _ _ _ _ _ _
        obtain ⟨S1, hS1⟩ : ∃ s, X1.heap.size = s := ⟨_, rfl⟩
        have hSS : S < S1 := by rw [← hS1]; exact SX.lt
        have k2 : Keeps wr (X1.alloc (.cells #[] 53)) := k1.alloc _
        have AQ := Lib.hid (append_reads (X1.alloc (.cells #[] 53)) S1 24 (.slice (some ⟨S1, 0, none⟩) 0 0) 0 [] (by rw [← hS1]; exact World.ownsRow_lit (base := X1.heap.size) (e := 53) (size := 4) X1 #[] 0 (Nat.le_refl _) (by simp [maxLen]) rfl) ra rc rs ((HI.out.rds).keep (kw.trans k2)) (by omega) (by simp; omega))
        have SX2 := Lib.hid (SX.keep ((Keeps.refl X1).alloc (.cells #[] 53)))
        have g5a := k1.cell g5
        have g5b := k2.cell g5
        have hlb5 := lt_of_cell g5b
        have hla5 := lt_of_cell g5a
        have x0 := SX.c0
        have x5 := SX.c5
        have hlS := SX.lt
        have x5b := SX2.out.c5
        have hlS2 := SX2.out.lt
        go_wp2_with (at_builtin; refine wpList_step ?_; intro K hK6; refine step_append_run (by rfl) (.tmp 38) (.tmp 40) 24 (by rfl) (.slice (some ⟨S1, 0, none⟩) 0 0) (.slice ra rs.length rc) (by simp [Act.eval]) (by simp [Act.eval]) _ AQ.out ?_; rintro v1 X3 hgr; refine hK6 _ _ ?_)
        have hg3 : (X1.alloc (.cells #[] 53)).grownBy X3 (some S1) := hgr.2
        have ho3 : X3.ownsRow S1 53 4 v1 rs.length (wrCells rs) := by simpa using hgr.1
        have SX3 := SX2.out.kept hg3 (fun e => by injection e with e; omega)
        have hwS : wr.heap.size ≤ S1 := by rw [← hS1]; exact k1.size
        have k3 : Keeps wr X3 := Below.grown k2 hg3 k2.size (fun j e => by injection e with e; omega)
        have hs3 : S1 ≤ X3.heap.size := by have := hg3.size; simp at this; omega
        clear hgr hg3 x0 x5 x5b hlS hlS2 g5a g5b hlb5 hla5 AQ SX2 k1 k2 SX
        refine (RD.out t t z z _).mono ?_
        rintro e X4 ⟨rfl, k4⟩
        have HO5 := Lib.hid ((ho3.kept (k4.grown none) (own_none _)).kept (((Keeps.refl X4).alloc (.cells #[.int .i64 t, .int .i64 t, .int .i64 z, .int .i64 z] 53)).grown none) (own_none _))
        have SX5 := Lib.hid ((SX3.keep k4).keep ((Keeps.refl X4).alloc (.cells #[.int .i64 t, .int .i64 t, .int .i64 z, .int .i64 z] 53)))
        have k5 := (k3.trans k4).alloc (.cells #[.int .i64 t, .int .i64 t, .int .i64 z, .int .i64 z] 53)
        obtain ⟨S5, hS5⟩ : ∃ s, X4.heap.size = s := ⟨_, rfl⟩
        have HC5 := Lib.hid (four_cells (W := X4.alloc (.cells #[.int .i64 t, .int .i64 t, .int .i64 z, .int .i64 z] 53)) (b := S5) (u0 := .int .i64 t) (u1 := .int .i64 t) (u2 := .int .i64 z) (u3 := .int .i64 z) (by rw [← hS5]; simp [go_sem]) (by rw [← hS5]; simp [go_sem]) (by rw [← hS5]; simp [go_sem]) (by rw [← hS5]; simp [go_sem]))
        have hm5 : S1 ≤ (X4.alloc (.cells #[.int .i64 t, .int .i64 t, .int .i64 z, .int .i64 z] 53)).heap.size := by have := k4.size; simp; omega
        have s5l := SX5.out.lt
        clear ho3 SX3 k3 k4
        go_wp2_with (at_builtin; refine wpList_append_own _ rfl _ _ 24 rfl S1 53 i0 (.agg #[.int .i64 0, .int .i64 0, .int .i64 0, .int .i64 0]) 4 32 Try.underlying24 hi0 hz0 hz1 hz2 rfl (by decide) v1 rs.length _ rfl HO5.out ⟨S5, 0, none⟩ 1 1 [.int .i64 t, .int .i64 t, .int .i64 z, .int .i64 z] rfl rfl HC5.out (by simp [Value.oneCell']) (by unfold maxLen; omega) (by omega) hm5 ?_; intro v2 X6 hown6 hgr6 _; obtain ⟨g', cap', rfl⟩ := ownsRow_succ hown6; have hg6 : (X4.alloc (.cells #[.int .i64 t, .int .i64 t, .int .i64 z, .int .i64 z] 53)).grownBy X6 v1.ownBlock := hgr6; have HL6 := Lib.hid (fun j e => (HO5.out.lt j e).1); have SX6 := SX5.out.kept hg6 (fun e => by have := HL6.out _ e.symm; omega); have k6 : Keeps wr X6 := Below.grown k5 hg6 k5.size (fun j e => by have := HL6.out j e; omega); obtain ⟨X7, hX7⟩ : ∃ x, X6.setCell ⟨S, 5, none⟩ (.slice (some ⟨g', 0, none⟩) (rs.length + 1) cap') = x := ⟨_, rfl⟩; have SX7 : Six X7 S (.int .i64 mark) (.int .i64 llo) (.int .i64 lhi) (.int .i64 clo) (.int .i64 chi) (.slice (some ⟨g', 0, none⟩) (rs.length + 1) cap') := (by rw [← hX7]; exact SX6.set5 _); have k7 : Keeps wr X7 := (by rw [← hX7]; exact k6.setCell (p := ⟨S, 5, none⟩) _ (by show wr.heap.size ≤ S; omega)); have ho7 := ownsRow_setCell_below hown6 (a := ⟨S, 5, none⟩) hSS (.slice (some ⟨g', 0, none⟩) (rs.length + 1) cap'); rw [hX7] at ho7; have HO7 := Lib.hid ho7; have y5 := SX6.c5; have y5z := SX6.fr 5; have y5l := SX6.lt; have x0 := SX7.c0; have x1 := SX7.c1; have x2 := SX7.c2; have x3 := SX7.c3; have x4 := SX7.c4; have x5 := SX7.c5; have x5l := SX7.lt; clear hown6 hgr6 hg6 SX6 SX7 ho7)
        obtain ⟨ca, cc, ce, hrd, _⟩ := Wrs.of_owns (l := rs ++ [(t, t, z, z)]) (by rw [List.length_append, List.length_singleton, wrCells_append]; exact HO7.out)
        rw [List.length_append, List.length_singleton] at ce
        injection ce with ce1 ce2 ce3
        subst ce1
        subst ce3
        have C1 := CN.out z (by omega) (by omega) (some ⟨g', 0, none⟩) cap' X7 ⟨hrd, by dsimp only; rw [List.length_append, List.length_singleton]; unfold maxLen; omega⟩
        rw [List.length_append, List.length_singleton] at C1
        obtain ⟨c, hc⟩ : ∃ c, cnt f ps z = c := ⟨_, rfl⟩
        have hcl := HLE.out z
        have HNX := Lib.hid HM.out.next
        rw [hc] at C1 hcl HNX
        refine C1.mono ?_
        rintro e X8 ⟨rfl, k8⟩
        have HK9 := Lib.hid (kr.trans (k7.trans k8))
        have hwa : IntKind.i64.wrap ((al : Int) + (c : Int)) = (al : Int) + (c : Int) := IntWalk.i64_in _ (by constructor <;> omega)
        clear C1 hrd HO7 x0 x1 x2 x3 x4 x5 x5l y5 y5z y5l hX7
        go_wp2_with fail
        go_roundw
        case rel => exact ⟨max wst c, al + c, z + 1, congrArg (Value.int .i64) (by omega), congrArg (Value.int .i64) (by omega), rfl, ⟨by omega, by omega⟩, HNX.out, HK9.out⟩
        case measure => simp [intOf]; omega
      · have hd1 : decide (z ≤ vs) = false := decide_eq_false hz
        obtain ⟨e1, e2⟩ := HSO.out _ _ _ HM.out (by omega)
        have E1 := Lib.hid e1
        have E2 := Lib.hid e2
        clear e1 e2
        go_wp2_with fail
        refine bodyPost_ret (v := .tuple #[.int .i64 (wst : Int), .int .i64 (al : Int), .bool true]) ?_ rfl ⟨by rw [E1.out, E2.out], kw⟩
        simp [results, Try.results39, go_sem]
end Go.Proofs.Ytdfiebfgmpdceaa
