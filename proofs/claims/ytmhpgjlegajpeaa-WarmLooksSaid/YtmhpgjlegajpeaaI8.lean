/-
  The document's own package, of WARM: Held.
-/
import Derived.Test.YtmhpgjlegajpeaaI7
import Derived.Test.YtmhpgjlegajpeaaG5
namespace Go.Proofs.Ytmhpgjlegajpeaa
open Go.RowKit Go.Shelf
attribute [local go_sem] Oper.semAt_some

theorem ints_ones (l : List Int) : ∀ u ∈ l.map (Value.int .i64), u.oneCell' = true := by
  intro u hu
  obtain ⟨x, _, rfl⟩ := List.mem_map.1 hu
  rfl
/-- Ints appended to a row of the call's own, whatever they lie in. -/
theorem append_ints (w : World) (base : Nat) (ty : TypeId) (v : Value) (n : Nat) (l : List Value) (hown : w.ownsRow base 3 1 v n l) (a : Option Addr) (c : Nat) (xs : List Int) (hx : Ints w a xs) (hn : n + xs.length ≤ 100000) (hbase : base ≤ w.heap.size) :
    ∃ v' w', (Builtin.append_ #[35, 35] ty #[v, .slice a xs.length c]).run Try.prog w = .ok v' w' ∧ (w'.ownsRow base 3 1 v' (n + xs.length) (l ++ xs.map (Value.int .i64)) ∧ w.grownBy w' v.ownBlock) := by
  obtain ⟨i0, hi, hz0, hz1, hz2⟩ := info_parts info_i
  have own := fun (a : Addr) (hnews : ∀ j u, (xs.map (Value.int .i64))[j]? = some u → w.cell? (a.add j) = some u) => run_append_own (P := Try.prog) w base 35 ty 3 i0 (.int .i64 0) 1 8 Try.underlying35 hi hz0 hz1 hz2 rfl (by decide) v n l hown a xs.length c (xs.map (Value.int .i64)) (by simp) hnews (ints_ones xs) (by unfold maxLen; omega) (by omega) hbase
  by_cases hne : xs = []
  · subst hne
    cases a with
    | some a =>
      obtain ⟨v', w', h1, h2, h3, _⟩ := own a (fun j u hu => by simp at hu)
      exact ⟨v', w', h1, ⟨h2, h3⟩⟩
    | none =>
      refine ⟨v, w, ?_, ⟨by simpa using hown, (Keeps.refl w).grown _⟩⟩
      rcases hown.2 with ⟨rfl, rfl⟩ | ⟨g, cap, cur, rfl, _, _, hnc, _⟩
      · simp [Builtin.append_, run_underlying Try.underlying35, sizeOf, typeInfo, hi, Builtin.lenOf, Builtin.firstCells]
      · simp [Builtin.append_, run_underlying Try.underlying35, sizeOf, typeInfo, hi, Builtin.lenOf, Builtin.firstCells, hnc, storeCells]
  · obtain ⟨b, o, rfl, hc⟩ := hx hne
    obtain ⟨v', w', h1, h2, h3, _⟩ := own ⟨b, o, none⟩ (fun j u hu => by
      have hadd : (⟨b, o, none⟩ : Addr).add j = ⟨b, o + j, none⟩ := by unfold Addr.add; split <;> simp_all
      rw [hadd]
      have hj : j < xs.length := by have := (List.getElem?_eq_some_iff.1 hu).1; simpa using this
      rw [hc j hj]
      rw [List.getElem?_map, List.getElem?_eq_getElem hj] at hu
      rw [List.getElem?_eq_getElem hj]
      simpa using hu)
    exact ⟨v', w', h1, ⟨h2, h3⟩⟩
theorem take_flat_succ {α β : Type} (f : α → List β) (l : List α) (k : Nat) (h : k < l.length) : (l.take (k + 1)).flatMap f = (l.take k).flatMap f ++ f (l[k]'h) := by
  rw [take_one h, List.flatMap_append]; simp
theorem flat_bd {α β : Type} (f : α → List β) (m : Nat) (l : List α) (h : ∀ x ∈ l, (f x).length ≤ m) : (l.flatMap f).length ≤ l.length * m := by
  induction l with
  | nil => simp
  | cons a r ih =>
    have h1 := h a List.mem_cons_self
    have h2 := ih (fun x hx => h x (List.mem_cons_of_mem _ hx))
    rw [List.flatMap_cons, List.length_append, List.length_cons, Nat.succ_mul]
    omega
/-- What is known of the warmths of a reading. -/
theorem held_facts {B : Wm} (hok : B.ok = true) (hT : B.truths ≠ []) {i : Nat} (hi : i < B.rs.length) : B.heldL i ≠ [] ∧ (∀ x ∈ B.heldL i, -30000 ≤ x ∧ x ≤ 30000) ∧ ∀ p : Pr, (warms B.mark p.1 (B.rs[i]?.getD (0, 0, 0, 0))).length ≤ 5 := by
  have hv := (ok_rs hok).2 i hi
  obtain ⟨b1, b2, b3, b4, _, _, _⟩ := vWr_bd hv
  refine ⟨fun e => ?_, fun x hx => ?_, fun p => ?_⟩
  · obtain ⟨p, hp⟩ := List.exists_mem_of_ne_nil _ hT
    have h1 := List.all_eq_true.1 (List.mem_filter.1 hp).2 _ (List.getElem_mem hi)
    rw [canB, Bool.not_eq_true', List.isEmpty_eq_false_iff] at h1
    obtain ⟨y, hy⟩ := List.exists_mem_of_ne_nil _ h1
    have : y ∈ B.heldL i := List.mem_flatMap.2 ⟨p, hp, by rw [List.getElem?_eq_getElem hi]; exact hy⟩
    rw [e] at this
    cases this
  · obtain ⟨p, _, h⟩ := List.mem_flatMap.1 hx
    obtain ⟨j, hj, rfl⟩ := List.mem_map.1 (List.mem_filter.1 h).1
    rw [List.mem_range] at hj
    omega
  · have := warmsTo_len B.mark p.1 (B.rs[i]?.getD (0, 0, 0, 0)) (((B.rs[i]?.getD (0, 0, 0, 0)).2.1 + 1 - (B.rs[i]?.getD (0, 0, 0, 0)).1).toNat)
    unfold warms
    omega

set_option maxRecDepth 100000 in
set_option maxHeartbeats 6400000 in
theorem refHeld_any (B : Wm) (n : Int) (w : World) (hI : B.In w) : Calls Try.prog 20 #[B.v, .int .i64 n] w (Ret (.tuple #[spV (B.heldA n).1, .int .i64 (B.heldA n).2]) w) := by
  obtain ⟨valid, hvalid⟩ : ∃ v, decide (0 ≤ n ∧ n < B.rs.length) = v := ⟨_, rfl⟩
  have RD := Lib.hid (fun w1 => refReading_any B n w1 hI.rl)
  rw [hvalid] at RD
  have TD := Lib.hid (fun w1 (k : Keeps w w1) => refTold_any B 0 valid w1 (hI.keep k))
  have hbad : (if 0 ≤ n ∧ n < B.rs.length then (0 : Int) else 2) = badA 0 valid := by
    rw [← hvalid]; unfold badA
    by_cases h : 0 ≤ n ∧ n < B.rs.length <;> simp [h]
  have hA : B.heldA n = if B.errA (badA 0 valid) = 0 then ((loI (B.heldL n.toNat), hiI (B.heldL n.toNat)), 0) else ((0, 0), B.errA (badA 0 valid)) := by
    rw [Wm.heldA, hbad]; exact say_err B _ _ _
  have HTF := Lib.hid (told_facts B (badA 0 valid))
  have HNV := Lib.hid (show badA 0 valid = 0 → 0 ≤ n ∧ n < B.rs.length from fun h => by
    rw [← hbad] at h
    by_cases h' : 0 ≤ n ∧ n < B.rs.length
    · exact h'
    · rw [if_neg h'] at h; cases h)
  have HHF := Lib.hid (fun h1 h2 (i : Nat) h => held_facts (B := B) h1 h2 (i := i) h)
  have HHL := Lib.hid (fun i => show B.heldL i = B.truths.flatMap (fun p => warms B.mark p.1 (B.rs[i]?.getD (0, 0, 0, 0))) from rfl)
  have HWM := Lib.hid (fun (p : Pr) (i : Nat) r w1 (k : Keeps w w1) hok hi hr => refWarms_any B p.1.1 p.1.2 i r w1 (hI.keep k) hok p.2.1 p.2.2.1 p.2.2.2.1 p.2.2.2.2 hi hr)
  have BX := Wm.Box.new B w
  rw [hA]
  obtain ⟨T, hT⟩ : ∃ T, B.truths = T := ⟨_, rfl⟩
  obtain ⟨E, hE⟩ : ∃ E, B.errA (badA 0 valid) = E := ⟨_, rfl⟩
  obtain ⟨L, hL⟩ : ∃ L, B.toldL (badA 0 valid) = L := ⟨_, rfl⟩
  obtain ⟨HLs, hHLs⟩ : ∃ f, B.heldL = f := ⟨_, rfl⟩
  rw [hT, hE, hL] at HTF
  rw [hE, hL] at TD
  rw [hT, hHLs] at HHL HHF
  rw [hHLs, hE]
  obtain ⟨okb, hokb⟩ : ∃ b, B.ok = b := ⟨_, rfl⟩
  rw [hokb] at HTF HHF HWM
  have hmx : Try.prog.follows .mixedOrders = true := by kernel_rfl
  obtain ⟨mark, llo, lhi, clo, chi, ra, rc, rs⟩ := B
  dsimp only [Wm.v, spV] at *
  clear hI hA hT hE hL hHLs hbad hvalid hokb
  obtain ⟨W0, hW0⟩ : ∃ W, w.alloc (.cells #[.int .i64 mark, .int .i64 llo, .int .i64 lhi, .int .i64 clo, .int .i64 chi, .slice ra rs.length rc] 26) = W := ⟨_, rfl⟩
  rw [hW0] at BX
  have kB : Keeps w W0 := by rw [← hW0]; exact (Keeps.refl _).alloc _
  have hs0 : W0.heap.size = w.heap.size + 1 := by rw [← hW0]; simp
  obtain ⟨W, hW⟩ : ∃ W, W0.alloc (.cells #[.int .i64 0, .int .i64 0] 23) = W := ⟨_, rfl⟩
  have k0 : Keeps W0 W := by rw [← hW]; exact (Keeps.refl _).alloc _
  obtain ⟨b1, hb1⟩ : ∃ b, w.heap.size + 1 = b := ⟨_, rfl⟩
  have r0 : W.cell? ⟨b1, 0, none⟩ = some (.int .i64 0) := by rw [← hW, ← hb1, ← hs0]; simp [go_sem]
  have r1 : W.cell? ⟨b1, 1, none⟩ = some (.int .i64 0) := by rw [← hW, ← hb1, ← hs0]; simp [go_sem]
  have z0 : W.frozen? ⟨b1, 0, none⟩ = false := by rw [← hW, ← hb1, ← hs0]; simp [go_sem]
  have z1 : W.frozen? ⟨b1, 1, none⟩ = false := by rw [← hW, ← hb1, ← hs0]; simp [go_sem]
  obtain ⟨g0, g1, g2, g3, g4, g5⟩ := BX.keep k0
  dsimp only at g0 g1 g2 g3 g4 g5
  have kk := kB.trans k0
  have hl0 := lt_of_cell g0
  have hl1 := lt_of_cell r0
  have hbw : w.heap.size ≤ b1 := by omega
  clear BX
  obtain ⟨b0, hb0⟩ : ∃ b, w.heap.size = b := ⟨_, rfl⟩
  rw [hb0] at g0 g1 g2 g3 g4 g5 hl0 hb1
  haveI : Nonempty (Since W.drew) := Since.some _
  have kd := (Keeps.refl W).drew
  have j0 : ∀ q : Since W.drew, q.W.cell? ⟨b0, 0, none⟩ = some (.int .i64 mark) := fun q => (kd.trans q.keeps).cell g0
  have j1 : ∀ q : Since W.drew, q.W.cell? ⟨b0, 1, none⟩ = some (.int .i64 llo) := fun q => (kd.trans q.keeps).cell g1
  have j2 : ∀ q : Since W.drew, q.W.cell? ⟨b0, 2, none⟩ = some (.int .i64 lhi) := fun q => (kd.trans q.keeps).cell g2
  have j3 : ∀ q : Since W.drew, q.W.cell? ⟨b0, 3, none⟩ = some (.int .i64 clo) := fun q => (kd.trans q.keeps).cell g3
  have j4 : ∀ q : Since W.drew, q.W.cell? ⟨b0, 4, none⟩ = some (.int .i64 chi) := fun q => (kd.trans q.keeps).cell g4
  have j5 : ∀ q : Since W.drew, q.W.cell? ⟨b0, 5, none⟩ = some (.slice ra rs.length rc) := fun q => (kd.trans q.keeps).cell g5
  by_cases hz : E = 0
  · obtain ⟨rfl, hne, hlen, rfl, hbd⟩ := HTF.out hz
    rw [if_pos hz]
    subst hz
    obtain ⟨n0, n1⟩ := HNV.out hbd
    obtain ⟨i, rfl⟩ := Int.eq_ofNat_of_zero_le n0
    have hi : i < rs.length := by omega
    obtain ⟨h1, h2, h3⟩ := HHF.out rfl hne i hi
    have hHL := HHL.out i
    obtain ⟨r, hr⟩ : ∃ r, rs[i]?.getD (0, 0, 0, 0) = r := ⟨_, rfl⟩
    rw [hr] at h3 hHL
    have HWP := Lib.hid (fun (p : Pr) w1 (k : Keeps w w1) => HWM.out p i r w1 k rfl hi hr)
    obtain ⟨f, hf⟩ : ∃ f : Pr → List Int, (fun p : Pr => warms mark p.1 r) = f := ⟨_, rfl⟩
    have HF := Lib.hid (show ∀ p : Pr, warms mark (p.1.1, p.1.2) r = f p from fun p => by rw [← hf])
    rw [hf] at hHL
    have HF5 := Lib.hid (show ∀ p : Pr, (f p).length ≤ 5 from fun p => by rw [← HF.out]; exact h3 p)
    rw [show ((i : Nat) : Int).toNat = i from Int.toNat_natCast i, hHL]
    rw [hHL] at h1 h2
    have HNE := Lib.hid h1
    have HB := Lib.hid h2
    have HTS := Lib.hid (fun k h => take_flat_succ f L k h)
    have HLN := Lib.hid (show ∀ k, ((L.take k).flatMap f).length ≤ 500 from fun k => by
      have h := flat_bd f 5 (L.take k) (fun x _ => HF5.out x)
      rw [List.length_take] at h
      have : min k L.length * 5 ≤ 100 * 5 := Nat.mul_le_mul (by omega) (Nat.le_refl _)
      omega)
    have HGET := Lib.hid (fun w1 (a : Option Addr) (h : Prs w1 a L) => h hne)
    obtain ⟨ys, hys⟩ : ∃ ys, L.flatMap f = ys := ⟨_, rfl⟩
    rw [hys] at HNE HB ⊢
    have HYS := Lib.hid hys
    clear hys
    clear hf hHL h1 h2 h3 HHL HHF HTF HNV HWM hne hr hbd n0 n1
    go_enter Try.func20, Try.ntmps20
    go_wp2_with fail
    refine (wpIn_wide (n := 3)).1 ?_
    refine region_calm 10 [(0, [0, 1, 2]), (1, [3]), (1, [4]), (0, [5, 6, 7, 8, 9])] (fun _ => trivial) (by kernel_rfl) hmx (by kernel_rfl) (by kernel_rfl) ?_
    show wpQuietIn _ _ _ _ _ _ [_, _, _] _
    iterate 3 (gi_big_quiet_step (fail))
    refine wpQuietIn_nil ?_
    clear j0 j1 j2 j3 j4 j5
    show wpListIn _ _ _ _ _ [_] _ _
    gi_wp2_with fail
    rename_i hK
    refine ⟨trivial, ((callsIn_wide (n := 3 - 1)).2 (RD.out _)).mono ?_⟩
    rintro e w0 ⟨rfl, k1⟩
    refine hK _ _ ⟨rfl, k1, ?_⟩
    clear hK
    show wpListIn _ _ _ _ _ [_] _ _
    gi_wp2_with fail
    rename_i hK
    refine ⟨trivial, ((callsIn_wide (n := 3 - 1)).2 (TD.out _ (kk.trans (kd.trans k1)))).mono ?_⟩
    rintro e w1 ⟨⟨a, cap, rfl, hP⟩, k2⟩
    refine hK _ _ ⟨rfl, k2, ?_⟩
    obtain ⟨b, o, rfl, hc⟩ := HGET.out w1 a hP
    have HC := Lib.hid hc
    clear hK hc hP HGET TD RD
    haveI : Nonempty (Since w1) := Since.some _
    show wpQuietIn _ _ _ _ _ _ [_, _, _, _, _] _
    iterate 5 (gi_big_quiet_step (fail))
    refine wpQuietIn_nil ?_
    unfold wpMix
    refine ⟨rfl, ?_⟩
    have k3 : Keeps W w1 := (kd.trans k1).trans k2
    replace g0 := k3.cell g0
    replace g1 := k3.cell g1
    replace g2 := k3.cell g2
    replace g3 := k3.cell g3
    replace g4 := k3.cell g4
    replace g5 := k3.cell g5
    replace hl0 := lt_of_cell g0
    clear k1 k2
    go_wp2_with fail
    go_loopw [8, 9] (fun o i wr => ∃ k : Nat, k ≤ L.length ∧ i = .int .i64 k ∧ wr.ownsRow w1.heap.size 3 1 o ((L.take k).flatMap f).length (((L.take k).flatMap f).map (Value.int .i64)) ∧ Keeps w1 wr) (fun _ i _ => L.length - (intOf i).toNat)
    case atStart => exact ⟨0, Nat.zero_le _, rfl, World.ownsRow_nil _ _ _ _, Keeps.refl _⟩
    case round =>
      obtain ⟨k, hk, rfl, hown, kr⟩ := hrel
      have HO := Lib.hid hown
      have hszw := kr.size
      clear hown
      by_cases hlt : k < L.length
      · have c0 := (HC.out k hlt).1
        have c1 := (HC.out k hlt).2
        have HTK := Lib.hid (HTS.out k hlt)
        have hln := HLN.out k
        obtain ⟨p, hp⟩ : ∃ p, L[k]'hlt = p := ⟨_, rfl⟩
        rw [hp] at c0 c1 HTK
        have hlc := lt_of_cell c0
        have WK := Lib.hid (fun w' kx => HWP.out p w' kx)
        rw [HF.out p] at WK
        have hf5 := HF5.out p
        obtain ⟨fp, hfp⟩ : ∃ l, f p = l := ⟨_, rfl⟩
        rw [hfp] at WK HTK hf5
        obtain ⟨⟨px, py⟩, hpb⟩ := p
        dsimp only at c0 c1 WK
        clear hp hfp
        obtain ⟨zs, hzs⟩ : ∃ zs, (L.take k).flatMap f = zs := ⟨_, rfl⟩
        rw [hzs] at HTK HO hln
        clear hzs
        haveI : Nonempty (Inw (fun w' => Keeps w1 w')) := ⟨⟨w1, Keeps.refl _⟩⟩
        have e0 : ∀ q : Inw (fun w' => Keeps w1 w'), q.W.cell? ⟨b0, 0, none⟩ = some (.int .i64 mark) := fun q => q.h.cell g0
        have e1 : ∀ q : Inw (fun w' => Keeps w1 w'), q.W.cell? ⟨b0, 1, none⟩ = some (.int .i64 llo) := fun q => q.h.cell g1
        have e2 : ∀ q : Inw (fun w' => Keeps w1 w'), q.W.cell? ⟨b0, 2, none⟩ = some (.int .i64 lhi) := fun q => q.h.cell g2
        have e3 : ∀ q : Inw (fun w' => Keeps w1 w'), q.W.cell? ⟨b0, 3, none⟩ = some (.int .i64 clo) := fun q => q.h.cell g3
        have e4 : ∀ q : Inw (fun w' => Keeps w1 w'), q.W.cell? ⟨b0, 4, none⟩ = some (.int .i64 chi) := fun q => q.h.cell g4
        have e5 : ∀ q : Inw (fun w' => Keeps w1 w'), q.W.cell? ⟨b0, 5, none⟩ = some (.slice ra rs.length rc) := fun q => q.h.cell g5
        have e6 : ∀ q : Inw (fun w' => Keeps w1 w'), q.W.cell? ⟨b, o + k * 2, none⟩ = some (.int .i64 px) := fun q => q.h.cell c0
        have e7 : ∀ q : Inw (fun w' => Keeps w1 w'), q.W.cell? ⟨b, o + k * 2 + 1, none⟩ = some (.int .i64 py) := fun q => q.h.cell c1
        have kwd : Keeps w1 wr.drew := kr.drew
        go_wp2_with fail
        refine (wpIn_wide (n := 3)).1 (calm ?_)
        refine cix_start hmx (fun w' => Keeps w1 w') ?_
        refine cix_quiet (m := 3) (calm_ok (fun _ => trivial) (by kernel_rfl)) [0, 1, 2, 3, 4, 5, 6] rfl (by kernel_rfl) kwd ?_
        show wpQuietIn _ _ _ _ _ _ [_, _, _, _, _, _, _] _
        iterate 7 (gi_big_quiet_step (fail))
        refine wpQuietIn_nil ?_
        clear e0 e1 e2 e3 e4 e5 e6 e7
        refine cix_one (m := 2) 7 _ rfl rfl (by kernel_rfl) ?_
        show wpListIn _ _ _ _ _ [_] _ _
        gi_wp2_with fail
        rename_i hK
        refine ⟨trivial, ((callsIn_wide (n := 2)).2 (WK.out _ (kk.trans (k3.trans kwd)))).mono ?_⟩
        rintro e w5 ⟨⟨xa, xc, rfl, hxs⟩, k5⟩
        refine hK _ _ (.inl ⟨rfl, kwd.trans k5, ?_⟩)
        clear hK
        have HO5 := Lib.hid (HO.out.kept ((Keeps.undrew k5).grown none) (ownN _))
        have AP := Lib.hid (append_ints w5 w1.heap.size 35 _ _ _ HO5.out xa xc fp hxs (by omega) (kwd.trans k5).size)
        refine cix_one (m := 1) 8 _ rfl rfl (by kernel_rfl) ?_
        show wpListIn _ _ _ _ _ [_] _ _
        refine wpListIn_append_run rfl (.tmp 28) (.tmp 35) 35 rfl _ _ rfl rfl _ AP.out ?_
        rintro v' w6 ⟨hown', hgrow⟩
        have hk6 : Keeps w1 w6 := Below.grown (kwd.trans k5) hgrow (kwd.trans k5).size (fun j e => (HO5.out.lt j e).1)
        have HO6 := Lib.hid hown'
        clear hown' hgrow hxs
        gi_wp2_with fail
        refine cix_one (m := 0) 9 _ rfl rfl (by kernel_rfl) ?_
        show wpListIn _ _ _ _ _ [_] _ _
        gi_wp2_with fail
        refine cix_done (by kernel_rfl) ?_ _
        refine ⟨rfl, ?_⟩
        go_wp2_with fail
        go_roundw
        case rel => exact ⟨k + 1, by omega, by go_num, by rw [HTK.out, List.length_append, List.map_append]; exact HO6.out, hk6⟩
        case measure => simp [intOf]; omega
      · obtain rfl : k = L.length := by omega
        have hys := HYS.out
        rw [List.take_length] at HO
        have hln := HLN.out L.length
        rw [List.take_length, hys] at hln
        rw [hys] at HO
        obtain ⟨ya, yc, rfl, hIL⟩ := ints_rowI HO.out
        have HU := Lib.hid (refHull_any ya yc ys wr hIL (by unfold maxLen; omega) HNE.out HB.out)
        have kw := k3.trans kr
        have hge : decide ((L.length : Int) < (L.length : Int)) = false := decide_eq_false (by omega)
        clear hIL HO hys
        go_wp2_with fail
        refine HU.out.mono ?_
        rintro e w2 ⟨rfl, k2⟩
        have kz := kw.trans k2
        have s0 := kz.cell r0
        have s1 := kz.cell r1
        have f0 := (kz.cells.2 _ _ (lt_of_cell r0)).trans z0
        have f1 := (kz.cells.2 _ _ (lt_of_cell r1)).trans z1
        have hls := lt_of_cell s0
        have h2 := (TwoI.set0 ⟨s0, s1, f0, f1⟩ (loI ys)).set1 (hiI ys)
        clear r0 r1 z0 z1
        go_wp2_with fail
        refine bodyPost_ret (v := .tuple #[.agg #[.int .i64 (loI ys), .int .i64 (hiI ys)], .int .i64 0]) ?_ rfl ⟨rfl, ((kk.trans kz).setCell (p := ⟨b1, 0, none⟩) _ hbw).setCell (p := ⟨b1, 1, none⟩) _ hbw⟩
        simp [results, Try.results20, go_sem, h2.c0, h2.c1]
  · rw [if_neg hz]
    have hzb : (E == 0) = false := by rw [beq_eq_false_iff_ne]; exact hz
    clear HTF HNV HHF HHL HWM
    go_enter Try.func20, Try.ntmps20
    go_wp2_with fail
    refine (wpIn_wide (n := 3)).1 ?_
    refine region_calm 10 [(0, [0, 1, 2]), (1, [3]), (1, [4]), (0, [5, 6, 7, 8, 9])] (fun _ => trivial) (by kernel_rfl) hmx (by kernel_rfl) (by kernel_rfl) ?_
    show wpQuietIn _ _ _ _ _ _ [_, _, _] _
    iterate 3 (gi_big_quiet_step (fail))
    refine wpQuietIn_nil ?_
    clear j0 j1 j2 j3 j4 j5
    show wpListIn _ _ _ _ _ [_] _ _
    gi_wp2_with fail
    rename_i hK
    refine ⟨trivial, ((callsIn_wide (n := 3 - 1)).2 (RD.out _)).mono ?_⟩
    rintro e w0 ⟨rfl, k1⟩
    refine hK _ _ ⟨rfl, k1, ?_⟩
    clear hK
    show wpListIn _ _ _ _ _ [_] _ _
    gi_wp2_with fail
    rename_i hK
    refine ⟨trivial, ((callsIn_wide (n := 3 - 1)).2 (TD.out _ (kk.trans (kd.trans k1)))).mono ?_⟩
    rintro e w1 ⟨⟨a, cap, rfl, _⟩, k2⟩
    refine hK _ _ ⟨rfl, k2, ?_⟩
    clear hK TD RD
    haveI : Nonempty (Since w1) := Since.some _
    show wpQuietIn _ _ _ _ _ _ [_, _, _, _, _] _
    iterate 5 (gi_big_quiet_step (fail))
    refine wpQuietIn_nil ?_
    unfold wpMix
    refine ⟨rfl, ?_⟩
    have k3 : Keeps W w1 := (kd.trans k1).trans k2
    have s0 := k3.cell r0
    have s1 := k3.cell r1
    have f0 := (k3.cells.2 _ _ (lt_of_cell r0)).trans z0
    have f1 := (k3.cells.2 _ _ (lt_of_cell r1)).trans z1
    have hls := lt_of_cell s0
    have h2 := (TwoI.set0 ⟨s0, s1, f0, f1⟩ 0).set1 0
    clear r0 r1 z0 z1
    go_wp2_with fail
    refine bodyPost_ret (v := .tuple #[.agg #[.int .i64 0, .int .i64 0], .int .i64 E]) ?_ rfl ⟨rfl, ((kk.trans k3).setCell (p := ⟨b1, 0, none⟩) _ hbw).setCell (p := ⟨b1, 1, none⟩) _ hbw⟩
    simp [results, Try.results20, go_sem, h2.c0, h2.c1]
end Go.Proofs.Ytmhpgjlegajpeaa
