/-
  WarmTrue: the law's own truly: a block with right readings.
-/
import Derived.Test.YtdfiebfgmpdceaaT1
import Derived.Test.YtdfiebfgmpdceaaT2
import Derived.Test.YtdfiebfgmpdceaaH1
import Derived.OwnWalkIn
import Derived.Laws.OwnMore
namespace Go.Proofs.Ytdfiebfgmpdceaa
open Go.RowKit

theorem six_put {W : World} {b : Nat} {v0 v1 v2 v3 v4 v5 u0 u1 u2 u3 u4 u5 : Value} (h : Six W b v0 v1 v2 v3 v4 v5) : Six ((((((W.setCell ⟨b, 0, none⟩ u0).setCell ⟨b, 1, none⟩ u1).setCell ⟨b, 2, none⟩ u2).setCell ⟨b, 3, none⟩ u3).setCell ⟨b, 4, none⟩ u4).setCell ⟨b, 5, none⟩ u5) b u0 u1 u2 u3 u4 u5 := by
  obtain ⟨e0, e1, e2, e3, e4, e5, _, _⟩ := six_set (X := W) (b := b) (v0 := u0) (v1 := u1) (v2 := u2) (v3 := u3) (v4 := u4) (v5 := u5) (by rw [h.c0]; rfl) (by rw [h.c1]; rfl) (by rw [h.c2]; rfl) (by rw [h.c3]; rfl) (by rw [h.c4]; rfl) (by rw [h.c5]; rfl)
  exact ⟨e0, e1, e2, e3, e4, e5, fun o => by simp only [World.frozen?_setCell]; exact h.fr o⟩
theorem Six.other {W : World} {b b' o : Nat} {v0 v1 v2 v3 v4 v5 u : Value} (h : Six W b v0 v1 v2 v3 v4 v5) (hb : b' ≠ b) : Six (W.setCell ⟨b', o, none⟩ u) b v0 v1 v2 v3 v4 v5 :=
  ⟨(cell_set_other (by omega)).trans h.c0, (cell_set_other (by omega)).trans h.c1, (cell_set_other (by omega)).trans h.c2, (cell_set_other (by omega)).trans h.c3, (cell_set_other (by omega)).trans h.c4, (cell_set_other (by omega)).trans h.c5, fun o => by rw [World.frozen?_setCell]; exact h.fr o⟩
theorem info_int : (Try.prog.info? 3).map (fun i => (i.zero, i.size, i.bytes)) = some (some (.int .i64 0), 1, 8) := by kernel_rfl
/-- While truly goes through the readings: the new block in cells of its own, its readings and their warmths in rows of their own. -/
structure Tly (W1 wr : World) (M b4 bx bb : Nat) (a : Option Addr) (cap : Nat) (xs : List Int) (B : Wm) (l c : Int) (t k : Nat) (ps : List (Wr × Int)) (v tv : Value) : Prop where
  six : Six wr b4 (.int .i64 B.mark) (.int .i64 B.llo) (.int .i64 B.lhi) (.int .i64 B.clo) (.int .i64 B.chi) v
  drw : Drw wr bx bb a cap xs t
  row : wr.ownsRow M 53 4 v k (wrCells (ps.map (trR B.mark l c)))
  tim : wr.ownsRow M 3 1 tv k (ps.map (fun p => .int .i64 p.2))
  kp : Keeps W1 wr
  m : M ≤ wr.heap.size
theorem own_cases {w : World} {base size k : Nat} {e : TypeId} {v : Value} {xs : List Value} (hr : w.ownsRow base e size v k xs) : v = .slice none 0 0 ∨ ∃ g cap, v = .slice (some ⟨g, 0, none⟩) k cap := by
  rcases hr.2 with ⟨rfl, _⟩ | ⟨g, cap, cur, rfl, _⟩
  · exact .inl rfl
  · exact .inr ⟨g, cap, rfl⟩
theorem own_none (v : Value) : v.ownBlock = none ∨ v.ownBlock ≠ none := by cases hv : v.ownBlock <;> simp
theorem Tly.keep {W1 wr w' : World} {M b4 bx bb : Nat} {a : Option Addr} {cap : Nat} {xs : List Int} {B : Wm} {l c : Int} {t n : Nat} {ps : List (Wr × Int)} {v tv : Value} (h : Tly W1 wr M b4 bx bb a cap xs B l c t n ps v tv) (k : Keeps wr w') : Tly W1 w' M b4 bx bb a cap xs B l c t n ps v tv :=
  ⟨h.six.keep k, h.drw.keep k, h.row.kept (k.grown none) (own_none _), h.tim.kept (k.grown none) (own_none _), h.kp.trans k, Nat.le_trans h.m k.size⟩
theorem Tly.draw {W1 wr w' : World} {M b4 bx bb : Nat} {a : Option Addr} {cap : Nat} {xs : List Int} {B : Wm} {l c : Int} {t n : Nat} {ps : List (Wr × Int)} {v tv : Value} (h : Tly W1 wr M b4 bx bb a cap xs B l c t n ps v tv) (h4 : bx ≠ b4) (hne : bb ≠ bx) (hM : bx < M) (hW : W1.heap.size ≤ bx) (ha : xs ≠ [] → ∀ b o, a = some ⟨b, o, none⟩ → b ≠ bx) (k : Keeps (wr.setCell ⟨bx, 0, none⟩ (.int .i64 ((t + 1 : Nat) : Int))) w') : Tly W1 w' M b4 bx bb a cap xs B l c (t + 1) n ps v tv :=
  ⟨(h.six.other h4).keep k, (h.drw.next hne ha).keep k, (ownsRow_setCell_below h.row hM _).kept (k.grown none) (own_none _), (ownsRow_setCell_below h.tim hM _).kept (k.grown none) (own_none _), (h.kp.setCell (p := ⟨bx, 0, none⟩) _ hW).trans k, by have := k.size; have := h.m; simp [World.setCell] at *; omega⟩
theorem row_ty {w : World} {base size k : Nat} {e : TypeId} {v : Value} {l : List Value} (h : w.ownsRow base e size v k l) : ∀ j, v.ownBlock = some j → ∃ cur, w.heap[j]? = some (.cells cur e (0, 0)) := by
  intro j hj
  rcases h.2 with ⟨rfl, _⟩ | ⟨g, c, cur, rfl, _, hg, _⟩
  · cases hj
  · obtain rfl : g = j := by simpa [Value.ownBlock] using hj
    exact ⟨cur, hg⟩
theorem ints_row {w : World} {base : Nat} {v : Value} {xs : List Int} (h : w.ownsRow base 3 1 v xs.length (xs.map (Value.int .i64))) : ∃ a cap, v = .slice a xs.length cap ∧ Ints w a xs ∧ ∀ b o, a = some ⟨b, o, none⟩ → base ≤ b := by
  rcases h.2 with ⟨rfl, h0⟩ | ⟨g, cap, cur, rfl, h2, _⟩
  · obtain rfl : xs = [] := List.length_eq_zero_iff.1 h0
    exact ⟨none, 0, rfl, fun h => absurd rfl h, fun _ _ e => by cases e⟩
  · refine ⟨some ⟨g, 0, none⟩, cap, rfl, fun _ => ⟨g, 0, rfl, fun i hi => ?_⟩, fun b o e => by cases e; exact h2⟩
    rw [Nat.zero_add, h.cellAt i (by omega)]
    simp [List.getElem?_eq_getElem hi]
/-- Two rows of the call's own that hold other things are two rows. -/
theorem rows_apart {w : World} {base base' size size' k k' : Nat} {v v' : Value} {l l' : List Value} (h : w.ownsRow base 3 size v k l) (h' : w.ownsRow base' 53 size' v' k' l') : v.ownBlock = none ∨ v.ownBlock ≠ v'.ownBlock := by
  cases hv : v.ownBlock with
  | none => exact .inl rfl
  | some j =>
    refine .inr fun e => ?_
    obtain ⟨c, h1⟩ := row_ty h j hv
    obtain ⟨c', h2⟩ := row_ty h' j e.symm
    rw [h1] at h2
    simp at h2
-- from gen/t3.py
set_option maxRecDepth 100000 in
set_option maxHeartbeats 12800000 in
theorem truly_any (B : Wm) (hok : B.ok = true) (a : Option Addr) (cap : Nat) (xs : List Int) (w : World) (hI : B.In w) (hU : U16s w a xs) (hl : xs.length ≤ maxLen) :
    Calls Try.prog 32 #[B.v, .slice a xs.length cap] w fun e w' => ∃ l c ps ra rc ta tc, e = .returned (.tuple #[Wm.v (trB B l c ps ra rc), .int .i64 l, .int .i64 c, .slice ta ps.length tc]) ∧ (B.llo ≤ l ∧ l ≤ B.lhi) ∧ (B.clo ≤ c ∧ c ≤ B.chi) ∧ ps.map (·.1) = B.rs ∧ Rts ps ∧ (trB B l c ps ra rc).In w' ∧ Ints w' ta (ps.map (·.2)) ∧ Keeps w w' := by
  have hmx : Try.prog.follows .mixedOrders = true := by kernel_rfl
  have hL := Wm.ok_lim hok
  obtain ⟨hn, hw⟩ := vWrs_at (Wm.ok_reads hok)
  obtain ⟨i0, hi0, hz0, hz1, hz2⟩ := info_parts info_read
  obtain ⟨j0, hj0, hy0, hy1, hy2⟩ := info_parts info_int
  have DS := Lib.hid (fun w1 (k : Keeps w w1) => draws_any a cap xs w1 (hU.keep k))
  have DR := Lib.hid (fun bx bb t lo hi w1 h hne hbx hlh t1 l0 l1 => draw_any bx bb cap a xs t lo hi w1 h hne hbx hl hlh t1 l0 l1)
  have AX := Lib.hid (fun (bx : Nat) (hbx : w.heap.size ≤ bx) => show xs ≠ [] → ∀ b o, a = some ⟨b, o, none⟩ → b ≠ bx from fun hx b o e => by subst e; have := hU.lt hx; omega)
  have AXL := Lib.hid (show xs ≠ [] → ∀ b o, a = some ⟨b, o, none⟩ → b < w.heap.size from fun hx b o e => by subst e; exact hU.lt hx)
  have SP := Lib.hid (fun x y w1 => lawSpan_any x y w1)
  have SW := Lib.hid (fun x y t w1 => lawShows_any B.mark x y t w1)
  have HI := Lib.hid hI
  have HW := Lib.hid hw
  obtain ⟨m1, m2, l1, l2, l3, l4, c1, c2, c3, c4⟩ := hL
  have BX := Wm.Box.new B w
  obtain ⟨mark, llo, lhi, clo, chi, ra, rc, rs⟩ := B
  obtain ⟨g0, g1, g2, g3, g4, g5⟩ := BX
  dsimp only [Wm.v, trB] at *
  obtain ⟨W1, hW1⟩ : ∃ W, w.alloc (.cells #[.int .i64 mark, .int .i64 llo, .int .i64 lhi, .int .i64 clo, .int .i64 chi, .slice ra rs.length rc] 26) = W := ⟨_, rfl⟩
  have k0 : Keeps w W1 := by rw [← hW1]; exact (Keeps.refl w).alloc _
  have hsa : W1.heap.size = w.heap.size + 1 := by rw [← hW1]; simp
  rw [hW1] at g0 g1 g2 g3 g4 g5
  obtain ⟨b2, hb2⟩ : ∃ b, w.heap.size = b := ⟨_, rfl⟩
  obtain ⟨b4, hb4⟩ : ∃ b, b2 + 1 = b := ⟨_, rfl⟩
  have RS := Six.boxed W1 (.int .i64 0) (.int .i64 0) (.int .i64 0) (.int .i64 0) (.int .i64 0) (.slice none 0 0) 26
  obtain ⟨W2, hW2⟩ : ∃ W, W1.alloc (.cells #[.int .i64 0, .int .i64 0, .int .i64 0, .int .i64 0, .int .i64 0, .slice none 0 0] 26) = W := ⟨_, rfl⟩
  have k1 : Keeps W1 W2 := by rw [← hW2]; exact (Keeps.refl W1).alloc _
  rw [hW2, show W1.heap.size = b4 by omega] at RS
  rw [hb2] at g0 g1 g2 g3 g4 g5
  have hb42 : b4 < W2.heap.size := RS.lt
  clear hok hI hU hw
  go_enter Try.func32, Try.ntmps32
  go_wp2_with fail
  refine (DS.out _ (k0.trans k1)).mono ?_
  rintro e w1 ⟨bx, bb, rfl, hD, hne, hbx, hbb, k2⟩
  have kk : Keeps W1 w1 := k1.trans k2
  replace RS := RS.keep k2
  go_wp2_with fail
  have hbw : w.heap.size ≤ bx := by have := k1.size; omega
  have hbW : W1.heap.size ≤ bx := by have := k1.size; omega
  have hb4x : bx ≠ b4 := by omega
  have hb4b : bb ≠ b4 := by omega
  have hb4W : W1.heap.size ≤ b4 := by omega
  have kd := kk.drew
  replace hD := hD.keep (Keeps.refl w1).drew
  replace RS := RS.keep (Keeps.refl w1).drew
  haveI : Nonempty (Inw (fun w' => Keeps W1 w')) := ⟨⟨W1, Keeps.refl _⟩⟩
  have e0 : ∀ q : Inw (fun w' => Keeps W1 w'), q.W.cell? ⟨b2, 0, none⟩ = some (.int .i64 mark) := fun q => q.h.cell g0
  have e1 : ∀ q : Inw (fun w' => Keeps W1 w'), q.W.cell? ⟨b2, 1, none⟩ = some (.int .i64 llo) := fun q => q.h.cell g1
  have e2 : ∀ q : Inw (fun w' => Keeps W1 w'), q.W.cell? ⟨b2, 2, none⟩ = some (.int .i64 lhi) := fun q => q.h.cell g2
  have e3 : ∀ q : Inw (fun w' => Keeps W1 w'), q.W.cell? ⟨b2, 3, none⟩ = some (.int .i64 clo) := fun q => q.h.cell g3
  have e4 : ∀ q : Inw (fun w' => Keeps W1 w'), q.W.cell? ⟨b2, 4, none⟩ = some (.int .i64 chi) := fun q => q.h.cell g4
  have e5 : ∀ q : Inw (fun w' => Keeps W1 w'), q.W.cell? ⟨b2, 5, none⟩ = some (.slice ra rs.length rc) := fun q => q.h.cell g5
  refine (wpIn_wide (n := 3)).1 ?_
  refine cix_start hmx (fun w' => Keeps W1 w') ?_
  refine cix_quiet (m := 5) (CixOk.of (fun _ => trivial) (fun _ _ _ _ hd h => ⟨hd.symm.trans h.1, h.2⟩) (by kernel_rfl)) [0, 1, 2, 3, 5, 6, 7] rfl (by kernel_rfl) kd ?_
  show wpQuietIn _ _ _ _ _ _ [_, _, _, _, _, _, _] _
  iterate 7 (gi_big_quiet_step (fail))
  refine wpQuietIn_nil ?_
  clear e0 e1 e2 e3 e4 e5
  refine cix_one (m := 4) 4 _ rfl rfl (by kernel_rfl) ?_
  show wpListIn _ _ _ _ _ [_] _ _
  gi_wp2_with fail
  rename_i hK
  refine ⟨trivial, ((callsIn_wide (n := 2)).2 (DR.out bx bb 0 llo lhi _ hD hne (AX.out bx hbw) (by omega) (by omega) (by omega) (by omega))).mono ?_⟩
  rintro e u1 ⟨l, rfl, l0, l1, k⟩
  replace hD := (hD.next hne (AX.out bx hbw)).keep k
  replace RS := (RS.other hb4x).keep k
  replace kd := ((kd).setCell (p := ⟨bx, 0, none⟩) (.int .i64 ((0 + 1 : Nat) : Int)) hbW).trans k
  refine hK _ _ (.inl ⟨rfl, kd, ?_⟩)
  clear hK k
  refine cix_one (m := 3) 8 _ rfl rfl (by kernel_rfl) ?_
  show wpListIn _ _ _ _ _ [_] _ _
  gi_wp2_with fail
  rename_i hK
  refine ⟨trivial, ((callsIn_wide (n := 2)).2 (DR.out bx bb 1 clo chi _ hD hne (AX.out bx hbw) (by omega) (by omega) (by omega) (by omega))).mono ?_⟩
  rintro e u2 ⟨c, rfl, c0, c1, k⟩
  replace hD := (hD.next hne (AX.out bx hbw)).keep k
  replace RS := (RS.other hb4x).keep k
  replace kd := ((kd).setCell (p := ⟨bx, 0, none⟩) (.int .i64 ((1 + 1 : Nat) : Int)) hbW).trans k
  refine hK _ _ (.inl ⟨rfl, kd, ?_⟩)
  clear hK k
  have hax := AX.out b4 (by omega)
  obtain ⟨u3, hu3⟩ : ∃ u, ((((((u2.setCell ⟨b4, 0, none⟩ (.int .i64 mark)).setCell ⟨b4, 1, none⟩ (.int .i64 llo)).setCell ⟨b4, 2, none⟩ (.int .i64 lhi)).setCell ⟨b4, 3, none⟩ (.int .i64 clo)).setCell ⟨b4, 4, none⟩ (.int .i64 chi)).setCell ⟨b4, 5, none⟩ (.slice ra rs.length rc)) = u := ⟨_, rfl⟩
  have hD3 : Drw u3 bx bb a cap xs 2 := by rw [← hu3]; exact (((((hD.set (by omega) (by omega) hax).set (by omega) (by omega) hax).set (by omega) (by omega) hax).set (by omega) (by omega) hax).set (by omega) (by omega) hax).set (by omega) (by omega) hax
  have kd3 : Keeps W1 u3 := by rw [← hu3]; exact ((((((kd.setCell (p := ⟨b4, 0, none⟩) (.int .i64 mark) hb4W).setCell (p := ⟨b4, 1, none⟩) (.int .i64 llo) hb4W).setCell (p := ⟨b4, 2, none⟩) (.int .i64 lhi) hb4W).setCell (p := ⟨b4, 3, none⟩) (.int .i64 clo) hb4W).setCell (p := ⟨b4, 4, none⟩) (.int .i64 chi) hb4W).setCell (p := ⟨b4, 5, none⟩) (.slice ra rs.length rc) hb4W)
  have R3 : Six u3 b4 (.int .i64 mark) (.int .i64 llo) (.int .i64 lhi) (.int .i64 clo) (.int .i64 chi) (.slice ra rs.length rc) := by rw [← hu3]; exact six_put RS
  obtain ⟨r0, r1, r2, r3, r4, r5, rf⟩ := RS
  have z0 := rf 0
  have z1 := rf 1
  have z2 := rf 2
  have z3 := rf 3
  have z4 := rf 4
  have z5 := rf 5
  refine cix_one (m := 2) 9 _ rfl rfl (by kernel_rfl) ?_
  show wpListIn _ _ _ _ _ [_] _ _
  gi_wp2_with fail
  clear hu3 hD kd r0 r1 r2 r3 r4 r5 rf z0 z1 z2 z3 z4 z5
  refine cix_one (m := 1) 10 _ rfl rfl (by kernel_rfl) ?_
  show wpListIn _ _ _ _ _ [_] _ _
  gi_wp2_with fail
  refine cix_one (m := 0) 11 _ rfl rfl (by kernel_rfl) ?_
  show wpListIn _ _ _ _ _ [_] _ _
  gi_wp2_with fail
  refine cix_done (by kernel_rfl) ?_ _
  have z5 := R3.fr 5
  have r5 := R3.c5
  have hl4 := R3.lt
  replace g5 := kd3.cell g5
  have hlb2 := lt_of_cell g5
  obtain ⟨u4, hu4⟩ : ∃ u, u3.setCell ⟨b4, 5, none⟩ (.slice none 0 0) = u := ⟨_, rfl⟩
  have hD4 : Drw u4 bx bb a cap xs 2 := by rw [← hu4]; exact hD3.set (by omega) (by omega) hax
  have kd4 : Keeps W1 u4 := by rw [← hu4]; exact kd3.setCell (p := ⟨b4, 5, none⟩) (.slice none 0 0) hb4W
  have R4 : Six u4 b4 (.int .i64 mark) (.int .i64 llo) (.int .i64 lhi) (.int .i64 clo) (.int .i64 chi) (.slice none 0 0) := by rw [← hu4]; exact R3.set5 _
  have G5 : u4.cell? ⟨b2, 5, none⟩ = some (.slice ra rs.length rc) := by rw [← hu4]; exact (cell_set_other (by omega)).trans g5
  go_wp2_with fail
  try rw [hu4]
  clear hu4 R3 kd3 hD3 r5 z5 g5 hl4 hlb2
  obtain ⟨M, hM⟩ : ∃ M, u4.heap.size = M := ⟨_, rfl⟩
  have hM4 : b4 < M := by rw [← hM]; exact R4.lt
  have hMx : bx < M := by rw [← hM]; exact lt_of_cell hD4.at_
  have hMb : bb < M := by rw [← hM]; exact lt_of_cell hD4.by_
  have T0 := Lib.hid (show Tly W1 u4 M b4 bx bb a cap xs ⟨mark, llo, lhi, clo, chi, ra, rc, rs⟩ l c (2 + 0) 0 [] (.slice none 0 0) (.slice none 0 0) from ⟨R4, hD4, World.ownsRow_nil _ _ _ _, World.ownsRow_nil _ _ _ _, kd4, by omega⟩)
  have hWM : W1.heap.size ≤ M := by rw [← hM]; exact kd4.size
  clear R4 hD4 hM kd4
  go_loopw [7, 29] (fun tv i wr => ∃ (k : Nat) (ps : List (Wr × Int)) (v : Value), k ≤ rs.length ∧ i = .int .i64 k ∧ ps.map (·.1) = rs.take k ∧ Rts ps ∧ Tly W1 wr M b4 bx bb a cap xs ⟨mark, llo, lhi, clo, chi, ra, rc, rs⟩ l c (2 + k) k ps v tv) (fun _ i _ => rs.length - (intOf i).toNat)
  case atStart => exact ⟨0, [], .slice none 0 0, Nat.zero_le _, rfl, rfl, fun _ h => (by cases h), T0.out⟩
  case round =>
    obtain ⟨k, ps, v, hk, rfl, hps, hrt, hT⟩ := hrel
    have HP := Lib.hid hps
    have HR := Lib.hid hrt
    have hpl : ps.length = k := by
      have := congrArg List.length hps
      rw [List.length_map, List.length_take] at this
      omega
    have HPL := Lib.hid hpl
    clear hps hrt T0 hpl
    by_cases hlt : k < rs.length
    · obtain ⟨rb, ro, rfl, hr⟩ := (HI.out.rds).keep (k0.trans hT.kp) (by intro e; simp only at e; rw [e] at hlt; simp at hlt)
      have h2 := hr k hlt
      dsimp only at h2
      obtain ⟨⟨p, q, y, z⟩, hrk⟩ : ∃ r : Wr, rs[k]?.getD (0, 0, 0, 0) = r := ⟨_, rfl⟩
      have hrk2 : rs[k]? = some (p, q, y, z) := by rw [List.getElem?_eq_getElem hlt] at hrk ⊢; exact congrArg some hrk
      rw [hrk] at h2
      obtain ⟨h2a, h2b, h2c, h2d⟩ := h2
      dsimp only at h2a h2b h2c h2d
      obtain ⟨⟨v1, v2, v3⟩, v4, v5, v6, v7⟩ := vWr_facts (HW.out (p, q, y, z) (List.mem_of_getElem? hrk2))
      dsimp only at v1 v2 v3 v4 v5 v6 v7
      have HRK := Lib.hid hrk2
      have hlr := lt_of_cell h2a
      have hlx := lt_of_cell hT.drw.at_
      obtain ⟨S, hS⟩ : ∃ S, wr.heap.size = S := ⟨_, rfl⟩
      have hSb : b4 < S := by rw [← hS]; exact hT.six.lt
      have hSm : M ≤ S := by rw [← hS]; exact hT.m
      have HOL := Lib.hid (show ∀ j, v.ownBlock = some j → j < S from fun j e => by rw [← hS]; exact (hT.row.lt j e).2)
      obtain ⟨x1, hx1⟩ : ∃ x, wr.alloc (.cells #[.int .i64 p, .int .i64 q, .int .i64 y, .int .i64 z] 53) = x := ⟨_, rfl⟩
      have ka : Keeps wr x1 := by rw [← hx1]; exact (Keeps.refl wr).alloc _
      have s0 : x1.cell? ⟨S, 0, none⟩ = some (.int .i64 p) := by rw [← hx1, ← hS]; simp [go_sem]
      have s1 : x1.cell? ⟨S, 1, none⟩ = some (.int .i64 q) := by rw [← hx1, ← hS]; simp [go_sem]
      have s2 : x1.cell? ⟨S, 2, none⟩ = some (.int .i64 y) := by rw [← hx1, ← hS]; simp [go_sem]
      have s3 : x1.cell? ⟨S, 3, none⟩ = some (.int .i64 z) := by rw [← hx1, ← hS]; simp [go_sem]
      have hSl := lt_of_cell s0
      have hTa := hT.keep ka
      have gm := (k0.trans hTa.kp)
      have gg0 := hTa.kp.cell g0
      clear hr hrk hrk2
      go_wp2_with fail
      try rw [hx1]
      refine (DR.out bx bb (2 + k) p q _ hTa.drw hne (AX.out bx hbw) (by omega) (by omega) (by omega) (by omega)).mono ?_
      rintro e y1 ⟨t, rfl, t0, t1, kt⟩
      replace hTa := hTa.draw hb4x hne hMx hbW (AX.out bx hbw) kt
      have hSx : bx ≠ S := by omega
      replace s0 := kt.cell ((cell_set_other (by omega)).trans s0)
      replace s1 := kt.cell ((cell_set_other (by omega)).trans s1)
      replace s2 := kt.cell ((cell_set_other (by omega)).trans s2)
      replace s3 := kt.cell ((cell_set_other (by omega)).trans s3)
      replace gg0 := hTa.kp.cell g0
      clear kt ka hx1 hlr hlx h2a h2b h2c h2d
      have hSl := lt_of_cell s0
      have hlb2 := lt_of_cell gg0
      obtain ⟨n, hn⟩ : ∃ n, shI mark l c t = n := ⟨_, rfl⟩
      have hnb := sh_bound (m := mark) (l := l) (c := c) (t := t) m1 m2 (by omega) (by omega) (by omega) (by omega) (by omega) (by omega)
      rw [hn] at hnb
      have S1 := Lib.hid (show Calls Try.prog 35 #[.int .i64 mark, .int .i64 l, .int .i64 c, .int .i64 t] y1 (RetI n y1) from by have h := SW.out l c t y1 m1 m2 (by omega) (by omega) (by omega) (by omega) (by omega) (by omega); rw [hn] at h; exact h)
      go_wp2_with fail
      refine S1.out.mono ?_
      rintro e y2 ⟨rfl, ks⟩
      replace hTa := hTa.keep ks
      replace s0 := ks.cell s0
      replace s1 := ks.cell s1
      replace s2 := ks.cell s2
      replace s3 := ks.cell s3
      clear ks gg0 hlb2 S1
      have hSl := lt_of_cell s0
      obtain ⟨d, hd⟩ : ∃ d, z - y = d := ⟨_, rfl⟩
      have hwd : IntKind.i64.wrap d = d := IntWalk.i64_in _ (by constructor <;> omega)
      obtain ⟨e, he⟩ : ∃ e, min 40 d = e := ⟨_, rfl⟩
      have HWD := Lib.hid (show wdR (p, q, y, z) = e by unfold wdR; dsimp only; rw [hd]; exact he)
      have he0 : 0 ≤ e := by omega
      have he1 : e ≤ 40 := by omega
      obtain ⟨f, hf⟩ : ∃ f, e / 2 = f := ⟨_, rfl⟩
      have hq : e.tdiv 2 = f := by rw [Int.tdiv_eq_ediv_of_nonneg he0]; exact hf
      have hw1 : IntKind.i64.wrap (n - f) = n - f := IntWalk.i64_in _ (by constructor <;> omega)
      have hw2 : IntKind.i64.wrap (n + e) = n + e := IntWalk.i64_in _ (by constructor <;> omega)
      have hw3 : IntKind.i64.wrap (n + e - f) = n + e - f := IntWalk.i64_in _ (by constructor <;> omega)
      have x5 := hTa.six.c5
      have z5 := hTa.six.fr 5
      have HT := Lib.hid hTa
      go_wp2_with fail
      haveI : Nonempty (Inw (fun w' => w'.cell? ⟨b4, 5, none⟩ = some v ∧ w'.cell? ⟨S, 0, none⟩ = some (.int .i64 p) ∧ w'.cell? ⟨S, 1, none⟩ = some (.int .i64 q))) := ⟨⟨y2, ⟨x5, s0, s1⟩⟩⟩
      have e5 : ∀ q' : Inw (fun w' => w'.cell? ⟨b4, 5, none⟩ = some v ∧ w'.cell? ⟨S, 0, none⟩ = some (.int .i64 p) ∧ w'.cell? ⟨S, 1, none⟩ = some (.int .i64 q)), q'.W.cell? ⟨b4, 5, none⟩ = some v := fun q' => q'.h.1
      have e0 : ∀ q' : Inw (fun w' => w'.cell? ⟨b4, 5, none⟩ = some v ∧ w'.cell? ⟨S, 0, none⟩ = some (.int .i64 p) ∧ w'.cell? ⟨S, 1, none⟩ = some (.int .i64 q)), q'.W.cell? ⟨S, 0, none⟩ = some (.int .i64 p) := fun q' => q'.h.2.1
      have e1 : ∀ q' : Inw (fun w' => w'.cell? ⟨b4, 5, none⟩ = some v ∧ w'.cell? ⟨S, 0, none⟩ = some (.int .i64 p) ∧ w'.cell? ⟨S, 1, none⟩ = some (.int .i64 q)), q'.W.cell? ⟨S, 1, none⟩ = some (.int .i64 q) := fun q' => q'.h.2.2
      refine (wpIn_wide (n := 3)).1 ?_
      refine cix_start hmx (fun w' => w'.cell? ⟨b4, 5, none⟩ = some v ∧ w'.cell? ⟨S, 0, none⟩ = some (.int .i64 p) ∧ w'.cell? ⟨S, 1, none⟩ = some (.int .i64 q)) ?_
      refine cix_quiet (m := 6) (CixOk.of (fun _ => trivial) (fun _ _ _ _ hd h => ⟨hd.symm.trans h.1, h.2⟩) (by kernel_rfl)) [0, 1, 2, 3, 4, 5, 6, 7, 8, 9, 10, 11, 12, 13] rfl (by kernel_rfl) ⟨x5, s0, s1⟩ ?_
      show wpQuietIn _ _ _ _ _ _ [_, _, _, _, _, _, _, _, _, _, _, _, _, _] _
      iterate 14 (gi_big_quiet_step (fail))
      refine wpQuietIn_nil ?_
      refine cix_one (m := 5) 14 _ rfl rfl (by kernel_rfl) ?_
      show wpListIn _ _ _ _ _ [_] _ _
      gi_wp2_with fail
      rename_i hK
      refine ⟨trivial, ((callsIn_wide (n := 2)).2 (SP.out (n - f) (n + e - f) _)).mono ?_⟩
      rintro e' y3 ⟨rfl, k3⟩
      replace k3 := (Keeps.refl y2).drew.trans k3
      have HT3 := Lib.hid (HT.out.keep k3)
      have c3 : (fun w' => w'.cell? ⟨b4, 5, none⟩ = some v ∧ w'.cell? ⟨S, 0, none⟩ = some (.int .i64 p) ∧ w'.cell? ⟨S, 1, none⟩ = some (.int .i64 q)) y3 := ⟨k3.cell x5, k3.cell s0, k3.cell s1⟩
      refine hK _ _ (.inl ⟨rfl, c3, ?_⟩)
      clear hK k3 e5 e0 e1
      refine cix_quiet (m := 4) (CixOk.of (fun _ => trivial) (fun _ _ _ _ hd h => ⟨hd.symm.trans h.1, h.2⟩) (by kernel_rfl)) [15] rfl (by kernel_rfl) c3 ?_
      show wpQuietIn _ _ _ _ _ _ [_] _
      iterate 1 (gi_big_quiet_step (fail))
      refine wpQuietIn_nil ?_
      refine cix_one (m := 3) 16 _ rfl rfl (by kernel_rfl) ?_
      show wpListIn _ _ _ _ _ [_] _ _
      gi_wp2_with fail
      obtain ⟨y4, hy4⟩ : ∃ y, y3.alloc (.cells #[.int .i64 p, .int .i64 q, .int .i64 (n - f), .int .i64 (n + e - f)] 53) = y := ⟨_, rfl⟩
      obtain ⟨S4, hS4⟩ : ∃ s, y3.heap.size = s := ⟨_, rfl⟩
      have k4 : Keeps y3 y4 := by rw [← hy4]; exact (Keeps.refl _).alloc _
      have HT4 := Lib.hid (HT3.out.keep k4)
      have c4' : (fun w' => w'.cell? ⟨b4, 5, none⟩ = some v ∧ w'.cell? ⟨S, 0, none⟩ = some (.int .i64 p) ∧ w'.cell? ⟨S, 1, none⟩ = some (.int .i64 q)) y4 := ⟨k4.cell c3.1, k4.cell c3.2.1, k4.cell c3.2.2⟩
      have hcs := four_cells (W := y4) (b := S4) (u0 := .int .i64 p) (u1 := .int .i64 q) (u2 := .int .i64 (n - f)) (u3 := .int .i64 (n + e - f)) (by rw [← hy4, ← hS4]; simp [go_sem]) (by rw [← hy4, ← hS4]; simp [go_sem]) (by rw [← hy4, ← hS4]; simp [go_sem]) (by rw [← hy4, ← hS4]; simp [go_sem])
      have Hcs := Lib.hid hcs
      try rw [hy4]
      try rw [hS4]
      clear hy4 hS4 k4 c3 hcs
      refine ⟨c4', ?_⟩
      refine cix_one (m := 2) 17 _ rfl rfl (by kernel_rfl) ?_
      show wpListIn _ _ _ _ _ [_] _ _
      refine wpListIn_append_own _ rfl _ _ 24 rfl M 53 i0 (.agg #[.int .i64 0, .int .i64 0, .int .i64 0, .int .i64 0]) 4 32 Try.underlying24 hi0 hz0 hz1 hz2 rfl (by decide) v k _ rfl HT4.out.row ⟨S4, 0, none⟩ 1 1 [.int .i64 p, .int .i64 q, .int .i64 (n - f), .int .i64 (n + e - f)] rfl rfl Hcs.out (by simp [Value.oneCell']) (by unfold maxLen; omega) (by omega) HT4.out.m ?_
      intro v' y5 hown' hgrow _
      obtain ⟨g', cap', rfl⟩ := ownsRow_succ hown'
      have hg : y4.grownBy y5 v.ownBlock := hgrow
      have Hlt := Lib.hid (fun j e => (HT4.out.row.lt j e).1)
      have n4 : some b4 ≠ v.ownBlock := fun e => by have := Hlt.out _ e.symm; omega
      have nS : some S ≠ v.ownBlock := fun e => by have := HOL.out _ e.symm; omega
      have nx : some bx ≠ v.ownBlock := fun e => by have := Hlt.out _ e.symm; omega
      have nb : some bb ≠ v.ownBlock := fun e => by have := Hlt.out _ e.symm; omega
      have six5 := HT4.out.six.kept hg n4
      have c5 : (fun w' => w'.cell? ⟨b4, 5, none⟩ = some v ∧ w'.cell? ⟨S, 0, none⟩ = some (.int .i64 p) ∧ w'.cell? ⟨S, 1, none⟩ = some (.int .i64 q)) y5 := ⟨six5.c5, (World.cell?_of_block (hg.block S (lt_of_cell c4'.2.1) nS)).trans c4'.2.1, (World.cell?_of_block (hg.block S (lt_of_cell c4'.2.1) nS)).trans c4'.2.2⟩
      have drw5 := HT4.out.drw.kept hg nx nb (fun hx b o e e' => by have h1 := AX.out M (by omega) hx b o e; have := Hlt.out _ e'.symm; have h2 := AXL.out hx b o e; omega)
      have tim5 := HT4.out.tim.kept hg (rows_apart HT4.out.tim HT4.out.row)
      have kw5 : Keeps W1 y5 := Below.grown HT4.out.kp hg HT4.out.kp.size (fun j e => by have := Hlt.out j e; omega)
      have m5 : M ≤ y5.heap.size := Nat.le_trans HT4.out.m hg.size
      have x5' := six5.c5
      have z5' := six5.fr 5
      have l5' := six5.lt
      obtain ⟨y6, hy6⟩ : ∃ y, y5.setCell ⟨b4, 5, none⟩ (.slice (some ⟨g', 0, none⟩) (k + 1) cap') = y := ⟨_, rfl⟩
      have six6 : Six y6 b4 (.int .i64 mark) (.int .i64 llo) (.int .i64 lhi) (.int .i64 clo) (.int .i64 chi) (.slice (some ⟨g', 0, none⟩) (k + 1) cap') := by rw [← hy6]; exact six5.set5 _
      have drw6 : Drw y6 bx bb a cap xs (2 + k + 1) := by rw [← hy6]; exact drw5.set (by omega) (by omega) hax
      have row6 := ownsRow_setCell_below hown' (a := ⟨b4, 5, none⟩) hM4 (.slice (some ⟨g', 0, none⟩) (k + 1) cap')
      have tim6 := ownsRow_setCell_below tim5 (a := ⟨b4, 5, none⟩) hM4 (.slice (some ⟨g', 0, none⟩) (k + 1) cap')
      rw [hy6] at row6 tim6
      have kw6 : Keeps W1 y6 := by rw [← hy6]; exact kw5.setCell (p := ⟨b4, 5, none⟩) _ hb4W
      have m6 : M ≤ y6.heap.size := by rw [← hy6]; simpa [World.setCell] using m5
      have F6 := Lib.hid six6
      have D6 := Lib.hid drw6
      have O6 := Lib.hid row6
      have I6 := Lib.hid tim6
      have K6 := Lib.hid kw6
      have C5 := Lib.hid c5
      clear HT HT3 HT4 Hcs c4' hown' hgrow hg n4 nS nx nb six5 drw5 tim5 kw5 m5 six6 drw6 row6 tim6 kw6 x5 z5 s0 s1 s2 s3 c5 HOL Hlt
      gi_wp2_with fail
      refine ⟨C5.out.2, ?_⟩
      refine cix_quiet (m := 1) (CixOk.of (fun _ => trivial) (fun _ _ _ _ hd h => ⟨hd.symm.trans h.1, h.2⟩) (by kernel_rfl)) [18] rfl (by kernel_rfl) C5.out ?_
      show wpQuietIn _ _ _ _ _ _ [_] _
      iterate 1 (gi_big_quiet_step (fail))
      refine wpQuietIn_nil ?_
      refine cix_last (m := 0) 19 _ rfl rfl (by kernel_rfl) (by kernel_rfl) (by kernel_rfl) ?_
      show wpListIn _ _ _ _ _ [_] _ _
      gi_wp2_with fail
      clear C5 hy6 x5' z5' l5'
      obtain ⟨S6, hS6⟩ : ∃ s, y6.heap.size = s := ⟨_, rfl⟩
      have k7 := (Keeps.refl y6).alloc (.cells #[.int .i64 t] 3)
      have HI7 := Lib.hid (I6.out.kept (k7.grown none) (own_none _))
      have hc7 : ∀ (j : Nat) (u : Value), [Value.int .i64 t][j]? = some u → (y6.alloc (.cells #[.int .i64 t] 3)).cell? ((⟨S6, 0, none⟩ : Addr).add j) = some u := by
        intro j u hu
        match j, hu with
        | 0, hu => cases hu; rw [← hS6]; simp [go_sem]
        | n + 1, hu => simp at hu
      have HC7 := Lib.hid hc7
      have hm7 : M ≤ (y6.alloc (.cells #[.int .i64 t] 3)).heap.size := by have := k7.size; omega
      clear hc7 k7
      have HTR : trR mark l c ((p, q, y, z), t) = (p, q, n - f, n + e - f) := by
        unfold trR
        dsimp only
        rw [hn, HWD.out, hf]
      have HPS : (ps ++ [((p, q, y, z), t)]).map (·.1) = rs.take (k + 1) := by
        rw [List.map_append, HP.out, List.take_succ_eq_append_getElem hlt]
        have e := HRK.out
        rw [List.getElem?_eq_getElem hlt] at e
        rw [Option.some.inj e]
        rfl
      have HRT : Rts (ps ++ [((p, q, y, z), t)]) := by
        intro x hx
        rcases List.mem_append.1 hx with h | h
        · exact HR.out x h
        · rw [List.mem_singleton.1 h]; exact ⟨t0, t1⟩
      have HROW : wrCells ((ps ++ [((p, q, y, z), t)]).map (trR mark l c)) = wrCells (ps.map (trR mark l c)) ++ [.int .i64 p, .int .i64 q, .int .i64 (n - f), .int .i64 (n + e - f)] := by
        rw [List.map_append, wrCells_append, List.map_cons, List.map_nil, HTR]
        rfl
      have HTM : (ps ++ [((p, q, y, z), t)]).map (fun p => Value.int .i64 p.2) = ps.map (fun p => Value.int .i64 p.2) ++ [.int .i64 t] := by
        rw [List.map_append]; rfl
      have HLN : (ps ++ [((p, q, y, z), t)]).length = k + 1 := by rw [List.length_append, HPL.out]; rfl
      have F8 := Lib.hid HPS
      have F9 := Lib.hid HRT
      have F10 := Lib.hid HROW
      have F11 := Lib.hid HTM
      have F12 := Lib.hid HLN
      clear HTR HPS HRT HROW HTM HLN hn hf hq he hd hw1 hw2 hw3 hwd
      have FK := Lib.hid (show Keeps y6 (y6.alloc (.cells #[.int .i64 t] 3)) from (Keeps.refl y6).alloc _)
      have HAX := Lib.hid hax
      have hl6 := F6.out.lt
      go_wp2_with (at_builtin; refine wpList_append_own _ rfl _ _ 35 rfl M 3 j0 (.int .i64 0) 1 8 Try.underlying35 hj0 hy0 hy1 hy2 rfl (by decide) u7 k _ rfl HI7.out ⟨S6, 0, none⟩ 1 1 [.int .i64 t] rfl rfl HC7.out (by simp [Value.oneCell']) (by unfold maxLen; omega) (by omega) hm7 ?_; intro tv' y8 hownt hgrowt _)
      have hg8 : (y6.alloc (.cells #[.int .i64 t] 3)).grownBy y8 u7.ownBlock := hgrowt
      have hlt8 : ∀ j, u7.ownBlock = some j → M ≤ j := fun j e => (HI7.out.lt j e).1
      have O7 := O6.out.kept (FK.out.grown none) (own_none _)
      have hap := rows_apart HI7.out O7
      refine ⟨⟨k + 1, ps ++ [((p, q, y, z), t)], .slice (some ⟨g', 0, none⟩) (k + 1) cap', by omega, by go_num, F8.out, F9.out, ⟨(F6.out.keep FK.out).kept hg8 (fun e => by have := hlt8 _ e.symm; omega), (D6.out.keep FK.out).kept hg8 (fun e => by have := hlt8 _ e.symm; omega) (fun e => by have := hlt8 _ e.symm; omega) (fun hx b o e e' => by have := hlt8 _ e'.symm; have h2 := AXL.out hx b o e; omega), ?_, ?_, Below.grown (K6.out.trans FK.out) hg8 (by have := (K6.out.trans FK.out).size; exact this) (fun j e => by have := hlt8 j e; omega), Nat.le_trans hm7 hg8.size⟩⟩, by simp [intOf]; omega⟩
      · rw [F10.out]
        refine O7.kept hg8 ?_
        rcases hap with h | h
        · exact .inr (by rw [h]; simp [Value.ownBlock])
        · exact .inr (Ne.symm h)
      · rw [F11.out]
        exact hownt
    · obtain rfl : k = rs.length := by omega
      obtain ⟨ra', rc', rfl, hrd, hab⟩ := Wrs.of_owns (l := ps.map (trR mark l c)) (by rw [List.length_map, HPL.out]; exact hT.row)
      have ht2 := hT.tim
      rw [show ps.map (fun p => Value.int .i64 p.2) = (ps.map (·.2)).map (Value.int .i64) by rw [List.map_map]; rfl, show rs.length = (ps.map (·.2)).length by rw [List.length_map, HPL.out]] at ht2
      obtain ⟨ta, tc, rfl, hti, htb⟩ := ints_row ht2
      rw [List.length_map, HPL.out]
      have hps2 : ps.map (·.1) = rs := by rw [HP.out, List.take_length]
      obtain ⟨f0, f1, f2, f3, f4, f5, fr⟩ := hT.six
      rw [List.length_map, HPL.out] at f5
      have z0 := fr 0
      have z1 := fr 1
      have z2 := fr 2
      have z3 := fr 3
      have z4 := fr 4
      have z5 := fr 5
      have kY := k0.trans hT.kp
      have hl4 := lt_of_cell f0
      have hwb : w.heap.size ≤ b4 := by omega
      clear hT ht2
      obtain ⟨e0, e1, e2, e3, e4, e5, eo, _⟩ := six_set (X := wr) (b := b4) (v0 := .int .i64 mark) (v1 := .int .i64 llo) (v2 := .int .i64 lhi) (v3 := .int .i64 clo) (v4 := .int .i64 chi) (v5 := .slice ra' rs.length rc') (by rw [f0]; rfl) (by rw [f1]; rfl) (by rw [f2]; rfl) (by rw [f3]; rfl) (by rw [f4]; rfl) (by rw [f5]; rfl)
      have kZ := ((((((kY.setCell (p := ⟨b4, 0, none⟩) (.int .i64 mark) hwb).setCell (p := ⟨b4, 1, none⟩) (.int .i64 llo) hwb).setCell (p := ⟨b4, 2, none⟩) (.int .i64 lhi) hwb).setCell (p := ⟨b4, 3, none⟩) (.int .i64 clo) hwb).setCell (p := ⟨b4, 4, none⟩) (.int .i64 chi) hwb).setCell (p := ⟨b4, 5, none⟩) (.slice ra' rs.length rc') hwb)
      have hrd' := hrd.of_eq (w' := ((((((wr.setCell ⟨b4, 0, none⟩ (.int .i64 mark)).setCell ⟨b4, 1, none⟩ (.int .i64 llo)).setCell ⟨b4, 2, none⟩ (.int .i64 lhi)).setCell ⟨b4, 3, none⟩ (.int .i64 clo)).setCell ⟨b4, 4, none⟩ (.int .i64 chi)).setCell ⟨b4, 5, none⟩ (.slice ra' rs.length rc'))) (fun b o e o' => eo b o' (by have := hab b o e; omega))
      have hti' : Ints ((((((wr.setCell ⟨b4, 0, none⟩ (.int .i64 mark)).setCell ⟨b4, 1, none⟩ (.int .i64 llo)).setCell ⟨b4, 2, none⟩ (.int .i64 lhi)).setCell ⟨b4, 3, none⟩ (.int .i64 clo)).setCell ⟨b4, 4, none⟩ (.int .i64 chi)).setCell ⟨b4, 5, none⟩ (.slice ra' rs.length rc')) ta (ps.map (·.2)) := fun hne => by
        obtain ⟨b, o, e, hc⟩ := hti hne
        have := htb b o e
        exact ⟨b, o, e, fun i hi => (eo b _ (by omega)).trans (hc i hi)⟩
      clear hrd hti
      go_wp2_with fail
      refine bodyPost_ret (v := .tuple #[.agg #[.int .i64 mark, .int .i64 llo, .int .i64 lhi, .int .i64 clo, .int .i64 chi, .slice ra' rs.length rc'], .int .i64 l, .int .i64 c, .slice ta rs.length tc]) ?_ rfl ?_
      · simp [results, Try.results32, go_sem, e0, e1, e2, e3, e4, e5]
      · exact ⟨l, c, ps, ra', rc', ta, ⟨tc, by simp [HPL.out]⟩, ⟨l0, l1⟩, ⟨c0, c1⟩, hps2, HR.out, ⟨hrd', by have := HPL.out; simp; unfold maxLen; omega⟩, hti', kZ⟩
end Go.Proofs.Ytdfiebfgmpdceaa
