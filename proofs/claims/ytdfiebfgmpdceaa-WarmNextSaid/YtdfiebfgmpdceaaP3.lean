/-
  WarmPairs walked where there are far too many readings, or the block is none; three rows that grow side by side; what the calls answer.
-/
import Derived.Test.YtdfiebfgmpdceaaP2
import Derived.Test.YtdfiebfgmpdceaaT3
import Derived.Test.YtdfiebfgmpdceaaF4
import Derived.Maps.AppendAt
namespace Go.Proofs.Ytdfiebfgmpdceaa
open Go.RowKit

/-- Two rows of the call's own are two rows. -/
def Ap (v v' : Value) : Prop := ∀ j, v.ownBlock = some j → v'.ownBlock ≠ some j
theorem Ap.symm {v v' : Value} (h : Ap v v') : Ap v' v := fun j h1 h2 => h j h2 h1
theorem Ap.kept {v v' : Value} (h : Ap v v') : v'.ownBlock = none ∨ v'.ownBlock ≠ v.ownBlock := by
  cases hv : v.ownBlock with
  | none => cases hv' : v'.ownBlock <;> simp
  | some j => exact .inr (h j hv)
def ints (L : List Int) : List Value := L.map (Value.int .i64)
/-- Three lists of numbers in rows of the call's own. -/
structure R3 (w : World) (M : Nat) (v1 v2 v3 : Value) (L1 L2 L3 : List Int) : Prop where
  o1 : w.ownsRow M 3 1 v1 L1.length (ints L1)
  o2 : w.ownsRow M 3 1 v2 L2.length (ints L2)
  o3 : w.ownsRow M 3 1 v3 L3.length (ints L3)
  a12 : Ap v1 v2
  a13 : Ap v1 v3
  a23 : Ap v2 v3
theorem R3.keep {w w' : World} {M : Nat} {v1 v2 v3 : Value} {L1 L2 L3 : List Int} (h : R3 w M v1 v2 v3 L1 L2 L3) (k : Keeps w w') : R3 w' M v1 v2 v3 L1 L2 L3 :=
  ⟨h.o1.kept (k.grown none) (own_none _), h.o2.kept (k.grown none) (own_none _), h.o3.kept (k.grown none) (own_none _), h.a12, h.a13, h.a23⟩
theorem R3.start (w : World) (M : Nat) : R3 w M (.slice none 0 0) (.slice none 0 0) (.slice none 0 0) [] [] [] :=
  ⟨World.ownsRow_nil _ _ _ _, World.ownsRow_nil _ _ _ _, World.ownsRow_nil _ _ _ _, fun _ h => (by cases h), fun _ h => (by cases h), fun _ h => (by cases h)⟩
theorem R3.rot {w : World} {M : Nat} {v1 v2 v3 : Value} {L1 L2 L3 : List Int} (h : R3 w M v1 v2 v3 L1 L2 L3) : R3 w M v2 v3 v1 L2 L3 L1 := ⟨h.o2, h.o3, h.o1, h.a23, h.a12.symm, h.a13.symm⟩
theorem R3.app {w w' : World} {M : Nat} {v1 v2 v3 v1' : Value} {L1 L2 L3 : List Int} {x : Int} (h : R3 w M v1 v2 v3 L1 L2 L3) (ho : w'.ownsRow M 3 1 v1' (L1.length + 1) (ints L1 ++ [.int .i64 x])) (hg : w.grownBy w' v1.ownBlock)
    (hat : v1'.ownBlock = v1.ownBlock ∨ v1'.ownBlock = some w.heap.size) : R3 w' M v1' v2 v3 (L1 ++ [x]) L2 L3 := by
  have key : ∀ (v : Value) (L : List Int), w.ownsRow M 3 1 v L.length (ints L) → Ap v1 v → Ap v1' v := by
    intro v L hv ha j hj hj'
    rcases hat with e | e
    · exact ha j (e ▸ hj) hj'
    · have := (hv.lt j hj').2
      rw [hj] at e
      have := Option.some.inj e
      omega
  refine ⟨?_, h.o2.kept hg h.a12.kept, h.o3.kept hg h.a13.kept, key _ _ h.o2 h.a12, key _ _ h.o3 h.a13, h.a23⟩
  rw [List.length_append, ints, List.map_append]
  exact ho
theorem R3.app2 {w w' : World} {M : Nat} {v1 v2 v3 v2' : Value} {L1 L2 L3 : List Int} {x : Int} (h : R3 w M v1 v2 v3 L1 L2 L3) (ho : w'.ownsRow M 3 1 v2' (L2.length + 1) (ints L2 ++ [.int .i64 x])) (hg : w.grownBy w' v2.ownBlock)
    (hat : v2'.ownBlock = v2.ownBlock ∨ v2'.ownBlock = some w.heap.size) : R3 w' M v1 v2' v3 L1 (L2 ++ [x]) L3 := (h.rot.app ho hg hat).rot.rot
theorem R3.app3 {w w' : World} {M : Nat} {v1 v2 v3 v3' : Value} {L1 L2 L3 : List Int} {x : Int} (h : R3 w M v1 v2 v3 L1 L2 L3) (ho : w'.ownsRow M 3 1 v3' (L3.length + 1) (ints L3 ++ [.int .i64 x])) (hg : w.grownBy w' v3.ownBlock)
    (hat : v3'.ownBlock = v3.ownBlock ∨ v3'.ownBlock = some w.heap.size) : R3 w' M v1 v2 v3' L1 L2 (L3 ++ [x]) := (h.rot.rot.app ho hg hat).rot
theorem R3.lt {w : World} {M : Nat} {v1 v2 v3 : Value} {L1 L2 L3 : List Int} (h : R3 w M v1 v2 v3 L1 L2 L3) {b : Nat} (hb : b < M) : some b ≠ v1.ownBlock ∧ some b ≠ v2.ownBlock ∧ some b ≠ v3.ownBlock :=
  ⟨fun e => by have := (h.o1.lt b e.symm).1; omega, fun e => by have := (h.o2.lt b e.symm).1; omega, fun e => by have := (h.o3.lt b e.symm).1; omega⟩
theorem cell_new (w : World) (x : Value) (t : TypeId) {S : Nat} (hS : w.heap.size = S) : ∀ (j : Nat) (u : Value), [x][j]? = some u → (w.alloc (.cells #[x] t)).cell? ((⟨S, 0, none⟩ : Addr).add j) = some u := by
  subst hS
  exact Go.cell_one_new w x t
set_option maxRecDepth 100000 in
set_option maxHeartbeats 6400000 in
theorem wp_far (B : Wm) (wh : Int) (w : World) (hI : B.In w) (hf : decide (40 < B.rs.length ∨ 40 < 0) = true) : Calls Try.prog 7 #[B.v, .int .u8 wh] w (RetB true w) := by
  have F1 := Lib.hid (fun w1 => far_any B none 0 0 w1 hI.rl (Nat.zero_le _))
  rw [hf] at F1
  have AW := Lib.hid (fun w1 => awake_any w1)
  have k0 := (Keeps.refl w).alloc (.cells #[.int .i64 B.mark, .int .i64 B.llo, .int .i64 B.lhi, .int .i64 B.clo, .int .i64 B.chi, .slice B.ra B.rs.length B.rc] 26)
  obtain ⟨mark, llo, lhi, clo, chi, ra, rc, rs⟩ := B
  dsimp only [Wm.v] at *
  clear hI hf
  go_enter Try.func7, Try.ntmps7
  go_wp2_with fail
  refine (F1.out _).mono ?_
  rintro e w1 ⟨rfl, k1⟩
  go_wp2_with fail
  refine (AW.out _).mono ?_
  rintro e w2 ⟨rfl, k2⟩
  go_wp2_with fail
  go_ret
  exact RetB.mk rfl ((k0.trans k1).trans k2)
set_option maxRecDepth 100000 in
set_option maxHeartbeats 6400000 in
theorem wp_bad (B : Wm) (wh : Int) (w : World) (hI : B.In w) (hf : decide (40 < B.rs.length ∨ 40 < 0) = false) (hok : B.ok = false) : Calls Try.prog 7 #[B.v, .int .u8 wh] w (RetB true w) := by
  have F1 := Lib.hid (fun w1 => far_any B none 0 0 w1 hI.rl (Nat.zero_le _))
  rw [hf] at F1
  have AW := Lib.hid (fun w1 => awake_any w1)
  have CN := Lib.hid (fun w1 (k : Keeps w w1) => show Calls Try.prog 25 #[B.v] w1 (Ret (.tuple #[.int .i64 0, .int .i64 1]) w1) from by have h := Count_any B w1 (hI.keep k); rw [show B.countA = (0, 1) from by simp [Wm.countA, hok]] at h; exact h)
  have RW := Lib.hid (fun w1 (k : Keeps w w1) => refWarm_any B w1 (hI.keep k))
  rw [hok] at RW
  have LN := Lib.hid (fun w1 (k : Keeps w w1) => show Calls Try.prog 15 #[B.v] w1 (Ret (.tuple #[.agg #[.int .i64 0, .int .i64 0], .int .i64 1]) w1) from by have h := Length_any B w1 (hI.keep k); rw [show B.lenA = ((0, 0), 1) from say_arg hok] at h; exact h)
  have fn0 : ∀ w1, (binOp .eql 23 (.agg #[.int .i64 0, .int .i64 0]) (.agg #[.int .i64 0, .int .i64 0])).run Try.prog w1 = .ok (.bool true) w1 := fun w1 => eql_span _ _ _ _ w1
  have gn0 : ∀ (o1 o2 : Operand) (w1 : World), (eqGuard .eql 23 o1 o2 (.agg #[.int .i64 0, .int .i64 0]) (.agg #[.int .i64 0, .int .i64 0])).run Try.prog w1 = .ok () w1 := fun o1 o2 w1 => run_eqGuard_agg w1 .eql _ o1 o2 _ _ guard_span
  have BX := Wm.Box.new B w
  have k0 := (Keeps.refl w).alloc (.cells #[.int .i64 B.mark, .int .i64 B.llo, .int .i64 B.lhi, .int .i64 B.clo, .int .i64 B.chi, .slice B.ra B.rs.length B.rc] 26)
  obtain ⟨mark, llo, lhi, clo, chi, ra, rc, rs⟩ := B
  obtain ⟨g0, g1, g2, g3, g4, g5⟩ := BX
  dsimp only [Wm.v] at *
  obtain ⟨W, hW⟩ : ∃ W, w.alloc (.cells #[.int .i64 mark, .int .i64 llo, .int .i64 lhi, .int .i64 clo, .int .i64 chi, .slice ra rs.length rc] 26) = W := ⟨_, rfl⟩
  rw [hW] at k0 g0 g1 g2 g3 g4 g5
  clear hI hf hok
  go_enter Try.func7, Try.ntmps7
  go_wp2_with fail
  refine (F1.out _).mono ?_
  rintro e w1 ⟨rfl, k1⟩
  have kk := k0.trans k1
  replace g0 := k1.cell g0
  replace g1 := k1.cell g1
  replace g2 := k1.cell g2
  replace g3 := k1.cell g3
  replace g4 := k1.cell g4
  replace g5 := k1.cell g5
  go_wp2_with fail
  refine (CN.out _ kk).mono ?_
  rintro e w2 ⟨rfl, k2⟩
  replace g0 := k2.cell g0
  replace g1 := k2.cell g1
  replace g2 := k2.cell g2
  replace g3 := k2.cell g3
  replace g4 := k2.cell g4
  replace g5 := k2.cell g5
  replace kk := kk.trans k2
  go_wp2_with fail
  refine (RW.out _ kk).mono ?_
  rintro e w3 ⟨rfl, k3⟩
  replace g0 := k3.cell g0
  replace g1 := k3.cell g1
  replace g2 := k3.cell g2
  replace g3 := k3.cell g3
  replace g4 := k3.cell g4
  replace g5 := k3.cell g5
  replace kk := kk.trans k3
  go_wp2_with fail
  refine (LN.out _ kk).mono ?_
  rintro e w4 ⟨rfl, k4⟩
  replace kk := kk.trans k4
  go_wp2_with fail
  refine (AW.out _).mono ?_
  rintro e w5 ⟨rfl, k5⟩
  go_wp2_with fail
  go_ret
  exact RetB.mk rfl ((kk.alloc _).trans k5)
/-- What the calls of WarmPairs answer that are refused. -/
theorem held_long {B : Wm} (hok : B.ok = true) : B.heldA B.rs.length = ((0, 0), 2) := by
  unfold Wm.heldA
  rw [if_neg (by omega), say_bad hok (by decide)]
theorem shows_wide {B : Wm} (hok : B.ok = true) : B.showsA (-101) 0 = ((0, 0), 2) := by
  unfold Wm.showsA
  rw [if_neg (by decide), say_bad hok (by decide)]
theorem room_less {B : Wm} (hok : B.ok = true) : B.roomA (-1) = (0, 2) := by
  unfold Wm.roomA
  rw [if_neg (by decide), say_bad hok (by decide)]
theorem next_seven {B : Wm} (hok : B.ok = true) : B.nextA [0, 0, 0, 0, 0, 0, 0] = ((0, 0), 3) := by
  unfold Wm.nextA
  rw [show offersE [0, 0, 0, 0, 0, 0, 0] = 3 from by decide, say_bad hok (by decide)]
theorem next_none {B : Wm} (hok : B.ok = true) : B.nextA [] = ((0, 0), 2) := by
  unfold Wm.nextA
  rw [show offersE [] = 2 from by decide, say_bad hok (by decide)]
theorem shI_zero (m l c : Int) : shI m l c 0 = l := by unfold shI; simp
theorem warms_bd {m : Int} {p : Int × Int} {r : Wr} (h : vWr r = true) : ∀ x ∈ warms m p r, -30000 ≤ x ∧ x ≤ 30000 := by
  intro x hx
  have h1 := (warms_mem.1 hx).1
  have h2 := vWr_facts h
  omega
/-- What is told of the pairs gone through: the ends of their lists. -/
theorem fin_yes {B : Wm} (hok : B.ok = true) (ht : B.truths.isEmpty = false) {r : Wr} {m : Nat} {L1 L2 L3 : List Int} (z : PZ B r m L1 L2 L3) :
    ∃ la lb ca cb, B.lenA = ((la, lb), 0) ∧ B.coeffA = ((ca, cb), 0) ∧ B.showsA 0 0 = ((la, lb), 0) ∧ (∀ u v, EndS L1 L1.length u v → u = la ∧ v = lb) ∧ (∀ u v, EndS L2 L2.length u v → u = ca ∧ v = cb) := by
  have hT : B.truths ≠ [] := fun e => by rw [e] at ht; cases ht
  have b1 : ∀ x ∈ B.truths.map (fun p => p.1.1), -30000 ≤ x ∧ x ≤ 30000 := fun x hx => by
    obtain ⟨p, _, rfl⟩ := List.mem_map.1 hx
    have := p.2
    omega
  have b2 : ∀ x ∈ B.truths.map (fun p => p.1.2), -30000 ≤ x ∧ x ≤ 30000 := fun x hx => by
    obtain ⟨p, _, rfl⟩ := List.mem_map.1 hx
    have := p.2
    omega
  refine ⟨_, _, _, _, say_yes hok ht, say_yes hok ht, ?_, fun u v h => EndS.all h (by simpa using hT) z.l1 b1, fun u v h => EndS.all h (by simpa using hT) z.l2 b2⟩
  unfold Wm.showsA
  rw [if_pos (by decide), say_yes hok ht]
  have e : B.showL 0 0 = B.truths.map (fun p => p.1.1) := by
    unfold Wm.showL
    rw [List.map_eq_flatMap]
    congr 1
    funext p
    unfold shTo
    simp [shP, shI_zero]
  rw [e]
theorem fin_held {B : Wm} (hok : B.ok = true) (ht : B.truths.isEmpty = false) {r : Wr} {m : Nat} {L1 L2 L3 : List Int} (z : PZ B r m L1 L2 L3) {n : Nat} (hn : n < B.rs.length) (hr : B.rs[n]?.getD (0, 0, 0, 0) = r) :
    ∃ ha hb, B.heldA n = ((ha, hb), 0) ∧ (∀ u v, EndS L3 L3.length u v → u = ha ∧ v = hb) := by
  have hT : B.truths ≠ [] := fun e => by rw [e] at ht; cases ht
  have hne : B.rs ≠ [] := fun e => by rw [e] at hn; cases hn
  have hrm : r ∈ B.rs := by rw [← hr, List.getElem?_eq_getElem hn]; exact List.getElem_mem hn
  have hv := (vWrs_at (Wm.ok_reads hok)).2 r hrm
  have e : B.heldL n = B.truths.flatMap (fun p => warms B.mark p.1 r) := by unfold Wm.heldL; rw [hr]
  refine ⟨loI (B.heldL n), hiI (B.heldL n), ?_, fun u v h => EndS.all h ?_ ?_ ?_⟩
  · unfold Wm.heldA
    rw [if_pos ⟨by omega, by omega⟩, say_yes hok ht, Int.toNat_natCast]
  · obtain ⟨p, hp⟩ := List.exists_mem_of_ne_nil _ hT
    have hc := List.all_eq_true.1 (List.mem_filter.1 hp).2 r hrm
    intro h0
    rw [e, List.flatMap_eq_nil_iff] at h0
    have := h0 p hp
    unfold canB at hc
    rw [this] at hc
    cases hc
  · rw [e]; exact z.l3 hne
  · intro x hx
    rw [e] at hx
    obtain ⟨p, _, hp⟩ := List.mem_flatMap.1 hx
    exact warms_bd hv x hp
theorem fin_no {B : Wm} (hok : B.ok = true) (ht : B.truths.isEmpty = true) : B.lenA = ((0, 0), 10) ∧ B.coeffA = ((0, 0), 10) ∧ B.showsA 0 0 = ((0, 0), 10) := by
  refine ⟨say_none hok ht, say_none hok ht, ?_⟩
  unfold Wm.showsA
  rw [if_pos (by decide), say_none hok ht]
theorem held_out {B : Wm} (hok : B.ok = true) (h : B.rs.length = 0) : B.heldA 0 = ((0, 0), 2) := by
  unfold Wm.heldA
  rw [if_neg (by omega), say_bad hok (by decide)]
theorem held_no {B : Wm} (hok : B.ok = true) (ht : B.truths.isEmpty = true) {n : Nat} (hn : n < B.rs.length) : B.heldA n = ((0, 0), 10) := by
  unfold Wm.heldA
  rw [if_pos ⟨by omega, by omega⟩, say_none hok ht]
/-- What is told once all pairs are gone through. -/
theorem fin_all {B : Wm} (hok : B.ok = true) {r : Wr} {m : Nat} {L1 L2 L3 : List Int} (z : PZ B r m L1 L2 L3) (n : Nat) (hn : 0 < B.rs.length → n < B.rs.length ∧ B.rs[n]?.getD (0, 0, 0, 0) = r) (hn0 : B.rs.length = 0 → n = 0) :
    ∃ la lb ca cb ha hb er eh, B.lenA = ((la, lb), er) ∧ B.coeffA = ((ca, cb), er) ∧ B.showsA 0 0 = ((la, lb), er) ∧ B.heldA n = ((ha, hb), eh) ∧ (0 < B.rs.length → eh = er) ∧
      ((er = 10 ∧ la = 0 ∧ lb = 0 ∧ ca = 0 ∧ cb = 0 ∧ m = 0) ∨ (er = 0 ∧ 0 < m ∧ (∀ u v, EndS L1 L1.length u v → u = la ∧ v = lb) ∧ (∀ u v, EndS L2 L2.length u v → u = ca ∧ v = cb) ∧ (0 < B.rs.length → ∀ u v, EndS L3 L3.length u v → u = ha ∧ v = hb))) := by
  cases ht : B.truths.isEmpty with
  | true =>
    obtain ⟨e1, e2, e3⟩ := fin_no hok ht
    have hm : m = 0 := by rw [z.cnt, List.isEmpty_iff.1 ht]; rfl
    rcases Nat.eq_zero_or_pos B.rs.length with h0 | h0
    · exact ⟨0, 0, 0, 0, 0, 0, 10, 2, e1, e2, e3, by rw [hn0 h0]; exact held_out hok h0, fun h => by omega, .inl ⟨rfl, rfl, rfl, rfl, rfl, hm⟩⟩
    · exact ⟨0, 0, 0, 0, 0, 0, 10, 10, e1, e2, e3, held_no hok ht (hn h0).1, fun _ => rfl, .inl ⟨rfl, rfl, rfl, rfl, rfl, hm⟩⟩
  | false =>
    obtain ⟨la, lb, ca, cb, e1, e2, e3, h1, h2⟩ := fin_yes hok ht z
    have hm : 0 < m := by
      have hT : B.truths ≠ [] := fun e => by rw [e] at ht; cases ht
      rw [z.cnt]
      exact List.length_pos_iff.2 hT
    rcases Nat.eq_zero_or_pos B.rs.length with h0 | h0
    · exact ⟨la, lb, ca, cb, 0, 0, 0, 2, e1, e2, e3, by rw [hn0 h0]; exact held_out hok h0, fun h => by omega, .inr ⟨rfl, hm, h1, h2, fun h => by omega⟩⟩
    · obtain ⟨ha, hb, e4, h3⟩ := fin_held hok ht z (hn h0).1 (hn h0).2
      exact ⟨la, lb, ca, cb, ha, hb, 0, 0, e1, e2, e3, e4, fun _ => rfl, .inr ⟨rfl, hm, h1, h2, fun _ => h3⟩⟩
/-- The warmths of one pair that are gone through. -/
def Wn (m a b : Int) (r : Wr) (t : Int) (L L' : List Int) : Prop := (∀ x, x ∈ L' ↔ x ∈ L ∨ ((r.1 ≤ x ∧ x < t) ∧ r.2.2.1 ≤ shI m a b x ∧ shI m a b x ≤ r.2.2.2)) ∧ L'.length ≤ L.length + (t - r.1).toNat
theorem Wn.start (m a b : Int) (r : Wr) (L : List Int) : Wn m a b r r.1 L L := ⟨fun x => ⟨.inl, fun h => h.resolve_right (fun h => by omega)⟩, by omega⟩
theorem Wn.yes {m a b : Int} {r : Wr} {t : Int} {L L' : List Int} (h : Wn m a b r t L L') (ht : r.1 ≤ t) (hs : r.2.2.1 ≤ shI m a b t ∧ shI m a b t ≤ r.2.2.2) : Wn m a b r (t + 1) L (L' ++ [t]) := by
  refine ⟨fun x => ?_, by rw [List.length_append, List.length_singleton]; have := h.2; omega⟩
  rw [List.mem_append, List.mem_singleton, h.1]
  constructor
  · rintro ((h | h) | rfl)
    · exact .inl h
    · exact .inr ⟨by omega, h.2⟩
    · exact .inr ⟨by omega, hs⟩
  · rintro (h | h)
    · exact .inl (.inl h)
    · by_cases e : x = t
      · exact .inr e
      · exact .inl (.inr ⟨by omega, h.2⟩)
theorem Wn.no {m a b : Int} {r : Wr} {t : Int} {L L' : List Int} (h : Wn m a b r t L L') (ht : r.1 ≤ t) (hs : ¬ (r.2.2.1 ≤ shI m a b t ∧ shI m a b t ≤ r.2.2.2)) : Wn m a b r (t + 1) L L' := by
  refine ⟨fun x => ?_, by have := h.2; omega⟩
  rw [h.1]
  refine or_congr_right ⟨fun h => ⟨by omega, h.2⟩, fun h => ?_⟩
  by_cases e : x = t
  · subst e; exact absurd h.2 hs
  · exact ⟨by omega, h.2⟩
theorem Wn.stop {m a b : Int} {r : Wr} {t : Int} {L L' : List Int} (h : Wn m a b r t L L') (ht : t = r.2.1 + 1) (hw : r.2.1 - r.1 ≤ 4) {p : Pr} (hp : p.1 = (a, b)) : (∀ x, x ∈ L' ↔ x ∈ L ∨ x ∈ warms m p.1 r) ∧ L'.length ≤ L.length + 5 := by
  refine ⟨fun x => ?_, by have := h.2; omega⟩
  rw [h.1, warms_mem, hp]
  refine or_congr_right (and_congr_left fun _ => ?_)
  omega
end Go.Proofs.Ytdfiebfgmpdceaa
