/-
  WARM: fewestClashing.
-/
import Derived.Test.YtmhpgjlegajpeaaD2
import Derived.Test.YtmhpgjlegajpeaaD4
import Derived.Test.YtmhpgjlegajpeaaB7
import Derived.Test.YtmhpgjlegajpeaaC2
import Derived.Test.YtmhpgjlegajpeaaR2
namespace Go.Proofs.Ytmhpgjlegajpeaa
open Go.RowKit Go.Shelf Go.Maps
attribute [local go_sem] Oper.semAt_some

/-- Is there no truth with the readings of a set alone? -/
def Wm.clB (B : Wm) (s : Nat) : Bool := (B.leftBy (wo B.rs s)).isEmpty
/-- The sets of fewer than k of n readings: smaller sets first. -/
def fewL (n k : Nat) : List Nat := (List.range k).flatMap fun c => growL n 0 c
theorem fewL_succ (n k : Nat) : fewL n (k + 1) = fewL n k ++ growL n 0 k := by
  simp only [fewL, List.range_succ, List.flatMap_append, List.flatMap_cons, List.flatMap_nil, List.append_nil]
theorem fewL_pre {n c d : Nat} (h : c ≤ d) : fewL n c <+: fewL n d := by
  induction d with
  | zero => obtain rfl : c = 0 := by omega
            exact List.prefix_refl _
  | succ d ih =>
    by_cases e : c = d + 1
    · subst e; exact List.prefix_refl _
    · refine (ih (by omega)).trans ?_
      rw [fewL_succ]; exact List.prefix_append _ _
/-- The fewest readings that clash. -/
def Wm.few (B : Wm) : Option Nat := (fewL B.rs.length (B.rs.length + 1)).find? B.clB
def fewV (o : Option Nat) : Value := match o with | some x => .tuple #[.int .i64 ((x : Nat) : Int), .bool true] | none => .tuple #[.int .i64 0, .bool false]
theorem find_pre {α : Type} {p : α → Bool} {pre l : List α} {x : α} (h : pre ++ [x] <+: l) (hp : p x = true) (hn : ∀ y ∈ pre, p y = false) : l.find? p = some x := by
  obtain ⟨t, rfl⟩ := h
  rw [List.find?_append, List.find?_append, List.find?_eq_none.2 (fun y hy => by simp [hn y hy])]
  simp [hp]
theorem find_none {α : Type} {p : α → Bool} {l : List α} (hn : ∀ y ∈ l, p y = false) : l.find? p = none := List.find?_eq_none.2 (fun y hy => by simp [hn y hy])

/-- What lies in memory while fewestClashing goes on: its block, its two results, all readings. -/
structure FwS (B : Wm) (w : World) (b4 : Nat) (a : Option Addr) (W : World) : Prop where
  box : B.Box W w.heap.size
  r1 : W.cell? ⟨w.heap.size + 1, 0, none⟩ = some (.int .i64 0)
  r2 : W.cell? ⟨w.heap.size + 1 + 1, 0, none⟩ = some (.bool false)
  f1 : W.frozen? ⟨w.heap.size + 1, 0, none⟩ = false
  f2 : W.frozen? ⟨w.heap.size + 1 + 1, 0, none⟩ = false
  c4 : W.cell? ⟨b4, 0, none⟩ = some (.slice a B.rs.length B.rs.length)
  hg : Rgs W a B.rs
  hb : ∀ b o, a = some ⟨b, o, none⟩ → b < b4
  hw : w.heap.size + 1 + 1 < b4
  k : Keeps w W
theorem FwS.keep {B : Wm} {w : World} {b4 : Nat} {a : Option Addr} {W W' : World} (h : FwS B w b4 a W) (k : Keeps W W') : FwS B w b4 a W' :=
  ⟨h.box.keep k, k.cell h.r1, k.cell h.r2, (k.cells.2 _ _ (lt_of_cell h.r1)).trans h.f1, (k.cells.2 _ _ (lt_of_cell h.r2)).trans h.f2, k.cell h.c4, h.hg.keep k, h.hb, h.hw, h.k.trans k⟩
theorem FwS.grown {B : Wm} {w : World} {b4 : Nat} {a : Option Addr} {W W' : World} {row : Option Nat} (h : FwS B w b4 a W) (hg : W.grownBy W' row) (hr : ∀ r, row = some r → b4 < r) : FwS B w b4 a W' := by
  have hw := h.hw
  have hc : ∀ b o v, b ≤ b4 → W.cell? ⟨b, o, none⟩ = some v → W'.cell? ⟨b, o, none⟩ = some v := fun b o v hb hv => hg.cell hv (fun e => by have := hr _ e.symm; dsimp only at this; omega)
  have hf : ∀ b o v, b ≤ b4 → W.cell? ⟨b, o, none⟩ = some v → W'.frozen? ⟨b, o, none⟩ = W.frozen? ⟨b, o, none⟩ := fun b o v hb hv => World.frozen?_of_block (hg.block b (lt_of_cell hv) (fun e => by have := hr _ e.symm; omega))
  refine ⟨⟨hc _ _ _ (by omega) h.box.c0, hc _ _ _ (by omega) h.box.c1, hc _ _ _ (by omega) h.box.c2, hc _ _ _ (by omega) h.box.c3, hc _ _ _ (by omega) h.box.c4, hc _ _ _ (by omega) h.box.c5⟩, hc _ _ _ (by omega) h.r1, hc _ _ _ (by omega) h.r2,
    (hf _ _ _ (by omega) h.r1).trans h.f1, (hf _ _ _ (by omega) h.r2).trans h.f2, hc _ _ _ (Nat.le_refl _) h.c4, fun hne => ?_, h.hb, h.hw, Below.grown h.k hg h.k.size (fun r e => by have := hr r e; omega)⟩
  obtain ⟨b, o, e, hi⟩ := h.hg hne
  exact ⟨b, o, e, fun i hl => hc _ _ _ (by have := h.hb b o e; omega) (hi i hl)⟩
theorem FwS.lt {B : Wm} {w : World} {b4 : Nat} {a : Option Addr} {W : World} (h : FwS B w b4 a W) : b4 < W.heap.size := lt_of_cell h.c4
theorem CollAt.grown {n0 : Nat} {Ds : List Nat} {W W' : World} {row : Option Nat} {m : Nat} (h : CollAt n0 Ds W) (hg : W.grownBy W' row) (hm : W.heap.size = m) (hr : ∀ r, row = some r → m ≤ r) : CollAt n0 Ds W' :=
  h.keep (fun E hE => hg.block E (h.lt hE) (fun e => by have := hr _ e.symm; have := h.lt hE; omega))

set_option maxRecDepth 100000 in
set_option maxHeartbeats 6400000 in
theorem fewest_any (B : Wm) (w : World) (hI : B.In w) (hok : B.ok = true) : Calls Try.prog 87 #[B.v] w (Ret (fewV B.few) w) := by
  have hL := Wm.ok_lim hok
  have hrl := (vWrs_at (Wm.ok_reads hok)).1
  have hrw := fun r hr => vWr_okW ((vWrs_at (Wm.ok_reads hok)).2 r hr)
  have H1 := Lib.hid (fun w1 (k : Keeps w w1) => readings_at B w1 (hI.keep k) hok)
  have H2 := Lib.hid (fun a s w1 hg hs => only_any a B.rs.length B.rs s w1 hg hrl hs)
  have H3 := Lib.hid (fun s a cap w1 hg hb => left_any B hL (wo B.rs s) a cap w1 (fun r hr => hrw r (wo_sub _ _ r hr)) (Nat.le_trans (keptTo_len B.rs s 0 (Nat.zero_le _)).2 hrl) hg hb)
  have HF := Lib.hid (show B.few = (fewL B.rs.length (B.rs.length + 1)).find? B.clB from rfl)
  have HC := Lib.hid (show ∀ s, B.clB s = (B.leftBy (wo B.rs s)).isEmpty from fun _ => rfl)
  have SO := Lib.hid (fun s r w1 => setsOf_any s r w1)
  have ST := Lib.hid (fun c b1 b2 X w1 hc hX h1 h2 => setsOf_stops 3 b1 b2 X B.rs.length c hrl hc w1 hX h1 h2)
  obtain ⟨cl, hcl⟩ : ∃ cl, B.clB = cl := ⟨_, rfl⟩
  rw [hcl] at HF HC
  obtain ⟨mark, llo, lhi, clo, chi, ra, rc, rs⟩ := B
  dsimp only [Wm.v] at *
  clear hL hrw hok hI hcl
  have hfw : ∀ f, Fence.wide.fn f := fun _ => trivial
  refine (callsIn_wide (n := 4)).1 ?_
  refine callsIn_of_wp_marks Try.func87 rfl trivial ?_ rfl
  simp only [Try.ntmps87, List.size_toArray, List.length_cons, List.length_nil, Nat.reduceAdd, Nat.reduceSub, Array.replicate_succ, Array.replicate_zero, List.push_toArray, List.append_toArray, List.nil_append, List.cons_append]
  have k0 := (((Keeps.refl w).alloc (.cells #[.int .i64 mark, .int .i64 llo, .int .i64 lhi, .int .i64 clo, .int .i64 chi, .slice ra rs.length rc] 26)).alloc (.cells #[.int .i64 0] 122)).alloc (.cells #[.bool false] 4)
  gi_wp2_with fail
  refine ((callsIn_wide (n := 4 - 1)).2 (H1.out _ k0)).mono ?_
  rintro e w1 ⟨a, rfl, hg, hb, k1⟩
  gi_wp2_with fail
  have hs0 := k1.size
  simp only [World.size_alloc] at hs0
  obtain ⟨b4, hb4⟩ : ∃ b4, w1.heap.size = b4 := ⟨_, rfl⟩
  obtain ⟨n, hn⟩ : ∃ n, rs.length = n := ⟨_, rfl⟩
  have F0 : FwS ⟨mark, llo, lhi, clo, chi, ra, rc, rs⟩ w b4 a (w1.alloc (.cells #[.slice a rs.length rs.length] 96)) := by
    have kk := k1.trans ((Keeps.refl w1).alloc (.cells #[.slice a rs.length rs.length] 96))
    refine ⟨((((Wm.Box.new ⟨mark, llo, lhi, clo, chi, ra, rc, rs⟩ w).keep ((Keeps.refl _).alloc _)).keep ((Keeps.refl _).alloc _)).keep kk), kk.cell (by simp [go_sem]), kk.cell (by simp [go_sem]), ?_, ?_, by rw [← hb4]; simp [go_sem], hg.keep ((Keeps.refl w1).alloc _), fun b o e => by rw [← hb4]; exact hb b o e, by omega, k0.trans kk⟩
    · rw [kk.cells.2 _ _ (by simp)]; simp [go_sem]
    · rw [kk.cells.2 _ _ (by simp)]; simp [go_sem]
  rw [hb4]
  rw [hn] at F0 hrl ST HF H1 H2 H3 ⊢
  clear hg hb k0 k1 hs0
  obtain ⟨W1, hW1⟩ : ∃ W1, w1.alloc (.cells #[.slice a n n] 96) = W1 := ⟨_, rfl⟩
  rw [hW1] at F0 ⊢
  clear hW1 hb4 w1
  refine wpIn_loop (fun a' w' => ∃ (Ds : List Nat) (k : Nat) (u5 u6 u13 u14 u15 u16 u17 u18 u19 u20 u21 u22 u23 u24 u25 u26 u27 u28 : Value),
    (FwS ⟨mark, llo, lhi, clo, chi, ra, rc, rs⟩ w b4 a w' ∧ CollAt (b4 + 1) Ds w' ∧ k ≤ n + 1 ∧ (∀ y ∈ fewL n k, cl y = false)) ∧
      a' = { tmps := #[.agg #[.int .i64 mark, .int .i64 llo, .int .i64 lhi, .int .i64 clo, .int .i64 chi, .slice ra n rc], .pointer (some ⟨w.heap.size, 0, none⟩), .pointer (some ⟨w.heap.size + 1, 0, none⟩), .pointer (some ⟨w.heap.size + 1 + 1, 0, none⟩), .pointer (some ⟨b4, 0, none⟩), u5, u6,
        .agg #[.int .i64 mark, .int .i64 llo, .int .i64 lhi, .int .i64 clo, .int .i64 chi, .slice ra n rc], .slice a n n, .slice a n n, .int .i64 ((n : Nat) : Int), .int .i64 (((n : Nat) : Int) + 1), .int .i64 ((k : Nat) : Int), u13, u14, u15, u16, u17, u18, u19, u20, u21, u22, u23, u24, u25, u26, u27, u28], defers := coll Ds })
    (fun a' _ => n + 2 - (intOf (a'.tmps.getD 12 undef)).toNat) ?start ?round
  case start => exact ⟨[], 0, _, _, _, _, _, _, _, _, _, _, _, _, _, _, _, _, _, _, ⟨F0, ⟨List.nodup_nil, fun D hD => absurd hD List.not_mem_nil⟩, by omega, fun y hy => absurd hy List.not_mem_nil⟩, rfl⟩
  case round =>
    rintro a' wr ⟨Ds, k, u5, u6, u13, u14, u15, u16, u17, u18, u19, u20, u21, u22, u23, u24, u25, u26, u27, u28, ⟨hF, hC, hk, hno⟩, rfl⟩
    have HNo := Lib.hid hno
    have HFw := Lib.hid hF
    have c4 := hF.c4
    have hl4 := hF.lt
    have hbw := hF.hw
    rw [show Wm.rs ⟨mark, llo, lhi, clo, chi, ra, rc, rs⟩ = rs from rfl, hn] at c4
    clear F0 hno hF
    by_cases hlt : k ≤ n
    · have S1 := Lib.hid (fun w2 => (callsIn_wide (n := 4 - 1)).2 (SO.out ((k : Nat) : Int) ((n : Nat) : Int) w2))
      have hdk : decide (((k : Nat) : Int) < ((n : Nat) : Int) + 1) = true := by simp; omega
      gi_wp2_with fail
      refine (S1.out _).mono ?_
      rintro e w2 ⟨rfl, k2, s1, s2⟩
      have hs2 := k2.size
      have hF2 := HFw.out.keep k2
      have hC2 : CollAt (b4 + 1) Ds w2 := hC.keep (fun E hE => k2.heap (hC.lt hE))
      have HDlt := Lib.hid (fun E (hE : E ∈ Ds) => Nat.lt_of_lt_of_le (hC.lt hE) hs2)
      have hl4b := hF2.lt
      gi_wp2_with fail
      refine wpIn_rangeFunc_ownF rfl (by omega) (gf := 114) (lb := #[.pointer (some ⟨wr.heap.size + 1, 0, none⟩), .pointer (some ⟨wr.heap.size, 0, none⟩)]) rfl trivial (enters_of Try.func114 (by kernel_rfl) rfl)
        (ST.out k _ _ (fun _ => False) w2 (by omega) (fun _ h => h.elim) s1 s2) (fun h k => KeepX.trans h k) KeepX.putObj (Below.refl _ _) (fun _ => rfl)
        (fun pre W => (FwS ⟨mark, llo, lhi, clo, chi, ra, rc, rs⟩ w b4 a W ∧ CollAt (b4 + 1) Ds W) ∧ ∀ y ∈ pre, cl y.val = false)
        (fun c pre W => (∃ (pre' : List (Fin 32)) (x : Fin 32), c = .ret ∧ pre = pre' ++ [x] ∧ cl x.val = true ∧ (∀ y ∈ pre', cl y.val = false) ∧ W.cell? ⟨w.heap.size + 1, 0, none⟩ = some (.int .i64 ((x.val : Nat) : Int)) ∧ W.cell? ⟨w.heap.size + 1 + 1, 0, none⟩ = some (.bool true)) ∧ CollAt (b4 + 1) Ds W ∧ Keeps w W)
        (fun s A C row hs hg hr => ⟨⟨hs.1.1.grown hg (fun r e => by have := (hr r e).1; omega), hs.1.2.keep (fun E hE => hg.block E (hs.1.2.lt hE) (fun e => by have := (hr _ e.symm).1; have := HDlt.out E hE; omega))⟩, hs.2⟩)
        (fun c s A C row hs hg hr => by
          obtain ⟨⟨pre', x, q0, q1, q2, q3, q4, q5⟩, q6, q7⟩ := hs
          exact ⟨⟨pre', x, q0, q1, q2, q3, cell_kept q4 hg (fun r e => (hr r e).2), cell_kept q5 hg (fun r e => (hr r e).2)⟩, q6.keep (fun E hE => hg.block E (q6.lt hE) (fun e => by have := (hr _ e.symm).1; have := HDlt.out E hE; omega)), Below.grown q7 hg q7.size (fun r e => by have := (hr r e).1; omega)⟩)
        ⟨⟨hF2, hC2⟩, fun y hy => absurd hy List.not_mem_nil⟩
        (fun x => { tmps := #[.agg #[.int .i64 mark, .int .i64 llo, .int .i64 lhi, .int .i64 clo, .int .i64 chi, .slice ra n rc], .pointer (some ⟨w.heap.size, 0, none⟩), .pointer (some ⟨w.heap.size + 1, 0, none⟩), .pointer (some ⟨w.heap.size + 1 + 1, 0, none⟩), .pointer (some ⟨b4, 0, none⟩), .int .i64 ((k : Nat) : Int), .int .i64 ((x.val : Nat) : Int),
          .agg #[.int .i64 mark, .int .i64 llo, .int .i64 lhi, .int .i64 clo, .int .i64 chi, .slice ra n rc], .slice a n n, .slice a n n, .int .i64 ((n : Nat) : Int), .int .i64 (((n : Nat) : Int) + 1), .int .i64 ((k : Nat) : Int), .bool true, .int .i64 ((k : Nat) : Int), .int .i64 ((k : Nat) : Int), .slice a n n, .int .i64 ((n : Nat) : Int), .func (.func 114) #[] #[.pointer (some ⟨wr.heap.size + 1, 0, none⟩), .pointer (some ⟨wr.heap.size, 0, none⟩)], .int .i64 ((x.val : Nat) : Int), u20, u21, u22, u23, u24, u25, u26, u27, u28], defers := [] }) ?assign ?body ?done ?stop
      case assign =>
        intro l x W K hK
        gi_wp2
        simpa using hK
      case body =>
        rintro l pre x W ⟨⟨hF3, hC3⟩, hno3⟩ _
        obtain ⟨xn, hxl⟩ := x
        dsimp only
        have g0 := hF3.box.c0
        have g1 := hF3.box.c1
        have g2 := hF3.box.c2
        have g3 := hF3.box.c3
        have g4 := hF3.box.c4
        have g5 := hF3.box.c5
        have c4' := hF3.c4
        have hlw := lt_of_cell g0
        have hl4' := hF3.lt
        have O1 := Lib.hid (CallsIn.inRound l ((callsIn_wide (n := 4 - 1 - 1 - 1)).2 (H2.out a xn W.drew (hF3.hg.keep (Keeps.refl _).drew) hxl)))
        have L1 := Lib.hid (fun a' cap' w3 hg' hb' => CallsIn.inRound l ((callsIn_wide (n := 4 - 1 - 1 - 1)).2 (H3.out xn a' cap' w3 hg' hb')))
        have HCx := Lib.hid (HC.out xn)
        have HF3 := Lib.hid hF3
        have HC3 := Lib.hid hC3
        have HNo3 := Lib.hid hno3
        dsimp only at g0 g1 g2 g3 g4 g5 c4'
        rw [hn] at g5 c4'
        clear hF3 hC3 hno3 hF2 hC2 c4
        haveI : Nonempty (Since W.drew) := Since.some _
        have k0 := (Keeps.refl W).drew
        have j0 : ∀ q : Since W.drew, q.W.cell? ⟨w.heap.size, 0, none⟩ = some (.int .i64 mark) := fun q => (k0.trans q.keeps).cell g0
        have j1 : ∀ q : Since W.drew, q.W.cell? ⟨w.heap.size, 1, none⟩ = some (.int .i64 llo) := fun q => (k0.trans q.keeps).cell g1
        have j2 : ∀ q : Since W.drew, q.W.cell? ⟨w.heap.size, 2, none⟩ = some (.int .i64 lhi) := fun q => (k0.trans q.keeps).cell g2
        have j3 : ∀ q : Since W.drew, q.W.cell? ⟨w.heap.size, 3, none⟩ = some (.int .i64 clo) := fun q => (k0.trans q.keeps).cell g3
        have j4 : ∀ q : Since W.drew, q.W.cell? ⟨w.heap.size, 4, none⟩ = some (.int .i64 chi) := fun q => (k0.trans q.keeps).cell g4
        have j5 : ∀ q : Since W.drew, q.W.cell? ⟨w.heap.size, 5, none⟩ = some (.slice ra n rc) := fun q => (k0.trans q.keeps).cell g5
        have jc : ∀ q : Since W.drew, q.W.cell? ⟨b4, 0, none⟩ = some (.slice a n n) := fun q => (k0.trans q.keeps).cell c4'
        have hmx : Try.prog.follows .mixedOrders = true := by kernel_rfl
        gi_wp2_with fail
        refine region_mix 7 [(0, [0, 1, 2]), (1, [3]), (1, [4]), (0, [5, 6])] (fun _ => trivial) (fun _ _ _ _ _ h => h) (by kernel_rfl) hmx (by kernel_rfl) (by kernel_rfl) ?_
        show wpQuietIn _ _ _ _ _ _ [_, _, _] _
        iterate 3 (gi_big_quiet_step (fail))
        refine wpQuietIn_nil ?_
        show wpListIn _ _ _ _ _ [_] _ _
        gi_wp2_with fail
        rename_i hK1
        refine O1.out.mono ?_
        rintro e w3 ⟨⟨B1, cap1, rfl, hB1, hB2, hg1⟩, k3⟩
        refine hK1 _ _ ⟨rfl, k3, ?_⟩
        show wpListIn _ _ _ _ _ [_] _ _
        gi_wp2_with fail
        rename_i hK2
        refine (L1.out _ _ _ hg1 (fun b o e => by cases e; exact hB2)).mono ?_
        rintro e w5 ⟨bm, rfl, hp, k5, _⟩
        refine hK2 _ _ ⟨rfl, k5, ?_⟩
        haveI : Nonempty (Since w5) := Since.some _
        have hlen : ∀ q : Since w5, _ := fun q => (hp.keep q.keeps).len
        have hcx := HCx.out
        obtain ⟨ts, hts⟩ : ∃ ts, Wm.leftBy ⟨mark, llo, lhi, clo, chi, ra, rc, rs⟩ (wo rs xn) = ts := ⟨_, rfl⟩
        rw [hts] at hcx hlen
        have kall := (k0.trans k3).trans k5
        obtain ⟨v, hv⟩ : ∃ v, cl xn = v := ⟨_, rfl⟩
        have hl' : ((ts.length : Int) == 0) = v := (show ((ts.length : Int) == 0) = (ts.length == 0) by rw [Bool.eq_iff_iff]; simp).trans ((show (ts.length == 0) = ts.isEmpty by cases ts <;> rfl).trans (hcx.symm.trans hv))
        have HV := Lib.hid hv
        clear hcx hv hts j0 j1 j2 j3 j4 j5 jc hp
        show wpQuietIn _ _ _ _ _ _ [_, _] _
        iterate 2 (gi_big_quiet_step (fail))
        refine wpQuietIn_nil ?_
        have r1 := HF3.out.r1
        have r2 := HF3.out.r2
        have f1 := HF3.out.f1
        have f2 := HF3.out.f2
        have q1 := kall.cell r1
        have q2 := kall.cell r2
        have z1 := (kall.cells.2 _ _ (lt_of_cell r1)).trans f1
        have z2 := (kall.cells.2 _ _ (lt_of_cell r2)).trans f2
        clear r1 r2 f1 f2 hlen
        unfold wpMix
        cases v
        · gi_wp2_with fail
          exact ⟨others_of kall, KeepX.of_keeps kall, ⟨HF3.out.keep kall, HC3.out.keep (fun E hE => kall.heap (HC3.out.lt hE))⟩, fun y hy => by
            rcases List.mem_append.1 hy with h | h
            · exact HNo3.out y h
            · rw [List.mem_singleton.1 h]; exact HV.out⟩
        · gi_wp2_with fail
          refine ⟨((others_of kall).trans (KeepsOthers.setCell _ _ _)).trans (KeepsOthers.setCell _ _ _), ⟨pre, ⟨xn, hxl⟩, rfl, rfl, HV.out, HNo3.out, ?_, ?_⟩, HC3.out.keep (fun E hE => ?_), ((HF3.out.k.trans kall).setCell _ (by simp)).setCell _ (by simp; omega)⟩
          · exact (cell_set_other (by omega)).trans (cell_set_same (by rw [q1]; rfl))
          · exact cell_set_same (by rw [cell_set_other (by omega), q2]; rfl)
          · have hE1 := (HC3.out.2 E hE).1
            exact (Below.heap_setCell _ _ _ _ (by dsimp only; omega)).trans ((Below.heap_setCell _ _ _ _ (by dsimp only; omega)).trans (kall.heap (HC3.out.lt hE)))
      case done =>
        rintro D ys W hD hys ⟨⟨hF3, hC3⟩, hno3⟩ hK
        have HE := Lib.hid (show ∀ y ∈ fewL n (k + 1), cl y = false from fun y hy => by
          rw [fewL_succ] at hy
          rcases List.mem_append.1 hy with h | h
          · exact HNo.out y h
          · rw [← hys] at h
            obtain ⟨z, hz, rfl⟩ := List.mem_map.1 h
            exact hno3 z hz)
        have HF3 := Lib.hid hF3
        have HC3 := Lib.hid hC3
        clear hys hno3 hF3 hC3
        gi_wp2_with fail
        refine ⟨⟨D :: Ds, k + 1, _, _, _, _, _, _, _, _, _, _, _, _, _, _, _, _, _, _, ⟨HF3.out, HC3.out.cons HDlt.out hD (by omega) hK, by omega, HE.out⟩, by rfl⟩, ?_⟩
        simp [intOf]
        omega
      case stop =>
        rintro D c pre W hD hpre ⟨⟨pre', x, rfl, rfl, hcx, hno3, q1, q2⟩, hC3, hkW⟩ hK
        have HP := Lib.hid hpre
        have HN3 := Lib.hid hno3
        have HX := Lib.hid hcx
        have HE := Lib.hid (show List.find? cl (fewL n (n + 1)) = some x.val from by
          refine find_pre (pre := fewL n k ++ pre'.map (·.val)) ?_ hcx (fun y hy => ?_)
          · refine List.IsPrefix.trans ?_ (fewL_pre (show k + 1 ≤ n + 1 by omega))
            rw [fewL_succ, List.append_assoc]
            refine (List.prefix_append_right_inj _).2 ?_
            rw [List.map_append] at hpre
            exact hpre
          · rcases List.mem_append.1 hy with h | h
            · exact HNo.out y h
            · obtain ⟨z, hz, rfl⟩ := List.mem_map.1 h
              exact hno3 z hz)
        clear hpre hno3 hcx
        gi_wp2
        refine leaves_coll (n0 := b4 + 1) (fun W' => W'.cell? ⟨w.heap.size + 1, 0, none⟩ = some (.int .i64 ((x.val : Nat) : Int)) ∧ W'.cell? ⟨w.heap.size + 1 + 1, 0, none⟩ = some (.bool true) ∧ Keeps w W') (fun W' E h1 h2 h3 => ?_) (D :: Ds) W (hC3.cons HDlt.out hD (by omega) hK) ⟨q1, q2, hkW⟩ (fun W' hW' => ?_)
        · obtain ⟨h4, h5, h6⟩ := h1
          exact ⟨cell_kept h4 (grownBy_putObj' _ E _) (fun r e => by cases e; exact ⟨_, h3, rfl⟩), cell_kept h5 (grownBy_putObj' _ E _) (fun r e => by cases e; exact ⟨_, h3, rfl⟩), keeps_putObj h6 _ (by omega)⟩
        · obtain ⟨h4, h5, h6⟩ := hW'
          refine ⟨.tuple #[.int .i64 ((x.val : Nat) : Int), .bool true], ?_, by rw [HF.out, HE.out]; rfl, h6⟩
          simp [results, Try.f87, go_sem, h4, h5]
    · have hk1 : k = n + 1 := by omega
      subst hk1
      have r1 := HFw.out.r1
      have r2 := HFw.out.r2
      have f1 := HFw.out.f1
      have f2 := HFw.out.f2
      have hl2 := lt_of_cell r2
      gi_wp2_with fail
      refine leaves_coll (n0 := b4 + 1) (fun W' => W'.cell? ⟨w.heap.size + 1, 0, none⟩ = some (.int .i64 0) ∧ W'.cell? ⟨w.heap.size + 1 + 1, 0, none⟩ = some (.bool false) ∧ Keeps w W') (fun W' E h1 h2 h3 => ?_) Ds _ (hC.keep (fun E hE => ?_)) ⟨?_, ?_, (HFw.out.k.setCell _ (by simp)).setCell _ (by simp; omega)⟩ (fun W' hW' => ?_)
      · obtain ⟨h4, h5, h6⟩ := h1
        exact ⟨cell_kept h4 (grownBy_putObj' _ E _) (fun r e => by cases e; exact ⟨_, h3, rfl⟩), cell_kept h5 (grownBy_putObj' _ E _) (fun r e => by cases e; exact ⟨_, h3, rfl⟩), keeps_putObj h6 _ (by omega)⟩
      · have hE1 := (hC.2 E hE).1
        exact (Below.heap_setCell _ _ _ _ (by dsimp only; omega)).trans (Below.heap_setCell _ _ _ _ (by dsimp only; omega))
      · exact (cell_set_other (by omega)).trans (cell_set_same (by rw [r1]; rfl))
      · exact cell_set_same (by rw [cell_set_other (by omega), r2]; rfl)
      · obtain ⟨h4, h5, h6⟩ := hW'
        refine ⟨.tuple #[.int .i64 0, .bool false], ?_, by rw [HF.out, find_none HNo.out]; rfl, h6⟩
        simp [results, Try.f87, go_sem, h4, h5]
end Go.Proofs.Ytmhpgjlegajpeaa
