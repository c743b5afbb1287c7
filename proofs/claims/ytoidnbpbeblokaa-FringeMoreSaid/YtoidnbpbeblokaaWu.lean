/-
  Ask, its inner function: the colour to read next.
-/
import Derived.Test.YtoidnbpbeblokaaWt
namespace Go.Proofs.Ytoidnbpbeblokaa
open Go.RowKit

/-- After k colours: which is to be read, and how many lengths are left then at most. -/
def askTo (ws : List Int) (ts : List Ln) : Nat → Nat × Nat
  | 0 => (0, 0)
  | k + 1 => if k = 0 ∨ mostP (ws[k]?.getD 0) ts < (askTo ws ts k).2 then (k, mostP (ws[k]?.getD 0) ts) else askTo ws ts k

/-- best, in block B. -/
structure Best (w : World) (B : Nat) (x y : Int) : Prop where
  c0 : w.cell? ⟨B, 0, none⟩ = some (.int .i64 x)
  c1 : w.cell? ⟨B, 1, none⟩ = some (.int .i64 y)
  f0 : w.frozen? ⟨B, 0, none⟩ = false
  f1 : w.frozen? ⟨B, 1, none⟩ = false
theorem Best.keep {w w' : World} {B : Nat} {x y : Int} (h : Best w B x y) (k : Keeps w w') : Best w' B x y :=
  ⟨k.cell h.c0, k.cell h.c1, (k.cells.2 _ _ (lt_of_cell h.c0)).trans h.f0, (k.cells.2 _ _ (lt_of_cell h.c0)).trans h.f1⟩
theorem Best.new (w : World) (t : TypeId) : Best (w.alloc (.cells #[.int .i64 0, .int .i64 0] t)) w.heap.size 0 0 := ⟨by simp [go_sem], by simp [go_sem], by simp [go_sem], by simp [go_sem]⟩
theorem Best.set {w : World} {B : Nat} {x y x' y' : Int} (h : Best w B x y) : Best ((w.setCell ⟨B, 0, none⟩ (.int .i64 x')).setCell ⟨B, 1, none⟩ (.int .i64 y')) B x' y' :=
  ⟨(cell_set_other (by omega)).trans (cell_set_same (by rw [h.c0]; rfl)), cell_set_same (by rw [cell_set_other (by omega), h.c1]; rfl), by rw [World.frozen?_setCell, World.frozen?_setCell]; exact h.f0, by rw [World.frozen?_setCell, World.frozen?_setCell]; exact h.f1⟩
theorem Best.other {w : World} {B B' : Nat} {x y x' y' : Int} (h : Best w B x y) (hne : B ≠ B') : Best ((w.setCell ⟨B', 0, none⟩ (.int .i64 x')).setCell ⟨B', 1, none⟩ (.int .i64 y')) B x y :=
  ⟨(cell_set_other (by omega)).trans ((cell_set_other (by omega)).trans h.c0), (cell_set_other (by omega)).trans ((cell_set_other (by omega)).trans h.c1), by rw [World.frozen?_setCell, World.frozen?_setCell]; exact h.f0, by rw [World.frozen?_setCell, World.frozen?_setCell]; exact h.f1⟩
theorem Ints.set {w : World} {a : Option Addr} {xs : List Int} {B o' : Nat} {v : Value} (h : Ints w a xs) (hne : ∀ b o, a = some ⟨b, o, none⟩ → b ≠ B) : Ints (w.setCell ⟨B, o', none⟩ v) a xs := by
  intro hx
  obtain ⟨b, o, e, hc⟩ := h hx
  exact ⟨b, o, e, fun i hi => (cell_set_other (by have := hne b o e; omega)).trans (hc i hi)⟩

set_option maxHeartbeats 1600000 in
theorem Ask1_yes (F : Fr) (b0 : Nat) (w : World) (hI : F.In w) (hB : F.Box w b0) (hok : F.ok = true) (ht : F.truths ≠ []) :
    Calls Try.prog 41 #[.pointer (some ⟨b0, 0, none⟩)] w (Ret (.agg #[.int .i64 (askTo F.ws F.truths F.ws.length).1, .int .i64 (askTo F.ws F.truths F.ws.length).2]) w) := by
  have H1 := Lib.hid (fun w1 (k : Keeps w w1) => needFringe_yes F w1 (hI.keep k) hok)
  have H3 := Lib.hid (fun w1 (k : Keeps w w1) => needTruth_yes F w1 (hI.keep k) hok ht)
  have H4 := Lib.hid (fun w1 (k : Keeps w w1) => truths_at F w1 (hI.keep k) hok)
  have H5 := Lib.hid (fun b1 b2 a wv w1 hS x1 x2 x3 (h1 : 1 ≤ wv) (h2 : wv ≤ 60) => mostAlike_any F hok b1 b2 a wv w1 hS x1 x2 x3 h1 h2)
  have H6 := Lib.hid (fun w1 (k : Keeps w w1) => waves_any F w1 (hI.keep k) hok)
  have HW := Lib.hid (fun c hc => F.wave_in hok (c := c) hc)
  have hwl := F.wl_in hok
  have hmb := F.truths_len hok
  have HB := Lib.hid hB
  obtain ⟨ts, hts⟩ : ∃ ts, F.truths = ts := ⟨_, rfl⟩
  rw [hts] at H5 hmb ⊢
  have hmbd := fun wv => Nat.le_trans (mostP_bd wv ts) hmb
  have HMB := Lib.hid hmbd
  have hlb := lt_of_cell hB.c0
  obtain ⟨wa, wc, ws, lo, hi, ra, rc, rs⟩ := F
  obtain ⟨g0, g1, g2, g3⟩ := hB
  dsimp only [Fr.v] at *
  clear hok hI ht hts hmbd hmb
  go_enter Try.func41, Try.ntmps41
  go_wp2_with fail
  have bR := Best.new w 70
  have k0 := (Keeps.refl w).alloc (.cells #[.int .i64 0, .int .i64 0] 70)
  refine (H1.out _ k0).mono ?_
  rintro e w1 ⟨rfl, k1⟩
  replace bR := bR.keep k1
  replace k1 := k0.trans k1
  have hc1 := k1.cells
  have BR := Lib.hid bR
  clear bR k0
  go_wp2_with fail
  refine (H3.out _ k1).mono ?_
  rintro e w2 ⟨rfl, k2⟩
  have bR := BR.out.keep k2
  replace k2 := k1.trans k2
  clear hc1 BR
  have hc2 := k2.cells
  have hlb2 : b0 < w2.heap.size := by have := k2.size; omega
  have hbb : w.heap.size < w2.heap.size := lt_of_cell bR.c0
  have BR := Lib.hid (bR.keep ((Keeps.refl w2).alloc (.cells #[.int .i64 0, .int .i64 0] 70)))
  have bB := Best.new w2 70
  have k3 := k2.alloc (.cells #[.int .i64 0, .int .i64 0] 70)
  have BB := Lib.hid bB
  clear bB bR
  go_wp2_with fail
  refine (H6.out _ k3).mono ?_
  rintro e w3 ⟨a, rfl, hA, k4, hfr⟩
  have bR := BR.out.keep k4
  have bB := BB.out.keep k4
  have k5 := k3.trans k4
  simp only [World.size_alloc] at hfr
  have HFR := Lib.hid hfr
  have HAA := Lib.hid hA
  have BB' := Lib.hid bB
  have BR' := Lib.hid bR
  clear BB BR hc2 hfr hA bB bR k3 k4
  go_wp2_with fail
  go_loopw [13] (fun i wr => ∃ k : Nat, k ≤ ws.length ∧ i = .int .i64 k ∧ Ints wr a ws ∧ Best wr w.heap.size 0 0 ∧ Best wr w2.heap.size (askTo ws ts k).1 (askTo ws ts k).2 ∧ Keeps w wr) (fun i _ => ws.length - (intOf i).toNat)
  case atStart => exact ⟨0, Nat.zero_le _, rfl, HAA.out, BR'.out, BB'.out, k5⟩
  case round =>
    obtain ⟨k, hk, rfl, hAk, hRk, hBk, hkp⟩ := hrel
    have hc := hkp.cells
    have HAk := Lib.hid hAk
    have BRk := Lib.hid hRk
    have BBk := Lib.hid hBk
    clear hRk hBk
    by_cases hlt : k < ws.length
    · obtain ⟨b, o, rfl, hcc⟩ := hAk (by intro e; rw [e] at hlt; simp at hlt)
      have hcell := hcc k hlt
      obtain ⟨h3, h4⟩ := HW.out k hlt
      obtain ⟨x, hx⟩ : ∃ x, ws[k]?.getD 0 = x := ⟨_, rfl⟩
      rw [hx] at hcell h3 h4
      have hstep : askTo ws ts (k + 1) = if k = 0 ∨ mostP x ts < (askTo ws ts k).2 then (k, mostP x ts) else askTo ws ts k := by rw [askTo, hx]
      have hml := HMB.out x
      obtain ⟨al, hal⟩ : ∃ al, (askTo ws ts k).2 = al := ⟨_, rfl⟩
      obtain ⟨ac, hac⟩ : ∃ ac, (askTo ws ts k).1 = ac := ⟨_, rfl⟩
      obtain ⟨ml, hml2⟩ : ∃ ml, mostP x ts = ml := ⟨_, rfl⟩
      have hpair : askTo ws ts k = (ac, al) := by rw [← hal, ← hac]
      rw [hml2] at hstep hml
      rw [hpair] at hstep BBk
      try dsimp only at hstep
      try dsimp only at BBk
      have Hml := Lib.hid hml2
      have H5x := Lib.hid (fun b1 b2 ar w1 hS x1 x2 x3 => hml2 ▸ H5.out b1 b2 ar x w1 hS x1 x2 x3 (by omega) (by omega))
      clear hpair hal hac hml2 hcc hAk hx
      have hlr := hkp.size
      by_cases h0 : k = 0
      · have hb0 : ((k : Int) == 0) = true := by rw [beq_iff_eq]; omega
        rw [if_pos (.inl h0)] at hstep
        have Hst := Lib.hid hstep
        clear hstep h0
        go_wp2_with fail
        refine (H4.out _ hkp).mono ?_
        rintro e w4 ⟨c1, c2, ar, rfl, k4, hS, x1, x2, x3, _, _, _⟩
        go_wp2_with fail
        refine (H5x.out _ _ _ w4 hS x1 x2 x3).mono ?_
        rintro e w5 ⟨rfl, k6⟩
        replace k6 := k4.trans k6
        obtain ⟨d0, d1, d2, d3⟩ := BBk.out.keep k6
        have hlw2 : w2.heap.size < w5.heap.size := lt_of_cell d0
        go_wp2
        go_roundw
        case rel => exact ⟨k + 1, by omega, by go_num, ((HAk.out.keep k6).set (fun b o e => by have := HFR.out b o e; omega)).set (fun b o e => by have := HFR.out b o e; omega), (BRk.out.keep k6).other (by omega), by rw [Hst.out]; exact Best.set ⟨d0, d1, d2, d3⟩, ((hkp.trans k6).setCell _ (by show w.heap.size ≤ w2.heap.size; omega)).setCell _ (by show w.heap.size ≤ w2.heap.size; omega)⟩
        case measure => simp [intOf]; omega
      · have hb0 : ((k : Int) == 0) = false := by rw [beq_eq_false_iff_ne]; omega
        by_cases hl : ml < al
        · rw [if_pos (.inr hl)] at hstep
          have Hst := Lib.hid hstep
          clear hstep
          go_wp2_with fail
          refine (H4.out _ hkp).mono ?_
          rintro e w4 ⟨c1, c2, ar, rfl, k4, hS, x1, x2, x3, _, _, _⟩
          go_wp2_with fail
          refine (H5x.out _ _ _ w4 hS x1 x2 x3).mono ?_
          rintro e w5 ⟨rfl, k6⟩
          replace k6 := k4.trans k6
          obtain ⟨d0, d1, d2, d3⟩ := BBk.out.keep k6
          have hlw2 : w2.heap.size < w5.heap.size := lt_of_cell d0
          go_wp2
          go_roundw
          case rel => exact ⟨k + 1, by omega, by go_num, ((HAk.out.keep k6).set (fun b o e => by have := HFR.out b o e; omega)).set (fun b o e => by have := HFR.out b o e; omega), (BRk.out.keep k6).other (by omega), by rw [Hst.out]; exact Best.set ⟨d0, d1, d2, d3⟩, ((hkp.trans k6).setCell _ (by show w.heap.size ≤ w2.heap.size; omega)).setCell _ (by show w.heap.size ≤ w2.heap.size; omega)⟩
          case measure => simp [intOf]; omega
        · rw [if_neg (by omega)] at hstep
          have Hst := Lib.hid hstep
          clear hstep
          go_wp2_with fail
          refine (H4.out _ hkp).mono ?_
          rintro e w4 ⟨c1, c2, ar, rfl, k4, hS, x1, x2, x3, _, _, _⟩
          go_wp2_with fail
          refine (H5x.out _ _ _ w4 hS x1 x2 x3).mono ?_
          rintro e w5 ⟨rfl, k6⟩
          replace k6 := k4.trans k6
          obtain ⟨d0, d1, d2, d3⟩ := BBk.out.keep k6
          have hlw2 : w2.heap.size < w5.heap.size := lt_of_cell d0
          go_wp2
          go_roundw
          case rel => exact ⟨k + 1, by omega, by go_num, HAk.out.keep k6, BRk.out.keep k6, by rw [Hst.out]; exact ⟨d0, d1, d2, d3⟩, hkp.trans k6⟩
          case measure => simp [intOf]; omega
    · obtain rfl : k = ws.length := by omega
      obtain ⟨d0, d1, d2, d3⟩ := BBk.out
      obtain ⟨e0, e1, e2, e3⟩ := BRk.out
      go_wp2
      have bE := Best.set (x' := ((askTo ws ts ws.length).1 : Nat)) (y' := ((askTo ws ts ws.length).2 : Nat)) ⟨e0, e1, e2, e3⟩
      refine bodyPost_ret (v := .agg #[.int .i64 (askTo ws ts ws.length).1, .int .i64 (askTo ws ts ws.length).2]) ?_ rfl ⟨rfl, (hkp.setCell _ (Nat.le_refl _)).setCell _ (Nat.le_refl _)⟩
      have r0 := bE.c0
      have r1 := bE.c1
      simp [results, Try.results41, go_sem, r0, r1]

set_option maxHeartbeats 400000 in
theorem Ask1_no1 (F : Fr) (b0 : Nat) (w : World) (hI : F.In w) (hB : F.Box w b0) (hok : F.ok = false) :
    Calls Try.prog 41 #[.pointer (some ⟨b0, 0, none⟩)] w (Pan 1 w) := by
  have H1 := Lib.hid (fun w1 (k : Keeps w w1) => needFringe_no F w1 (hI.keep k) hok)
  have hlb := lt_of_cell hB.c0
  obtain ⟨g0, g1, g2, g3⟩ := hB
  obtain ⟨wa, wc, ws, lo, hi, ra, rc, rs⟩ := F
  dsimp only [Fr.v] at *
  clear hok hI
  go_enter Try.func41, Try.ntmps41
  go_wp2_with fail
  have k0 := (Keeps.refl w).alloc (.cells #[.int .i64 0, .int .i64 0] 70)
  refine (H1.out _ k0).mono ?_
  rintro e w1 ⟨rfl, k1⟩
  exact ⟨rfl, rfl, k0.trans k1⟩
set_option maxHeartbeats 400000 in
theorem Ask1_no2 (F : Fr) (b0 : Nat) (w : World) (hI : F.In w) (hB : F.Box w b0) (hok : F.ok = true) (ht : F.truths = []) :
    Calls Try.prog 41 #[.pointer (some ⟨b0, 0, none⟩)] w (Pan 10 w) := by
  have H1 := Lib.hid (fun w1 (k : Keeps w w1) => needFringe_yes F w1 (hI.keep k) hok)
  have H3 := Lib.hid (fun w1 (k : Keeps w w1) => needTruth_no F w1 (hI.keep k) hok ht)
  have hlb := lt_of_cell hB.c0
  obtain ⟨g0, g1, g2, g3⟩ := hB
  obtain ⟨wa, wc, ws, lo, hi, ra, rc, rs⟩ := F
  dsimp only [Fr.v] at *
  clear hok hI ht
  go_enter Try.func41, Try.ntmps41
  go_wp2_with fail
  have k0 := (Keeps.refl w).alloc (.cells #[.int .i64 0, .int .i64 0] 70)
  refine (H1.out _ k0).mono ?_
  rintro e w1 ⟨rfl, k1⟩
  replace k1 := k0.trans k1
  have hc1 := k1.cells
  clear k0
  go_wp2_with fail
  refine (H3.out _ k1).mono ?_
  rintro e w2 ⟨rfl, k2⟩
  exact ⟨rfl, rfl, k1.trans k2⟩

theorem enter_Ask1 (caps : Array Value) (w : World) : (callFunc 41 caps).run Try.prog w = .ok (.enter 41 caps) w := by kernel_rfl
set_option maxHeartbeats 400000 in
theorem Ask_by (F : Fr) (x y k : Int) (w : World)
    (H : ∀ (w1 : World) (b0 : Nat), Keeps w w1 → F.Box w1 b0 → Calls Try.prog 40 #[.func (.func 41) #[] #[.pointer (some ⟨b0, 0, none⟩)]] w1 (Ret (.tuple #[.agg #[.int .i64 x, .int .i64 y], .int .i64 k]) w1)) :
    Calls Try.prog 14 #[F.v] w (Ret (.tuple #[.int .i64 x, .int .i64 y, .int .i64 k]) w) := by
  have hmf : ∀ (fn : Fn) (first cap : Array Value) (w : World), (Instr.makeFunc fn first cap).run Try.prog w = .ok (.func fn first cap) w := fun _ _ _ _ => rfl
  have hB := fun w => Fr.Box.new F w
  obtain ⟨wa, wc, ws, lo, hi, ra, rc, rs⟩ := F
  dsimp only [Fr.v] at *
  have HH := Lib.hid H
  have HB := Lib.hid hB
  clear H hB
  go_enter Try.func14, Try.ntmps14
  go_wp2_with fail
  refine (HH.out _ w.heap.size ?_ ?_).mono ?_
  · exact (Keeps.refl _).alloc _
  · exact HB.out w
  rintro e w1 ⟨rfl, k1⟩
  replace k1 := ((Keeps.refl _).alloc _).trans k1
  go_wp2_with fail
  go_quiet (fail)
  go_wp2
  go_ret3
  exact ⟨rfl, (k1.alloc _).drewN _⟩

def askR (F : Fr) : (Nat × Nat) × Int :=
  if F.ok = false then ((0, 0), 1) else if F.truths = [] then ((0, 0), 10) else (askTo F.ws F.truths F.ws.length, 0)
theorem Ask_any (F : Fr) (w : World) (hI : F.In w) : Calls Try.prog 14 #[F.v] w (Ret (.tuple #[.int .i64 (askR F).1.1, .int .i64 (askR F).1.2, .int .i64 (askR F).2]) w) := by
  refine Ask_by F _ _ _ w fun w1 b0 k hB => ?_
  have kk : Keeps w1 ((w1.alloc (.cells #[.int .i64 0, .int .i64 0] 70)).alloc (.cells #[.int .i64 0] 30)) := ((Keeps.refl _).alloc _).alloc _
  have hI2 := hI.keep (k.trans kk)
  have hB2 := hB.keep kk
  cases hok : F.ok with
  | false =>
    rw [show askR F = ((0, 0), 1) by simp [askR, hok]]
    exact answer_pan_choice _ _ _ _ (fun w => enter_Ask1 _ w) (Ask1_no1 F b0 _ hI2 hB2 hok)
  | true =>
    by_cases ht : F.truths = []
    · rw [show askR F = ((0, 0), 10) by simp [askR, hok, ht]]
      exact answer_pan_choice _ _ _ _ (fun w => enter_Ask1 _ w) (Ask1_no2 F b0 _ hI2 hB2 hok ht)
    · rw [show askR F = (askTo F.ws F.truths F.ws.length, 0) by simp [askR, hok, ht]]
      exact answer_ok_choice _ _ _ _ _ (fun w => enter_Ask1 _ w) (Ask1_yes F b0 _ hI2 hB2 hok ht)
end Go.Proofs.Ytoidnbpbeblokaa
