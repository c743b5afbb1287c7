/-
  Wrong and Clash.
-/
import Derived.Test.YtoidnbpbeblokaaXb
import Derived.Test.YtoidnbpbeblokaaWu
namespace Go.Proofs.Ytoidnbpbeblokaa
open Go.RowKit Go.Shelf

set_option maxHeartbeats 400000 in
theorem setsBySize_any (m : Nat) (w : World) : Calls Try.prog 53 #[.int .i64 m] w fun e w' => ∃ b, e = .returned (.func (.func 96) #[] #[.pointer (some ⟨b, 0, none⟩)]) ∧ w'.cell? ⟨b, 0, none⟩ = some (.int .i64 m) ∧ Keeps w w' := by
  have hmf : ∀ (fn : Fn) (first cap : Array Value) (w : World), (Instr.makeFunc fn first cap).run Try.prog w = .ok (.func fn first cap) w := fun _ _ _ _ => rfl
  go_enter Try.func53, Try.ntmps53
  go_wp2
  go_ret
  exact ⟨_, rfl, by simp [go_sem], (Keeps.refl _).alloc _⟩

def setOf (o : Option St) : Nat := match o with | some x => x.val | none => 0
theorem setOf_lt (o : Option St) : setOf o < 64 := by cases o with | none => decide | some x => exact x.isLt
theorem firstV_eq (o : Option St) : firstV o = .tuple #[.int .i64 (setOf o), .bool o.isSome] := by cases o <;> rfl
theorem enters_Wrong11 (args : Array Value) (w : World) : (callFunc 54 args).run Try.prog w = .ok (.enter 54 args) w := enters_of Try.func54 (by kernel_rfl) rfl args w
theorem enters_Clash11 (args : Array Value) (w : World) : (callFunc 64 args).run Try.prog w = .ok (.enter 64 args) w := enters_of Try.func64 (by kernel_rfl) rfl args w

/-- The fewest readings that must be wrong. -/
def Fr.wrong (F : Fr) : Option St := (sets F.gs.length).find? fun x => F.agreeW x.val
/-- The fewest readings that cannot all be right. -/
def Fr.clash (F : Fr) : Option St := (sets F.gs.length).find? fun x => !F.agreeW (cm (2 ^ F.gs.length - 1) x.val)
theorem Fr.gl_in (F : Fr) (h : F.ok = true) : F.gs.length ≤ 6 := by rw [F.gs_len]; exact F.rl_in h

theorem first_wrong (F : Fr) (hok : F.ok = true) (b0 b2 b : Nat) (a : Option Addr) (cap : Nat) (w : World) (hB : F.Box w b0) (h2 : w.cell? ⟨b2, 0, none⟩ = some (.slice a F.gs.length cap)) (hg : Rgs w a F.gs) (hb : w.cell? ⟨b, 0, none⟩ = some (.int .i64 F.gs.length)) :
    Calls Try.prog 52 #[.agg #[.func (.func 96) #[] #[.pointer (some ⟨b, 0, none⟩)], .func (.func 54) #[] #[.pointer (some ⟨b0, 0, none⟩), .pointer (some ⟨b2, 0, none⟩)]]] w (Ret (.tuple #[.int .i64 (setOf F.wrong), .bool F.wrong.isSome]) w) := by
  rw [← firstV_eq]
  exact first_any b F.gs.length 54 _ (fun x => F.agreeW x.val) w (F.gl_in hok) hb enters_Wrong11 (fun x w' k => by simpa using Wrong11_any F hok b0 b2 x.val x.isLt a cap w' (hB.keep k) (k.cell h2) (hg.keep k))
theorem first_clash (F : Fr) (hok : F.ok = true) (b0 b2 b3 b : Nat) (a : Option Addr) (cap : Nat) (w : World) (hB : F.Box w b0) (h2 : w.cell? ⟨b2, 0, none⟩ = some (.slice a F.gs.length cap)) (h3 : w.cell? ⟨b3, 0, none⟩ = some (.int .i64 ((2 ^ F.gs.length - 1 : Nat) : Int))) (hg : Rgs w a F.gs) (hb : w.cell? ⟨b, 0, none⟩ = some (.int .i64 F.gs.length)) :
    Calls Try.prog 52 #[.agg #[.func (.func 96) #[] #[.pointer (some ⟨b, 0, none⟩)], .func (.func 64) #[] #[.pointer (some ⟨b0, 0, none⟩), .pointer (some ⟨b2, 0, none⟩), .pointer (some ⟨b3, 0, none⟩)]]] w (Ret (.tuple #[.int .i64 (setOf F.clash), .bool F.clash.isSome]) w) := by
  rw [← firstV_eq]
  have ht : 2 ^ F.gs.length - 1 < 64 := by
    have := Nat.pow_le_pow_right (n := 2) (by omega) (F.gl_in hok)
    have : (2 : Nat) ^ 6 = 64 := rfl
    omega
  exact first_any b F.gs.length 64 _ (fun x => !F.agreeW (cm (2 ^ F.gs.length - 1) x.val)) w (F.gl_in hok) hb enters_Clash11 (fun x w' k => by simpa using Clash11_any F hok b0 b2 b3 x.val _ x.isLt ht a cap w' (hB.keep k) (k.cell h2) (k.cell h3) (hg.keep k))

set_option maxHeartbeats 800000 in
theorem Wrong1_yes (F : Fr) (b0 : Nat) (w : World) (hI : F.In w) (hB : F.Box w b0) (hok : F.ok = true) :
    Calls Try.prog 50 #[.pointer (some ⟨b0, 0, none⟩)] w (RetI (setOf F.wrong) w) := by
  have H1 := Lib.hid (fun w1 (k : Keeps w w1) => needFringe_yes F w1 (hI.keep k) hok)
  have H2 := Lib.hid (fun w1 (k : Keeps w w1) => readings_at F w1 (hI.keep k) hok)
  have H3 := Lib.hid (fun w1 => setsBySize_any F.gs.length w1)
  have H4 := Lib.hid (fun b2 b a cap w1 (k : Keeps w w1) h2 hg hb => first_wrong F hok b0 b2 b a cap w1 (hB.keep k) h2 hg hb)
  have hlb := lt_of_cell hB.c0
  obtain ⟨g0, g1, g2, g3⟩ := hB
  obtain ⟨s, hs⟩ : ∃ s, setOf F.wrong = s := ⟨_, rfl⟩
  obtain ⟨v, hv⟩ : ∃ v, F.wrong.isSome = v := ⟨_, rfl⟩
  obtain ⟨gs, hgs⟩ : ∃ gs, F.gs = gs := ⟨_, rfl⟩
  have hln := F.gs_len
  rw [hs, hv] at H4
  rw [hs]
  rw [hgs] at H2 H3 H4 hln
  rw [hln] at H3 H4
  obtain ⟨wa, wc, ws, lo, hi, ra, rc, rs⟩ := F
  dsimp only [Fr.v] at *
  clear hok hI hgs hs hv hln
  go_enter Try.func50, Try.ntmps50
  go_wp2_with fail
  refine (H1.out _ (Keeps.refl _)).mono ?_
  rintro e w1 ⟨rfl, k1⟩
  have hc1 := k1.cells
  go_wp2_with fail
  refine (H2.out _ k1).mono ?_
  rintro e w2 ⟨a, rfl, hg, hgb, k2⟩
  replace k2 := k1.trans k2
  have hg2 := Lib.hid (hg.keep ((Keeps.refl w2).alloc (.cells #[.slice a rs.length rs.length] 87)))
  have k3 := k2.alloc (.cells #[.slice a rs.length rs.length] 87)
  clear hg hgb hc1
  go_wp2_with fail
  refine (H3.out _).mono ?_
  rintro e w3 ⟨b, rfl, hb, k4⟩
  have hmf : ∀ (fn : Fn) (first cap : Array Value) (w : World), (Instr.makeFunc fn first cap).run Try.prog w = .ok (.func fn first cap) w := fun _ _ _ _ => rfl
  have h2 : w3.cell? ⟨w2.heap.size, 0, none⟩ = some (.slice a rs.length rs.length) := k4.cell (by simp [go_sem])
  have hg3 := Lib.hid (hg2.out.keep k4)
  replace k4 := k3.trans k4
  clear hg2 k3
  go_wp2_with fail
  refine (H4.out _ _ _ _ _ k4 h2 hg3.out hb).mono ?_
  rintro e w4 ⟨rfl, k5⟩
  go_wp2_with fail
  go_ret
  exact ⟨rfl, k4.trans k5⟩

set_option maxHeartbeats 400000 in
theorem Wrong1_no (F : Fr) (b0 : Nat) (w : World) (hI : F.In w) (hB : F.Box w b0) (hok : F.ok = false) :
    Calls Try.prog 50 #[.pointer (some ⟨b0, 0, none⟩)] w (Pan 1 w) := by
  have H1 := Lib.hid (fun w1 (k : Keeps w w1) => needFringe_no F w1 (hI.keep k) hok)
  obtain ⟨g0, g1, g2, g3⟩ := hB
  have hlb := lt_of_cell g0
  obtain ⟨wa, wc, ws, lo, hi, ra, rc, rs⟩ := F
  dsimp only [Fr.v] at *
  clear hok hI
  go_enter Try.func50, Try.ntmps50
  go_wp2_with fail
  refine (H1.out _ (Keeps.refl _)).mono ?_
  rintro e w1 ⟨rfl, k1⟩
  exact ⟨rfl, rfl, k1⟩
theorem enter_Wrong1 (caps : Array Value) (w : World) : (callFunc 50 caps).run Try.prog w = .ok (.enter 50 caps) w := by kernel_rfl
set_option maxHeartbeats 400000 in
theorem Wrong_by (F : Fr) (s : Nat) (hs : s < 64) (k : Int) (w : World)
    (H : ∀ (w1 : World) (b0 : Nat), Keeps w w1 → F.Box w1 b0 → Calls Try.prog 49 #[.func (.func 50) #[] #[.pointer (some ⟨b0, 0, none⟩)]] w1 (Ret (.tuple #[.int .i64 s, .int .i64 k]) w1)) :
    Calls Try.prog 16 #[F.v] w (Ret (.tuple #[.int .i64 (pop s), .int .i64 s, .int .i64 k]) w) := by
  have hmf : ∀ (fn : Fn) (first cap : Array Value) (w : World), (Instr.makeFunc fn first cap).run Try.prog w = .ok (.func fn first cap) w := fun _ _ _ _ => rfl
  have hB := fun w => Fr.Box.new F w
  have HZ := Lib.hid (fun w => size_any s hs w)
  obtain ⟨p, hp⟩ : ∃ p, pop s = p := ⟨_, rfl⟩
  rw [hp] at HZ ⊢
  clear hp hs
  obtain ⟨wa, wc, ws, lo, hi, ra, rc, rs⟩ := F
  dsimp only [Fr.v] at *
  have HH := Lib.hid H
  have HB := Lib.hid hB
  clear H hB
  go_enter Try.func16, Try.ntmps16
  go_wp2_with fail
  refine (HH.out _ w.heap.size ?_ ?_).mono ?_
  · exact (Keeps.refl _).alloc _
  · exact HB.out w
  rintro e w1 ⟨rfl, k1⟩
  replace k1 := ((Keeps.refl _).alloc _).trans k1
  go_wp2_with fail
  refine (HZ.out _).mono ?_
  rintro e w2 ⟨rfl, rfl⟩
  go_wp2_with fail
  go_ret3
  exact ⟨rfl, k1⟩

def wrongR (F : Fr) : Nat × Int := if F.ok then (setOf F.wrong, 0) else (0, 1)
theorem wrongR_lt (F : Fr) : (wrongR F).1 < 64 := by unfold wrongR; split; exact setOf_lt _; decide
theorem Wrong_any (F : Fr) (w : World) (hI : F.In w) : Calls Try.prog 16 #[F.v] w (Ret (.tuple #[.int .i64 (pop (wrongR F).1), .int .i64 (wrongR F).1, .int .i64 (wrongR F).2]) w) := by
  refine Wrong_by F (wrongR F).1 (wrongR_lt F) (wrongR F).2 w fun w1 b0 k hB => ?_
  have kk : Keeps w1 (w1.alloc (.cells #[.int .i64 0] 30)) := (Keeps.refl _).alloc _
  unfold wrongR
  cases hok : F.ok with
  | true =>
    refine (answer_ok_set 50 _ w1 (fun v _ => v = .int .i64 (setOf F.wrong)) (fun w => enter_Wrong1 _ w) (fun _ _ _ h => h) ((Wrong1_yes F b0 _ (hI.keep (k.trans kk)) (hB.keep kk) hok).mono ?_)).mono ?_
    · rintro e w' ⟨rfl, k⟩
      exact ⟨_, rfl, rfl, k⟩
    · rintro e w' ⟨v, rfl, rfl, k⟩
      exact ⟨rfl, k⟩
  | false => exact answer_pan_set 50 _ w1 1 (fun w => enter_Wrong1 _ w) (Wrong1_no F b0 _ (hI.keep (k.trans kk)) (hB.keep kk) hok)

set_option maxHeartbeats 400000 in
theorem Clash1_no (F : Fr) (b0 : Nat) (w : World) (hI : F.In w) (hB : F.Box w b0) (hok : F.ok = false) :
    Calls Try.prog 62 #[.pointer (some ⟨b0, 0, none⟩)] w (Pan 1 w) := by
  have H1 := Lib.hid (fun w1 (k : Keeps w w1) => needFringe_no F w1 (hI.keep k) hok)
  obtain ⟨g0, g1, g2, g3⟩ := hB
  have hlb := lt_of_cell g0
  obtain ⟨wa, wc, ws, lo, hi, ra, rc, rs⟩ := F
  dsimp only [Fr.v] at *
  clear hok hI
  go_enter Try.func62, Try.ntmps62
  go_wp2_with fail
  refine (H1.out _ (Keeps.refl _)).mono ?_
  rintro e w1 ⟨rfl, k1⟩
  exact ⟨rfl, rfl, k1⟩
set_option maxHeartbeats 800000 in
theorem Clash1_yes (F : Fr) (b0 : Nat) (w : World) (hI : F.In w) (hB : F.Box w b0) (hok : F.ok = true) :
    Calls Try.prog 62 #[.pointer (some ⟨b0, 0, none⟩)] w (fun e w' => if F.clash.isSome then RetI (setOf F.clash) w e w' else Pan 4 w e w') := by
  have H1 := Lib.hid (fun w1 (k : Keeps w w1) => needFringe_yes F w1 (hI.keep k) hok)
  have H2 := Lib.hid (fun w1 (k : Keeps w w1) => readings_at F w1 (hI.keep k) hok)
  have H3 := Lib.hid (fun w1 => setsBySize_any F.gs.length w1)
  have H5 := Lib.hid (fun w1 => full_any F.gs.length (by have := F.gl_in hok; omega) w1)
  have H4 := Lib.hid (fun b2 b3 b a cap w1 (k : Keeps w w1) h2 h3 hg hb => first_clash F hok b0 b2 b3 b a cap w1 (hB.keep k) h2 h3 hg hb)
  have hlb := lt_of_cell hB.c0
  obtain ⟨g0, g1, g2, g3⟩ := hB
  obtain ⟨s, hs⟩ : ∃ s, setOf F.clash = s := ⟨_, rfl⟩
  obtain ⟨v, hv⟩ : ∃ v, F.clash.isSome = v := ⟨_, rfl⟩
  obtain ⟨gs, hgs⟩ : ∃ gs, F.gs = gs := ⟨_, rfl⟩
  have hln := F.gs_len
  rw [hs, hv] at H4
  rw [hs, hv]
  rw [hgs] at H2 H3 H4 H5 hln
  obtain ⟨t, ht⟩ : ∃ t, 2 ^ gs.length - 1 = t := ⟨_, rfl⟩
  rw [ht] at H4 H5
  rw [hln] at H3 H4 H5
  obtain ⟨wa, wc, ws, lo, hi, ra, rc, rs⟩ := F
  dsimp only [Fr.v] at *
  clear hok hI hgs hs hv hln ht
  go_enter Try.func62, Try.ntmps62
  go_wp2_with fail
  refine (H1.out _ (Keeps.refl _)).mono ?_
  rintro e w1 ⟨rfl, k1⟩
  have hc1 := k1.cells
  go_wp2_with fail
  refine (H2.out _ k1).mono ?_
  rintro e w2 ⟨a, rfl, hg, hgb, k2⟩
  replace k2 := k1.trans k2
  have k3 := k2.alloc (.cells #[.slice a rs.length rs.length] 87)
  have hg2 := Lib.hid (hg.keep (((Keeps.refl w2).alloc (.cells #[.slice a rs.length rs.length] 87)).alloc (.cells #[.int .i64 t] 84)))
  clear hg hgb hc1
  go_wp2_with fail
  refine (H5.out _).mono ?_
  rintro e w6 ⟨rfl, rfl⟩
  replace k3 := k3.alloc (.cells #[.int .i64 t] 84)
  go_wp2_with fail
  refine (H3.out _).mono ?_
  rintro e w3 ⟨b, rfl, hb, k4⟩
  have hmf : ∀ (fn : Fn) (first cap : Array Value) (w : World), (Instr.makeFunc fn first cap).run Try.prog w = .ok (.func fn first cap) w := fun _ _ _ _ => rfl
  have h2 : w3.cell? ⟨w2.heap.size, 0, none⟩ = some (.slice a rs.length rs.length) := k4.cell (by simp [go_sem])
  have h3 : w3.cell? ⟨w2.heap.size + 1, 0, none⟩ = some (.int .i64 t) := k4.cell (by simp [go_sem])
  have hg3 := Lib.hid (hg2.out.keep k4)
  replace k4 := k3.trans k4
  clear hg2 k3
  go_wp2_with fail
  refine (H4.out _ _ _ _ _ _ k4 h2 h3 hg3.out hb).mono ?_
  rintro e w4 ⟨rfl, k5⟩
  have k6 := k4.trans k5
  cases v
  · go_wp2_with fail
    exact ⟨rfl, rfl, k6⟩
  · go_wp2_with fail
    go_ret
    exact ⟨rfl, k6⟩

def clashR (F : Fr) : Nat × Int := if F.ok = false then (0, 1) else if F.clash.isSome then (setOf F.clash, 0) else (0, 4)
theorem Clash_any (F : Fr) (w : World) (hI : F.In w) : Calls Try.prog 18 #[F.v] w (Ret (.tuple #[.int .i64 (clashR F).1, .int .i64 (clashR F).2]) w) := by
  refine (Clash_by F (Is (.int .i64 (clashR F).1) (clashR F).2) w fun w1 b0 k hB => ?_).mono fun _ _ h => h.ret
  have kk : Keeps w1 (w1.alloc (.cells #[.int .i64 0] 30)) := (Keeps.refl _).alloc _
  cases hok : F.ok with
  | true =>
    have h := Clash1_yes F b0 _ (hI.keep (k.trans kk)) (hB.keep kk) hok
    cases hs : F.clash.isSome with
    | true =>
      rw [show clashR F = (setOf F.clash, 0) by simp [clashR, hok, hs]]
      simp only [hs, if_true] at h
      exact ans_int _ _ _ _ (fun w => enter_Clash1 _ w) h
    | false =>
      rw [show clashR F = (0, 4) by simp [clashR, hok, hs]]
      simp only [hs] at h
      exact ans_int_pan _ _ _ _ (fun w => enter_Clash1 _ w) h
  | false =>
    rw [show clashR F = (0, 1) by simp [clashR, hok]]
    exact ans_int_pan _ _ _ _ (fun w => enter_Clash1 _ w) (Clash1_no F b0 _ (hI.keep (k.trans kk)) (hB.keep kk) hok)
end Go.Proofs.Ytoidnbpbeblokaa
