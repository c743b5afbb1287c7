/-
  The document's own answers: left, Ask.
-/
import Derived.Test.YtoidnbpbeblokaaPc
import Derived.Test.YtoidnbpbeblokaaTb
namespace Go.Proofs.Ytoidnbpbeblokaa
open Go.RowKit Go.Shelf

theorem make_twenty (w : World) : (Instr.makeSlice 22 (.int .i64 20) (.int .i64 20)).run Try.prog w = .ok (.slice (some ⟨w.heap.size, 0, none⟩) 20 20) (w.alloc (.cells (Array.replicate 20 (.int .i64 0)) 3)) := by kernel_rfl
/-- How often each part is among some lengths, in a block. -/
def Often (w : World) (B : Nat) (x : Int) (ts : List Ln) : Prop := ∀ p : Nat, p < 20 → w.cell? ⟨B, p, none⟩ = some (.int .i64 ((cntP x ts p : Nat) : Int)) ∧ w.frozen? ⟨B, p, none⟩ = false
theorem Often.keep {w w' : World} {B : Nat} {x : Int} {ts : List Ln} (h : Often w B x ts) (k : Keeps w w') : Often w' B x ts :=
  fun p hp => ⟨k.cell (h p hp).1, (k.cells.2 _ _ (lt_of_cell (h p hp).1)).trans (h p hp).2⟩
theorem Often.new (w : World) (B : Nat) (x : Int) (h : ∀ p, p < 20 → w.cell? ⟨B, p, none⟩ = some (.int .i64 0) ∧ w.frozen? ⟨B, p, none⟩ = false) : Often w B x [] := fun p hp => ⟨by rw [cntP_nil]; exact (h p hp).1, (h p hp).2⟩
theorem Often.more {w : World} {B : Nat} {x : Int} {ts : List Ln} {t : Ln} {q : Nat} (h : Often w B x ts) (hq : partI x (t.val : Nat) = q) (hq2 : q < 20) : Often (w.setCell ⟨B, q, none⟩ (.int .i64 (((cntP x ts q : Nat) : Int) + 1))) B x (ts ++ [t]) := by
  intro p hp
  refine ⟨?_, by rw [World.frozen?_setCell]; exact (h p hp).2⟩
  rw [cntP_snoc, hq]
  by_cases e : p = q
  · subst e
    rw [if_pos rfl]
    exact cell_set_same (by rw [(h p hp).1]; rfl)
  · rw [if_neg (by omega), cell_set_other (by omega), Nat.add_zero]
    exact (h p hp).1
theorem Fr.Box.set {F : Fr} {w : World} {b B o : Nat} {v : Value} (h : F.Box w b) (hne : b ≠ B) : F.Box (w.setCell ⟨B, o, none⟩ v) b :=
  ⟨(cell_set_other (by omega)).trans h.c0, (cell_set_other (by omega)).trans h.c1, (cell_set_other (by omega)).trans h.c2, (cell_set_other (by omega)).trans h.c3⟩
set_option maxRecDepth 100000 in
set_option maxHeartbeats 3200000 in
theorem refLeft_any (F : Fr) (c : Nat) (x : Int) (ts : List Ln) (a : Option Addr) (cap : Nat) (w : World) (hI : F.In w) (hc : c < F.ws.length) (hx : F.ws[c]?.getD 0 = x) (h1 : 2 ≤ x) (h2 : x ≤ 60) (hl : ts.length ≤ 401) (hL : Ints w a (intsOf ts)) :
    Calls Try.prog 48 #[F.v, .slice a (intsOf ts).length cap, .int .i64 c] w (RetI ((mostP x ts : Nat) : Int) w) := by
  have OF := Lib.hid (fun (n : Nat) (hn : n ≤ 2000) w1 (k : Keeps w w1) => refOf_any F n c x w1 (hI.keep k) hc hx h1 h2 hn)
  have hmk := make_twenty
  have hil : (intsOf ts).length = ts.length := by simp [intsOf]
  have HL := Lib.hid hL
  have MS := Lib.hid (fun (k : Nat) (hk : k < ts.length) (p : Nat) (hp : p < 20) (hq : partI x ((ts[k].val : Nat) : Int) = p) => mostP_snoc x (ts.take k) ts[k] p hp hq)
  have MB := Lib.hid (fun k => mostP_bd x (ts.take k))
  have CB := Lib.hid (fun k p => cntP_le x (ts.take k) p)
  rw [hil]
  have IL := Lib.hid (fun (k : Nat) (hk : k < ts.length) => show (intsOf ts)[k]?.getD 0 = ((ts[k].val : Nat) : Int) by simp [intsOf, List.getElem?_eq_getElem hk])
  have TL := Lib.hid (fun (k : Nat) (hk : k < ts.length) => List.take_succ_eq_append_getElem hk)
  have hxp : 1 ≤ x := by omega
  have hMb := Nat.le_trans (mostP_bd x ts) hl
  obtain ⟨M, hM⟩ : ∃ M, mostP x ts = M := ⟨_, rfl⟩
  rw [hM] at hMb ⊢
  have HM := Lib.hid hM
  clear hM
  obtain ⟨wa, wc, ws, lo, hi, ra, rc, rs⟩ := F
  dsimp only [Fr.v] at *
  clear hI hL hc hx
  go_enter Try.func48, Try.ntmps48
  go_wp2_with fail
  obtain ⟨W, hW⟩ : ∃ W, (w.alloc (.cells #[.slice wa ws.length wc, .int .i64 lo, .int .i64 hi, .slice ra rs.length rc] 27)).alloc (.cells (Array.replicate 20 (.int .i64 0)) 3) = W := ⟨_, rfl⟩
  have kB : Keeps w W := hW ▸ ((Keeps.refl w).alloc _).alloc _
  have hBox : Fr.Box ⟨wa, wc, ws, lo, hi, ra, rc, rs⟩ W w.heap.size := ⟨by subst hW; simp [go_sem], by subst hW; simp [go_sem], by subst hW; simp [go_sem], by subst hW; simp [go_sem]⟩
  have hO : Often W (w.heap.size + 1) x [] := Often.new _ _ _ fun p hp => by subst hW; constructor <;> simp [go_sem, hp]
  skip
  rw [hW]
  clear hW
  go_loopw [8, 9] (fun o i wr => ∃ k : Nat, k ≤ ts.length ∧ i = .int .i64 k ∧ o = .int .i64 ((mostP x (ts.take k) : Nat) : Int) ∧ Often wr (w.heap.size + 1) x (ts.take k) ∧ Fr.Box ⟨wa, wc, ws, lo, hi, ra, rc, rs⟩ wr w.heap.size ∧ Keeps w wr) (fun _ i _ => ts.length - (intOf i).toNat)
  case atStart => exact ⟨0, Nat.zero_le _, rfl, by rw [List.take_zero, mostP_nil]; rfl, by rw [List.take_zero]; exact hO, hBox, kB⟩
  case round =>
    obtain ⟨k, hk, rfl, rfl, hOf, hBx, hkp⟩ := hrel
    have hmb := MB.out k
    by_cases hlt : k < ts.length
    · obtain ⟨bl, ol, rfl, hcs⟩ := (HL.out.keep hkp) (by intro e; rw [e] at hil; simp at hil; omega)
      have hcc := hcs k (by omega)
      rw [IL.out k hlt] at hcc
      have hms := MS.out k hlt
      have htk := TL.out k hlt
      obtain ⟨t, ht⟩ : ∃ t, ts[k] = t := ⟨_, rfl⟩
      rw [ht] at hcc hms htk
      obtain ⟨m, hm⟩ : ∃ m : Nat, t.val = m := ⟨_, rfl⟩
      have hm2 : m ≤ 2000 := by have := t.isLt; omega
      rw [hm] at hcc hms
      have OF1 := Lib.hid (fun w1 (k1 : Keeps w w1) => OF.out m hm2 w1 k1)
      obtain ⟨p0, p1⟩ := partI_bd (wv := x) (n := ((m : Nat) : Int)) hxp
      obtain ⟨p, hp⟩ := Int.eq_ofNat_of_zero_le p0
      have hp20 : p < 20 := by omega
      have hms2 := hms p hp20 hp
      have hcb := CB.out k p
      have hOm := Lib.hid (show partI x (t.val : Nat) = p by rw [hm]; exact hp)
      unfold partI at hp
      rw [hp] at OF1
      obtain ⟨pre, hpre⟩ : ∃ pre, ts.take k = pre := ⟨_, rfl⟩
      rw [hpre] at hms2 hmb hcb hOf htk ⊢
      obtain ⟨mo, hmo⟩ : ∃ mo, mostP x pre = mo := ⟨_, rfl⟩
      have HMO := Lib.hid hmo
      obtain ⟨co, hco⟩ : ∃ co, cntP x pre p = co := ⟨_, rfl⟩
      have HCO := Lib.hid hco
      rw [hmo] at hms2 hmb ⊢
      rw [hco] at hms2 hcb
      have HMS := Lib.hid hms2
      have HTK := Lib.hid htk
      have HOF := Lib.hid hOf
      have HBX := Lib.hid hBx
      have hpl : pre.length ≤ 401 := by rw [← hpre, List.length_take]; omega
      obtain ⟨g0, g1, g2, g3⟩ := hBx
      dsimp only at g0 g1 g2 g3
      have hlb := lt_of_cell hcc
      have hlx := lt_of_cell g0
      have HSS := Lib.hid (fun (w' : World) (kk : Keeps wr w') => show w'.cell? ⟨w.heap.size, 0, none⟩ = some (.slice wa ws.length wc) ∧ w'.cell? ⟨w.heap.size, 1, none⟩ = some (.int .i64 lo) ∧ w'.cell? ⟨w.heap.size, 2, none⟩ = some (.int .i64 hi) ∧ w'.cell? ⟨w.heap.size, 3, none⟩ = some (.slice ra rs.length rc) ∧ w'.cell? ⟨bl, ol + k, none⟩ = some (.int .i64 m) ∧ Keeps wr w' from ⟨kk.cell g0, kk.cell g1, kk.cell g2, kk.cell g3, kk.cell hcc, kk⟩)
      clear OF MS MB CB IL TL hcs ht hm hms hp p0 p1 hms2 hpre hmo hco hOf htk kB hBox hO
      go_wp2_with fail
      go_region_held3 (fun w' => w'.cell? ⟨w.heap.size, 0, none⟩ = some (.slice wa ws.length wc) ∧ w'.cell? ⟨w.heap.size, 1, none⟩ = some (.int .i64 lo) ∧ w'.cell? ⟨w.heap.size, 2, none⟩ = some (.int .i64 hi) ∧ w'.cell? ⟨w.heap.size, 3, none⟩ = some (.slice ra rs.length rc) ∧ w'.cell? ⟨bl, ol + k, none⟩ = some (.int .i64 m) ∧ Keeps wr w')
        (first | exact HSS.out _ (Keeps.refl _).drew | exact HSS.out _ (Keeps.refl _) | exact HSS.out _ k4 | exact HSS.out _ k4.drew)
        (first | (go_at_call 94; refine (OF1.out _ (by first | exact hkp | exact hkp.drew)).mono ?_; rintro e w4 ⟨rfl, k4⟩; replace k4 : Keeps wr w4 := by first | exact k4 | exact k4.undrew))
      all_goals
        have hO4 := HOF.out.keep k4
        have hB4 := HBX.out.keep k4
        have s1 := (hO4 p hp20).1
        have s2 := (hO4 p hp20).2
        rw [HCO.out] at s1
        have s3 := lt_of_cell s1
        have k5 := hkp.trans k4
        have HO5 := Lib.hid (hO4.more hOm.out hp20)
        rw [HCO.out] at HO5
        have HB5 := Lib.hid (hB4.set (B := w.heap.size + 1) (o := p) (v := .int .i64 ((co : Int) + 1)) (by omega))
        clear HSS OF1 hO4 hB4 g0 g1 g2 g3 hcc
        go_wp2
        skip
        go_roundw
        case rel => exact ⟨k + 1, by omega, by go_num, by rw [HTK.out, HMS.out]; go_num, by rw [HTK.out]; exact HO5.out, HB5.out, k5.setCell _ (by simp)⟩
        case measure => simp [intOf]; omega
    · obtain rfl : k = ts.length := by omega
      rw [List.take_length, HM.out]
      clear hOf hBx MB hmb
      go_wp2_with fail
      go_ret
      exact ⟨rfl, hkp⟩
end Go.Proofs.Ytoidnbpbeblokaa
