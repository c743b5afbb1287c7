/-
  WARM: widestRoom.
-/
import Derived.Scope
import Derived.WalkMore
import Derived.Maps.RangeWalk
import Derived.Deep.RegionWith
import Derived.Deep.RegionHeld3
import Derived.Test.YtmhpgjlegajpeaaR2
import Derived.Test.YtmhpgjlegajpeaaA7
import Derived.Test.YtmhpgjlegajpeaaB9
namespace Go.Proofs.Ytmhpgjlegajpeaa
open Go.RowKit Go.Maps

theorem shows_pr (m : Int) (p : Pr) (t : Int) (w : World) (m1 : 1 ≤ m) (m2 : m ≤ 100) (t1 : -101 ≤ t) (t2 : t ≤ 101) : Calls Try.prog 99 #[.agg #[.int .i64 m, .int .i64 p.1.1, .int .i64 p.1.2], .int .i64 t] w (RetI (shI m p.1.1 p.1.2 t) w) :=
  shows_any m p.1.1 p.1.2 t w m1 m2 p.2.1 p.2.2.1 p.2.2.2.1 p.2.2.2.2 t1 t2
theorem shI_bd {m : Int} (p : Pr) {t : Int} (m1 : 1 ≤ m) (m2 : m ≤ 100) (t1 : -101 ≤ t) (t2 : t ≤ 101) : -30000 ≤ shI m p.1.1 p.1.2 t ∧ shI m p.1.1 p.1.2 t ≤ 30000 := by
  obtain ⟨_, q1, q2⟩ := mct_bd m1 m2 p.2.2.2.1 p.2.2.2.2 t1 t2
  have := p.2.1
  have := p.2.2.1
  unfold shI
  omega
/-- Does each of these pairs show at most so much beside its length, n tenths off to both sides? -/
def roomP (m off : Int) (n : Nat) (p : Pr) : Bool := decide (shI m p.1.1 p.1.2 (n : Nat) - p.1.1 ≤ off ∧ p.1.1 - shI m p.1.1 p.1.2 (-((n : Nat) : Int)) ≤ off)
def roomB (m off : Int) (ps : List Pr) (n : Nat) : Bool := ps.all (roomP m off n)
/-- The widest room. -/
def widest (m off : Int) (ps : List Pr) : Nat := ((List.range 100).takeWhile (fun i => roomB m off ps (i + 1))).length
theorem takeWhile_len {p : Nat → Bool} {n k : Nat} (hk : k ≤ n) (h : ∀ i, i < k → p i = true) (hs : k = n ∨ p k = false) : ((List.range n).takeWhile p).length = k := by
  obtain ⟨d, rfl⟩ := Nat.le.dest hk
  rw [List.range_add, List.takeWhile_append_of_pos (by simpa using h), List.length_append, List.length_range]
  rcases hs with h1 | h1
  · have : d = 0 := by omega
    subst this; simp
  · cases d with
    | zero => simp
    | succ d => rw [List.range_succ_eq_map, List.map_cons, List.takeWhile_cons]; simp [h1]

theorem room_no1 {a b off : Int} (h : off < a) : decide (a ≤ off ∧ b ≤ off) = false := decide_eq_false (fun h' => by omega)
theorem room_no2 {a b off : Int} (h : off < b) : decide (a ≤ off ∧ b ≤ off) = false := decide_eq_false (fun h' => by omega)
theorem room_yes {a b off : Int} (h1 : ¬ off < a) (h2 : ¬ off < b) : decide (a ≤ off ∧ b ≤ off) = true := decide_eq_true ⟨by omega, by omega⟩

set_option maxRecDepth 100000 in
set_option maxHeartbeats 6400000 in
theorem widestRoom_any (b : Nat) (m off : Int) (ps : List Pr) (m1 : 1 ≤ m) (m2 : m ≤ 100) (_ : 0 ≤ off) (_ : off ≤ 30000) (w : World) (hP : Pset w b m ps) :
    Calls Try.prog 72 #[.map (some b), .int .i64 off] w (RetI (widest m off ps) w) := by
  have HP := Lib.hid (fun w1 (k : Keeps w w1) => hP.keep k)
  have hbl := hP.lt
  have SH := Lib.hid (fun (p : Pr) t w1 h1 h2 => shows_pr m p t w1 m1 m2 h1 h2)
  have WD := Lib.hid (fun k h1 h2 h3 => @takeWhile_len (fun i => roomB m off ps (i + 1)) 100 k h1 h2 h3)
  have WE := Lib.hid (show widest m off ps = ((List.range 100).takeWhile (fun i => roomB m off ps (i + 1))).length from rfl)
  clear hP
  go_enter Try.func72, Try.ntmps72
  go_wp2_with fail
  go_step3
  go_wp2_with fail
  go_step3
  go_wp2_with fail
  go_loopw [5, 6] (fun s n wr => ∃ k : Nat, s = .int .i64 k ∧ n = .int .i64 ((k : Nat) + 1) ∧ k ≤ 100 ∧ (∀ i, i < k → roomB m off ps (i + 1) = true) ∧ Keeps w wr) (fun _ n _ => (101 - intOf n).toNat)
  case atStart => exact ⟨0, rfl, rfl, by omega, fun i hi => absurd hi (by omega), Keeps.refl _⟩
  case round =>
    obtain ⟨k, rfl, rfl, hk, hall, hkp⟩ := hrel
    by_cases hlt : (k : Int) + 1 ≤ 100
    · obtain ⟨D, hown, hnd, hsz, hhas⟩ := HP.out wr hkp
      have hown2 := hown
      go_wp2_with (first
        | (at_range; refine wpList_range_own _ rfl _ 80 rfl 85 4 pair_keyed Try.underlying80 _ b _ _ rfl hown ?_; intro w0 hrg0 hg0 hs0)
        | fail)
      go_frame
      have kg0 : Keeps wr w0 := ⟨hg0.os, hg0.tape, hg0.output, hg0.size, fun k hk => hg0.block k hk (by simp)⟩
      have Hall := Lib.hid hall
      have HD := Lib.hid (Prng.start hrg0 hnd hsz hhas)
      have WD1 := Lib.hid (fun h1 h2 h3 => WD.out k h1 h2 h3)
      obtain ⟨wo, rfl⟩ : ∃ wo : World, wo = wr := ⟨_, rfl⟩
      clear hall hown hown2 hhas hg0
      go_loopw [7] (fun _ wq => ∃ (done : List Pr) (left : Lit → Bool) (cnt : Nat), Prng wq b wo.heap.size m ps done D left cnt ∧ (∀ p ∈ done, roomP m off (k + 1) p = true) ∧ Keeps wo wq) (fun _ wq => wq.rangeLeft b wo.heap.size)
      case atStart => exact ⟨[], _, _, HD.out, fun p hp => absurd hp List.not_mem_nil, kg0⟩
      case round =>
        obtain ⟨done, left, cnt, hrg, hdone, hkq⟩ := hrel
        clear hrg0 hs0
        go_wp2_with (first
          | (at_next; refine wpList_next_ranges _ rfl _ rfl 85 pair_keyed _ (fun v : Value => v) (fun v : Value => v) (fun key kl _ => ⟨key, rfl⟩) (fun v y _ => ⟨v, rfl⟩) b wo.heap.size _ _ _ _ rfl hrg.1 ?_ ?_)
          | fail)
        · intro _ hl0
          have hper := hrg.all hl0
          have hroom : roomB m off ps (k + 1) = true := by
            rw [roomB, List.all_eq_true]
            exact fun p hp => hdone p (hper.mem_iff.2 hp)
          have HR := Lib.hid hroom
          clear hper hroom hdone
          go_wp2_with fail
          go_roundw
          case rel => exact ⟨k + 1, rfl, by go_num, by omega, fun i hi => by
            by_cases e : i = k
            · subst e; exact HR.out
            · exact Hall.out i (by omega), hkp.trans hkq⟩
          case measure => simp [intOf]; omega
        · intro x c kl yd yp w2 cnt2 hkey hlk hv hat hrg2 hlt2 hg2 hs2 hen
          obtain ⟨p, hp, hnp, rfl, rfl⟩ := hrg.came m1 m2 hkey hlk
          have hst := hrg.step m1 m2 hp hnp hrg2 hlt2
          have hk2 : Keeps wo w2 := Below.grown hkq hg2 hkq.size (fun k e => by cases e; exact Nat.le_refl _)
          have S1 := Lib.hid (fun w1 => (callsIn_wide (n := 2)).2 (SH.out p ((k : Int) + 1) w1 (by omega) (by omega)))
          have S2 := Lib.hid (fun w1 => (callsIn_wide (n := 2)).2 (SH.out p (-((k : Int) + 1)) w1 (by omega) (by omega)))
          have b1 := shI_bd p (t := (k : Int) + 1) m1 m2 (by omega) (by omega)
          have b2 := shI_bd p (t := -((k : Int) + 1)) m1 m2 (by omega) (by omega)
          have hrp : roomP m off (k + 1) p = decide (shI m p.1.1 p.1.2 ((k : Int) + 1) - p.1.1 ≤ off ∧ p.1.1 - shI m p.1.1 p.1.2 (-((k : Int) + 1)) ≤ off) := by
            unfold roomP
            rw [show ((k + 1 : Nat) : Int) = (k : Int) + 1 by omega]
          have HP2 := Lib.hid hp
          have HST := Lib.hid hst
          have HRG := Lib.hid hrg
          obtain ⟨⟨p1, p2⟩, hpx⟩ := p
          dsimp only at hrp b1 b2
          obtain ⟨z1, hz1⟩ : ∃ z, shI m p1 p2 ((k : Int) + 1) = z := ⟨_, rfl⟩
          obtain ⟨z2, hz2⟩ : ∃ z, shI m p1 p2 (-((k : Int) + 1)) = z := ⟨_, rfl⟩
          dsimp only at S1 S2
          rw [hz1] at hrp b1 S1
          rw [hz2] at hrp b2 S2
          obtain ⟨b11, b12⟩ := b1
          obtain ⟨b21, b22⟩ := b2
          have hp1 := hpx.1
          have hp2 := hpx.2.1
          simp only [pV] at hen ⊢
          have HRP := Lib.hid hrp
          have Hdone := Lib.hid hdone
          clear hst hrg hp hnp hkey hlk hv hat hrg2 hg2 hs2 hz1 hz2 hrp hdone
          have hk3 : Keeps wo (w2.alloc (.cells #[.int .i64 m, .int .i64 p1, .int .i64 p2] 85)) := hk2.alloc _
          haveI : Nonempty (Since (w2.alloc (.cells #[.int .i64 m, .int .i64 p1, .int .i64 p2] 85))) := Since.some _
          have e0 : ∀ q : Since (w2.alloc (.cells #[.int .i64 m, .int .i64 p1, .int .i64 p2] 85)), q.W.cell? ⟨w2.heap.size, 0, none⟩ = some (.int .i64 m) := fun q => q.keeps.cell (by simp [go_sem])
          have e1 : ∀ q : Since (w2.alloc (.cells #[.int .i64 m, .int .i64 p1, .int .i64 p2] 85)), q.W.cell? ⟨w2.heap.size, 1, none⟩ = some (.int .i64 p1) := fun q => q.keeps.cell (by simp [go_sem])
          have e2 : ∀ q : Since (w2.alloc (.cells #[.int .i64 m, .int .i64 p1, .int .i64 p2] 85)), q.W.cell? ⟨w2.heap.size, 2, none⟩ = some (.int .i64 p2) := fun q => q.keeps.cell (by simp [go_sem])
          have hmx : Try.prog.follows .mixedOrders = true := by kernel_rfl
          have hfw : ∀ f, Fence.wide.fn f := fun _ => trivial
          have HNo := Lib.hid (show roomP m off (k + 1) ⟨(p1, p2), hpx⟩ = false → widest m off ps = k from fun h => by
            rw [WE.out]
            refine WD1.out hk Hall.out (.inr ?_)
            rw [roomB, List.all_eq_false]
            exact ⟨_, HP2.out, by simp [h]⟩)
          have hw0 : IntKind.i64.wrap (-((k : Int) + 1)) = -((k : Int) + 1) := IntWalk.i64_in _ (by constructor <;> omega)
          have hw1 : IntKind.i64.wrap (z1 - p1) = z1 - p1 := IntWalk.i64_in _ (by constructor <;> omega)
          have hw2 : IntKind.i64.wrap (p1 - z2) = p1 - z2 := IntWalk.i64_in _ (by constructor <;> omega)
          obtain ⟨u, hu⟩ : ∃ u : Int, (k : Int) + 1 = u := ⟨_, rfl⟩
          rw [hu] at S1 S2 hw0 ⊢
          obtain ⟨v, hv⟩ : ∃ v : Int, -u = v := ⟨_, rfl⟩
          rw [hv] at S2 hw0
          by_cases hc1 : off < z1 - p1
          · have hd1 : decide (off < z1 - p1) = true := by simpa using hc1
            have HW := Lib.hid (HNo.out (HRP.out.trans (room_no1 hc1)))
            go_wp2_with fail
            refine (wpIn_wide (n := 3)).1 (region_keep (F := Fence.wide) (fun w' => ∃ q : Since (w2.alloc (.cells #[.int .i64 m, .int .i64 p1, .int .i64 p2] 85)), w' = q.W) ⟨⟨_, (Keeps.refl _).drew⟩, rfl⟩ (by kernel_rfl) hmx (by kernel_rfl) ?_)
            repeat (gi_big_quiet_step ((first | (gi_at_call 99; refine (S1.out _).mono ?_; rintro e w' ⟨rfl, k⟩; exact ⟨rfl, ⟨⟨w', Keeps.trans (Since.keeps _) k⟩, rfl⟩⟩))))
            refine wpQuietIn_nil ?_
            rintro _ ⟨q5, rfl⟩
            have k6 := q5.keeps
            clear e0 e1 e2 hw0 hw1 hw2 hmx hfw
            subst hv hu
            go_wp2_with fail
            go_ret
            exact RetI.mk (by rw [HW.out]) ((hkp.trans hk3).trans k6)
          · have hd1 : decide (off < z1 - p1) = false := by simpa using hc1
            by_cases hc2 : off < p1 - z2
            · have hd2 : decide (off < p1 - z2) = true := by simpa using hc2
              have HW := Lib.hid (HNo.out (HRP.out.trans (room_no2 hc2)))
              go_wp2_with fail
              refine (wpIn_wide (n := 3)).1 (region_keep (F := Fence.wide) (fun w' => ∃ q : Since (w2.alloc (.cells #[.int .i64 m, .int .i64 p1, .int .i64 p2] 85)), w' = q.W) ⟨⟨_, (Keeps.refl _).drew⟩, rfl⟩ (by kernel_rfl) hmx (by kernel_rfl) ?_)
              iterate 2 (gi_big_quiet_step (fail))
              gi_big_quiet_step ((gi_at_call 99; refine (S1.out _).mono ?_; rintro e w' ⟨rfl, k⟩; exact ⟨rfl, ⟨⟨w', Keeps.trans (Since.keeps _) k⟩, rfl⟩⟩))
              iterate 11 (gi_big_quiet_step (fail))
              gi_big_quiet_step ((gi_at_call 99; refine (S2.out _).mono ?_; rintro e w' ⟨rfl, k⟩; exact ⟨rfl, ⟨⟨w', Keeps.trans (Since.keeps _) k⟩, rfl⟩⟩))
              iterate 4 (gi_big_quiet_step (fail))
              refine wpQuietIn_nil ?_
              rintro _ ⟨q5, rfl⟩
              have k6 := q5.keeps
              clear e0 e1 e2 hw0 hw1 hw2 hmx hfw
              subst hv hu
              go_wp2_with fail
              go_ret
              exact RetI.mk (by rw [HW.out]) ((hkp.trans hk3).trans k6)
            · have hd2 : decide (off < p1 - z2) = false := by simpa using hc2
              have HYes := Lib.hid (show roomP m off (k + 1) ⟨(p1, p2), hpx⟩ = true from HRP.out.trans (room_yes hc1 hc2))
              go_wp2_with fail
              refine (wpIn_wide (n := 3)).1 (region_keep (F := Fence.wide) (fun w' => ∃ q : Since (w2.alloc (.cells #[.int .i64 m, .int .i64 p1, .int .i64 p2] 85)), w' = q.W) ⟨⟨_, (Keeps.refl _).drew⟩, rfl⟩ (by kernel_rfl) hmx (by kernel_rfl) ?_)
              iterate 2 (gi_big_quiet_step (fail))
              gi_big_quiet_step ((gi_at_call 99; refine (S1.out _).mono ?_; rintro e w' ⟨rfl, k⟩; exact ⟨rfl, ⟨⟨w', Keeps.trans (Since.keeps _) k⟩, rfl⟩⟩))
              iterate 11 (gi_big_quiet_step (fail))
              gi_big_quiet_step ((gi_at_call 99; refine (S2.out _).mono ?_; rintro e w' ⟨rfl, k⟩; exact ⟨rfl, ⟨⟨w', Keeps.trans (Since.keeps _) k⟩, rfl⟩⟩))
              iterate 4 (gi_big_quiet_step (fail))
              refine wpQuietIn_nil ?_
              rintro _ ⟨q5, rfl⟩
              have k6 := q5.keeps
              clear e0 e1 e2 hw0 hw1 hw2 hmx hfw
              subst hv hu
              go_wp2_with fail
              have hk7 : Keeps w2 q5.W := ((Keeps.refl _).alloc _).trans k6
              have hP3 := HST.out.keepX (KeepX.of_keeps (X := fun _ => False) hk7) (fun h => h) (fun h => h)
              go_roundw
              case rel => exact ⟨_, _, cnt2, hP3, fun p hp => by
                rcases List.mem_append.1 hp with h | h
                · exact Hdone.out p h
                · rw [List.mem_singleton] at h; subst h; exact HYes.out, hk3.trans k6⟩
              case measure => rw [hP3.1.left_eq, HRG.out.1.left_eq]; exact hlt2
    · go_wp2_with fail
      go_ret
      exact RetI.mk (by rw [WE.out, WD.out k hk hall (.inl (by omega))]) hkp
end Go.Proofs.Ytmhpgjlegajpeaa
