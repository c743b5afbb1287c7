/-
  WARM: the iterator over what each pair of a set shows at each warmth of a span.
-/
import Derived.Test.YtmhpgjlegajpeaaA7
import Derived.Test.YtmhpgjlegajpeaaB9
namespace Go.Proofs.Ytmhpgjlegajpeaa
open Go.RowKit Go.Shelf Go.Maps
attribute [local go_sem] Oper.semAt_some

def shTo (m lo : Int) (p : Pr) (j : Nat) : List Int := (List.range j).map (fun i : Nat => shP m p.1 (lo + (i : Int)))
theorem shTo_succ (m lo : Int) (p : Pr) (j : Nat) : shTo m lo p (j + 1) = shTo m lo p j ++ [shP m p.1 (lo + (j : Int))] := by
  simp [shTo, List.range_succ]
theorem shTo_len (m lo : Int) (p : Pr) (j : Nat) : (shTo m lo p j).length = j := by simp [shTo]
theorem flat_len (m lo : Int) (k : Nat) (qs : List Pr) : (qs.flatMap (fun p => shTo m lo p k)).length = qs.length * k := by
  induction qs with
  | nil => simp
  | cons a r ih => rw [List.flatMap_cons, List.length_append, ih, shTo_len, List.length_cons, Nat.succ_mul]; omega

set_option maxRecDepth 100000 in
set_option maxHeartbeats 3200000 in
theorem shown1_in (n : Nat) (hn : 1 ≤ n) (l b1 b2 b : Nat) (X : Nat → Prop) (m : Int) (m1 : 1 ≤ m) (m2 : m ≤ 100) (ps : List Pr) (lo hi : Int) (hlo : -101 ≤ lo) (hhi : hi ≤ 101) (k : Nat) (hk : k = (hi + 1 - lo).toNat) (J Jx : List Int → World → Prop)
    (hY : ∀ pre x W, J pre W → pre.length < ps.length * k → YieldAt Fence.wide (n - 1) Try.prog l #[.int .i64 x] W fun e W' =>
      (e = .returned (.bool true) ∧ J (pre ++ [x]) W' ∧ KeepX X W W') ∨ (e = .returned (.bool false) ∧ Jx (pre ++ [x]) W'))
    (W : World) (hJ : AbidesFrom W.heap.size J) (hX : ∀ k, X k → k < W.heap.size) (hx1 : ¬ X b1) (hx2 : ¬ X b2) (hxb : ¬ X b) (h1 : W.cell? ⟨b1, 0, none⟩ = some (.map (some b))) (h2 : W.cell? ⟨b2, 0, none⟩ = some (.int .i64 lo)) (h3 : W.cell? ⟨b2, 1, none⟩ = some (.int .i64 hi)) (hP : Pset W b m ps) (h0 : J [] W) :
    CallsIn Fence.wide n Try.prog 101 #[.func (.yield l) #[] #[], .pointer (some ⟨b1, 0, none⟩), .pointer (some ⟨b2, 0, none⟩)] W fun e W' => (∃ v, e = .returned v) ∧
      ((∃ ys, (∃ qs : List Pr, qs.Perm ps ∧ ys = qs.flatMap (fun p => shTo m lo p k)) ∧ J ys W') ∨ (∃ pre, True ∧ Jx pre W')) := by
  obtain ⟨D, hown, hnd, hsz, hhas⟩ := hP
  have HY := Lib.hid hY
  have HJ := Lib.hid hJ
  have HX1 := Lib.hid hx1
  have HX2 := Lib.hid hx2
  have HXb := Lib.hid hxb
  have HXr := Lib.hid (show ¬ X W.heap.size from fun h => by have := hX _ h; omega)
  have HXn := Lib.hid (show ∀ q, W.heap.size ≤ q → ¬ X q from fun q hq h => by have := hX _ h; omega)
  have HF := Lib.hid (fun (p : Pr) t w1 ht1 ht2 => (callsIn_wide (n := n - 1)).2 (shows_at m p.1 t w1 ⟨m1, m2, p.2⟩ ht1 ht2))
  have HH := Lib.hid hhas
  have hlb1 := lt_of_cell h1
  have hlb2 := lt_of_cell h2
  clear hY hJ hx1 hx2 hxb hX hhas
  have hfw : ∀ f, Fence.wide.fn f := fun _ => trivial
  refine callsIn_of_wp Try.func101 rfl trivial ?_
  simp only [Try.ntmps101, List.size_toArray, List.length_cons, List.length_nil, Nat.reduceAdd, Nat.reduceSub, Array.replicate_succ, Array.replicate_zero, List.push_toArray, List.append_toArray, List.nil_append, List.cons_append]
  gi_wp2_with (first
    | (gi_at_range; refine wpListIn_range_own _ rfl _ 80 rfl 85 4 pair_keyed Try.underlying80 _ b _ _ rfl hown ?_; intro w0 hrg0 hg0 hs0)
    | gi_in)
  go_frame
  gi_loopw [4] (fun _ wr => ∃ (done : List Pr) (left : Lit → Bool) (cnt : Nat), Prng wr b W.heap.size m ps done D left cnt ∧ J (done.flatMap (fun p => shTo m lo p k)) wr ∧ KeepX X W wr) (fun _ wr => wr.rangeLeft b W.heap.size)
  case atStart =>
    exact ⟨[], _, _, Prng.start hrg0 hnd hsz HH.out, HJ.out [] W w0 none h0 hg0 (fun r e => by cases e), KeepX.of_keeps ⟨hg0.os, hg0.tape, hg0.output, hg0.size, fun k hk => hg0.block k hk (by simp)⟩⟩
  case round =>
    obtain ⟨done, left, cnt, hrg, hJs, hB⟩ := hrel
    have d1 := hB.cell h1 HX1.out
    have d2 := hB.cell h2 HX2.out
    have d3 := hB.cell h3 HX2.out
    have hl1 := lt_of_cell d1
    have hl2 := lt_of_cell d2
    have hrs := hB.size
    clear h0 hg0 hs0 hrg0 hown
    gi_wp2_with (first
      | (gi_at_next; refine wpListIn_next_ranges _ rfl _ rfl 85 pair_keyed _ (fun v : Value => v) (fun v : Value => v) (fun key kl _ => ⟨key, rfl⟩) (fun v y _ => ⟨v, rfl⟩) b W.heap.size _ _ _ _ rfl hrg.1 ?_ ?_)
      | gi_in)
    · intro _ hl0
      gi_wp2
      refine bodyPost_end (results_none rfl _ _ _) rfl ?_
      exact ⟨⟨_, rfl⟩, .inl ⟨_, ⟨done, hrg.all hl0, rfl⟩, hJs⟩⟩
    · intro x c kl yd yp w2 cnt2 hkey hlk hv hat hrg2 hlt hg2 hs2 hen
      obtain ⟨p, hp, hnp, rfl, rfl⟩ := hrg.came m1 m2 hkey hlk
      have hst := hrg.step m1 m2 hp hnp hrg2 hlt
      have hJ2 := HJ.out _ wr w2 (some W.heap.size) hJs hg2 (fun r e => by cases e; exact ⟨Nat.le_refl _, hrg.1.iter_walk⟩)
      have hB2 := hB.grown_new hg2 (Nat.le_refl _)
      have e1 := hB2.cell h1 HX1.out
      have e2 := hB2.cell h2 HX2.out
      have e3 := hB2.cell h3 HX2.out
      have hm1 := lt_of_cell e1
      have hm2 := lt_of_cell e2
      have hdl : done.length + 1 ≤ ps.length := by
        have := hst.2.2.2.2.2
        simp at this
        omega
      have hdk := Nat.mul_le_mul_right k hdl
      have hfl : (done.flatMap (fun p => shTo m lo p k)).length = done.length * k := flat_len _ _ _ _
      rw [Nat.succ_mul] at hdk
      have HF1 := Lib.hid (fun t w1 => HF.out p t w1)
      have HFE := Lib.hid (show (done ++ [p]).flatMap (fun p => shTo m lo p k) = done.flatMap (fun p => shTo m lo p k) ++ shTo m lo p k by simp)
      have HS1 := Lib.hid (fun j => shTo_succ m lo p j)
      have HSL := Lib.hid (fun j => shTo_len m lo p j)
      obtain ⟨g, hg⟩ : ∃ g : Int → Int, shP m p.1 = g := ⟨_, rfl⟩
      obtain ⟨sh, hsh⟩ : ∃ sh : Nat → List Int, shTo m lo p = sh := ⟨_, rfl⟩
      have hsh0 : sh 0 = [] := by rw [← hsh]; rfl
      rw [hg] at HF1 HS1
      rw [hsh] at HFE HS1 HSL
      obtain ⟨L, hL⟩ : ∃ L, done.flatMap (fun p => shTo m lo p k) = L := ⟨_, rfl⟩
      rw [hL] at hJ2 HFE hfl
      have HST := Lib.hid hst
      have HRG := Lib.hid hrg
      obtain ⟨⟨p1, p2⟩, hpx⟩ := p
      simp only [pV, prV] at hen HF1 ⊢
      clear hst hrg hp hnp hkey hlk hv hat hrg2 hg2 hs2 d1 d2 d3 hl1 hl2 hg hsh hL hJs
      gi_wp2_with fail
      have k3 := (Keeps.refl w2).alloc (.cells #[.int .i64 m, .int .i64 p1, .int .i64 p2] 85)
      have q0 : (w2.alloc (.cells #[.int .i64 m, .int .i64 p1, .int .i64 p2] 85)).cell? ⟨w2.heap.size, 0, none⟩ = some (.int .i64 m) := by simp [go_sem]
      have q1 : (w2.alloc (.cells #[.int .i64 m, .int .i64 p1, .int .i64 p2] 85)).cell? ⟨w2.heap.size, 1, none⟩ = some (.int .i64 p1) := by simp [go_sem]
      have q2 : (w2.alloc (.cells #[.int .i64 m, .int .i64 p1, .int .i64 p2] 85)).cell? ⟨w2.heap.size, 2, none⟩ = some (.int .i64 p2) := by simp [go_sem]
      have hJ3 := HJ.out _ w2 _ none hJ2 (k3.grown none) (fun r e => by cases e)
      obtain ⟨W2, hW2⟩ : ∃ W2, w2.alloc (.cells #[.int .i64 m, .int .i64 p1, .int .i64 p2] 85) = W2 := ⟨_, rfl⟩
      have hz2 : w2.heap.size < W2.heap.size := by rw [← hW2]; simp
      rw [hW2] at k3 q0 q1 q2 hJ3
      try rw [hW2]
      have g3 := k3.cell e3
      have hsW := hB2.size
      clear hW2 hJ2 e1 e2 e3
      gi_loopw [5] (fun i wq => ∃ j : Nat, i = .int .i64 (lo + (j : Nat)) ∧ j ≤ k ∧ J (L ++ sh j) wq ∧ KeepX X W2 wq) (fun i _ => (hi + 1 - intOf i).toNat)
      case atStart => exact ⟨0, by simp, by omega, by rw [hsh0, List.append_nil]; exact hJ3, KeepX.refl _ _⟩
      case round =>
        obtain ⟨j, rfl, hj, hJj, hBq⟩ := hrel
        have r3 := hBq.cell g3 HX2.out
        have c0 := hBq.cell q0 (HXn.out _ hsW)
        have c1 := hBq.cell q1 (HXn.out _ hsW)
        have c2 := hBq.cell q2 (HXn.out _ hsW)
        have hl3 := lt_of_cell r3
        have hl4 := lt_of_cell c0
        by_cases hlj : lo + (j : Nat) ≤ hi
        · have hlen : (L ++ sh j).length < ps.length * k := by
            have := HSL.out j
            rw [List.length_append]
            omega
          have HF2 := Lib.hid (fun w1 => HF1.out (lo + (j : Nat)) w1 (by omega) (by omega))
          have HS2 := Lib.hid (HS1.out j)
          have HJj := Lib.hid hJj
          obtain ⟨z, hz⟩ : ∃ z, g (lo + (j : Nat)) = z := ⟨_, rfl⟩
          rw [hz] at HF2 HS2
          have HLen := Lib.hid hlen
          clear hz hlen hJj
          gi_wp2_with fail
          refine (HF2.out _).mono ?_
          rintro e w4 ⟨rfl, k4⟩
          obtain ⟨fn, tmps, assign, body, hy, hR⟩ := HY.out _ z w4 (HJ.out _ wr w4 none HJj.out (k4.grown none) (fun r e => by cases e)) HLen.out
          gi_wp2_with fail
          refine hR.mono ?_
          rintro e W3 (⟨rfl, hJ5, hk5⟩ | ⟨rfl, hJx5⟩)
          · gi_wp2_with fail
            go_roundw
            case rel => exact ⟨j + 1, congrArg (Value.int .i64) (by omega), by omega, by rw [HS2.out, ← List.append_assoc]; exact hJ5, (hBq.trans (KeepX.of_keeps k4)).trans hk5⟩
            case measure => simp only [intOf]; omega
          · gi_wp2_with fail
            refine bodyPost_ret (results_none rfl _ _ _) rfl ?_
            exact ⟨⟨_, rfl⟩, .inr ⟨_, trivial, hJx5⟩⟩
        · have hjk : j = k := by omega
          subst hjk
          have hP3 := (HST.out.keepX (KeepX.of_keeps k3) HXb.out HXr.out).keepX hBq HXb.out HXr.out
          gi_wp2_with fail
          go_roundw
          case rel => exact ⟨_, _, cnt2, hP3, by rw [HFE.out]; exact hJj, (hB2.trans (KeepX.of_keeps k3)).trans hBq⟩
          case measure => rw [hP3.1.left_eq, HRG.out.1.left_eq]; exact hlt
end Go.Proofs.Ytmhpgjlegajpeaa
