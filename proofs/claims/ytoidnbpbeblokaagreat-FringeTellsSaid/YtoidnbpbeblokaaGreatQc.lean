/-
  The document's own answers: Part of what is right, Lengths.
-/
import Derived.Test.YtoidnbpbeblokaaGreatQb
import Derived.Deep.RegionLaw
import Derived.Laws.OwnMore
namespace Go.Proofs.YtoidnbpbeblokaaGreat
open Go.RowKit Go.Shelf

set_option maxHeartbeats 1600000 in
theorem refPart_ok (F : Fr) (n c : Nat) (x : Int) (hn : n ≤ 2000) (hc : c < F.ws.length) (hok : F.ok = true) (hx : F.ws[c]?.getD 0 = x) (w : World) (hI : F.In w) :
    Calls Tryz.prog 7 #[F.v, .int .i64 n, .int .i64 c] w (Ret (.tuple #[.int .i64 ((n : Int) / x), .int .i64 (20 * ((n : Int) % x) / x), .int .i64 0]) w) := by
  have hw := F.wave_in hok hc
  rw [hx] at hw
  obtain ⟨hw1, hw2⟩ := hw
  have LN := Lib.hid (fun w1 => refLength_is n true (by simp; omega) w1)
  have CO := Lib.hid (fun w1 => refColour_is F c true (by simp; omega) hI.wl w1)
  have CK := Lib.hid (fun w1 (k : Keeps w w1) => show Calls Tryz.prog 34 #[F.v, .bool true] w1 (RetI 0 w1) by have := refCheck_at F true w1 (hI.keep k); rwa [show chkE F true = 0 by simp [chkE, hok]] at this)
  have OF := Lib.hid (fun w1 (k : Keeps w w1) => refOf_any F n c x w1 (hI.keep k) hc hx hw1 hw2 hn)
  have kB := (Keeps.refl w).alloc (.cells #[.slice F.wa F.ws.length F.wc, .int .i64 F.lo, .int .i64 F.hi, .slice F.ra F.rs.length F.rc] 27)
  have hB := Fr.Box.new F w
  obtain ⟨bw, ow, hwa, hcs⟩ := hI.ints (by intro e; rw [e] at hc; simp at hc)
  have hcc := hcs c hc
  rw [hx] at hcc
  have e1 : (n : Int).tdiv x = (n : Int) / x := Int.tdiv_eq_ediv_of_nonneg (by omega)
  have q0 : 0 ≤ (n : Int) / x := Int.ediv_nonneg (by omega) (by omega)
  have q1 : (n : Int) / x ≤ 2000 := Int.le_trans (Int.ediv_le_self _ (by omega)) (by omega)
  have hx0 : ¬ (x = 0) := by omega
  have e2 : IntKind.i64.wrap ((n : Int) / x) = (n : Int) / x := IntWalk.i64_in _ (by constructor <;> omega)
  obtain ⟨P, hP⟩ : ∃ P, 20 * ((n : Int) % x) / x = P := ⟨_, rfl⟩
  rw [hP] at OF ⊢
  have hwl := hI.wl
  unfold maxLen at hwl
  obtain ⟨wa, wc, ws, lo, hi, ra, rc, rs⟩ := F
  obtain ⟨g0, g1, g2, g3⟩ := hB
  dsimp only [Fr.v] at *
  subst hwa
  have hc2 : (c : Int) < (ws.length : Int) := by omega
  replace hcc := kB.cell hcc
  clear hI hcs hok hx hP
  go_enter Tryz.func7, Tryz.ntmps7
  go_wp2_with fail
  obtain ⟨W, hW⟩ : ∃ W, w.alloc (.cells #[.slice (some ⟨bw, ow, none⟩) ws.length wc, .int .i64 lo, .int .i64 hi, .slice ra rs.length rc] 27) = W := ⟨_, rfl⟩
  have HS := Lib.hid (fun (w' : World) (kk : Keeps W w') => show w'.cell? ⟨w.heap.size, 0, none⟩ = some (.slice (some ⟨bw, ow, none⟩) ws.length wc) ∧ w'.cell? ⟨w.heap.size, 1, none⟩ = some (.int .i64 lo) ∧ w'.cell? ⟨w.heap.size, 2, none⟩ = some (.int .i64 hi) ∧ w'.cell? ⟨w.heap.size, 3, none⟩ = some (.slice ra rs.length rc) ∧ w'.cell? ⟨bw, ow + c, none⟩ = some (.int .i64 x) ∧ Keeps W w' from
    ⟨kk.cell (by subst hW; exact g0), kk.cell (by subst hW; exact g1), kk.cell (by subst hW; exact g2), kk.cell (by subst hW; exact g3), kk.cell (by subst hW; exact hcc), kk⟩)
  rw [hW] at kB ⊢
  have kz := Keeps.refl W
  clear hW g0 g1 g2 g3 hcc
  go_region_held3 (fun w' => w'.cell? ⟨w.heap.size, 0, none⟩ = some (.slice (some ⟨bw, ow, none⟩) ws.length wc) ∧ w'.cell? ⟨w.heap.size, 1, none⟩ = some (.int .i64 lo) ∧ w'.cell? ⟨w.heap.size, 2, none⟩ = some (.int .i64 hi) ∧ w'.cell? ⟨w.heap.size, 3, none⟩ = some (.slice ra rs.length rc) ∧ w'.cell? ⟨bw, ow + c, none⟩ = some (.int .i64 x) ∧ Keeps W w')
    (first | exact HS.out _ (Keeps.refl _).drew | exact HS.out _ (Keeps.refl _) | exact HS.out _ kz | exact HS.out _ kz.drew)
    (first
      | (go_at_call 35; refine (LN.out _).mono ?_; rintro e w4 ⟨rfl, rfl⟩)
      | (go_at_call 36; refine (CO.out _).mono ?_; rintro e w4 ⟨rfl, k4⟩; replace kz : Keeps W w4 := by first | exact kz.trans k4 | exact kz.trans k4.undrew
         clear k4)
      | (go_at_call 34; refine (CK.out _ (by first | exact kB.trans kz | exact (kB.trans kz).drew)).mono ?_; rintro e w4 ⟨rfl, k4⟩; replace kz : Keeps W w4 := by first | exact kz.trans k4 | exact kz.trans k4.undrew
         clear k4))
  all_goals
    go_wp2_with fail
    go_region_held3 (fun w' => w'.cell? ⟨w.heap.size, 0, none⟩ = some (.slice (some ⟨bw, ow, none⟩) ws.length wc) ∧ w'.cell? ⟨w.heap.size, 1, none⟩ = some (.int .i64 lo) ∧ w'.cell? ⟨w.heap.size, 2, none⟩ = some (.int .i64 hi) ∧ w'.cell? ⟨w.heap.size, 3, none⟩ = some (.slice ra rs.length rc) ∧ w'.cell? ⟨bw, ow + c, none⟩ = some (.int .i64 x) ∧ Keeps W w')
      (first | exact HS.out _ kz | exact HS.out _ kz.drew | exact HS.out _ kz.undrew)
      (first
        | (go_at_call 37; refine (OF.out _ (by first | exact kB.trans kz | exact (kB.trans kz).drew)).mono ?_; rintro e w4 ⟨rfl, k4⟩; replace kz : Keeps W w4 := by first | exact kz.trans k4 | exact kz.trans k4.undrew
           clear k4))
  all_goals
    have kf := kB.trans kz
    clear HS LN CO CK OF
    go_wp2
    refine bodyPost_ret (v := .tuple #[.int .i64 ((n : Int) / x), .int .i64 P, .int .i64 0]) (by simp [results, Tryz.results7, go_sem]) rfl ⟨rfl, by first | exact kf | exact kf.drew⟩
theorem chkE_bad (F : Fr) (v : Bool) (h : F.ok = false ∨ v = false) : chkE F v = (if F.ok = false then 1 else 2) := by
  unfold chkE
  rcases h with h | h
  · simp [h]
  · subst h; cases F.ok <;> rfl
theorem refPart_any (F : Fr) (n c : Int) (w : World) (hI : F.In w) : Calls Tryz.prog 7 #[F.v, .int .i64 n, .int .i64 c] w (Ret (.tuple #[.int .i64 (partR F n c).1, .int .i64 (partR F n c).2.1, .int .i64 (partR F n c).2.2]) w) := by
  cases hok : F.ok with
  | false =>
    rw [part_arg F hok]
    exact refPart_err F n c _ _ rfl rfl w hI 1 (by rw [chkE_bad F _ (.inl hok), if_pos hok]) rfl
  | true =>
    by_cases h : c < 0 ∨ F.ws.length ≤ c ∨ n < 0 ∨ 2000 < n
    · rw [part_range F hok h]
      have hv : (decide (0 ≤ n ∧ n ≤ 2000) && decide (0 ≤ c ∧ c < F.ws.length)) = false := by
        rw [← Bool.not_eq_true, Bool.and_eq_true, decide_eq_true_eq, decide_eq_true_eq]
        omega
      exact refPart_err F n c _ _ rfl rfl w hI 2 (by rw [hv, chkE_bad F _ (.inr rfl), if_neg (by simp [hok])]) rfl
    · obtain ⟨m, rfl⟩ := Int.eq_ofNat_of_zero_le (show 0 ≤ n by omega)
      obtain ⟨d, rfl⟩ := Int.eq_ofNat_of_zero_le (show 0 ≤ c by omega)
      rw [part_ok F hok (show d < F.ws.length by omega) rfl (by omega) (by omega)]
      exact refPart_ok F m d _ (by omega) (by omega) hok rfl w hI
/-- An append at a step of a region that draws its order, by its run. -/
theorem step_append_at {P : Program} {w : World} {ops : Array Oper} {o : Oper} {a : Act} {K : Act → World → Prop} {Q : Exit → Act → World → Prop} {E : Prop} (hgd : o.guard = none) (s x : Operand) (t : TypeId)
    (ho : o.op = .call { callee := .builtin .append, args := #[s, x], argTypes := #[t, t] }) (v u : Value) (hs : a.eval s = v) (hx : a.eval x = u) (R : Value → World → Prop)
    (hr : ∃ v' w', (Builtin.append_ #[t, t] o.type #[v, u]).run P w = .ok v' w' ∧ R v' w')
    (h : ∀ v' w', R v' w' → K (a.put o.dst v') w') : if Region.wanted o (yielded ops a.tmps) = true then Oper.wp P o a w K Q else E := by
  have hw : Region.wanted o (yielded ops a.tmps) = true := by simp [Region.wanted, hgd]
  rw [if_pos hw]
  obtain ⟨v', w', hr, hR⟩ := hr
  unfold Oper.wp execOp
  simp only [ho, resolve, invoke, builtin, Sem.run_bind, Sem.run_pure, Result.andThen_ok, List.map_toArray, List.map_cons, List.map_nil, hs, hx, hr]
  exact h v' w' hR
/-- Two ints in a block appended to a row of spans. -/
theorem append_span (w : World) (base : Nat) (ty : TypeId) (v : Value) (n : Nat) (l : List Value) (hown : w.ownsRow base 24 2 v n l) (b : Nat) (x y : Int) (h0 : w.cell? ⟨b, 0, none⟩ = some (.int .i64 x)) (h1 : w.cell? ⟨b, 1, none⟩ = some (.int .i64 y)) (hn : n ≤ 1000) (hbase : base ≤ w.heap.size) :
    ∃ v' w', (Builtin.append_ #[33, 33] ty #[v, .slice (some ⟨b, 0, none⟩) 1 1]).run Tryz.prog w = .ok v' w' ∧ (w'.ownsRow base 24 2 v' (n + 1) (l ++ [.int .i64 x, .int .i64 y]) ∧ w.grownBy w' v.ownBlock) := by
  obtain ⟨i0, hi, hz0, hz1, hz2⟩ := info_parts info_span
  obtain ⟨v', w', h1, h2, h3, _⟩ := run_append_own (P := Tryz.prog) w base 33 ty 24 i0 (.agg #[.int .i64 0, .int .i64 0]) 2 16 Tryz.underlying33 hi hz0 hz1 hz2 rfl (by decide) v n l hown ⟨b, 0, none⟩ 1 1 [.int .i64 x, .int .i64 y] rfl (by
    intro j u hu
    match j, hu with
    | 0, hu => cases hu; exact h0
    | 1, hu => cases hu; exact h1
    | j + 2, hu => simp at hu) (by simp [Value.oneCell']) (by unfold maxLen; omega) (by omega) hbase
  exact ⟨v', w', h1, h2, h3⟩
theorem two_at0 (w : World) (n : Nat) (a b : Value) (t : TypeId) : ((w.drewN n).alloc (.cells #[a, b] t)).cell? ⟨w.heap.size, 0, none⟩ = some a := by
  show ((w.drewN n).alloc (.cells #[a, b] t)).cell? ⟨(w.drewN n).heap.size, 0, none⟩ = some a
  generalize w.drewN n = W
  simp [go_sem]
theorem two_at1 (w : World) (n : Nat) (a b : Value) (t : TypeId) : ((w.drewN n).alloc (.cells #[a, b] t)).cell? ⟨w.heap.size, 1, none⟩ = some b := by
  show ((w.drewN n).alloc (.cells #[a, b] t)).cell? ⟨(w.drewN n).heap.size, 1, none⟩ = some b
  generalize w.drewN n = W
  simp [go_sem]
theorem told_len (F : Fr) : (toldL F).length ≤ 401 := by
  unfold toldL
  split
  · rename_i h
    rw [intsOf_len]
    refine F.truths_len ?_
    cases hok : F.ok
    · rw [lenE_1 hok] at h; exact absurd h (by decide)
    · rfl
  · simp
theorem told_bd (F : Fr) : ∀ i, i < (toldL F).length → 0 ≤ (toldL F)[i]?.getD 0 ∧ (toldL F)[i]?.getD 0 ≤ 2000 := by
  unfold toldL
  split
  · exact fun i h => intsOf_bd h
  · intro i h; simp at h
theorem told_spans (F : Fr) : spTo (toldL F) (toldL F).length = lenL F := by
  cases hok : F.ok with
  | false => rw [toldL, lenE_1 hok]; simp [lenL, hok, spTo]
  | true =>
    by_cases ht : F.truths = []
    · rw [toldL, lenE_10 hok ht]; simp [lenL, hok, ht, spTo]
    · rw [toldL, lenE_0 hok ht, if_pos rfl, spTo_all]; simp [lenL, hok, ht]
theorem ints_take {L : List Int} {w : World} {bl ol : Nat} (h : ∀ i, i < L.length → w.cell? ⟨bl, ol + i, none⟩ = some (.int .i64 (L[i]?.getD 0))) {k : Nat} (hk : k < L.length) {x : Int} (hx : L[k]?.getD 0 = x) : w.cell? ⟨bl, ol + k, none⟩ = some (.int .i64 x) := by
  rw [← hx]; exact h k hk
set_option maxRecDepth 100000 in
set_option maxHeartbeats 6400000 in
theorem refLengths_any (F : Fr) (w : World) (hI : F.In w) : Calls Tryz.prog 9 #[F.v] w fun e w' => ∃ a cap, e = .returned (.tuple #[.slice a (lenL F).length cap, .int .i64 (lenE F)]) ∧ Sps w' a (lenL F) ∧ Keeps w w' := by
  have TO := Lib.hid (fun w1 (k : Keeps w w1) => refTold_any F w1 (hI.keep k))
  have hlen := told_len F
  have LB := Lib.hid (told_bd F)
  have LS := Lib.hid (told_spans F)
  obtain ⟨E, hE⟩ : ∃ E, lenE F = E := ⟨_, rfl⟩
  obtain ⟨L, hL⟩ : ∃ L, toldL F = L := ⟨_, rfl⟩
  obtain ⟨S, hS⟩ : ∃ S, lenL F = S := ⟨_, rfl⟩
  rw [hE, hL] at TO
  rw [hL] at hlen LB LS
  rw [hS] at LS ⊢
  rw [hE]
  obtain ⟨wa, wc, ws, lo, hi, ra, rc, rs⟩ := F
  dsimp only [Fr.v] at *
  clear hI hE hL hS
  have kB := (Keeps.refl w).alloc (.cells #[.slice wa ws.length wc, .int .i64 lo, .int .i64 hi, .slice ra rs.length rc] 27)
  go_enter Tryz.func9, Tryz.ntmps9
  go_wp2_with fail
  refine (TO.out _ kB).mono ?_
  rintro e w1 ⟨a, cap, rfl, hI1, k1⟩
  have HL := Lib.hid hI1
  replace kB := kB.trans k1
  have SL := Lib.hid (spTo_len L)
  have SN := Lib.hid (fun k (hk : k < L.length) => spTo_succ hk)
  have SB := Lib.hid (fun k (hk : k ≤ L.length) => spTo_last L LB.out k hk)
  clear TO hI1 k1
  have AS := Lib.hid (fun w2 v n l ho b x y h0 h1 hn hb => append_span w2 w1.heap.size 33 v n l ho b x y h0 h1 hn hb)
  go_wp2_with fail
  go_loopw [6, 7] (fun o i wr => ∃ (k : Nat) (v : Value), k ≤ L.length ∧ i = .int .i64 k ∧ o = v ∧ wr.ownsRow w1.heap.size 24 2 v (spTo L k).length (spCells (spTo L k)) ∧ (v = .slice none 0 0 ↔ spTo L k = []) ∧ Keeps w1 wr) (fun _ i _ => L.length - (intOf i).toNat)
  case atStart => exact ⟨0, _, Nat.zero_le _, rfl, rfl, World.ownsRow_nil _ _ _ _, by simp [spTo], Keeps.refl _⟩
  case round =>
    obtain ⟨k, v, hk, rfl, rfl, hrow, hnil, hkp⟩ := hrel
    have hsl := SL.out k
    by_cases hlt : k < L.length
    · obtain ⟨bl, ol, rfl, hcs⟩ := (HL.out.keep hkp) (by intro e; rw [e] at hlt; simp at hlt)
      have hb := LB.out k hlt
      have hsn := SN.out k hlt
      have hlast := SB.out k (by omega)
      obtain ⟨x, hx⟩ : ∃ x, L[k]?.getD 0 = x := ⟨_, rfl⟩
      rw [hx] at hb hsn
      have hcc := ints_take hcs hlt hx
      have hlb := lt_of_cell hcc
      clear hcs hx
      obtain ⟨sp, hsp⟩ : ∃ sp, spTo L k = sp := ⟨_, rfl⟩
      rw [hsp] at hrow hnil hsl hsn hlast
      have HN := Lib.hid hsn
      have HR := Lib.hid hrow
      clear hsn
      rcases List.eq_nil_or_concat sp with e | ⟨l', ⟨lo', hi'⟩, e⟩
      · subst e
        obtain rfl := hnil.2 rfl
        have HZ := Lib.hid (hkp.size)
        have hsz := HZ.out
        clear hnil hlast hrow
        go_wp2_with fail
        go_big_quiet (fail)
        go_wp2_with fail
        go_region_law (first
          | (refine step_append_at (by rfl) (.tmp 47) (.tmp 57) 33 (by rfl) (.slice none 0 0) (.slice (some ⟨wr.heap.size, 0, none⟩) 1 1) (by simp [Act.eval]) (by simp [Act.eval]) _ (AS.out _ _ _ _ (by exact World.ownsRow.alloc (w := wr.drewN _) HR.out _) wr.heap.size x x (by exact two_at0 wr _ _ _ _) (by exact two_at1 wr _ _ _ _) (by first | omega | (simp; done) | (simp; omega)) (by first | omega | (simp; done) | (simp; omega))) ?_
             rintro v5 w5 ⟨ho5, hg5⟩
             have k5 : Keeps w1 w5 := Below.grown (by repeat' first | exact hkp | apply Keeps.alloc | apply Keeps.drewN | apply Keeps.drew) hg5 (by first | omega | (simp; done) | (simp; omega)) (fun j e => (HR.out.lt j e).1)
             have HO5 := Lib.hid ho5
             clear ho5 hg5))
        all_goals
          clear AS
          go_wp2
          go_roundw
          case rel => exact ⟨k + 1, v5, by omega, by go_num, rfl, by rw [HN.out, spStep_nil]; simpa [spCells] using HO5.out, by rw [HN.out, spStep_nil]; obtain ⟨g5, c5, rfl⟩ := ownsRow_succ HO5.out; simp, k5⟩
          case measure => simp [intOf]; omega
      · rw [List.concat_eq_append] at e
        subst e
        obtain ⟨hh0, hh1⟩ := hlast _ _ _ rfl
        have hset := spCells_set l' lo' hi' x
        have hlc := spCells_last l' lo' hi'
        clear hnil hlast
        obtain ⟨m, hm⟩ : ∃ m, l'.length = m := ⟨_, rfl⟩
        rw [hm] at hset hlc
        have hlen1 : (l' ++ [(lo', hi')]).length = m + 1 := by simp [hm]
        rw [hlen1] at hrow hsl
        obtain ⟨g, cap', rfl⟩ := ownsRow_succ hrow
        have hcell := (hrow.cellAt (m * 2 + 1) (by omega)).trans hlc
        have hfz := hrow.frozenAt (m * 2 + 1)
        have hlg := lt_of_cell hcell
        have Hm := Lib.hid hm
        have HS := Lib.hid (fun (q : Nat) => ((show (wr.drewN q).ownsRow w1.heap.size 24 2 _ _ _ from hrow).stored (m * 2 + 1) (.int .i64 x)).1)
        have HSS := Lib.hid hset
        have HBG := Lib.hid (ownsRow_base hrow)
        have hsz := hkp.size
        have HR2 := Lib.hid hrow
        clear hm hlen1 hlc hset hrow
        by_cases hx : hi' + 1 = x
        · have hb1 : (hi' == x - 1) = true := by rw [beq_iff_eq]; omega
          have Hx := Lib.hid hx
          clear hx
          go_wp2_with fail
          go_big_quiet (fail)
          go_wp2_with fail
          rw [HSS.out] at HS
          go_roundw
          case rel => exact ⟨k + 1, _, by omega, by go_num, rfl, by rw [HN.out, spStep_set Hx.out]; simpa [Hm.out] using HS.out _, by rw [HN.out, spStep_set Hx.out]; simp, (hkp.drewN _).setCell _ HBG.out⟩
          case measure => simp [intOf]; omega
        · have hb1 : (hi' == x - 1) = false := by rw [beq_eq_false_iff_ne]; omega
          have Hx := Lib.hid hx
          clear hx
          go_wp2_with fail
          go_big_quiet (fail)
          go_wp2_with fail
          go_region_law (first
            | (refine step_append_at (by rfl) (.tmp 47) (.tmp 57) 33 (by rfl) (.slice (some ⟨g, 0, none⟩) (m + 1) cap') (.slice (some ⟨wr.heap.size, 0, none⟩) 1 1) (by simp [Act.eval]) (by simp [Act.eval]) _ (AS.out _ _ _ _ (by exact World.ownsRow.alloc (w := wr.drewN _) HR2.out _) wr.heap.size x x (by exact two_at0 wr _ _ _ _) (by exact two_at1 wr _ _ _ _) (by first | omega | (simp; done) | (simp; omega)) (by first | omega | (simp; done) | (simp; omega))) ?_
               rintro v5 w5 ⟨ho5, hg5⟩
               have k5 : Keeps w1 w5 := Below.grown (by repeat' first | exact hkp | apply Keeps.alloc | apply Keeps.drewN | apply Keeps.drew) hg5 (by first | omega | (simp; done) | (simp; omega)) (fun j e => (HR2.out.lt j e).1)
               have HO5 := Lib.hid ho5
               clear ho5 hg5))
          all_goals
            clear AS
            go_wp2
            go_roundw
            case rel => exact ⟨k + 1, v5, by omega, by go_num, rfl, by rw [HN.out, spStep_new Hx.out, spCells_append]; simpa [spCells, Hm.out] using HO5.out, by rw [HN.out, spStep_new Hx.out]; obtain ⟨g5, c5, rfl⟩ := ownsRow_succ HO5.out; simp, k5⟩
            case measure => simp [intOf]; omega
    · obtain rfl : k = L.length := by omega
      rw [LS.out] at hrow
      obtain ⟨a5, c5, rfl, hs5⟩ := SpansAt.of_owns hrow
      have HS5 := Lib.hid hs5
      clear hrow hnil hs5
      go_wp2_with fail
      refine bodyPost_ret (v := .tuple #[.slice a5 S.length c5, .int .i64 E]) (by simp [results, Tryz.results9, go_sem]) rfl ⟨a5, c5, rfl, HS5.out, kB.trans hkp⟩
end Go.Proofs.YtoidnbpbeblokaaGreat
