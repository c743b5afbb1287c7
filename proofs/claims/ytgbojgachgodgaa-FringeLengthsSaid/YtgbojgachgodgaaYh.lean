/-
  Ints, Spans: are two lists the same?
-/
import Derived.Laws.StructEq
import Derived.Test.YtgbojgachgodgaaYe
namespace Go.Proofs.Ytgbojgachgodgaa
open Go.RowKit Go.Shelf

theorem list_eq_getD {α : Type} {d : α} {xs ys : List α} (hl : xs.length = ys.length) (h : ∀ j, j < xs.length → xs[j]?.getD d = ys[j]?.getD d) : xs = ys := by
  apply List.ext_getElem hl
  intro j h1 h2
  have := h j h1
  simpa [List.getElem?_eq_getElem h1, List.getElem?_eq_getElem h2] using this
theorem list_ne_getD {α : Type} {d : α} {xs ys : List α} {k : Nat} (h : xs[k]?.getD d ≠ ys[k]?.getD d) : xs ≠ ys := fun e => h (by rw [e])

set_option maxHeartbeats 1600000 in
theorem refInts_any (a b : Option Addr) (ca cb : Nat) (xs ys : List Int) (w : World) (ha : Ints w a xs) (hb : Ints w b ys) (hxl : xs.length ≤ maxLen) :
    Calls Try.prog 28 #[.slice a xs.length ca, .slice b ys.length cb] w (RetB (decide (xs = ys)) w) := by
  unfold maxLen at hxl
  by_cases hl : xs.length = ys.length
  · have hbl : decide (xs.length = ys.length) = true := by simpa using hl
    have HA := Lib.hid ha
    have HB := Lib.hid hb
    rw [← hl]
    obtain ⟨n, hn⟩ : ∃ n, xs.length = n := ⟨_, rfl⟩
    have hyn : ys.length = n := by omega
    have HL := Lib.hid hn
    have HY := Lib.hid hyn
    rw [hn] at hxl ⊢
    clear ha hb hl hbl hn hyn
    go_enter Try.func28, Try.ntmps28
    go_wp2
    go_loopw [5] (fun i wr => ∃ k : Nat, k ≤ n ∧ i = .int .i64 k ∧ (∀ j, j < k → xs[j]?.getD 0 = ys[j]?.getD 0) ∧ Keeps w wr) (fun i _ => n - (intOf i).toNat)
    case atStart => exact ⟨0, Nat.zero_le _, rfl, fun j hj => absurd hj (by omega), Keeps.refl _⟩
    case round =>
      obtain ⟨k, hk, rfl, hall, hkp⟩ := hrel
      have Hall := Lib.hid hall
      clear hall
      by_cases hlt : k < n
      · obtain ⟨b1, o1, rfl, hc1⟩ := (HA.out).keep hkp (by intro e; have := HL.out; rw [e] at this; simp at this; omega)
        obtain ⟨b2, o2, rfl, hc2⟩ := (HB.out).keep hkp (by intro e; have := HY.out; rw [e] at this; simp at this; omega)
        have h1 := hc1 k (by rw [HL.out]; exact hlt)
        have h2 := hc2 k (by rw [HY.out]; exact hlt)
        obtain ⟨x, hx⟩ : ∃ x, xs[k]?.getD 0 = x := ⟨_, rfl⟩
        obtain ⟨y, hy⟩ : ∃ y, ys[k]?.getD 0 = y := ⟨_, rfl⟩
        rw [hx] at h1
        rw [hy] at h2
        have Hx := Lib.hid hx
        have Hy := Lib.hid hy
        clear hx hy hc1 hc2
        have i1 : (0 : Int) ≤ (k : Int) := by omega
        have i2 : (k : Int) < (n : Int) := by omega
        by_cases e : x = y
        · have eb : (x != y) = false := by simp [e]
          have E := Lib.hid e
          clear e
          go_wp2
          go_region
          go_wp2
          go_roundw
          case rel => exact ⟨k + 1, by omega, by go_num, fun j hj => by
            by_cases e : j = k
            · subst e; rw [Hx.out, Hy.out, E.out]
            · exact Hall.out j (by omega), hkp.drew⟩
          case measure => simp [intOf]; omega
        · have eb : (x != y) = true := by simp [e]
          have E := Lib.hid e
          clear e
          go_wp2
          go_region
          go_wp2
          go_ret
          refine RetB.mk ?_ hkp.drew
          symm
          rw [decide_eq_false_iff_not]
          exact list_ne_getD (d := 0) (k := k) (by rw [Hx.out, Hy.out]; exact E.out)
      · go_wp2
        go_ret
        refine RetB.mk ?_ hkp
        symm
        rw [decide_eq_true_eq]
        exact list_eq_getD (d := 0) (by rw [HL.out, HY.out]) (fun j hj => Hall.out j (by have := HL.out; omega))
  · have hbl : ((xs.length : Int) != (ys.length : Int)) = true := by simp; omega
    have hd : decide (xs = ys) = false := by rw [decide_eq_false_iff_not]; exact fun e => hl (by rw [e])
    rw [hd]
    have HL := Lib.hid hl
    clear hl hd
    go_enter Try.func28, Try.ntmps28
    go_wp2
    all_goals first | (exfalso; exact HL.out (by omega)) | (go_ret; exact RetB.mk rfl (Keeps.refl _))
/-- The slice at a holds these spans. -/
def Sps (w : World) (a : Option Addr) (l : List Sp) : Prop := l ≠ [] → ∃ b o, a = some ⟨b, o, none⟩ ∧ ∀ i, i < l.length → w.cell? ⟨b, o + i * 2, none⟩ = some (.int .i64 (l[i]?.getD (0, 0)).1) ∧ w.cell? ⟨b, o + i * 2 + 1, none⟩ = some (.int .i64 (l[i]?.getD (0, 0)).2)
theorem Sps.keep {w w' : World} {a : Option Addr} {l : List Sp} (h : Sps w a l) (k : Keeps w w') : Sps w' a l := by
  intro hne
  obtain ⟨b, o, ha, hc⟩ := h hne
  exact ⟨b, o, ha, fun i hi => ⟨k.cell (hc i hi).1, k.cell (hc i hi).2⟩⟩
theorem fields_span : Try.prog.underlying 24 = some (.struct (Try.prog.fieldsOf 24)) := by kernel_rfl
theorem held_span : Try.prog.stoodInHeld 24 = false := by kernel_rfl
theorem guard_span : Try.prog.eqGuardType Try.prog.depth 24 = false := by kernel_rfl
theorem list_span : (Try.prog.fieldsOf 24).toList.map (fun f => (f.name, f.type, f.offset)) = [("Lo", 3, 0), ("Hi", 3, 1)] := by kernel_rfl
theorem equal_span (x x' y y' : Int) (w : World) : (Op.equalIn 10000 24 (.agg #[.int .i64 x, .int .i64 x']) (.agg #[.int .i64 y, .int .i64 y'])).run Try.prog w = .ok (x == y && x' == y') w := by
  rw [run_equalIn_agg w 9999 _ _ _ fields_span held_span]
  have h := list_span
  match hf : (Try.prog.fieldsOf 24).toList, h with
  | [f, g], h =>
    simp only [List.map_cons, List.map_nil, List.cons.injEq, Prod.mk.injEq, and_true] at h
    obtain ⟨⟨h1, h2, h3⟩, h4, h5, h6⟩ := h
    simp [Op.eqFields, h1, h2, h3, h4, h5, h6, go_sem]
    by_cases e1 : x = y <;> by_cases e2 : x' = y' <;> simp [e1, e2]
  | [], h => simp at h
  | [_], h => simp at h
  | _ :: _ :: _ :: _, h => simp at h
theorem neq_span (x x' y y' : Int) (w : World) : (binOp .neq 24 (.agg #[.int .i64 x, .int .i64 x']) (.agg #[.int .i64 y, .int .i64 y'])).run Try.prog w = .ok (.bool (!(x == y && x' == y'))) w := by
  rw [run_neq_struct, equal_span]
  rfl
theorem agg_ne {x x' y y' : Int} (h : ¬ (x = y ∧ x' = y')) : (x == y && x' == y') = false := by simpa using h
set_option maxHeartbeats 1600000 in
theorem refSpans_any (a b : Option Addr) (ca cb : Nat) (xs ys : List Sp) (w : World) (ha : Sps w a xs) (hb : Sps w b ys) (hxl : xs.length ≤ maxLen) :
    Calls Try.prog 38 #[.slice a xs.length ca, .slice b ys.length cb] w (RetB (decide (xs = ys)) w) := by
  unfold maxLen at hxl
  by_cases hl : xs.length = ys.length
  · have hbl : decide (xs.length = ys.length) = true := by simpa using hl
    have HA := Lib.hid ha
    have HB := Lib.hid hb
    rw [← hl]
    obtain ⟨n, hn⟩ : ∃ n, xs.length = n := ⟨_, rfl⟩
    have hyn : ys.length = n := by omega
    have HL := Lib.hid hn
    have HY := Lib.hid hyn
    rw [hn] at hxl ⊢
    clear ha hb hl hbl hn hyn
    go_enter Try.func38, Try.ntmps38
    go_wp2
    go_loopw [5] (fun i wr => ∃ k : Nat, k ≤ n ∧ i = .int .i64 k ∧ (∀ j, j < k → xs[j]?.getD (0, 0) = ys[j]?.getD (0, 0)) ∧ Keeps w wr) (fun i _ => n - (intOf i).toNat)
    case atStart => exact ⟨0, Nat.zero_le _, rfl, fun j hj => absurd hj (by omega), Keeps.refl _⟩
    case round =>
      obtain ⟨k, hk, rfl, hall, hkp⟩ := hrel
      have Hall := Lib.hid hall
      clear hall
      by_cases hlt : k < n
      · obtain ⟨b1, o1, rfl, hc1⟩ := (HA.out).keep hkp (by intro e; have := HL.out; rw [e] at this; simp at this; omega)
        obtain ⟨b2, o2, rfl, hc2⟩ := (HB.out).keep hkp (by intro e; have := HY.out; rw [e] at this; simp at this; omega)
        have h1 := hc1 k (by rw [HL.out]; exact hlt)
        have h2 := hc2 k (by rw [HY.out]; exact hlt)
        obtain ⟨⟨x, x'⟩, hx⟩ : ∃ x, xs[k]?.getD (0, 0) = x := ⟨_, rfl⟩
        obtain ⟨⟨y, y'⟩, hy⟩ : ∃ y, ys[k]?.getD (0, 0) = y := ⟨_, rfl⟩
        rw [hx] at h1
        rw [hy] at h2
        dsimp only at h1 h2
        obtain ⟨h1, h1'⟩ := h1
        obtain ⟨h2, h2'⟩ := h2
        have Hx := Lib.hid hx
        have Hy := Lib.hid hy
        clear hx hy hc1 hc2
        have i1 : (0 : Int) ≤ (k : Int) := by omega
        have i2 : (k : Int) < (n : Int) := by omega
        by_cases e : x = y ∧ x' = y'
        · have eb : ∀ w, (binOp .neq 24 (.agg #[.int .i64 x, .int .i64 x']) (.agg #[.int .i64 y, .int .i64 y'])).run Try.prog w = .ok (.bool false) w := fun w => by rw [neq_span]; simp [e.1, e.2]
          have gd := fun (o1 o2 : Operand) (w : World) => run_eqGuard_agg w .neq 24 o1 o2 #[.int .i64 x, .int .i64 x'] #[.int .i64 y, .int .i64 y'] guard_span
          have E := Lib.hid e
          clear e
          go_wp2
          go_region
          go_wp2
          go_roundw
          case rel => exact ⟨k + 1, by omega, by go_num, fun j hj => by
            by_cases e : j = k
            · subst e; rw [Hx.out, Hy.out, E.out.1, E.out.2]
            · exact Hall.out j (by omega), hkp.drew⟩
          case measure => simp [intOf]; omega
        · have eb : ∀ w, (binOp .neq 24 (.agg #[.int .i64 x, .int .i64 x']) (.agg #[.int .i64 y, .int .i64 y'])).run Try.prog w = .ok (.bool true) w := fun w => by rw [neq_span, agg_ne e]; rfl
          have gd := fun (o1 o2 : Operand) (w : World) => run_eqGuard_agg w .neq 24 o1 o2 #[.int .i64 x, .int .i64 x'] #[.int .i64 y, .int .i64 y'] guard_span
          have E := Lib.hid e
          clear e
          go_wp2
          go_region
          go_wp2
          go_ret
          refine RetB.mk ?_ hkp.drew
          symm
          rw [decide_eq_false_iff_not]
          exact list_ne_getD (d := (0, 0)) (k := k) (by rw [Hx.out, Hy.out]; exact fun h => E.out (Prod.mk.inj h))
      · go_wp2
        go_ret
        refine RetB.mk ?_ hkp
        symm
        rw [decide_eq_true_eq]
        exact list_eq_getD (d := (0, 0)) (by rw [HL.out, HY.out]) (fun j hj => Hall.out j (by have := HL.out; omega))
  · have hbl : ((xs.length : Int) != (ys.length : Int)) = true := by simp; omega
    have hd : decide (xs = ys) = false := by rw [decide_eq_false_iff_not]; exact fun e => hl (by rw [e])
    rw [hd]
    have HL := Lib.hid hl
    clear hl hd
    go_enter Try.func38, Try.ntmps38
    go_wp2
    all_goals first | (exfalso; exact HL.out (by omega)) | (go_ret; exact RetB.mk rfl (Keeps.refl _))
end Go.Proofs.Ytgbojgachgodgaa
