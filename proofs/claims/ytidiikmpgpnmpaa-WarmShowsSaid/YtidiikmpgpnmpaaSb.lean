/-
  WarmShows answers true for every block and every two numbers: what a block can show in a span of warmth is all that it can at each warmth of it, it never shows less where it is warmer, and at a warmth it shows what each pair gives and no other one. No condition.
-/
import Derived.Test.YtidiikmpgpnmpaaF4
import Derived.Test.YtidiikmpgpnmpaaG4
import Derived.Test.YtidiikmpgpnmpaaG1
import Derived.Test.YtidiikmpgpnmpaaZk
import Derived.Deep.DeepCutAuto
namespace Go.Proofs.Ytidiikmpgpnmpaa
open Go.RowKit

/-- The least and the greatest of what P says. -/
def Ends (P : Int → Prop) (u v : Int) : Prop := P u ∧ P v ∧ ∀ x, P x → u ≤ x ∧ x ≤ v
theorem Ends.same {P : Int → Prop} {u v u' v' : Int} (h : Ends P u v) (h' : Ends P u' v') : u = u' ∧ v = v' := by
  have h1 := h.2.2 _ h'.1
  have h2 := h.2.2 _ h'.2.1
  have h3 := h'.2.2 _ h.1
  have h4 := h'.2.2 _ h.2.1
  omega
theorem foldl_min (ys : List Int) : ∀ i : Int, (ys.foldl min i = i ∨ ys.foldl min i ∈ ys) ∧ ys.foldl min i ≤ i ∧ ∀ x ∈ ys, ys.foldl min i ≤ x := by
  induction ys with
  | nil => intro i; exact ⟨.inl rfl, Int.le_refl _, fun x hx => by cases hx⟩
  | cons y ys ih =>
    intro i
    obtain ⟨h1, h2, h3⟩ := ih (min i y)
    rw [List.foldl_cons]
    refine ⟨?_, by omega, fun x hx => ?_⟩
    · rcases h1 with h1 | h1
      · rw [h1]
        rcases Int.le_total i y with h | h
        · exact .inl (by omega)
        · exact .inr (by rw [show min i y = y by omega]; exact List.mem_cons_self)
      · exact .inr (List.mem_cons_of_mem _ h1)
    · rcases List.mem_cons.1 hx with e | e
      · subst e; omega
      · exact h3 x e
theorem foldl_max (ys : List Int) : ∀ i : Int, (ys.foldl max i = i ∨ ys.foldl max i ∈ ys) ∧ i ≤ ys.foldl max i ∧ ∀ x ∈ ys, x ≤ ys.foldl max i := by
  induction ys with
  | nil => intro i; exact ⟨.inl rfl, Int.le_refl _, fun x hx => by cases hx⟩
  | cons y ys ih =>
    intro i
    obtain ⟨h1, h2, h3⟩ := ih (max i y)
    rw [List.foldl_cons]
    refine ⟨?_, by omega, fun x hx => ?_⟩
    · rcases h1 with h1 | h1
      · rw [h1]
        rcases Int.le_total i y with h | h
        · exact .inr (by rw [show max i y = y by omega]; exact List.mem_cons_self)
        · exact .inl (by omega)
      · exact .inr (List.mem_cons_of_mem _ h1)
    · rcases List.mem_cons.1 hx with e | e
      · subst e; omega
      · exact h3 x e
theorem ends_list {ys : List Int} (h : ys ≠ []) (hb : ∀ x ∈ ys, -30000 ≤ x ∧ x ≤ 30000) : Ends (fun x => x ∈ ys) (loI ys) (hiI ys) := by
  obtain ⟨y, hy⟩ := List.exists_mem_of_ne_nil ys h
  have hy2 := hb y hy
  obtain ⟨a1, a2, a3⟩ := foldl_min ys 9223372036854775807
  obtain ⟨b1, b2, b3⟩ := foldl_max ys (-9223372036854775808)
  have a4 := a3 y hy
  have b4 := b3 y hy
  unfold loI hiI
  refine ⟨a1.resolve_left (by omega), b1.resolve_left (by omega), fun x hx => ⟨a3 x hx, b3 x hx⟩⟩
/-- What a truth can show at a warmth of these. -/
def Sh (B : Wm) (lo hi x : Int) : Prop := ∃ p ∈ B.truths, ∃ t, (lo ≤ t ∧ t ≤ hi) ∧ x = shI B.mark p.1.1 p.1.2 t
theorem mem_showL {B : Wm} {lo hi x : Int} : x ∈ B.showL lo hi ↔ Sh B lo hi x := by
  unfold Wm.showL Sh
  rw [List.mem_flatMap]
  refine exists_congr fun p => and_congr_right fun _ => ?_
  unfold shTo
  rw [List.mem_map]
  constructor
  · rintro ⟨i, hi', rfl⟩
    rw [List.mem_range] at hi'
    exact ⟨lo + (i : Int), ⟨by omega, by omega⟩, rfl⟩
  · rintro ⟨t, ⟨h1, h2⟩, rfl⟩
    refine ⟨(t - lo).toNat, by rw [List.mem_range]; omega, ?_⟩
    rw [show lo + ((t - lo).toNat : Int) = t by omega]
    rfl
theorem shows_ends {B : Wm} (hok : B.ok = true) (ht : B.truths.isEmpty = false) {lo hi : Int} (h0 : -100 ≤ lo) (h1 : lo ≤ hi) (h2 : hi ≤ 100) : ∃ u v, B.showsA lo hi = ((u, v), 0) ∧ Ends (Sh B lo hi) u v ∧ (-30000 ≤ u ∧ u ≤ 30000) ∧ -30000 ≤ v ∧ v ≤ 30000 := by
  have hL := Wm.ok_lim hok
  have hb : ∀ x, Sh B lo hi x → -30000 ≤ x ∧ x ≤ 30000 := by
    rintro x ⟨p, _, t, ⟨t1, t2⟩, rfl⟩
    exact shI_bd p hL.m1 hL.m2 (by omega) (by omega)
  have hne : B.showL lo hi ≠ [] := by
    intro e
    have hT : B.truths ≠ [] := fun e => by rw [e] at ht; cases ht
    obtain ⟨p, hp⟩ := List.exists_mem_of_ne_nil _ hT
    have : shI B.mark p.1.1 p.1.2 lo ∈ B.showL lo hi := mem_showL.2 ⟨p, hp, lo, ⟨by omega, h1⟩, rfl⟩
    rw [e] at this
    cases this
  have hE := ends_list hne (fun x hx => hb x (mem_showL.1 hx))
  have hE2 : Ends (Sh B lo hi) (loI (B.showL lo hi)) (hiI (B.showL lo hi)) := ⟨mem_showL.1 hE.1, mem_showL.1 hE.2.1, fun x hx => hE.2.2 x (mem_showL.2 hx)⟩
  refine ⟨_, _, ?_, hE2, hb _ hE2.1, hb _ hE2.2.1⟩
  unfold Wm.showsA
  rw [if_pos (by unfold inS; simp only [decide_eq_true_eq]; omega), say_yes hok ht]
theorem sh_up {m L c t t' : Int} (hm : 0 ≤ m) (hc : 0 ≤ c) (h : t ≤ t') : shI m L c t ≤ shI m L c t' := by
  have := Int.mul_le_mul_of_nonneg_left h (Int.mul_nonneg hm hc)
  unfold shI
  omega
/-- All that was told so far: nothing, or the ends of it. -/
def AllE (B : Wm) (lo t a b : Int) : Prop := (t = lo ∧ a = 1073741824 ∧ b = -1073741824) ∨ (lo < t ∧ Ends (Sh B lo (t - 1)) a b)
def LastE (B : Wm) (lo t a b : Int) : Prop := (t = lo ∧ a = -1073741824 ∧ b = -1073741824) ∨ (lo < t ∧ Ends (Sh B (t - 1) (t - 1)) a b)
theorem LastE.le {B : Wm} (hok : B.ok = true) {lo t a b u v : Int} (h : LastE B lo t a b) (hE : Ends (Sh B t t) u v) (hu : -30000 ≤ u) (hv : -30000 ≤ v) : a ≤ u ∧ b ≤ v := by
  have hL := Wm.ok_lim hok
  have hm := hL.m1
  rcases h with ⟨_, rfl, rfl⟩ | ⟨_, hP⟩
  · omega
  · constructor
    · obtain ⟨p, hp, t1, ht1, hx⟩ := hE.1
      have h1 := (hP.2.2 _ ⟨p, hp, t - 1, by omega, rfl⟩).1
      have h2 := sh_up (m := B.mark) (L := p.1.1) (c := p.1.2) (t := t - 1) (t' := t1) (by omega) p.2.2.2.1 (by omega)
      omega
    · obtain ⟨p, hp, t1, ht1, hx⟩ := hP.2.1
      have h1 := (hE.2.2 _ ⟨p, hp, t, by omega, rfl⟩).2
      have h2 := sh_up (m := B.mark) (L := p.1.1) (c := p.1.2) (t := t1) (t' := t) (by omega) p.2.2.2.1 (by omega)
      omega
theorem LastE.next {B : Wm} {lo t u v : Int} (h : lo ≤ t) (hE : Ends (Sh B t t) u v) : LastE B lo (t + 1) u v := .inr ⟨by omega, by rw [show t + 1 - 1 = t by omega]; exact hE⟩
theorem Ends.le {P : Int → Prop} {u v : Int} (h : Ends P u v) : u ≤ v := (h.2.2 _ h.1).2
theorem AllE.next {B : Wm} {lo t a b u v : Int} (h0 : lo ≤ t) (h : AllE B lo t a b) (hE : Ends (Sh B t t) u v) (hu : -30000 ≤ u ∧ u ≤ 30000) (hv : -30000 ≤ v ∧ v ≤ 30000) : AllE B lo (t + 1) (min a u) (max b v) := by
  refine .inr ⟨by omega, ?_⟩
  rw [show t + 1 - 1 = t by omega]
  have hle := hE.le
  have hup : ∀ x, Sh B t t x → Sh B lo t x := by
    rintro x ⟨p, hp, t1, ht1, rfl⟩
    exact ⟨p, hp, t1, by omega, rfl⟩
  rcases h with ⟨rfl, rfl, rfl⟩ | ⟨hlt, hP⟩
  · rw [show min 1073741824 u = u by omega, show max (-1073741824) v = v by omega]
    exact hE
  · have hup2 : ∀ x, Sh B lo (t - 1) x → Sh B lo t x := by
      rintro x ⟨p, hp, t1, ht1, rfl⟩
      exact ⟨p, hp, t1, by omega, rfl⟩
    refine ⟨?_, ?_, ?_⟩
    · rcases Int.le_total a u with h | h
      · rw [show min a u = a by omega]; exact hup2 _ hP.1
      · rw [show min a u = u by omega]; exact hup _ hE.1
    · rcases Int.le_total b v with h | h
      · rw [show max b v = v by omega]; exact hup _ hE.2.1
      · rw [show max b v = b by omega]; exact hup2 _ hP.2.1
    · rintro x ⟨p, hp, t1, ht1, rfl⟩
      by_cases e : t1 = t
      · subst e
        have := hE.2.2 _ ⟨p, hp, t1, by omega, rfl⟩
        omega
      · have := hP.2.2 _ ⟨p, hp, t1, by omega, rfl⟩
        omega
theorem AllE.stop {B : Wm} {lo t hi a b u v : Int} (h : AllE B lo t a b) (h1 : lo ≤ hi) (h2 : t = hi + 1) (hE : Ends (Sh B lo hi) u v) : a = u ∧ b = v := by
  rcases h with ⟨h, _⟩ | ⟨_, hP⟩
  · omega
  · rw [h2, show hi + 1 - 1 = hi by omega] at hP
    exact hP.same hE
/-- What the pairs before this one show: nothing, or the ends of it. -/
def OwnP (B : Wm) (lo a c x : Int) : Prop := ∃ p ∈ B.truths, (p.1.1 < a ∨ (p.1.1 = a ∧ p.1.2 < c)) ∧ x = shI B.mark p.1.1 p.1.2 lo
def OwnE (B : Wm) (lo a c u v : Int) : Prop := ((∀ x, ¬ OwnP B lo a c x) ∧ u = 1073741824 ∧ v = -1073741824) ∨ Ends (OwnP B lo a c) u v
theorem OwnE.start {B : Wm} (hok : B.ok = true) (lo : Int) : OwnE B lo B.llo B.clo 1073741824 (-1073741824) := by
  refine .inl ⟨?_, rfl, rfl⟩
  rintro x ⟨p, hp, h, _⟩
  have := truth_in hok hp
  omega
theorem OwnE.of_iff {B : Wm} {lo a c a' c' u v : Int} (h : OwnE B lo a c u v) (hi : ∀ p ∈ B.truths, (p.1.1 < a ∨ (p.1.1 = a ∧ p.1.2 < c)) ↔ (p.1.1 < a' ∨ (p.1.1 = a' ∧ p.1.2 < c'))) : OwnE B lo a' c' u v := by
  have e : OwnP B lo a c = OwnP B lo a' c' := by
    funext x
    refine propext (exists_congr fun p => and_congr_right fun hp => and_congr_left fun _ => hi p hp)
  unfold OwnE at *
  rw [← e]
  exact h
theorem OwnE.row {B : Wm} (hok : B.ok = true) {lo a c u v : Int} (h : OwnE B lo a c u v) (hc : B.chi < c) : OwnE B lo (a + 1) B.clo u v :=
  h.of_iff fun p hp => by have := truth_in hok hp; omega
theorem OwnE.skip {B : Wm} {lo a c u v : Int} (h : OwnE B lo a c u v) (hno : ∀ p ∈ B.truths, p.1 ≠ (a, c)) : OwnE B lo a (c + 1) u v :=
  h.of_iff fun p hp => by
    have : ¬ (p.1.1 = a ∧ p.1.2 = c) := fun e => hno p hp (Prod.ext e.1 e.2)
    omega
theorem OwnE.pair {B : Wm} {lo a c u v m : Int} (h : OwnE B lo a c u v) (p : Pr) (hp : p ∈ B.truths) (he : p.1 = (a, c)) (hm : m = shI B.mark a c lo) (hb : -30000 ≤ m ∧ m ≤ 30000) : OwnE B lo a (c + 1) (min u m) (max v m) := by
  have e1 : p.1.1 = a := by rw [he]
  have e2 : p.1.2 = c := by rw [he]
  have hm' : OwnP B lo a (c + 1) m := ⟨p, hp, by omega, by rw [e1, e2]; exact hm⟩
  refine .inr ?_
  have hcase : ∀ x, OwnP B lo a (c + 1) x → OwnP B lo a c x ∨ x = m := by
    rintro x ⟨q, hq, hl, rfl⟩
    by_cases e : q.1.1 = a ∧ q.1.2 = c
    · exact .inr (by rw [hm, e.1, e.2])
    · exact .inl ⟨q, hq, by omega, rfl⟩
  have hup : ∀ x, OwnP B lo a c x → OwnP B lo a (c + 1) x := by
    rintro x ⟨q, hq, hl, rfl⟩
    exact ⟨q, hq, by omega, rfl⟩
  rcases h with ⟨hno, rfl, rfl⟩ | hP
  · rw [show min 1073741824 m = m by omega, show max (-1073741824) m = m by omega]
    refine ⟨hm', hm', fun x hx => ?_⟩
    rcases hcase x hx with h | h
    · exact absurd h (hno x)
    · omega
  · have hle := hP.le
    refine ⟨?_, ?_, fun x hx => ?_⟩
    · rcases Int.le_total u m with h | h
      · rw [show min u m = u by omega]; exact hup _ hP.1
      · rw [show min u m = m by omega]; exact hm'
    · rcases Int.le_total v m with h | h
      · rw [show max v m = m by omega]; exact hm'
      · rw [show max v m = v by omega]; exact hup _ hP.2.1
    · rcases hcase x hx with h | h
      · have := hP.2.2 x h
        omega
      · omega
theorem OwnE.stop {B : Wm} (hok : B.ok = true) (ht : B.truths.isEmpty = false) {lo a c u v u' v' : Int} (h : OwnE B lo a c u v) (ha : B.lhi < a) (hE : Ends (Sh B lo lo) u' v') : u' = u ∧ v' = v := by
  have hall : ∀ p ∈ B.truths, OwnP B lo a c (shI B.mark p.1.1 p.1.2 lo) := fun p hp => ⟨p, hp, .inl (by have := truth_in hok hp; omega), rfl⟩
  rcases h with ⟨hno, _⟩ | hP
  · have hT : B.truths ≠ [] := fun e => by rw [e] at ht; cases ht
    obtain ⟨p, hp⟩ := List.exists_mem_of_ne_nil _ hT
    exact absurd (hall p hp) (hno _)
  · have hP2 : Ends (Sh B lo lo) u v := by
      refine ⟨?_, ?_, ?_⟩
      · obtain ⟨p, hp, _, hx⟩ := hP.1
        exact ⟨p, hp, lo, ⟨Int.le_refl _, Int.le_refl _⟩, hx⟩
      · obtain ⟨p, hp, _, hx⟩ := hP.2.1
        exact ⟨p, hp, lo, ⟨Int.le_refl _, Int.le_refl _⟩, hx⟩
      · rintro x ⟨p, hp, t, ht, rfl⟩
        obtain rfl : t = lo := by omega
        exact hP.2.2 _ (hall p hp)
    exact hE.same hP2
end Go.Proofs.Ytidiikmpgpnmpaa

namespace Go.Proofs.Ytidiikmpgpnmpaa
open Go.RowKit

/-- A span in a block of its own, and what is said beside it. -/
def Told (W : World) (u v err : Int) (a b : Value) (wx : World) : Prop := ∃ s, a = .pointer (some ⟨s, 0, none⟩) ∧ W.heap.size ≤ s ∧ TwoI wx s u v ∧ Keeps W wx ∧ b = .int .i64 err
structure InC (W0 : World) (s bA : Nat) (u v c d : Int) (w' : World) : Prop where
  keeps : Keeps W0 w'
  c0 : w'.cell? ⟨s, 0, none⟩ = some (.int .i64 u)
  c1 : w'.cell? ⟨s, 1, none⟩ = some (.int .i64 v)
  c2 : w'.cell? ⟨bA, 0, none⟩ = some (.int .i64 c)
  c3 : w'.cell? ⟨bA, 1, none⟩ = some (.int .i64 d)
def Sofar (B : Wm) (lo x : Int) (bL bA : Nat) (W0 wr : World) : Prop := ∃ a b c d, LastE B lo x a b ∧ AllE B lo x c d ∧ TwoI wr bL a b ∧ TwoI wr bA c d ∧ Keeps W0 wr
def Owns (B : Wm) (lo a c : Int) (bO : Nat) (W0 wr : World) : Prop := ∃ u v, OwnE B lo a c u v ∧ TwoI wr bO u v ∧ Keeps W0 wr
set_option maxRecDepth 100000 in
set_option maxHeartbeats 6400000 in
theorem shows_no (B : Wm) (o mo : Int) (w : World) (hI : B.In w) (hf : B.fine = false) : Calls Try.prog 8 #[B.v, .int .u8 o, .int .u8 mo] w (RetB true w) := by
  have F1 := Lib.hid (fun w1 (k : Keeps w w1) => fine_any B w1 (hI.keep k))
  rw [hf] at F1
  have AW := Lib.hid (fun w1 => awake_any w1)
  have k0 := (Keeps.refl w).alloc (.cells #[.int .i64 B.mark, .int .i64 B.llo, .int .i64 B.lhi, .int .i64 B.clo, .int .i64 B.chi, .slice B.ra B.rs.length B.rc] 26)
  obtain ⟨mark, llo, lhi, clo, chi, ra, rc, rs⟩ := B
  dsimp only [Wm.v] at *
  clear hI hf
  go_enter Try.func8, Try.ntmps8
  go_wp2_with fail
  refine (F1.out _ k0).mono ?_
  rintro e w1 ⟨rfl, k1⟩
  go_wp2_with fail
  refine (AW.out _).mono ?_
  rintro e w2 ⟨rfl, k2⟩
  go_wp2_with fail
  go_ret
  exact RetB.mk rfl ((k0.trans k1).trans k2)
theorem shows_showsA {B : Wm} (hok : B.ok = true) (ht : B.truths.isEmpty = true) {lo hi : Int} (h0 : -100 ≤ lo) (h1 : lo ≤ hi) (h2 : hi ≤ 100) : B.showsA lo hi = ((0, 0), 10) := by
  unfold Wm.showsA
  rw [if_pos (by unfold inS; simp only [decide_eq_true_eq]; omega), say_none hok ht]
set_option maxRecDepth 100000 in
set_option maxHeartbeats 12800000 in
theorem shows_none (B : Wm) (o mo : Int) (w : World) (hI : B.In w) (hf : B.fine = true) (ht : B.truths.isEmpty = true) (o0 : 0 ≤ o) (o1 : o ≤ 255) (p0 : 0 ≤ mo) (p1 : mo ≤ 255) : Calls Try.prog 8 #[B.v, .int .u8 o, .int .u8 mo] w (RetB true w) := by
  have hok := Wm.fine_ok hf
  have F1 := Lib.hid (fun w1 (k : Keeps w w1) => fine_any B w1 (hI.keep k))
  rw [hf] at F1
  have AW := Lib.hid (fun w1 => awake_any w1)
  have SP := Lib.hid (fun a b w1 => lawSpan_any a b w1)
  have hmx : Try.prog.follows .mixedOrders = true := by kernel_rfl
  obtain ⟨r1, hr1⟩ : ∃ r, o % 201 = r := ⟨_, rfl⟩
  obtain ⟨lo, hlo⟩ : ∃ r, r1 - 100 = r := ⟨_, rfl⟩
  obtain ⟨r2, hr2⟩ : ∃ r, mo % 12 = r := ⟨_, rfl⟩
  obtain ⟨sm, hsm⟩ : ∃ r, lo + r2 = r := ⟨_, rfl⟩
  obtain ⟨hi, hhi⟩ : ∃ r : Int, min 100 sm = r := ⟨_, rfl⟩
  have lo0 : -100 ≤ lo := by omega
  have lo1 : lo ≤ 100 := by omega
  have lh : lo ≤ hi := by omega
  have hi1 : hi ≤ 100 := by omega
  have hwlo : IntKind.i64.wrap lo = lo := IntWalk.i64_in _ (by constructor <;> omega)
  have hwsm : IntKind.i64.wrap sm = sm := IntWalk.i64_in _ (by constructor <;> omega)
  have SH := Lib.hid (fun w1 (k : Keeps w w1) => show Calls Try.prog 21 #[B.v, .agg #[.int .i64 lo, .int .i64 hi]] w1 (Ret (.tuple #[.agg #[.int .i64 0, .int .i64 0], .int .i64 10]) w1) from by have h := Shows_any B lo hi w1 (hI.keep k); rw [shows_showsA hok ht lo0 lh hi1] at h; exact h)
  have CN := Lib.hid (fun w1 (k : Keeps w w1) => show Calls Try.prog 25 #[B.v] w1 (Ret (.tuple #[.int .i64 0, .int .i64 0]) w1) from by have h := Count_any B w1 (hI.keep k); rw [room_countA hok, List.isEmpty_iff.1 ht] at h; exact h)
  have k0 := (Keeps.refl w).alloc (.cells #[.int .i64 B.mark, .int .i64 B.llo, .int .i64 B.lhi, .int .i64 B.clo, .int .i64 B.chi, .slice B.ra B.rs.length B.rc] 26)
  have BX := Wm.Box.new B w
  obtain ⟨mark, llo, lhi, clo, chi, ra, rc, rs⟩ := B
  obtain ⟨g0, g1, g2, g3, g4, g5⟩ := BX
  dsimp only [Wm.v, xB] at *
  obtain ⟨W, hW⟩ : ∃ W, w.alloc (.cells #[.int .i64 mark, .int .i64 llo, .int .i64 lhi, .int .i64 clo, .int .i64 chi, .slice ra rs.length rc] 26) = W := ⟨_, rfl⟩
  rw [hW] at k0 g0 g1 g2 g3 g4 g5
  obtain ⟨b0, hb0⟩ : ∃ b0, w.heap.size = b0 := ⟨_, rfl⟩
  rw [hb0] at g0 g1 g2 g3 g4 g5
  clear hI hf ht hok
  go_enter Try.func8, Try.ntmps8
  go_wp2_with fail
  refine (F1.out _ k0).mono ?_
  rintro e w1 ⟨rfl, k1⟩
  have kk := k0.trans k1
  replace g0 := k1.cell g0
  replace g1 := k1.cell g1
  replace g2 := k1.cell g2
  replace g3 := k1.cell g3
  replace g4 := k1.cell g4
  replace g5 := k1.cell g5
  clear k0 k1
  go_upto_region 5 with fail
  go_cut [9, 10] (fun a b wx => Told w1 0 0 10 a b wx)
  case first =>
    have k5d := (Keeps.refl w1).drew
    haveI : Nonempty (Inw (fun w' => Keeps w1 w')) := ⟨⟨w1, Keeps.refl _⟩⟩
    have e0 : ∀ q : Inw (fun w' => Keeps w1 w'), q.W.cell? ⟨b0, 0, none⟩ = some (.int .i64 mark) := fun q => q.h.cell g0
    have e1 : ∀ q : Inw (fun w' => Keeps w1 w'), q.W.cell? ⟨b0, 1, none⟩ = some (.int .i64 llo) := fun q => q.h.cell g1
    have e2 : ∀ q : Inw (fun w' => Keeps w1 w'), q.W.cell? ⟨b0, 2, none⟩ = some (.int .i64 lhi) := fun q => q.h.cell g2
    have e3 : ∀ q : Inw (fun w' => Keeps w1 w'), q.W.cell? ⟨b0, 3, none⟩ = some (.int .i64 clo) := fun q => q.h.cell g3
    have e4 : ∀ q : Inw (fun w' => Keeps w1 w'), q.W.cell? ⟨b0, 4, none⟩ = some (.int .i64 chi) := fun q => q.h.cell g4
    have e5 : ∀ q : Inw (fun w' => Keeps w1 w'), q.W.cell? ⟨b0, 5, none⟩ = some (.slice ra rs.length rc) := fun q => q.h.cell g5
    go_wp2_with fail
    refine (wpIn_wide (n := 3)).1 ?_
    refine cix_start hmx (fun w' => Keeps w1 w') ?_
    refine cix_quiet (m := 8) (CixOk.of (fun _ => trivial) (fun _ _ _ _ hd h => ⟨hd.symm.trans h.1, h.2⟩) (by kernel_rfl)) [0, 1, 2] rfl (by kernel_rfl) k5d ?_
    show wpQuietIn _ _ _ _ _ _ [_, _, _] _
    iterate 3 (gi_big_quiet_step (fail))
    refine wpQuietIn_nil ?_
    refine cix_two (m := 7) 3 _ 8 _ rfl rfl rfl (by kernel_rfl) ?_ ?_
    · show wpListIn _ _ _ _ _ [_] _ _
      gi_wp2_with fail
      rename_i hK
      refine ⟨trivial, ((callsIn_wide (n := 2)).2 (SP.out (lo) (hi) _)).mono ?_⟩
      rintro e u1 ⟨rfl, k⟩
      have c1 := k5d.trans k
      refine hK _ _ (.inl ⟨rfl, c1, ?_⟩)
      clear hK k
      refine cix_two (m := 6) 4 _ 8 _ rfl rfl rfl (by kernel_rfl) ?_ ?_
      · show wpListIn _ _ _ _ _ [_] _ _
        gi_wp2_with fail
        rename_i hK
        refine ⟨trivial, ((callsIn_wide (n := 2)).2 (SH.out _ (kk.trans c1))).mono ?_⟩
        rintro e u2 ⟨rfl, k⟩
        have c2 := c1.trans k
        refine hK _ _ (.inl ⟨rfl, c2, ?_⟩)
        clear hK k
        refine cix_quiet (m := 3) (CixOk.of (fun _ => trivial) (fun _ _ _ _ hd h => ⟨hd.symm.trans h.1, h.2⟩) (by kernel_rfl)) [5, 6, 7] rfl (by kernel_rfl) c2 ?_
        show wpQuietIn _ _ _ _ _ _ [_, _, _] _
        iterate 3 (gi_big_quiet_step (fail))
        refine wpQuietIn_nil ?_
        refine cix_one (m := 2) 8 _ rfl rfl (by kernel_rfl) ?_
        show wpListIn _ _ _ _ _ [_] _ _
        gi_wp2_with fail
        obtain ⟨s, hs⟩ : ∃ s, u2.heap.size = s := ⟨_, rfl⟩
        obtain ⟨u3, hu3⟩ : ∃ v, u2.alloc (.cells #[.int .i64 0, .int .i64 0] 23) = v := ⟨_, rfl⟩
        have c3 : Keeps w1 u3 := by rw [← hu3]; exact c2.alloc _
        have a0 : u3.cell? ⟨s, 0, none⟩ = some (.int .i64 0) := by rw [← hu3, ← hs]; simp [go_sem]
        have a1 : u3.cell? ⟨s, 1, none⟩ = some (.int .i64 0) := by rw [← hu3, ← hs]; simp [go_sem]
        have z0 : u3.frozen? ⟨s, 0, none⟩ = false := by rw [← hu3, ← hs]; simp [go_sem]
        have z1 : u3.frozen? ⟨s, 1, none⟩ = false := by rw [← hu3, ← hs]; simp [go_sem]
        have hsz : w1.heap.size ≤ s := by rw [← hs]; exact c2.size
        rw [hu3, hs]
        clear hu3 hs
        refine ⟨c3, ?_⟩
        refine cix_one (m := 1) 9 _ rfl rfl (by kernel_rfl) ?_
        show wpListIn _ _ _ _ _ [_] _ _
        have hT : TwoI u3 s 0 0 := ⟨a0, a1, z0, z1⟩
        have kY : Keeps w1 ((u3.setCell ⟨s, 0, none⟩ (.int .i64 0)).setCell ⟨s, 1, none⟩ (.int .i64 0)) := (c3.setCell (p := ⟨s, 0, none⟩) _ hsz).setCell (p := ⟨s, 1, none⟩) _ hsz
        have hT2 := (hT.set0 (0)).set1 (0)
        gi_wp2_with fail
        refine cix_one (m := 0) 10 _ rfl rfl (by kernel_rfl) ?_
        show wpListIn _ _ _ _ _ [_] _ _
        gi_wp2_with fail
        refine cix_done (by kernel_rfl) ?_ _
        go_wp2_with fail
        go_meet
        exact ⟨s, rfl, hsz, hT2, kY, rfl⟩
      · show wpListIn _ _ _ _ _ [_] _ _
        gi_wp2_with fail
        obtain ⟨s, hs⟩ : ∃ s, u1.heap.size = s := ⟨_, rfl⟩
        obtain ⟨u2, hu2⟩ : ∃ v, u1.alloc (.cells #[.int .i64 0, .int .i64 0] 23) = v := ⟨_, rfl⟩
        have c2 : Keeps w1 u2 := by rw [← hu2]; exact c1.alloc _
        have a0 : u2.cell? ⟨s, 0, none⟩ = some (.int .i64 0) := by rw [← hu2, ← hs]; simp [go_sem]
        have a1 : u2.cell? ⟨s, 1, none⟩ = some (.int .i64 0) := by rw [← hu2, ← hs]; simp [go_sem]
        have z0 : u2.frozen? ⟨s, 0, none⟩ = false := by rw [← hu2, ← hs]; simp [go_sem]
        have z1 : u2.frozen? ⟨s, 1, none⟩ = false := by rw [← hu2, ← hs]; simp [go_sem]
        have hsz : w1.heap.size ≤ s := by rw [← hs]; exact c1.size
        rw [hu2, hs]
        clear hu2 hs
        refine ⟨c2, ?_⟩
        refine cix_one (m := 5) 4 _ rfl rfl (by kernel_rfl) ?_
        show wpListIn _ _ _ _ _ [_] _ _
        gi_wp2_with fail
        rename_i hK
        refine ⟨trivial, ((callsIn_wide (n := 2)).2 (SH.out _ (kk.trans c2))).mono ?_⟩
        rintro e u3 ⟨rfl, k⟩
        have c3 := c2.trans k
        have hss := lt_of_cell a0
        replace z0 := (k.cells.2 s 0 hss).trans z0
        replace z1 := (k.cells.2 s 1 hss).trans z1
        replace a0 := k.cell a0
        replace a1 := k.cell a1
        refine hK _ _ (.inl ⟨rfl, c3, ?_⟩)
        clear hK k
        refine cix_quiet (m := 2) (CixOk.of (fun _ => trivial) (fun _ _ _ _ hd h => ⟨hd.symm.trans h.1, h.2⟩) (by kernel_rfl)) [5, 6, 7] rfl (by kernel_rfl) c3 ?_
        show wpQuietIn _ _ _ _ _ _ [_, _, _] _
        iterate 3 (gi_big_quiet_step (fail))
        refine wpQuietIn_nil ?_
        refine cix_one (m := 1) 9 _ rfl rfl (by kernel_rfl) ?_
        show wpListIn _ _ _ _ _ [_] _ _
        have hT : TwoI u3 s 0 0 := ⟨a0, a1, z0, z1⟩
        have kY : Keeps w1 ((u3.setCell ⟨s, 0, none⟩ (.int .i64 0)).setCell ⟨s, 1, none⟩ (.int .i64 0)) := (c3.setCell (p := ⟨s, 0, none⟩) _ hsz).setCell (p := ⟨s, 1, none⟩) _ hsz
        have hT2 := (hT.set0 (0)).set1 (0)
        gi_wp2_with fail
        refine cix_one (m := 0) 10 _ rfl rfl (by kernel_rfl) ?_
        show wpListIn _ _ _ _ _ [_] _ _
        gi_wp2_with fail
        refine cix_done (by kernel_rfl) ?_ _
        go_wp2_with fail
        go_meet
        exact ⟨s, rfl, hsz, hT2, kY, rfl⟩
    · show wpListIn _ _ _ _ _ [_] _ _
      gi_wp2_with fail
      obtain ⟨s, hs⟩ : ∃ s, w1.heap.size = s := ⟨_, rfl⟩
      obtain ⟨u1, hu1⟩ : ∃ v, (w1.alloc (.cells #[.int .i64 0, .int .i64 0] 23)).drew = v := ⟨_, rfl⟩
      have c1 : Keeps w1 u1 := by rw [← hu1]; exact ((Keeps.refl w1).alloc _).drew
      have a0 : u1.cell? ⟨s, 0, none⟩ = some (.int .i64 0) := by rw [← hu1, ← hs]; simp [go_sem]
      have a1 : u1.cell? ⟨s, 1, none⟩ = some (.int .i64 0) := by rw [← hu1, ← hs]; simp [go_sem]
      have z0 : u1.frozen? ⟨s, 0, none⟩ = false := by rw [← hu1, ← hs]; simp [go_sem]
      have z1 : u1.frozen? ⟨s, 1, none⟩ = false := by rw [← hu1, ← hs]; simp [go_sem]
      have hsz : w1.heap.size ≤ s := by rw [← hs]; exact (Keeps.refl w1).size
      rw [hu1, hs]
      clear hu1 hs
      refine ⟨c1, ?_⟩
      refine cix_one (m := 6) 3 _ rfl rfl (by kernel_rfl) ?_
      show wpListIn _ _ _ _ _ [_] _ _
      gi_wp2_with fail
      rename_i hK
      refine ⟨trivial, ((callsIn_wide (n := 2)).2 (SP.out (lo) (hi) _)).mono ?_⟩
      rintro e u2 ⟨rfl, k⟩
      have c2 := c1.trans k
      have hss := lt_of_cell a0
      replace z0 := (k.cells.2 s 0 hss).trans z0
      replace z1 := (k.cells.2 s 1 hss).trans z1
      replace a0 := k.cell a0
      replace a1 := k.cell a1
      refine hK _ _ (.inl ⟨rfl, c2, ?_⟩)
      clear hK k
      refine cix_one (m := 5) 4 _ rfl rfl (by kernel_rfl) ?_
      show wpListIn _ _ _ _ _ [_] _ _
      gi_wp2_with fail
      rename_i hK
      refine ⟨trivial, ((callsIn_wide (n := 2)).2 (SH.out _ (kk.trans c2))).mono ?_⟩
      rintro e u3 ⟨rfl, k⟩
      have c3 := c2.trans k
      have hss := lt_of_cell a0
      replace z0 := (k.cells.2 s 0 hss).trans z0
      replace z1 := (k.cells.2 s 1 hss).trans z1
      replace a0 := k.cell a0
      replace a1 := k.cell a1
      refine hK _ _ (.inl ⟨rfl, c3, ?_⟩)
      clear hK k
      refine cix_quiet (m := 2) (CixOk.of (fun _ => trivial) (fun _ _ _ _ hd h => ⟨hd.symm.trans h.1, h.2⟩) (by kernel_rfl)) [5, 6, 7] rfl (by kernel_rfl) c3 ?_
      show wpQuietIn _ _ _ _ _ _ [_, _, _] _
      iterate 3 (gi_big_quiet_step (fail))
      refine wpQuietIn_nil ?_
      refine cix_one (m := 1) 9 _ rfl rfl (by kernel_rfl) ?_
      show wpListIn _ _ _ _ _ [_] _ _
      have hT : TwoI u3 s 0 0 := ⟨a0, a1, z0, z1⟩
      have kY : Keeps w1 ((u3.setCell ⟨s, 0, none⟩ (.int .i64 0)).setCell ⟨s, 1, none⟩ (.int .i64 0)) := (c3.setCell (p := ⟨s, 0, none⟩) _ hsz).setCell (p := ⟨s, 1, none⟩) _ hsz
      have hT2 := (hT.set0 (0)).set1 (0)
      gi_wp2_with fail
      refine cix_one (m := 0) 10 _ rfl rfl (by kernel_rfl) ?_
      show wpListIn _ _ _ _ _ [_] _ _
      gi_wp2_with fail
      refine cix_done (by kernel_rfl) ?_ _
      go_wp2_with fail
      go_meet
      exact ⟨s, rfl, hsz, hT2, kY, rfl⟩
  case rest =>
    obtain ⟨s, rfl, hsz, hT, kc, rfl⟩ := hcut
    obtain ⟨W2, rfl⟩ : ∃ W2 : World, W2 = wc := ⟨_, rfl⟩
    rename_i hK
    refine hK _ _ ?_
    clear hK
    replace kk := kk.trans kc
    have fn0 : ∀ w1, (binOp .neq 23 (.agg #[.int .i64 0, .int .i64 0]) (.agg #[.int .i64 0, .int .i64 0])).run Try.prog w1 = .ok (.bool false) w1 := fun w1 => neq_span _ _ _ _ w1
    have gn0 : ∀ (o1 o2 : Operand) (w1 : World), (eqGuard .neq 23 o1 o2 (.agg #[.int .i64 0, .int .i64 0]) (.agg #[.int .i64 0, .int .i64 0])).run Try.prog w1 = .ok () w1 := fun o1 o2 w1 => run_eqGuard_agg w1 .neq _ o1 o2 _ _ guard_span
    have t0 := hT.c0
    have t1 := hT.c1
    replace g0 := kc.cell g0
    replace g1 := kc.cell g1
    replace g2 := kc.cell g2
    replace g3 := kc.cell g3
    replace g4 := kc.cell g4
    replace g5 := kc.cell g5
    go_wp2_with fail
    refine (CN.out _ kk).mono ?_
    rintro e w4 ⟨rfl, k4⟩
    replace kk := kk.trans k4
    replace t0 := k4.cell t0
    replace t1 := k4.cell t1
    go_wp2_with fail
    refine (AW.out _).mono ?_
    rintro e w5 ⟨rfl, k5⟩
    go_wp2_with fail
    go_ret
    exact RetB.mk rfl (kk.trans k5)
set_option maxRecDepth 100000 in
set_option maxHeartbeats 12800000 in
theorem warmShows_yes (B : Wm) (o mo : Int) (w : World) (hI : B.In w) (hf : B.fine = true) (ht : B.truths.isEmpty = false) (o0 : 0 ≤ o) (o1 : o ≤ 255) (p0 : 0 ≤ mo) (p1 : mo ≤ 255) : Calls Try.prog 8 #[B.v, .int .u8 o, .int .u8 mo] w (RetB true w) := by
  have hok := Wm.fine_ok hf
  have F1 := Lib.hid (fun w1 (k : Keeps w w1) => fine_any B w1 (hI.keep k))
  rw [hf] at F1
  have AW := Lib.hid (fun w1 => awake_any w1)
  have SP := Lib.hid (fun a b w1 => lawSpan_any a b w1)
  have hmx : Try.prog.follows .mixedOrders = true := by kernel_rfl
  obtain ⟨r1, hr1⟩ : ∃ r, o % 201 = r := ⟨_, rfl⟩
  obtain ⟨lo, hlo⟩ : ∃ r, r1 - 100 = r := ⟨_, rfl⟩
  obtain ⟨r2, hr2⟩ : ∃ r, mo % 12 = r := ⟨_, rfl⟩
  obtain ⟨sm, hsm⟩ : ∃ r, lo + r2 = r := ⟨_, rfl⟩
  obtain ⟨hi, hhi⟩ : ∃ r : Int, min 100 sm = r := ⟨_, rfl⟩
  have lo0 : -100 ≤ lo := by omega
  have lo1 : lo ≤ 100 := by omega
  have lh : lo ≤ hi := by omega
  have hi1 : hi ≤ 100 := by omega
  have hwlo : IntKind.i64.wrap lo = lo := IntWalk.i64_in _ (by constructor <;> omega)
  have hwsm : IntKind.i64.wrap sm = sm := IntWalk.i64_in _ (by constructor <;> omega)
  obtain ⟨m1, m2, l1, l2, l3, l4, c1', c2', c3', c4'⟩ := Wm.ok_lim hok
  obtain ⟨us, vs, hS, hES, hub, hvb⟩ := shows_ends hok ht lo0 lh hi1
  have SH := Lib.hid (fun w1 (k : Keeps w w1) => show Calls Try.prog 21 #[B.v, .agg #[.int .i64 lo, .int .i64 hi]] w1 (Ret (.tuple #[.agg #[.int .i64 us, .int .i64 vs], .int .i64 0]) w1) from by have h := Shows_any B lo hi w1 (hI.keep k); rw [hS] at h; exact h)
  obtain ⟨Q, hQ⟩ : ∃ Q : Int, (B.truths.length : Int) = Q := ⟨_, rfl⟩
  have Q1 : 0 < Q := by
    have h : B.truths ≠ [] := fun e => by rw [e] at ht; cases ht
    have := List.length_pos_iff.2 h
    omega
  have CN := Lib.hid (fun w1 (k : Keeps w w1) => show Calls Try.prog 25 #[B.v] w1 (Ret (.tuple #[.int .i64 Q, .int .i64 0]) w1) from by have h := Count_any B w1 (hI.keep k); rw [room_countA hok, hQ] at h; exact h)
  have HES := Lib.hid hES
  have HT := Lib.hid (fun t (h0 : -100 ≤ t) (h1 : t ≤ 100) => shows_ends hok ht h0 (Int.le_refl t) h1)
  have SHA := Lib.hid (fun a b w1 (k : Keeps w w1) => Shows_any B a b w1 (hI.keep k))
  have HLE := Lib.hid (fun t a b u v (h : LastE B lo t a b) (hE : Ends (Sh B t t) u v) hu hv => LastE.le hok h hE hu hv)
  have HXC := Lib.hid (fun a b (ha : B.llo ≤ a ∧ a ≤ B.lhi) (hb : B.clo ≤ b ∧ b ≤ B.chi) => xB_count hok ha hb)
  have HCN := Lib.hid (fun a b w1 (k : Keeps w w1) => Count_any (xB B a b) w1 ⟨(hI.keep k).rds, (hI.keep k).rl⟩)
  have HEX := Lib.hid (fun a b w1 => exact_any B a b w1)
  have HOS := Lib.hid (OwnE.start hok lo)
  have HOR := Lib.hid (fun a c u v (h : OwnE B lo a c u v) (hc : B.chi < c) => OwnE.row hok h hc)
  have HOT := Lib.hid (fun a c u v u' v' (h : OwnE B lo a c u v) (ha : B.lhi < a) (hE : Ends (Sh B lo lo) u' v') => OwnE.stop hok ht h ha hE)
  have k0 := (Keeps.refl w).alloc (.cells #[.int .i64 B.mark, .int .i64 B.llo, .int .i64 B.lhi, .int .i64 B.clo, .int .i64 B.chi, .slice B.ra B.rs.length B.rc] 26)
  have BX := Wm.Box.new B w
  obtain ⟨mark, llo, lhi, clo, chi, ra, rc, rs⟩ := B
  obtain ⟨g0, g1, g2, g3, g4, g5⟩ := BX
  dsimp only [Wm.v, xB] at *
  obtain ⟨W, hW⟩ : ∃ W, w.alloc (.cells #[.int .i64 mark, .int .i64 llo, .int .i64 lhi, .int .i64 clo, .int .i64 chi, .slice ra rs.length rc] 26) = W := ⟨_, rfl⟩
  rw [hW] at k0 g0 g1 g2 g3 g4 g5
  obtain ⟨b0, hb0⟩ : ∃ b0, w.heap.size = b0 := ⟨_, rfl⟩
  rw [hb0] at g0 g1 g2 g3 g4 g5
  clear hI hf ht hok hS hES hQ
  go_enter Try.func8, Try.ntmps8
  go_wp2_with fail
  refine (F1.out _ k0).mono ?_
  rintro e w1 ⟨rfl, k1⟩
  have kk := k0.trans k1
  replace g0 := k1.cell g0
  replace g1 := k1.cell g1
  replace g2 := k1.cell g2
  replace g3 := k1.cell g3
  replace g4 := k1.cell g4
  replace g5 := k1.cell g5
  clear k0 k1
  go_upto_region 5 with fail
  go_cut [9, 10] (fun a b wx => Told w1 us vs 0 a b wx)
  case first =>
    have k5d := (Keeps.refl w1).drew
    haveI : Nonempty (Inw (fun w' => Keeps w1 w')) := ⟨⟨w1, Keeps.refl _⟩⟩
    have e0 : ∀ q : Inw (fun w' => Keeps w1 w'), q.W.cell? ⟨b0, 0, none⟩ = some (.int .i64 mark) := fun q => q.h.cell g0
    have e1 : ∀ q : Inw (fun w' => Keeps w1 w'), q.W.cell? ⟨b0, 1, none⟩ = some (.int .i64 llo) := fun q => q.h.cell g1
    have e2 : ∀ q : Inw (fun w' => Keeps w1 w'), q.W.cell? ⟨b0, 2, none⟩ = some (.int .i64 lhi) := fun q => q.h.cell g2
    have e3 : ∀ q : Inw (fun w' => Keeps w1 w'), q.W.cell? ⟨b0, 3, none⟩ = some (.int .i64 clo) := fun q => q.h.cell g3
    have e4 : ∀ q : Inw (fun w' => Keeps w1 w'), q.W.cell? ⟨b0, 4, none⟩ = some (.int .i64 chi) := fun q => q.h.cell g4
    have e5 : ∀ q : Inw (fun w' => Keeps w1 w'), q.W.cell? ⟨b0, 5, none⟩ = some (.slice ra rs.length rc) := fun q => q.h.cell g5
    go_wp2_with fail
    refine (wpIn_wide (n := 3)).1 ?_
    refine cix_start hmx (fun w' => Keeps w1 w') ?_
    refine cix_quiet (m := 8) (CixOk.of (fun _ => trivial) (fun _ _ _ _ hd h => ⟨hd.symm.trans h.1, h.2⟩) (by kernel_rfl)) [0, 1, 2] rfl (by kernel_rfl) k5d ?_
    show wpQuietIn _ _ _ _ _ _ [_, _, _] _
    iterate 3 (gi_big_quiet_step (fail))
    refine wpQuietIn_nil ?_
    refine cix_two (m := 7) 3 _ 8 _ rfl rfl rfl (by kernel_rfl) ?_ ?_
    · show wpListIn _ _ _ _ _ [_] _ _
      gi_wp2_with fail
      rename_i hK
      refine ⟨trivial, ((callsIn_wide (n := 2)).2 (SP.out (lo) (hi) _)).mono ?_⟩
      rintro e u1 ⟨rfl, k⟩
      have c1 := k5d.trans k
      refine hK _ _ (.inl ⟨rfl, c1, ?_⟩)
      clear hK k
      refine cix_two (m := 6) 4 _ 8 _ rfl rfl rfl (by kernel_rfl) ?_ ?_
      · show wpListIn _ _ _ _ _ [_] _ _
        gi_wp2_with fail
        rename_i hK
        refine ⟨trivial, ((callsIn_wide (n := 2)).2 (SH.out _ (kk.trans c1))).mono ?_⟩
        rintro e u2 ⟨rfl, k⟩
        have c2 := c1.trans k
        refine hK _ _ (.inl ⟨rfl, c2, ?_⟩)
        clear hK k
        refine cix_quiet (m := 3) (CixOk.of (fun _ => trivial) (fun _ _ _ _ hd h => ⟨hd.symm.trans h.1, h.2⟩) (by kernel_rfl)) [5, 6, 7] rfl (by kernel_rfl) c2 ?_
        show wpQuietIn _ _ _ _ _ _ [_, _, _] _
        iterate 3 (gi_big_quiet_step (fail))
        refine wpQuietIn_nil ?_
        refine cix_one (m := 2) 8 _ rfl rfl (by kernel_rfl) ?_
        show wpListIn _ _ _ _ _ [_] _ _
        gi_wp2_with fail
        obtain ⟨s, hs⟩ : ∃ s, u2.heap.size = s := ⟨_, rfl⟩
        obtain ⟨u3, hu3⟩ : ∃ v, u2.alloc (.cells #[.int .i64 0, .int .i64 0] 23) = v := ⟨_, rfl⟩
        have c3 : Keeps w1 u3 := by rw [← hu3]; exact c2.alloc _
        have a0 : u3.cell? ⟨s, 0, none⟩ = some (.int .i64 0) := by rw [← hu3, ← hs]; simp [go_sem]
        have a1 : u3.cell? ⟨s, 1, none⟩ = some (.int .i64 0) := by rw [← hu3, ← hs]; simp [go_sem]
        have z0 : u3.frozen? ⟨s, 0, none⟩ = false := by rw [← hu3, ← hs]; simp [go_sem]
        have z1 : u3.frozen? ⟨s, 1, none⟩ = false := by rw [← hu3, ← hs]; simp [go_sem]
        have hsz : w1.heap.size ≤ s := by rw [← hs]; exact c2.size
        rw [hu3, hs]
        clear hu3 hs
        refine ⟨c3, ?_⟩
        refine cix_one (m := 1) 9 _ rfl rfl (by kernel_rfl) ?_
        show wpListIn _ _ _ _ _ [_] _ _
        have hT : TwoI u3 s 0 0 := ⟨a0, a1, z0, z1⟩
        have kY : Keeps w1 ((u3.setCell ⟨s, 0, none⟩ (.int .i64 us)).setCell ⟨s, 1, none⟩ (.int .i64 vs)) := (c3.setCell (p := ⟨s, 0, none⟩) _ hsz).setCell (p := ⟨s, 1, none⟩) _ hsz
        have hT2 := (hT.set0 (us)).set1 (vs)
        gi_wp2_with fail
        refine cix_one (m := 0) 10 _ rfl rfl (by kernel_rfl) ?_
        show wpListIn _ _ _ _ _ [_] _ _
        gi_wp2_with fail
        refine cix_done (by kernel_rfl) ?_ _
        go_wp2_with fail
        go_meet
        exact ⟨s, rfl, hsz, hT2, kY, rfl⟩
      · show wpListIn _ _ _ _ _ [_] _ _
        gi_wp2_with fail
        obtain ⟨s, hs⟩ : ∃ s, u1.heap.size = s := ⟨_, rfl⟩
        obtain ⟨u2, hu2⟩ : ∃ v, u1.alloc (.cells #[.int .i64 0, .int .i64 0] 23) = v := ⟨_, rfl⟩
        have c2 : Keeps w1 u2 := by rw [← hu2]; exact c1.alloc _
        have a0 : u2.cell? ⟨s, 0, none⟩ = some (.int .i64 0) := by rw [← hu2, ← hs]; simp [go_sem]
        have a1 : u2.cell? ⟨s, 1, none⟩ = some (.int .i64 0) := by rw [← hu2, ← hs]; simp [go_sem]
        have z0 : u2.frozen? ⟨s, 0, none⟩ = false := by rw [← hu2, ← hs]; simp [go_sem]
        have z1 : u2.frozen? ⟨s, 1, none⟩ = false := by rw [← hu2, ← hs]; simp [go_sem]
        have hsz : w1.heap.size ≤ s := by rw [← hs]; exact c1.size
        rw [hu2, hs]
        clear hu2 hs
        refine ⟨c2, ?_⟩
        refine cix_one (m := 5) 4 _ rfl rfl (by kernel_rfl) ?_
        show wpListIn _ _ _ _ _ [_] _ _
        gi_wp2_with fail
        rename_i hK
        refine ⟨trivial, ((callsIn_wide (n := 2)).2 (SH.out _ (kk.trans c2))).mono ?_⟩
        rintro e u3 ⟨rfl, k⟩
        have c3 := c2.trans k
        have hss := lt_of_cell a0
        replace z0 := (k.cells.2 s 0 hss).trans z0
        replace z1 := (k.cells.2 s 1 hss).trans z1
        replace a0 := k.cell a0
        replace a1 := k.cell a1
        refine hK _ _ (.inl ⟨rfl, c3, ?_⟩)
        clear hK k
        refine cix_quiet (m := 2) (CixOk.of (fun _ => trivial) (fun _ _ _ _ hd h => ⟨hd.symm.trans h.1, h.2⟩) (by kernel_rfl)) [5, 6, 7] rfl (by kernel_rfl) c3 ?_
        show wpQuietIn _ _ _ _ _ _ [_, _, _] _
        iterate 3 (gi_big_quiet_step (fail))
        refine wpQuietIn_nil ?_
        refine cix_one (m := 1) 9 _ rfl rfl (by kernel_rfl) ?_
        show wpListIn _ _ _ _ _ [_] _ _
        have hT : TwoI u3 s 0 0 := ⟨a0, a1, z0, z1⟩
        have kY : Keeps w1 ((u3.setCell ⟨s, 0, none⟩ (.int .i64 us)).setCell ⟨s, 1, none⟩ (.int .i64 vs)) := (c3.setCell (p := ⟨s, 0, none⟩) _ hsz).setCell (p := ⟨s, 1, none⟩) _ hsz
        have hT2 := (hT.set0 (us)).set1 (vs)
        gi_wp2_with fail
        refine cix_one (m := 0) 10 _ rfl rfl (by kernel_rfl) ?_
        show wpListIn _ _ _ _ _ [_] _ _
        gi_wp2_with fail
        refine cix_done (by kernel_rfl) ?_ _
        go_wp2_with fail
        go_meet
        exact ⟨s, rfl, hsz, hT2, kY, rfl⟩
    · show wpListIn _ _ _ _ _ [_] _ _
      gi_wp2_with fail
      obtain ⟨s, hs⟩ : ∃ s, w1.heap.size = s := ⟨_, rfl⟩
      obtain ⟨u1, hu1⟩ : ∃ v, (w1.alloc (.cells #[.int .i64 0, .int .i64 0] 23)).drew = v := ⟨_, rfl⟩
      have c1 : Keeps w1 u1 := by rw [← hu1]; exact ((Keeps.refl w1).alloc _).drew
      have a0 : u1.cell? ⟨s, 0, none⟩ = some (.int .i64 0) := by rw [← hu1, ← hs]; simp [go_sem]
      have a1 : u1.cell? ⟨s, 1, none⟩ = some (.int .i64 0) := by rw [← hu1, ← hs]; simp [go_sem]
      have z0 : u1.frozen? ⟨s, 0, none⟩ = false := by rw [← hu1, ← hs]; simp [go_sem]
      have z1 : u1.frozen? ⟨s, 1, none⟩ = false := by rw [← hu1, ← hs]; simp [go_sem]
      have hsz : w1.heap.size ≤ s := by rw [← hs]; exact (Keeps.refl w1).size
      rw [hu1, hs]
      clear hu1 hs
      refine ⟨c1, ?_⟩
      refine cix_one (m := 6) 3 _ rfl rfl (by kernel_rfl) ?_
      show wpListIn _ _ _ _ _ [_] _ _
      gi_wp2_with fail
      rename_i hK
      refine ⟨trivial, ((callsIn_wide (n := 2)).2 (SP.out (lo) (hi) _)).mono ?_⟩
      rintro e u2 ⟨rfl, k⟩
      have c2 := c1.trans k
      have hss := lt_of_cell a0
      replace z0 := (k.cells.2 s 0 hss).trans z0
      replace z1 := (k.cells.2 s 1 hss).trans z1
      replace a0 := k.cell a0
      replace a1 := k.cell a1
      refine hK _ _ (.inl ⟨rfl, c2, ?_⟩)
      clear hK k
      refine cix_one (m := 5) 4 _ rfl rfl (by kernel_rfl) ?_
      show wpListIn _ _ _ _ _ [_] _ _
      gi_wp2_with fail
      rename_i hK
      refine ⟨trivial, ((callsIn_wide (n := 2)).2 (SH.out _ (kk.trans c2))).mono ?_⟩
      rintro e u3 ⟨rfl, k⟩
      have c3 := c2.trans k
      have hss := lt_of_cell a0
      replace z0 := (k.cells.2 s 0 hss).trans z0
      replace z1 := (k.cells.2 s 1 hss).trans z1
      replace a0 := k.cell a0
      replace a1 := k.cell a1
      refine hK _ _ (.inl ⟨rfl, c3, ?_⟩)
      clear hK k
      refine cix_quiet (m := 2) (CixOk.of (fun _ => trivial) (fun _ _ _ _ hd h => ⟨hd.symm.trans h.1, h.2⟩) (by kernel_rfl)) [5, 6, 7] rfl (by kernel_rfl) c3 ?_
      show wpQuietIn _ _ _ _ _ _ [_, _, _] _
      iterate 3 (gi_big_quiet_step (fail))
      refine wpQuietIn_nil ?_
      refine cix_one (m := 1) 9 _ rfl rfl (by kernel_rfl) ?_
      show wpListIn _ _ _ _ _ [_] _ _
      have hT : TwoI u3 s 0 0 := ⟨a0, a1, z0, z1⟩
      have kY : Keeps w1 ((u3.setCell ⟨s, 0, none⟩ (.int .i64 us)).setCell ⟨s, 1, none⟩ (.int .i64 vs)) := (c3.setCell (p := ⟨s, 0, none⟩) _ hsz).setCell (p := ⟨s, 1, none⟩) _ hsz
      have hT2 := (hT.set0 (us)).set1 (vs)
      gi_wp2_with fail
      refine cix_one (m := 0) 10 _ rfl rfl (by kernel_rfl) ?_
      show wpListIn _ _ _ _ _ [_] _ _
      gi_wp2_with fail
      refine cix_done (by kernel_rfl) ?_ _
      go_wp2_with fail
      go_meet
      exact ⟨s, rfl, hsz, hT2, kY, rfl⟩
  case rest =>
    obtain ⟨s0, rfl, hz0, hT0, kc, rfl⟩ := hcut
    obtain ⟨W2, rfl⟩ : ∃ W2 : World, W2 = wc := ⟨_, rfl⟩
    rename_i hK
    refine hK _ _ ?_
    clear hK
    replace kk := kk.trans kc
    clear SH hr1 hlo hr2 hsm hhi hwsm
    replace g0 := kc.cell g0
    replace g1 := kc.cell g1
    replace g2 := kc.cell g2
    replace g3 := kc.cell g3
    replace g4 := kc.cell g4
    replace g5 := kc.cell g5
    go_wp2_with fail
    refine (CN.out _ kk).mono ?_
    rintro e w4 ⟨rfl, k4⟩
    replace kk := kk.trans k4
    replace hT0 := hT0.keep k4
    replace g0 := k4.cell g0
    replace g1 := k4.cell g1
    replace g2 := k4.cell g2
    replace g3 := k4.cell g3
    replace g4 := k4.cell g4
    replace g5 := k4.cell g5
    clear k4
    go_wp2_with fail
    refine (SP.out _ _ _).mono ?_
    rintro e w5 ⟨rfl, k5⟩
    go_wp2_with fail
    refine (SP.out _ _ _).mono ?_
    rintro e w6 ⟨rfl, k6⟩
    go_wp2_with fail
    obtain ⟨bL, hbL⟩ : ∃ b, w5.heap.size = b := ⟨_, rfl⟩
    obtain ⟨bA, hbA⟩ : ∃ b, w6.heap.size = b := ⟨_, rfl⟩
    obtain ⟨WL, hWL⟩ : ∃ x, w5.alloc (.cells #[.int .i64 (-1073741824), .int .i64 (-1073741824)] 23) = x := ⟨_, rfl⟩
    have kL : Keeps w5 WL := by rw [← hWL]; exact (Keeps.refl _).alloc _
    have TL : TwoI WL bL (-1073741824) (-1073741824) := by rw [← hWL, ← hbL]; exact ⟨by simp [go_sem], by simp [go_sem], by simp [go_sem], by simp [go_sem]⟩
    rw [hWL] at k6
    obtain ⟨W1, hW1⟩ : ∃ x, w6.alloc (.cells #[.int .i64 1073741824, .int .i64 (-1073741824)] 23) = x := ⟨_, rfl⟩
    have kA : Keeps w6 W1 := by rw [← hW1]; exact (Keeps.refl _).alloc _
    have TA : TwoI W1 bA 1073741824 (-1073741824) := by rw [← hW1, ← hbA]; exact ⟨by simp [go_sem], by simp [go_sem], by simp [go_sem], by simp [go_sem]⟩
    have hlL := lt_of_cell TL.c0
    have hLA : bL ≠ bA := by have := k6.size; omega
    replace TL := (TL.keep k6).keep kA
    have k41 : Keeps w4 W1 := ((k5.trans kL).trans k6).trans kA
    have hL4 : w4.heap.size ≤ bL := by rw [← hbL]; exact k5.size
    have hA4 : w4.heap.size ≤ bA := by rw [← hbA]; exact ((k5.trans kL).trans k6).size
    rw [hbL, hbA, hW1]
    clear hbL hbA hWL hW1 kL kA k5 k6 hlL
    go_loopw [15] (fun t wr => ∃ x, t = .int .i64 x ∧ (lo ≤ x ∧ x ≤ hi + 1) ∧ Sofar ⟨mark, llo, lhi, clo, chi, ra, rc, rs⟩ lo x bL bA w4 wr) (fun t _ => (hi + 1 - intOf t).toNat)
    case atStart => exact ⟨_, rfl, ⟨Int.le_refl _, by omega⟩, _, _, _, _, .inl ⟨rfl, rfl, rfl⟩, .inl ⟨rfl, rfl, rfl⟩, TL, TA, k41⟩
    case round =>
      clear TL TA k41
      obtain ⟨x, rfl, ⟨x1, x2⟩, a, b, c, d, hLE, hAE, hTL, hTA, kr⟩ := hrel
      have HLE2 := Lib.hid hLE
      have HAE := Lib.hid hAE
      clear hLE hAE
      have kq := kk.trans kr
      have h0 := kr.cell g0
      have h1 := kr.cell g1
      have h2 := kr.cell g2
      have h3 := kr.cell g3
      have h4 := kr.cell g4
      have h5 := kr.cell g5
      by_cases hx : x ≤ hi
      · have hd : decide (x ≤ hi) = true := decide_eq_true hx
        obtain ⟨u, v, hSx, hE, hu, hv⟩ := HT.out x (by omega) (by omega)
        have SX := Lib.hid (fun w1 (k : Keeps w w1) => show Calls Try.prog 21 #[.agg #[.int .i64 mark, .int .i64 llo, .int .i64 lhi, .int .i64 clo, .int .i64 chi, .slice ra rs.length rc], .agg #[.int .i64 x, .int .i64 x]] w1 (Ret (.tuple #[.agg #[.int .i64 u, .int .i64 v], .int .i64 0]) w1) from by have h := SHA.out x x w1 k; rw [hSx] at h; exact h)
        have HE := Lib.hid hE
        clear hSx hE
        have hle := HLE.out x a b u v HLE2.out HE.out hu.1 hv.1
        have huv := HE.out.le
        have d1 : decide (v < u) = false := decide_eq_false (by omega)
        have d2 : decide (u < a) = false := decide_eq_false (by omega)
        have d3 : decide (v < b) = false := decide_eq_false (by omega)
        have hwx : IntKind.i64.wrap (x + 1) = x + 1 := IntWalk.i64_in _ (by constructor <;> omega)
        obtain ⟨mi, hmi⟩ : ∃ m : Int, min c u = m := ⟨_, rfl⟩
        obtain ⟨ma, hma⟩ : ∃ m : Int, max d v = m := ⟨_, rfl⟩
        go_upto_region 16 with fail
        go_cut [16, 17] (fun p q wx => Told wr u v 0 p q wx)
        case first =>
          have k5d := (Keeps.refl wr).drew
          haveI : Nonempty (Inw (fun w' => Keeps wr w')) := ⟨⟨wr, Keeps.refl _⟩⟩
          have e0 : ∀ q : Inw (fun w' => Keeps wr w'), q.W.cell? ⟨b0, 0, none⟩ = some (.int .i64 mark) := fun q => q.h.cell h0
          have e1 : ∀ q : Inw (fun w' => Keeps wr w'), q.W.cell? ⟨b0, 1, none⟩ = some (.int .i64 llo) := fun q => q.h.cell h1
          have e2 : ∀ q : Inw (fun w' => Keeps wr w'), q.W.cell? ⟨b0, 2, none⟩ = some (.int .i64 lhi) := fun q => q.h.cell h2
          have e3 : ∀ q : Inw (fun w' => Keeps wr w'), q.W.cell? ⟨b0, 3, none⟩ = some (.int .i64 clo) := fun q => q.h.cell h3
          have e4 : ∀ q : Inw (fun w' => Keeps wr w'), q.W.cell? ⟨b0, 4, none⟩ = some (.int .i64 chi) := fun q => q.h.cell h4
          have e5 : ∀ q : Inw (fun w' => Keeps wr w'), q.W.cell? ⟨b0, 5, none⟩ = some (.slice ra rs.length rc) := fun q => q.h.cell h5
          go_wp2_with fail
          refine (wpIn_wide (n := 3)).1 ?_
          refine cix_start hmx (fun w' => Keeps wr w') ?_
          refine cix_quiet (m := 8) (CixOk.of (fun _ => trivial) (fun _ _ _ _ hd h => ⟨hd.symm.trans h.1, h.2⟩) (by kernel_rfl)) [0, 1, 2] rfl (by kernel_rfl) k5d ?_
          show wpQuietIn _ _ _ _ _ _ [_, _, _] _
          iterate 3 (gi_big_quiet_step (fail))
          refine wpQuietIn_nil ?_
          refine cix_two (m := 7) 3 _ 8 _ rfl rfl rfl (by kernel_rfl) ?_ ?_
          · show wpListIn _ _ _ _ _ [_] _ _
            gi_wp2_with fail
            rename_i hK
            refine ⟨trivial, ((callsIn_wide (n := 2)).2 (SP.out (x) (x) _)).mono ?_⟩
            rintro e u1 ⟨rfl, k⟩
            have c1 := k5d.trans k
            refine hK _ _ (.inl ⟨rfl, c1, ?_⟩)
            clear hK k
            refine cix_two (m := 6) 4 _ 8 _ rfl rfl rfl (by kernel_rfl) ?_ ?_
            · show wpListIn _ _ _ _ _ [_] _ _
              gi_wp2_with fail
              rename_i hK
              refine ⟨trivial, ((callsIn_wide (n := 2)).2 (SX.out _ (kq.trans c1))).mono ?_⟩
              rintro e u2 ⟨rfl, k⟩
              have c2 := c1.trans k
              refine hK _ _ (.inl ⟨rfl, c2, ?_⟩)
              clear hK k
              refine cix_quiet (m := 3) (CixOk.of (fun _ => trivial) (fun _ _ _ _ hd h => ⟨hd.symm.trans h.1, h.2⟩) (by kernel_rfl)) [5, 6, 7] rfl (by kernel_rfl) c2 ?_
              show wpQuietIn _ _ _ _ _ _ [_, _, _] _
              iterate 3 (gi_big_quiet_step (fail))
              refine wpQuietIn_nil ?_
              refine cix_one (m := 2) 8 _ rfl rfl (by kernel_rfl) ?_
              show wpListIn _ _ _ _ _ [_] _ _
              gi_wp2_with fail
              obtain ⟨s, hs⟩ : ∃ s, u2.heap.size = s := ⟨_, rfl⟩
              obtain ⟨u3, hu3⟩ : ∃ v, u2.alloc (.cells #[.int .i64 0, .int .i64 0] 23) = v := ⟨_, rfl⟩
              have c3 : Keeps wr u3 := by rw [← hu3]; exact c2.alloc _
              have a0 : u3.cell? ⟨s, 0, none⟩ = some (.int .i64 0) := by rw [← hu3, ← hs]; simp [go_sem]
              have a1 : u3.cell? ⟨s, 1, none⟩ = some (.int .i64 0) := by rw [← hu3, ← hs]; simp [go_sem]
              have z0 : u3.frozen? ⟨s, 0, none⟩ = false := by rw [← hu3, ← hs]; simp [go_sem]
              have z1 : u3.frozen? ⟨s, 1, none⟩ = false := by rw [← hu3, ← hs]; simp [go_sem]
              have hsz : wr.heap.size ≤ s := by rw [← hs]; exact c2.size
              rw [hu3, hs]
              clear hu3 hs
              refine ⟨c3, ?_⟩
              refine cix_one (m := 1) 9 _ rfl rfl (by kernel_rfl) ?_
              show wpListIn _ _ _ _ _ [_] _ _
              have hT : TwoI u3 s 0 0 := ⟨a0, a1, z0, z1⟩
              have kY : Keeps wr ((u3.setCell ⟨s, 0, none⟩ (.int .i64 u)).setCell ⟨s, 1, none⟩ (.int .i64 v)) := (c3.setCell (p := ⟨s, 0, none⟩) _ hsz).setCell (p := ⟨s, 1, none⟩) _ hsz
              have hT2 := (hT.set0 (u)).set1 (v)
              gi_wp2_with fail
              refine cix_one (m := 0) 10 _ rfl rfl (by kernel_rfl) ?_
              show wpListIn _ _ _ _ _ [_] _ _
              gi_wp2_with fail
              refine cix_done (by kernel_rfl) ?_ _
              go_wp2_with fail
              go_meet
              exact ⟨s, rfl, hsz, hT2, kY, rfl⟩
            · show wpListIn _ _ _ _ _ [_] _ _
              gi_wp2_with fail
              obtain ⟨s, hs⟩ : ∃ s, u1.heap.size = s := ⟨_, rfl⟩
              obtain ⟨u2, hu2⟩ : ∃ v, u1.alloc (.cells #[.int .i64 0, .int .i64 0] 23) = v := ⟨_, rfl⟩
              have c2 : Keeps wr u2 := by rw [← hu2]; exact c1.alloc _
              have a0 : u2.cell? ⟨s, 0, none⟩ = some (.int .i64 0) := by rw [← hu2, ← hs]; simp [go_sem]
              have a1 : u2.cell? ⟨s, 1, none⟩ = some (.int .i64 0) := by rw [← hu2, ← hs]; simp [go_sem]
              have z0 : u2.frozen? ⟨s, 0, none⟩ = false := by rw [← hu2, ← hs]; simp [go_sem]
              have z1 : u2.frozen? ⟨s, 1, none⟩ = false := by rw [← hu2, ← hs]; simp [go_sem]
              have hsz : wr.heap.size ≤ s := by rw [← hs]; exact c1.size
              rw [hu2, hs]
              clear hu2 hs
              refine ⟨c2, ?_⟩
              refine cix_one (m := 5) 4 _ rfl rfl (by kernel_rfl) ?_
              show wpListIn _ _ _ _ _ [_] _ _
              gi_wp2_with fail
              rename_i hK
              refine ⟨trivial, ((callsIn_wide (n := 2)).2 (SX.out _ (kq.trans c2))).mono ?_⟩
              rintro e u3 ⟨rfl, k⟩
              have c3 := c2.trans k
              have hss := lt_of_cell a0
              replace z0 := (k.cells.2 s 0 hss).trans z0
              replace z1 := (k.cells.2 s 1 hss).trans z1
              replace a0 := k.cell a0
              replace a1 := k.cell a1
              refine hK _ _ (.inl ⟨rfl, c3, ?_⟩)
              clear hK k
              refine cix_quiet (m := 2) (CixOk.of (fun _ => trivial) (fun _ _ _ _ hd h => ⟨hd.symm.trans h.1, h.2⟩) (by kernel_rfl)) [5, 6, 7] rfl (by kernel_rfl) c3 ?_
              show wpQuietIn _ _ _ _ _ _ [_, _, _] _
              iterate 3 (gi_big_quiet_step (fail))
              refine wpQuietIn_nil ?_
              refine cix_one (m := 1) 9 _ rfl rfl (by kernel_rfl) ?_
              show wpListIn _ _ _ _ _ [_] _ _
              have hT : TwoI u3 s 0 0 := ⟨a0, a1, z0, z1⟩
              have kY : Keeps wr ((u3.setCell ⟨s, 0, none⟩ (.int .i64 u)).setCell ⟨s, 1, none⟩ (.int .i64 v)) := (c3.setCell (p := ⟨s, 0, none⟩) _ hsz).setCell (p := ⟨s, 1, none⟩) _ hsz
              have hT2 := (hT.set0 (u)).set1 (v)
              gi_wp2_with fail
              refine cix_one (m := 0) 10 _ rfl rfl (by kernel_rfl) ?_
              show wpListIn _ _ _ _ _ [_] _ _
              gi_wp2_with fail
              refine cix_done (by kernel_rfl) ?_ _
              go_wp2_with fail
              go_meet
              exact ⟨s, rfl, hsz, hT2, kY, rfl⟩
          · show wpListIn _ _ _ _ _ [_] _ _
            gi_wp2_with fail
            obtain ⟨s, hs⟩ : ∃ s, wr.heap.size = s := ⟨_, rfl⟩
            obtain ⟨u1, hu1⟩ : ∃ v, (wr.alloc (.cells #[.int .i64 0, .int .i64 0] 23)).drew = v := ⟨_, rfl⟩
            have c1 : Keeps wr u1 := by rw [← hu1]; exact ((Keeps.refl wr).alloc _).drew
            have a0 : u1.cell? ⟨s, 0, none⟩ = some (.int .i64 0) := by rw [← hu1, ← hs]; simp [go_sem]
            have a1 : u1.cell? ⟨s, 1, none⟩ = some (.int .i64 0) := by rw [← hu1, ← hs]; simp [go_sem]
            have z0 : u1.frozen? ⟨s, 0, none⟩ = false := by rw [← hu1, ← hs]; simp [go_sem]
            have z1 : u1.frozen? ⟨s, 1, none⟩ = false := by rw [← hu1, ← hs]; simp [go_sem]
            have hsz : wr.heap.size ≤ s := by rw [← hs]; exact (Keeps.refl wr).size
            rw [hu1, hs]
            clear hu1 hs
            refine ⟨c1, ?_⟩
            refine cix_one (m := 6) 3 _ rfl rfl (by kernel_rfl) ?_
            show wpListIn _ _ _ _ _ [_] _ _
            gi_wp2_with fail
            rename_i hK
            refine ⟨trivial, ((callsIn_wide (n := 2)).2 (SP.out (x) (x) _)).mono ?_⟩
            rintro e u2 ⟨rfl, k⟩
            have c2 := c1.trans k
            have hss := lt_of_cell a0
            replace z0 := (k.cells.2 s 0 hss).trans z0
            replace z1 := (k.cells.2 s 1 hss).trans z1
            replace a0 := k.cell a0
            replace a1 := k.cell a1
            refine hK _ _ (.inl ⟨rfl, c2, ?_⟩)
            clear hK k
            refine cix_one (m := 5) 4 _ rfl rfl (by kernel_rfl) ?_
            show wpListIn _ _ _ _ _ [_] _ _
            gi_wp2_with fail
            rename_i hK
            refine ⟨trivial, ((callsIn_wide (n := 2)).2 (SX.out _ (kq.trans c2))).mono ?_⟩
            rintro e u3 ⟨rfl, k⟩
            have c3 := c2.trans k
            have hss := lt_of_cell a0
            replace z0 := (k.cells.2 s 0 hss).trans z0
            replace z1 := (k.cells.2 s 1 hss).trans z1
            replace a0 := k.cell a0
            replace a1 := k.cell a1
            refine hK _ _ (.inl ⟨rfl, c3, ?_⟩)
            clear hK k
            refine cix_quiet (m := 2) (CixOk.of (fun _ => trivial) (fun _ _ _ _ hd h => ⟨hd.symm.trans h.1, h.2⟩) (by kernel_rfl)) [5, 6, 7] rfl (by kernel_rfl) c3 ?_
            show wpQuietIn _ _ _ _ _ _ [_, _, _] _
            iterate 3 (gi_big_quiet_step (fail))
            refine wpQuietIn_nil ?_
            refine cix_one (m := 1) 9 _ rfl rfl (by kernel_rfl) ?_
            show wpListIn _ _ _ _ _ [_] _ _
            have hT : TwoI u3 s 0 0 := ⟨a0, a1, z0, z1⟩
            have kY : Keeps wr ((u3.setCell ⟨s, 0, none⟩ (.int .i64 u)).setCell ⟨s, 1, none⟩ (.int .i64 v)) := (c3.setCell (p := ⟨s, 0, none⟩) _ hsz).setCell (p := ⟨s, 1, none⟩) _ hsz
            have hT2 := (hT.set0 (u)).set1 (v)
            gi_wp2_with fail
            refine cix_one (m := 0) 10 _ rfl rfl (by kernel_rfl) ?_
            show wpListIn _ _ _ _ _ [_] _ _
            gi_wp2_with fail
            refine cix_done (by kernel_rfl) ?_ _
            go_wp2_with fail
            go_meet
            exact ⟨s, rfl, hsz, hT2, kY, rfl⟩
        case rest =>
          obtain ⟨s, rfl, hs4, hTs, kc2, rfl⟩ := hcut
          obtain ⟨W3, rfl⟩ : ∃ W3 : World, W3 = wc := ⟨_, rfl⟩
          rename_i hK
          refine hK _ _ ?_
          clear hK
          have hlL := lt_of_cell hTL.c0
          have hlA := lt_of_cell hTA.c0
          have nL : s ≠ bL := by omega
          have nA : s ≠ bA := by omega
          replace hTL := hTL.keep kc2
          replace hTA := hTA.keep kc2
          have kr3 := kr.trans kc2
          have sc0 := hTs.c0
          have sc1 := hTs.c1
          have tL0 := hTL.c0
          have tL1 := hTL.c1
          have tA0 := hTA.c0
          have tA1 := hTA.c1
          have hC0 : InC w4 s bA u v c d W3.drew := ⟨kr3.drew, sc0, sc1, tA0, tA1⟩
          haveI : Nonempty (Inw (InC w4 s bA u v c d)) := ⟨⟨_, hC0⟩⟩
          have js0 : ∀ q : Inw (InC w4 s bA u v c d), q.W.cell? ⟨s, 0, none⟩ = some (.int .i64 u) := fun q => q.h.c0
          have js1 : ∀ q : Inw (InC w4 s bA u v c d), q.W.cell? ⟨s, 1, none⟩ = some (.int .i64 v) := fun q => q.h.c1
          have jA0 : ∀ q : Inw (InC w4 s bA u v c d), q.W.cell? ⟨bA, 0, none⟩ = some (.int .i64 c) := fun q => q.h.c2
          have jA1 : ∀ q : Inw (InC w4 s bA u v c d), q.W.cell? ⟨bA, 1, none⟩ = some (.int .i64 d) := fun q => q.h.c3
          go_wp2_with fail
          refine (wpIn_wide (n := 3)).1 ?_
          refine cix_start hmx (InC w4 s bA u v c d) ?_
          refine cix_quiet (m := 3) (CixOk.of (fun _ => trivial) (fun _ _ _ _ hd h => ⟨hd.symm.trans h.1, h.2⟩) (by kernel_rfl)) [0, 1, 2, 3, 4, 5, 6, 7, 8, 9, 10] rfl (by kernel_rfl) hC0 ?_
          show wpQuietIn _ _ _ _ _ _ [_, _, _, _, _, _, _, _, _, _, _] _
          iterate 11 (gi_big_quiet_step (fail))
          refine wpQuietIn_nil ?_
          clear js0 js1 jA0 jA1
          refine cix_one (m := 2) 11 _ rfl rfl (by kernel_rfl) ?_
          show wpListIn _ _ _ _ _ [_] _ _
          gi_wp2_with fail
          rename_i hK3
          refine ⟨trivial, ((callsIn_wide (n := 2)).2 (SP.out mi ma _)).mono ?_⟩
          rintro e V5 ⟨rfl, k5⟩
          have kd := (Keeps.refl W3).drew.trans k5
          refine hK3 _ _ (.inl ⟨rfl, ⟨kr3.trans kd, kd.cell sc0, kd.cell sc1, kd.cell tA0, kd.cell tA1⟩, ?_⟩)
          clear hK3
          replace hTL := hTL.keep kd
          replace hTA := hTA.keep kd
          have hU := (((hTL.set0 u).set1 v).setOther (b' := bA) (o := 0) (.int .i64 mi) (Ne.symm hLA)).setOther (b' := bA) (o := 1) (.int .i64 ma) (Ne.symm hLA)
          have hV := (((hTA.setOther (b' := bL) (o := 0) (.int .i64 u) hLA).setOther (b' := bL) (o := 1) (.int .i64 v) hLA).set0 mi).set1 ma
          have hG := ((kr3.trans kd).setCell (p := ⟨bL, 0, none⟩) (.int .i64 u) hL4).setCell (p := ⟨bL, 1, none⟩) (.int .i64 v) hL4
          have hF := (hG.setCell (p := ⟨bA, 0, none⟩) (.int .i64 mi) hA4).setCell (p := ⟨bA, 1, none⟩) (.int .i64 ma) hA4
          have yB := (hTA.setOther (b' := bL) (o := 0) (.int .i64 u) hLA).setOther (b' := bL) (o := 1) (.int .i64 v) hLA
          have yS := ((hTs.keep kd).setOther (b' := bL) (o := 0) (.int .i64 u) (Ne.symm nL)).setOther (b' := bL) (o := 1) (.int .i64 v) (Ne.symm nL)
          obtain ⟨l0, l1, lf0, lf1⟩ := hTL
          have HC1 := Lib.hid (show InC w4 s bA u v c d ((V5.setCell ⟨bL, 0, none⟩ (.int .i64 u)).setCell ⟨bL, 1, none⟩ (.int .i64 v)) from ⟨hG, yS.c0, yS.c1, yB.c0, yB.c1⟩)
          obtain ⟨aa0, aa1, af0, af1⟩ := yB
          clear tL0 tL1 tA0 tA1
          refine cix_one (m := 1) 12 _ rfl rfl (by kernel_rfl) ?_
          show wpListIn _ _ _ _ _ [_] _ _
          gi_wp2_with fail
          refine ⟨HC1.out, ?_⟩
          refine cix_last (m := 0) 13 _ rfl rfl (by kernel_rfl) (by kernel_rfl) (by kernel_rfl) ?_
          show wpListIn _ _ _ _ _ [_] _ _
          gi_wp2_with fail
          go_wp2_with fail
          go_roundw
          case rel => exact ⟨_, rfl, ⟨by omega, by omega⟩, _, _, _, _, LastE.next x1 HE.out, by rw [← hmi, ← hma]; exact AllE.next x1 HAE.out HE.out hu hv, hU, hV, hF⟩
          case measure => simp [intOf]; omega
      · have hd : decide (x ≤ hi) = false := decide_eq_false hx
        obtain ⟨e1, e2⟩ := HAE.out.stop lh (by omega) HES.out
        rw [e1, e2] at hTA
        clear e1 e2 HAE HLE2 c d
        have hT0r := hT0.keep kr
        have t0 := hT0r.c0
        have t1 := hT0r.c1
        have tA0 := hTA.c0
        have tA1 := hTA.c1
        have fnS : ∀ w1, (binOp .neq 23 (.agg #[.int .i64 us, .int .i64 vs]) (.agg #[.int .i64 us, .int .i64 vs])).run Try.prog w1 = .ok (.bool false) w1 := fun w1 => by rw [neq_span]; simp
        have gnS : ∀ (o1 o2 : Operand) (w1 : World), (eqGuard .neq 23 o1 o2 (.agg #[.int .i64 us, .int .i64 vs]) (.agg #[.int .i64 us, .int .i64 vs])).run Try.prog w1 = .ok () w1 := fun o1 o2 w1 => run_eqGuard_agg w1 .neq _ o1 o2 _ _ guard_span
        go_wp2_with fail
        refine (SP.out _ _ _).mono ?_
        rintro e w7 ⟨rfl, k7⟩
        replace kq := kq.trans k7
        replace h0 := k7.cell h0
        replace h1 := k7.cell h1
        replace h2 := k7.cell h2
        replace h3 := k7.cell h3
        replace h4 := k7.cell h4
        replace h5 := k7.cell h5
        have hl7 := lt_of_cell h1
        go_wp2_with fail
        clear fnS gnS t0 t1 tA0 tA1
        obtain ⟨bO, hbO⟩ : ∃ b, w7.heap.size = b := ⟨_, rfl⟩
        obtain ⟨W8, hW8⟩ : ∃ x, w7.alloc (.cells #[.int .i64 1073741824, .int .i64 (-1073741824)] 23) = x := ⟨_, rfl⟩
        have kO : Keeps w7 W8 := by rw [← hW8]; exact (Keeps.refl _).alloc _
        have TO : TwoI W8 bO 1073741824 (-1073741824) := by rw [← hW8, ← hbO]; exact ⟨by simp [go_sem], by simp [go_sem], by simp [go_sem], by simp [go_sem]⟩
        have hO7 : w7.heap.size ≤ bO := by omega
        rw [hbO, hW8]
        clear hbO hW8
        go_loopw [19] (fun t wz => ∃ y, t = .int .i64 y ∧ (llo ≤ y ∧ y ≤ lhi + 1) ∧ Owns ⟨mark, llo, lhi, clo, chi, ra, rc, rs⟩ lo y clo bO w7 wz) (fun t _ => (lhi + 1 - intOf t).toNat)
        case atStart => exact ⟨_, rfl, ⟨Int.le_refl _, by omega⟩, _, _, HOS.out, TO, kO⟩
        case round =>
          clear TO kO
          obtain ⟨y, rfl, ⟨y1, y2⟩, po, qo, hOE, hTO, kz⟩ := hrel
          have HOE := Lib.hid hOE
          clear hOE
          have i0 := kz.cell h0
          have i1 := kz.cell h1
          have i2 := kz.cell h2
          have i3 := kz.cell h3
          have i4 := kz.cell h4
          have i5 := kz.cell h5
          by_cases hy : y ≤ lhi
          · have hd2 : decide (y ≤ lhi) = true := decide_eq_true hy
            have hwy : IntKind.i64.wrap (y + 1) = y + 1 := IntWalk.i64_in _ (by constructor <;> omega)
            go_wp2_with fail
            go_loopw [20] (fun t wz => ∃ z, t = .int .i64 z ∧ (clo ≤ z ∧ z ≤ chi + 1) ∧ Owns ⟨mark, llo, lhi, clo, chi, ra, rc, rs⟩ lo y z bO w7 wz) (fun t _ => (chi + 1 - intOf t).toNat)
            case atStart => exact ⟨_, rfl, ⟨Int.le_refl _, by omega⟩, _, _, HOE.out, hTO, kz⟩
            case round =>
              clear hTO kz i0 i1 i2 i3 i4 i5 HOE
              obtain ⟨z, rfl, ⟨z1, z2⟩, pu, qu, hOE, hTO, kz⟩ := hrel
              have HOE := Lib.hid hOE
              clear hOE
              have kq2 := kq.trans kz
              have i0 := kz.cell h0
              have i1 := kz.cell h1
              have i2 := kz.cell h2
              have i3 := kz.cell h3
              have i4 := kz.cell h4
              have i5 := kz.cell h5
              by_cases hz : z ≤ chi
              · have hd3 : decide (z ≤ chi) = true := decide_eq_true hz
                have hwz : IntKind.i64.wrap (z + 1) = z + 1 := IntWalk.i64_in _ (by constructor <;> omega)
                rcases HXC.out y z ⟨y1, hy⟩ ⟨z1, hz⟩ with ⟨p, hp, hpe, hc⟩ | ⟨hno, hc⟩
                · have CX := Lib.hid (fun w1 (k : Keeps w w1) => show Calls Try.prog 25 #[.agg #[.int .i64 mark, .int .i64 y, .int .i64 y, .int .i64 z, .int .i64 z, .slice ra rs.length rc]] w1 (Ret (.tuple #[.int .i64 1, .int .i64 0]) w1) from by have h := HCN.out y z w1 k; rw [hc] at h; exact h)
                  have e1 : p.1.1 = y := by rw [hpe]
                  have e2 : p.1.2 = z := by rw [hpe]
                  have BM := shI_bd p (t := lo) m1 m2 (by omega) (by omega)
                  rw [e1, e2] at BM
                  have SHL := Lib.hid (fun w1 => lawShows_any mark y z lo w1 m1 m2 (by omega) (by omega) (by omega) (by omega) (by omega) (by omega))
                  have PR := Lib.hid (fun m hm hb => OwnE.pair (m := m) HOE.out p hp hpe hm hb)
                  obtain ⟨ms, hms⟩ : ∃ m, shI mark y z lo = m := ⟨_, rfl⟩
                  rw [hms] at SHL BM
                  have PR2 := Lib.hid (PR.out ms hms.symm BM)
                  obtain ⟨mi, hmi⟩ : ∃ m : Int, min pu ms = m := ⟨_, rfl⟩
                  obtain ⟨ma, hma⟩ : ∃ m : Int, max qu ms = m := ⟨_, rfl⟩
                  rw [hmi, hma] at PR2
                  clear hms BM PR hp hpe e1 e2 hc p
                  go_wp2_with fail
                  refine (HEX.out y z _).mono ?_
                  rintro e v1 ⟨rfl, a1⟩
                  replace i0 := a1.cell i0
                  replace i1 := a1.cell i1
                  replace i2 := a1.cell i2
                  replace i3 := a1.cell i3
                  replace i4 := a1.cell i4
                  replace i5 := a1.cell i5
                  go_wp2_with fail
                  refine (CX.out _ (kq2.trans a1)).mono ?_
                  rintro e v2 ⟨rfl, a2⟩
                  replace i0 := a2.cell i0
                  replace i1 := a2.cell i1
                  replace i2 := a2.cell i2
                  replace i3 := a2.cell i3
                  replace i4 := a2.cell i4
                  replace i5 := a2.cell i5
                  go_wp2_with fail
                  refine (SHL.out _).mono ?_
                  rintro e v3 ⟨rfl, a3⟩
                  have a13 := (a1.trans a2).trans a3
                  replace hTO := hTO.keep a13
                  have to0 := hTO.c0
                  have to1 := hTO.c1
                  go_wp2_with fail
                  refine (SP.out _ _ _).mono ?_
                  rintro e v4 ⟨rfl, a4⟩
                  replace hTO := hTO.keep a4
                  have hT4 := (hTO.set0 mi).set1 ma
                  have hF4 := (((kz.trans a13).trans a4).setCell (p := ⟨bO, 0, none⟩) (.int .i64 mi) hO7).setCell (p := ⟨bO, 1, none⟩) (.int .i64 ma) hO7
                  obtain ⟨u0, u1, uf0, uf1⟩ := hTO
                  clear to0 to1
                  go_wp2_with fail
                  go_roundw
                  case rel => exact ⟨_, rfl, ⟨by omega, by omega⟩, _, _, PR2.out, hT4, hF4⟩
                  case measure => simp [intOf]; omega
                · have CX := Lib.hid (fun w1 (k : Keeps w w1) => show Calls Try.prog 25 #[.agg #[.int .i64 mark, .int .i64 y, .int .i64 y, .int .i64 z, .int .i64 z, .slice ra rs.length rc]] w1 (Ret (.tuple #[.int .i64 0, .int .i64 0]) w1) from by have h := HCN.out y z w1 k; rw [hc] at h; exact h)
                  clear hc
                  have HNO := Lib.hid hno
                  clear hno
                  go_wp2_with fail
                  refine (HEX.out y z _).mono ?_
                  rintro e v1 ⟨rfl, a1⟩
                  go_wp2_with fail
                  refine (CX.out _ (kq2.trans a1)).mono ?_
                  rintro e v2 ⟨rfl, a2⟩
                  go_wp2_with fail
                  go_roundw
                  case rel => exact ⟨_, rfl, ⟨by omega, by omega⟩, _, _, HOE.out.skip HNO.out, hTO.keep (a1.trans a2), kz.trans (a1.trans a2)⟩
                  case measure => simp [intOf]; omega
              · have hd3 : decide (z ≤ chi) = false := decide_eq_false hz
                go_wp2_with fail
                go_roundw
                case rel => exact ⟨_, rfl, ⟨by omega, by omega⟩, _, _, HOR.out _ _ _ _ HOE.out (by show chi < z; omega), hTO, kz⟩
                case measure => simp [intOf]; omega
          · have hd2 : decide (y ≤ lhi) = false := decide_eq_false hy
            obtain ⟨uf, vf, hSf, hEf, _, _⟩ := HT.out lo lo0 lo1
            have SF := Lib.hid (fun w1 (k : Keeps w w1) => show Calls Try.prog 21 #[.agg #[.int .i64 mark, .int .i64 llo, .int .i64 lhi, .int .i64 clo, .int .i64 chi, .slice ra rs.length rc], .agg #[.int .i64 lo, .int .i64 lo]] w1 (Ret (.tuple #[.agg #[.int .i64 uf, .int .i64 vf], .int .i64 0]) w1) from by have h := SHA.out lo lo w1 k; rw [hSf] at h; exact h)
            obtain ⟨f1, f2⟩ := HOT.out _ _ _ _ uf vf HOE.out (by show lhi < y; omega) hEf
            rw [f1, f2] at SF
            clear f1 f2 hSf hEf HOE
            have kq2 := kq.trans kz
            go_upto_region 33 with fail
            go_cut [24, 25] (fun p q wx => Told wr po qo 0 p q wx)
            case first =>
              have k5d := (Keeps.refl wr).drew
              haveI : Nonempty (Inw (fun w' => Keeps wr w')) := ⟨⟨wr, Keeps.refl _⟩⟩
              have e0 : ∀ q : Inw (fun w' => Keeps wr w'), q.W.cell? ⟨b0, 0, none⟩ = some (.int .i64 mark) := fun q => q.h.cell i0
              have e1 : ∀ q : Inw (fun w' => Keeps wr w'), q.W.cell? ⟨b0, 1, none⟩ = some (.int .i64 llo) := fun q => q.h.cell i1
              have e2 : ∀ q : Inw (fun w' => Keeps wr w'), q.W.cell? ⟨b0, 2, none⟩ = some (.int .i64 lhi) := fun q => q.h.cell i2
              have e3 : ∀ q : Inw (fun w' => Keeps wr w'), q.W.cell? ⟨b0, 3, none⟩ = some (.int .i64 clo) := fun q => q.h.cell i3
              have e4 : ∀ q : Inw (fun w' => Keeps wr w'), q.W.cell? ⟨b0, 4, none⟩ = some (.int .i64 chi) := fun q => q.h.cell i4
              have e5 : ∀ q : Inw (fun w' => Keeps wr w'), q.W.cell? ⟨b0, 5, none⟩ = some (.slice ra rs.length rc) := fun q => q.h.cell i5
              go_wp2_with fail
              refine (wpIn_wide (n := 3)).1 ?_
              refine cix_start hmx (fun w' => Keeps wr w') ?_
              refine cix_quiet (m := 8) (CixOk.of (fun _ => trivial) (fun _ _ _ _ hd h => ⟨hd.symm.trans h.1, h.2⟩) (by kernel_rfl)) [0, 1, 2] rfl (by kernel_rfl) k5d ?_
              show wpQuietIn _ _ _ _ _ _ [_, _, _] _
              iterate 3 (gi_big_quiet_step (fail))
              refine wpQuietIn_nil ?_
              refine cix_two (m := 7) 3 _ 8 _ rfl rfl rfl (by kernel_rfl) ?_ ?_
              · show wpListIn _ _ _ _ _ [_] _ _
                gi_wp2_with fail
                rename_i hK
                refine ⟨trivial, ((callsIn_wide (n := 2)).2 (SP.out (lo) (lo) _)).mono ?_⟩
                rintro e u1 ⟨rfl, k⟩
                have c1 := k5d.trans k
                refine hK _ _ (.inl ⟨rfl, c1, ?_⟩)
                clear hK k
                refine cix_two (m := 6) 4 _ 8 _ rfl rfl rfl (by kernel_rfl) ?_ ?_
                · show wpListIn _ _ _ _ _ [_] _ _
                  gi_wp2_with fail
                  rename_i hK
                  refine ⟨trivial, ((callsIn_wide (n := 2)).2 (SF.out _ (kq2.trans c1))).mono ?_⟩
                  rintro e u2 ⟨rfl, k⟩
                  have c2 := c1.trans k
                  refine hK _ _ (.inl ⟨rfl, c2, ?_⟩)
                  clear hK k
                  refine cix_quiet (m := 3) (CixOk.of (fun _ => trivial) (fun _ _ _ _ hd h => ⟨hd.symm.trans h.1, h.2⟩) (by kernel_rfl)) [5, 6, 7] rfl (by kernel_rfl) c2 ?_
                  show wpQuietIn _ _ _ _ _ _ [_, _, _] _
                  iterate 3 (gi_big_quiet_step (fail))
                  refine wpQuietIn_nil ?_
                  refine cix_one (m := 2) 8 _ rfl rfl (by kernel_rfl) ?_
                  show wpListIn _ _ _ _ _ [_] _ _
                  gi_wp2_with fail
                  obtain ⟨s, hs⟩ : ∃ s, u2.heap.size = s := ⟨_, rfl⟩
                  obtain ⟨u3, hu3⟩ : ∃ v, u2.alloc (.cells #[.int .i64 0, .int .i64 0] 23) = v := ⟨_, rfl⟩
                  have c3 : Keeps wr u3 := by rw [← hu3]; exact c2.alloc _
                  have a0 : u3.cell? ⟨s, 0, none⟩ = some (.int .i64 0) := by rw [← hu3, ← hs]; simp [go_sem]
                  have a1 : u3.cell? ⟨s, 1, none⟩ = some (.int .i64 0) := by rw [← hu3, ← hs]; simp [go_sem]
                  have z0 : u3.frozen? ⟨s, 0, none⟩ = false := by rw [← hu3, ← hs]; simp [go_sem]
                  have z1 : u3.frozen? ⟨s, 1, none⟩ = false := by rw [← hu3, ← hs]; simp [go_sem]
                  have hsz : wr.heap.size ≤ s := by rw [← hs]; exact c2.size
                  rw [hu3, hs]
                  clear hu3 hs
                  refine ⟨c3, ?_⟩
                  refine cix_one (m := 1) 9 _ rfl rfl (by kernel_rfl) ?_
                  show wpListIn _ _ _ _ _ [_] _ _
                  have hT : TwoI u3 s 0 0 := ⟨a0, a1, z0, z1⟩
                  have kY : Keeps wr ((u3.setCell ⟨s, 0, none⟩ (.int .i64 po)).setCell ⟨s, 1, none⟩ (.int .i64 qo)) := (c3.setCell (p := ⟨s, 0, none⟩) _ hsz).setCell (p := ⟨s, 1, none⟩) _ hsz
                  have hT2 := (hT.set0 (po)).set1 (qo)
                  gi_wp2_with fail
                  refine cix_one (m := 0) 10 _ rfl rfl (by kernel_rfl) ?_
                  show wpListIn _ _ _ _ _ [_] _ _
                  gi_wp2_with fail
                  refine cix_done (by kernel_rfl) ?_ _
                  go_wp2_with fail
                  go_meet
                  exact ⟨s, rfl, hsz, hT2, kY, rfl⟩
                · show wpListIn _ _ _ _ _ [_] _ _
                  gi_wp2_with fail
                  obtain ⟨s, hs⟩ : ∃ s, u1.heap.size = s := ⟨_, rfl⟩
                  obtain ⟨u2, hu2⟩ : ∃ v, u1.alloc (.cells #[.int .i64 0, .int .i64 0] 23) = v := ⟨_, rfl⟩
                  have c2 : Keeps wr u2 := by rw [← hu2]; exact c1.alloc _
                  have a0 : u2.cell? ⟨s, 0, none⟩ = some (.int .i64 0) := by rw [← hu2, ← hs]; simp [go_sem]
                  have a1 : u2.cell? ⟨s, 1, none⟩ = some (.int .i64 0) := by rw [← hu2, ← hs]; simp [go_sem]
                  have z0 : u2.frozen? ⟨s, 0, none⟩ = false := by rw [← hu2, ← hs]; simp [go_sem]
                  have z1 : u2.frozen? ⟨s, 1, none⟩ = false := by rw [← hu2, ← hs]; simp [go_sem]
                  have hsz : wr.heap.size ≤ s := by rw [← hs]; exact c1.size
                  rw [hu2, hs]
                  clear hu2 hs
                  refine ⟨c2, ?_⟩
                  refine cix_one (m := 5) 4 _ rfl rfl (by kernel_rfl) ?_
                  show wpListIn _ _ _ _ _ [_] _ _
                  gi_wp2_with fail
                  rename_i hK
                  refine ⟨trivial, ((callsIn_wide (n := 2)).2 (SF.out _ (kq2.trans c2))).mono ?_⟩
                  rintro e u3 ⟨rfl, k⟩
                  have c3 := c2.trans k
                  have hss := lt_of_cell a0
                  replace z0 := (k.cells.2 s 0 hss).trans z0
                  replace z1 := (k.cells.2 s 1 hss).trans z1
                  replace a0 := k.cell a0
                  replace a1 := k.cell a1
                  refine hK _ _ (.inl ⟨rfl, c3, ?_⟩)
                  clear hK k
                  refine cix_quiet (m := 2) (CixOk.of (fun _ => trivial) (fun _ _ _ _ hd h => ⟨hd.symm.trans h.1, h.2⟩) (by kernel_rfl)) [5, 6, 7] rfl (by kernel_rfl) c3 ?_
                  show wpQuietIn _ _ _ _ _ _ [_, _, _] _
                  iterate 3 (gi_big_quiet_step (fail))
                  refine wpQuietIn_nil ?_
                  refine cix_one (m := 1) 9 _ rfl rfl (by kernel_rfl) ?_
                  show wpListIn _ _ _ _ _ [_] _ _
                  have hT : TwoI u3 s 0 0 := ⟨a0, a1, z0, z1⟩
                  have kY : Keeps wr ((u3.setCell ⟨s, 0, none⟩ (.int .i64 po)).setCell ⟨s, 1, none⟩ (.int .i64 qo)) := (c3.setCell (p := ⟨s, 0, none⟩) _ hsz).setCell (p := ⟨s, 1, none⟩) _ hsz
                  have hT2 := (hT.set0 (po)).set1 (qo)
                  gi_wp2_with fail
                  refine cix_one (m := 0) 10 _ rfl rfl (by kernel_rfl) ?_
                  show wpListIn _ _ _ _ _ [_] _ _
                  gi_wp2_with fail
                  refine cix_done (by kernel_rfl) ?_ _
                  go_wp2_with fail
                  go_meet
                  exact ⟨s, rfl, hsz, hT2, kY, rfl⟩
              · show wpListIn _ _ _ _ _ [_] _ _
                gi_wp2_with fail
                obtain ⟨s, hs⟩ : ∃ s, wr.heap.size = s := ⟨_, rfl⟩
                obtain ⟨u1, hu1⟩ : ∃ v, (wr.alloc (.cells #[.int .i64 0, .int .i64 0] 23)).drew = v := ⟨_, rfl⟩
                have c1 : Keeps wr u1 := by rw [← hu1]; exact ((Keeps.refl wr).alloc _).drew
                have a0 : u1.cell? ⟨s, 0, none⟩ = some (.int .i64 0) := by rw [← hu1, ← hs]; simp [go_sem]
                have a1 : u1.cell? ⟨s, 1, none⟩ = some (.int .i64 0) := by rw [← hu1, ← hs]; simp [go_sem]
                have z0 : u1.frozen? ⟨s, 0, none⟩ = false := by rw [← hu1, ← hs]; simp [go_sem]
                have z1 : u1.frozen? ⟨s, 1, none⟩ = false := by rw [← hu1, ← hs]; simp [go_sem]
                have hsz : wr.heap.size ≤ s := by rw [← hs]; exact (Keeps.refl wr).size
                rw [hu1, hs]
                clear hu1 hs
                refine ⟨c1, ?_⟩
                refine cix_one (m := 6) 3 _ rfl rfl (by kernel_rfl) ?_
                show wpListIn _ _ _ _ _ [_] _ _
                gi_wp2_with fail
                rename_i hK
                refine ⟨trivial, ((callsIn_wide (n := 2)).2 (SP.out (lo) (lo) _)).mono ?_⟩
                rintro e u2 ⟨rfl, k⟩
                have c2 := c1.trans k
                have hss := lt_of_cell a0
                replace z0 := (k.cells.2 s 0 hss).trans z0
                replace z1 := (k.cells.2 s 1 hss).trans z1
                replace a0 := k.cell a0
                replace a1 := k.cell a1
                refine hK _ _ (.inl ⟨rfl, c2, ?_⟩)
                clear hK k
                refine cix_one (m := 5) 4 _ rfl rfl (by kernel_rfl) ?_
                show wpListIn _ _ _ _ _ [_] _ _
                gi_wp2_with fail
                rename_i hK
                refine ⟨trivial, ((callsIn_wide (n := 2)).2 (SF.out _ (kq2.trans c2))).mono ?_⟩
                rintro e u3 ⟨rfl, k⟩
                have c3 := c2.trans k
                have hss := lt_of_cell a0
                replace z0 := (k.cells.2 s 0 hss).trans z0
                replace z1 := (k.cells.2 s 1 hss).trans z1
                replace a0 := k.cell a0
                replace a1 := k.cell a1
                refine hK _ _ (.inl ⟨rfl, c3, ?_⟩)
                clear hK k
                refine cix_quiet (m := 2) (CixOk.of (fun _ => trivial) (fun _ _ _ _ hd h => ⟨hd.symm.trans h.1, h.2⟩) (by kernel_rfl)) [5, 6, 7] rfl (by kernel_rfl) c3 ?_
                show wpQuietIn _ _ _ _ _ _ [_, _, _] _
                iterate 3 (gi_big_quiet_step (fail))
                refine wpQuietIn_nil ?_
                refine cix_one (m := 1) 9 _ rfl rfl (by kernel_rfl) ?_
                show wpListIn _ _ _ _ _ [_] _ _
                have hT : TwoI u3 s 0 0 := ⟨a0, a1, z0, z1⟩
                have kY : Keeps wr ((u3.setCell ⟨s, 0, none⟩ (.int .i64 po)).setCell ⟨s, 1, none⟩ (.int .i64 qo)) := (c3.setCell (p := ⟨s, 0, none⟩) _ hsz).setCell (p := ⟨s, 1, none⟩) _ hsz
                have hT2 := (hT.set0 (po)).set1 (qo)
                gi_wp2_with fail
                refine cix_one (m := 0) 10 _ rfl rfl (by kernel_rfl) ?_
                show wpListIn _ _ _ _ _ [_] _ _
                gi_wp2_with fail
                refine cix_done (by kernel_rfl) ?_ _
                go_wp2_with fail
                go_meet
                exact ⟨s, rfl, hsz, hT2, kY, rfl⟩
            case rest =>
              obtain ⟨sF, rfl, hsF, hTF, kcF, rfl⟩ := hcut
              obtain ⟨W9, rfl⟩ : ∃ W9 : World, W9 = wc := ⟨_, rfl⟩
              rename_i hK9
              refine hK9 _ _ ?_
              clear hK9
              replace hTO := hTO.keep kcF
              have t0 := hTF.c0
              have t1 := hTF.c1
              have o0' := hTO.c0
              have o1' := hTO.c1
              have fnE : ∀ w1, (binOp .eql 23 (.agg #[.int .i64 po, .int .i64 qo]) (.agg #[.int .i64 po, .int .i64 qo])).run Try.prog w1 = .ok (.bool true) w1 := fun w1 => by rw [eql_span]; simp
              have gnE : ∀ (o1 o2 : Operand) (w1 : World), (eqGuard .eql 23 o1 o2 (.agg #[.int .i64 po, .int .i64 qo]) (.agg #[.int .i64 po, .int .i64 qo])).run Try.prog w1 = .ok () w1 := fun o1 o2 w1 => run_eqGuard_agg w1 .eql _ o1 o2 _ _ guard_span
              go_wp2_with fail
              refine (AW.out _).mono ?_
              rintro e W10 ⟨rfl, kE⟩
              go_wp2_with fail
              go_ret
              exact RetB.mk rfl ((kq2.trans kcF).trans kE)
end Go.Proofs.Ytidiikmpgpnmpaa

namespace Go.Proofs.Ytidiikmpgpnmpaa
open Go.ChangeShapes Go.WideShapes Go.ChangeAt Go.RowKit

theorem u8_bd {n : Int} (h : (Lit.int .u8 n).wf = true) : 0 ≤ n ∧ n ≤ 255 := by
  have e1 : IntKind.u8.min = 0 := rfl
  have e2 : IntKind.u8.max = 255 := rfl
  simp only [Lit.wf, Bool.and_eq_true, decide_eq_true_eq] at h
  omega
theorem warmShows_any (B : Wm) (o mo : Int) (w : World) (hI : B.In w) (a0 : 0 ≤ o) (a1 : o ≤ 255) (b0 : 0 ≤ mo) (b1 : mo ≤ 255) : Calls Try.prog 8 #[B.v, .int .u8 o, .int .u8 mo] w (RetB true w) := by
  cases hf : B.fine with
  | false => exact shows_no B o mo w hI hf
  | true =>
    cases ht : B.truths.isEmpty with
    | true => exact shows_none B o mo w hI hf ht a0 a1 b0 b1
    | false => exact warmShows_yes B o mo w hI hf ht a0 a1 b0 b1

set_option maxRecDepth 100000 in
theorem warmShows_lifted (os : Os) (started : os.Started) (H : Type) (enc : TypeId × Value → H) :
    ReturnsInHanded {} Try.checked os 8 .any (Rows.warmShowsSpec.pre6 enc Try.prog Try.f8 Rows.warmShowsRow.domain false) (Rows.warmShowsSpec.post enc Try.prog Try.f8 false true false false) := by
  refine returnsInHanded_of_change (C := Try.checked) own_knob started (by kernel_rfl) Try.func8
    (ChangeSpec.witness6 (enc := enc) (C := Try.checked) false ⟨#[], #[.agg #[.int .i64 0, .int .i64 0, .int .i64 0, .int .i64 0, .int .i64 0, .slice none 0 0], .int .u8 0, .int .u8 0], []⟩ 8 (by kernel_rfl) (by kernel_rfl) (by kernel_rfl) (by kernel_rfl)) ?_
  intro W base args ds gs before hval0 hW _ _
  have hval : ∀ (j : Nat) t v, Try.f8.params[j]? = some t → args[j]? = some v → Value.okWide Try.prog W .any base t v := hval0
  have hW' := hW
  obtain ⟨p, q, hA, hV, rfl, _, _⟩ := hW
  rw [Try.params8] at hA hval
  obtain ⟨v0, v1, v2, d0, d1, d2, p0, p1, p2, rfl, rfl, rfl, h0, h1, h2⟩ := trodAll_three hA
  obtain ⟨rfl, rfl⟩ := trodVars_none hV
  obtain ⟨B, rfl, hI⟩ := open_warm (hval 0 _ _ rfl rfl) h0
  obtain ⟨x, rfl, rfl, _, hx⟩ := open_int Try.underlying5 (hval 1 _ _ rfl rfl) h1
  obtain ⟨y, rfl, rfl, _, hy⟩ := open_int Try.underlying5 (hval 2 _ _ rfl rfl) h2
  refine (warmShows_any B x y W hI (u8_bd hx).1 (u8_bd hx).2 (u8_bd hy).1 (u8_bd hy).2).mono fun e W' ⟨he, hk⟩ => ?_
  subst he
  exact ⟨_, rfl, law_post hW' rfl (by kernel_rfl) rfl hk (by
    rw [Try.params8]
    have h : ([26, 5, 5].all fun t => Try.prog.readableRec t && decide (t < Try.prog.types.size)) = true := by kernel_rfl
    intro t ht
    have := List.all_eq_true.1 h t ht
    simpa using this)⟩

theorem WarmShows_holds : Rows.WarmShowsSaid :=
  OpenClaim.holds_of_wide 8 Try.f8 rfl rfl rfl rfl rfl rfl rfl ⟨rfl, rfl, rfl, rfl, rfl⟩ rfl rfl rfl rfl rfl (by kernel_rfl) Try.func8 (by kernel_rfl)
    (of_decide_eq_true (by kernel_rfl)) (by unfold Func.isWrapper; first | (rw [if_pos (by decide +kernel)]; kernel_rfl) | (rw [if_neg (by decide +kernel)]; exact ⟨rfl, rfl⟩))
    (fun os started H enc _ => warmShows_lifted os started H enc)
#print axioms WarmShows_holds
end Go.Proofs.Ytidiikmpgpnmpaa
