/-
  LAW: a touch more; SettleLatest: numbers.
-/
import Derived.Test.YtfjfkaaflghaiaaGg
namespace Go.Proofs.Ytfjfkaaflghaiaa
open Go.RowKit Go.Proofs.Try
attribute [local irreducible] Run wpK


theorem with_any (p : Sb) (t : Tc) (w : World) (hp : p.In w) (h8 : p.ts.length ≤ 8) : Calls Try.prog 28 #[.agg #[.slice p.ba p.bs.length p.bc, .int .i64 p.near, .int .i64 p.last, .slice p.ta p.ts.length p.tc], .agg #[.int .i64 t.1, .int .i64 t.2.1, .int .i64 t.2.2.1, .int .i64 t.2.2.2]] w (NwL (α := Nat × Nat × Nat) (fun a => .agg #[.slice p.ba p.bs.length p.bc, .int .i64 p.near, .int .i64 p.last, .slice (some ⟨a.1, 0, none⟩) ((p.ts ++ [t]).length) (capW p.ts.length a.2.1 a.2.2)]) (fun a => [(a.1, .cells ((p.ts ++ [t]).flatMap tcR ++ spW p.ts.length a.2.1 a.2.2).toArray 61 (0, 0))]) (fun _ => True) w) := by
  rcases Nat.eq_zero_or_pos p.ts.length with h | h
  · exact with0_any p t w h
  · obtain ⟨be, oe, hea, _⟩ := hp.tk (by intro h1; rw [h1] at h; cases h)
    have h2 := with1_any p t be oe w hp hea h8 h
    rw [← hea] at h2
    exact h2
/-- With a touch more, in a row that can hold more. -/
def Sb.wit (p : Sb) (t : Tc) (g x y : Nat) : Sb := { p with ta := some ⟨g, 0, none⟩, tc := capW p.ts.length x y, ts := p.ts ++ [t] }
theorem wit_in {p : Sb} {t : Tc} {g x y : Nat} {w : World} {ty : TypeId} {fr : Nat × Nat} {sp : List Value} (hp : p.In w) (h8 : p.ts.length ≤ 8) (hg : w.heap[g]? = some (.cells ((p.ts ++ [t]).flatMap tcR ++ sp).toArray ty fr)) : (p.wit t g x y).In w :=
  ⟨hp.bk, Tcs.of_flat hg, hp.lb, by show (p.ts ++ [t]).length ≤ maxLen; simp only [List.length_append, List.length_singleton, maxLen]; omega⟩

theorem tch_ok {s : Sn} (h : s.ok = true) (h5 : s.ts.length ≤ 5) {t : Tc} (ht : vTc s.bs.length s.last t = true) : (s.tch t).ok = true := by
  unfold Sn.ok Sn.tch at *
  dsimp only
  simp only [Bool.and_eq_true, decide_eq_true_eq, List.all_eq_true, List.length_append, List.length_singleton] at h ⊢
  obtain ⟨⟨⟨⟨⟨⟨h1, h2⟩, h3⟩, h4⟩, h5'⟩, _⟩, h7⟩ := h
  refine ⟨⟨⟨⟨⟨⟨h1, h2⟩, h3⟩, h4⟩, h5'⟩, by omega⟩, fun x hx => ?_⟩
  rcases List.mem_append.1 hx with hx | hx
  · exact h7 x hx
  · rw [List.mem_singleton] at hx
    subst hx
    exact ht
theorem set_is {s : Sn} {b m : Nat} (hok : s.ok = true) (hb : b < s.bs.length) (hm : (m : Int) ≤ s.last) : setR s b m = .inr (s.judge b m) := by
  unfold setR Sn.isB Sn.isM inI
  rw [hok, decide_eq_true (show (0 : Int) ≤ (b : Int) ∧ (b : Int) ≤ (s.bs.length : Int) - 1 by omega), decide_eq_true (show (0 : Int) ≤ (m : Int) ∧ (m : Int) ≤ s.last by omega)]
  rfl
theorem lastN_is {s : Sn} (hok : s.ok = true) : 1 ≤ s.last ∧ s.last ≤ 60 := by
  unfold Sn.ok at hok
  simp only [Bool.and_eq_true] at hok
  exact of_decide_eq_true hok.1.1.2
/-- What is told of a latest minute. -/
theorem frS {pr : Nat → Bool} {n : Nat} : (frN pr n = none ∧ ∀ i, i < n → pr i = false) ∨ ∃ y, frN pr n = some y ∧ y < n ∧ pr y = true ∧ ∀ i, i < y → pr i = false := frN_is
def LatIs (s : Sn) (b : Nat) (h : Int) (m : Nat) (nv ne : Int) : Prop := (ne = 4 ∧ nv = 0 ∧ ∀ j, j ≤ m → latF s b h m j = false) ∨ ∃ y, y ≤ m ∧ ne = 0 ∧ nv = (m : Int) - (y : Int) ∧ latF s b h m y = true ∧ ∀ j, j < y → latF s b h m j = false
theorem lat_is {s : Sn} {b m : Nat} {h nv ne : Int} (hok : s.ok = true) (hb : b < s.bs.length) (hm : (m : Int) ≤ s.last) (hh : -100 ≤ h ∧ h ≤ 100) (e1 : inA (latR s b h m) = nv) (e2 : erA (latR s b h m) = ne) : LatIs s b h m nv ne := by
  unfold latR Sn.isB Sn.isM at e1 e2
  have i1 : inI (b : Int) 0 ((s.bs.length : Int) - 1) = true := decide_eq_true (by omega)
  have i2 : inI (m : Int) 0 s.last = true := decide_eq_true (by omega)
  have i3 : inI h (-100) 100 = true := decide_eq_true hh
  rw [hok, i1, i2, i3] at e1 e2
  simp only [cond_true, Int.toNat_natCast] at e1 e2
  unfold fmR latV at e1 e2
  rcases frS (pr := latF s b h m) (n := m + 1) with ⟨h1, h2⟩ | ⟨y, h1, hy, hp, h2⟩
  · rw [h1] at e1 e2
    exact .inl ⟨e2.symm, e1.symm, fun j hj => h2 j (by omega)⟩
  · rw [h1] at e1 e2
    refine .inr ⟨y, by omega, e2.symm, ?_, hp, h2⟩
    have e1 : dnN m y = nv := e1
    rw [← e1]
    unfold dnN
    omega
theorem LatIs.q {s : Sn} {b m : Nat} {h nv ne : Int} (H : LatIs s b h m nv ne) : (ne = 0 ∧ 0 ≤ nv ∧ nv ≤ (m : Int)) ∨ (ne = 4 ∧ nv = 0) := by
  rcases H with ⟨h1, h2, _⟩ | ⟨y, hy, h1, h2, _⟩
  · exact .inr ⟨h1, h2⟩
  · exact .inl ⟨h1, by omega, by omega⟩
theorem LatIs.hit {s : Sn} {b m : Nat} {h nv ne : Int} (H : LatIs s b h m nv ne) {i : Nat} (hi : i ≤ m) (h1 : latF s b h m i = true) (h2 : ∀ j, j < i → latF s b h m j = false) : ne = 0 ∧ nv = (m : Int) - (i : Int) := by
  rcases H with ⟨_, _, h3⟩ | ⟨y, hy, e1, e2, h3, h4⟩
  · rw [h3 i hi] at h1; cases h1
  · rcases Nat.lt_trichotomy y i with h | h | h
    · rw [h2 y h] at h3; cases h3
    · subst h; exact ⟨e1, e2⟩
    · rw [h4 i h] at h1; cases h1
theorem LatIs.miss {s : Sn} {b m : Nat} {h nv ne : Int} (H : LatIs s b h m nv ne) (h2 : ∀ j, j ≤ m → latF s b h m j = false) : ne = 4 := by
  rcases H with ⟨e, _⟩ | ⟨y, hy, _, _, h3, _⟩
  · exact e
  · rw [h2 y hy] at h3; cases h3
theorem latF_is {s : Sn} {b m i : Nat} {h v : Int} (hi : i ≤ m) (hv : (s.tch ((b : Int), (m : Int) - (i : Int), h, h)).judge b m = v) : latF s b h m i = (v == 2) := by
  unfold latF Sn.set
  rw [show (((m - i : Nat) : Int)) = (m : Int) - (i : Int) by omega, hv]
end Go.Proofs.Ytfjfkaaflghaiaa
