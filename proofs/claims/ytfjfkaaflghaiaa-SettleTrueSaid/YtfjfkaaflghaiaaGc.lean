/-
  SETTLE: numbers. How warm a block is in each minute, at both ends.
-/
namespace Go.Proofs.Ytfjfkaaflghaiaa

abbrev Sp := Int × Int
/-- A block: its excess, how slow it is, what it grows. -/
abbrev Bk := Int × Int × Int × Int × Int × Int
/-- A touch: its block and minute, its heat. -/
abbrev Tc := Int × Int × Int × Int
structure Sn where
  bs : List Bk
  near : Int
  last : Int
  ts : List Tc
def elB (L : List Bk) (i : Nat) : Bk := L[i]?.getD (0, 0, 0, 0, 0, 0)
def elT (L : List Tc) (i : Nat) : Tc := L[i]?.getD (0, 0, 0, 0)
theorem elB_at {L : List Bk} {i : Nat} (h : i < L.length) : elB L i = L[i] := by unfold elB; rw [List.getElem?_eq_getElem h]; rfl
theorem elT_at {L : List Tc} {i : Nat} (h : i < L.length) : elT L i = L[i] := by unfold elT; rw [List.getElem?_eq_getElem h]; rfl
def inI (n a b : Int) : Bool := decide (a ≤ n ∧ n ≤ b)
def spI (s : Sp) (lo hi : Int) : Bool := decide (lo ≤ s.1 ∧ s.1 ≤ s.2 ∧ s.2 ≤ hi)
def vBk (b : Bk) : Bool := bif spI (b.1, b.2.1) (-100) 100 then bif spI (b.2.2.1, b.2.2.2.1) 2 8 then spI b.2.2.2.2 0 20 else false else false
def vTc (n : Nat) (l : Int) (t : Tc) : Bool := bif inI t.1 0 ((n : Int) - 1) then bif inI t.2.1 0 l then spI t.2.2 (-100) 100 else false else false
def Sn.ok (s : Sn) : Bool := decide (1 ≤ (s.bs.length : Int)) && decide ((s.bs.length : Int) ≤ 4) && s.bs.all vBk && inI s.near 0 20 && inI s.last 1 60 && decide ((s.ts.length : Int) ≤ 6) && s.ts.all (vTc s.bs.length s.last)
structure BkF (b : Bk) : Prop where
  x : -100 ≤ b.1 ∧ b.1 ≤ b.2.1 ∧ b.2.1 ≤ 100
  s : 2 ≤ b.2.2.1 ∧ b.2.2.1 ≤ b.2.2.2.1 ∧ b.2.2.2.1 ≤ 8
  g : 0 ≤ b.2.2.2.2.1 ∧ b.2.2.2.2.1 ≤ b.2.2.2.2.2 ∧ b.2.2.2.2.2 ≤ 20
structure TcF (n : Nat) (l : Int) (t : Tc) : Prop where
  b : 0 ≤ t.1 ∧ t.1 < n
  m : 0 ≤ t.2.1 ∧ t.2.1 ≤ l
  h : -100 ≤ t.2.2.1 ∧ t.2.2.1 ≤ t.2.2.2 ∧ t.2.2.2 ≤ 100
theorem vBk_F {b : Bk} (h : vBk b = true) : BkF b := by
  unfold vBk at h
  cases h1 : spI (b.1, b.2.1) (-100) 100 with
  | false => rw [h1] at h; cases h
  | true =>
    cases h2 : spI (b.2.2.1, b.2.2.2.1) 2 8 with
    | false => rw [h1, h2] at h; cases h
    | true =>
      rw [h1, h2] at h
      exact ⟨of_decide_eq_true h1, of_decide_eq_true h2, of_decide_eq_true (show spI b.2.2.2.2 0 20 = true from h)⟩
theorem vTc_F {n : Nat} {l : Int} {t : Tc} (h : vTc n l t = true) : TcF n l t := by
  unfold vTc at h
  cases h1 : inI t.1 0 ((n : Int) - 1) with
  | false => rw [h1] at h; cases h
  | true =>
    cases h2 : inI t.2.1 0 l with
    | false => rw [h1, h2] at h; cases h
    | true =>
      rw [h1, h2] at h
      have := of_decide_eq_true h1
      exact ⟨⟨this.1, by omega⟩, of_decide_eq_true h2, of_decide_eq_true (show spI t.2.2 (-100) 100 = true from h)⟩
/-- What a valid settle is. -/
structure Sn.Fine (s : Sn) : Prop where
  n1 : 1 ≤ s.bs.length
  n4 : s.bs.length ≤ 4
  bk : ∀ b ∈ s.bs, BkF b
  nr : 0 ≤ s.near ∧ s.near ≤ 20
  l : 0 ≤ s.last ∧ s.last ≤ 60
  t6 : s.ts.length ≤ 8
  tc : ∀ t ∈ s.ts, TcF s.bs.length 60 t
theorem Sn.fine {s : Sn} (h : s.ok = true) : s.Fine := by
  unfold Sn.ok at h
  simp only [Bool.and_eq_true, decide_eq_true_eq, List.all_eq_true] at h
  obtain ⟨⟨⟨⟨⟨⟨h1, h2⟩, h3⟩, h4⟩, h5⟩, h6⟩, h7⟩ := h
  have h8 : 1 ≤ s.last ∧ s.last ≤ 60 := of_decide_eq_true h5
  exact ⟨by omega, by omega, fun b hb => vBk_F (h3 b hb), of_decide_eq_true h4, by omega, by omega, fun t ht => by
    have := vTc_F (h7 t ht)
    exact ⟨this.b, by have := this.m; omega, this.h⟩⟩
theorem Sn.ok_t6 {s : Sn} (h : s.ok = true) : s.ts.length ≤ 6 := by
  unfold Sn.ok at h
  simp only [Bool.and_eq_true, decide_eq_true_eq, List.all_eq_true] at h
  have := h.1.2
  omega
theorem Sn.Fine.bkF {s : Sn} (h : s.Fine) {b : Nat} (hb : b < s.bs.length) : BkF (elB s.bs b) := h.bk _ (by rw [elB_at hb]; exact List.getElem_mem hb)
theorem Sn.Fine.tcF {s : Sn} (h : s.Fine) {i : Nat} (hi : i < s.ts.length) : TcF s.bs.length 60 (elT s.ts i) := h.tc _ (by rw [elT_at hi]; exact List.getElem_mem hi)
/-- An excess a minute later. -/
def fallP (x k : Int) : Int := x - (x + k - 1) / k
def fall (x k : Int) : Int := if x < 0 then -fallP (-x) k else fallP x k
theorem up_bd {x k : Int} (hx : 0 ≤ x) (hk : 1 ≤ k) : 0 ≤ (x + k - 1) / k ∧ (x + k - 1) / k ≤ x := by
  refine ⟨Int.ediv_nonneg (by omega) (by omega), ?_⟩
  rcases Int.lt_or_eq_of_le hx with h | h
  · refine Int.ediv_le_of_le_mul (by omega) ?_
    have h1 : (x - 1) * 1 ≤ (x - 1) * k := Int.mul_le_mul_of_nonneg_left hk (by omega)
    have h2 : (x - 1) * k = x * k - k := by rw [Int.sub_mul]; omega
    omega
  · subst h
    rw [Int.ediv_eq_zero_of_lt (by omega) (by omega)]
    exact Int.le_refl _
theorem fallP_bd {x k : Int} (hx : 0 ≤ x) (hk : 1 ≤ k) : 0 ≤ fallP x k ∧ fallP x k ≤ x := by
  have := up_bd hx hk
  unfold fallP
  omega
theorem fall_bd {x k : Int} (c : Int) (hk : 1 ≤ k) (h : -c ≤ x ∧ x ≤ c) : -c ≤ fall x k ∧ fall x k ≤ c := by
  unfold fall
  split
  · have := fallP_bd (x := -x) (by omega) hk
    omega
  · have := fallP_bd (x := x) (by omega) hk
    omega
def hs (hi : Bool) (t : Tc) : Int := bif hi then t.2.2.2 else t.2.2.1
def isAt (b m : Int) (t : Tc) : Bool := bif t.1 == b then t.2.1 == m else false
/-- The heats of all touches of a block in a minute. -/
def hL (ts : List Tc) (b m : Int) (hi : Bool) : List Int := (ts.filter (isAt b m)).map (hs hi)
def heat (x : Int) (L : List Int) : Int := L.foldl (· + ·) x
def endN (st : Int) (H : Nat → List Int) (k : Int) : Nat → Int
  | 0 => heat st (H 0)
  | m + 1 => heat (fall (endN st H k m) k) (H (m + 1))
def Sn.lo (s : Sn) (b : Nat) (k : Int) (m : Nat) : Int := endN (elB s.bs b).1 (fun m => hL s.ts b m false) k m
def Sn.hi (s : Sn) (b : Nat) (k : Int) (m : Nat) : Int := endN (elB s.bs b).2.1 (fun m => hL s.ts b m true) k m
def Sn.en (s : Sn) (b : Nat) (k : Int) (m : Nat) : Sp := (s.lo b k m, s.hi b k m)
theorem hL_len (ts : List Tc) (b m : Int) (hi : Bool) : (hL ts b m hi).length ≤ ts.length := by
  unfold hL
  rw [List.length_map]
  exact List.length_filter_le _ _
theorem heat_bd (c : Int) : ∀ (L : List Int) (x d : Int), (∀ h ∈ L, -c ≤ h ∧ h ≤ c) → -d ≤ x ∧ x ≤ d → -(d + c * L.length) ≤ heat x L ∧ heat x L ≤ d + c * L.length
  | [], x, d, _, h => by simpa [heat] using h
  | a :: L, x, d, hL, h => by
    have h1 := hL a List.mem_cons_self
    have h2 := heat_bd c L (x + a) (d + c) (fun h hh => hL h (List.mem_cons_of_mem _ hh)) (by omega)
    have e : c * ((L.length + 1 : Nat) : Int) = c * (L.length : Int) + c := by rw [Int.natCast_add, Int.mul_add]; simp
    rw [List.length_cons, e]
    show _ ≤ heat (x + a) L ∧ heat (x + a) L ≤ _
    omega
theorem hL_bd {s : Sn} (h : s.Fine) (b m : Int) (hi : Bool) : ∀ x ∈ hL s.ts b m hi, -100 ≤ x ∧ x ≤ 100 := by
  intro x hx
  unfold hL at hx
  obtain ⟨t, ht, rfl⟩ := List.mem_map.1 hx
  have := (h.tc t (List.mem_filter.1 ht).1).h
  unfold hs
  cases hi <;> simp only [cond_true, cond_false] <;> omega
theorem endN_bd {s : Sn} (h : s.Fine) {st k : Int} (hk : 1 ≤ k) (hst : -100 ≤ st ∧ st ≤ 100) (b : Int) (hi : Bool) : ∀ m : Nat, -(100 + 800 * ((m : Int) + 1)) ≤ endN st (fun m => hL s.ts b m hi) k m ∧ endN st (fun m => hL s.ts b m hi) k m ≤ 100 + 800 * ((m : Int) + 1)
  | 0 => by
    have h1 := heat_bd 100 (hL s.ts b 0 hi) st 100 (hL_bd h b 0 hi) hst
    have h2 := hL_len s.ts b 0 hi
    have h3 := h.t6
    show _ ≤ heat st (hL s.ts b ((0 : Nat) : Int) hi) ∧ heat st (hL s.ts b ((0 : Nat) : Int) hi) ≤ _
    simp only [Int.natCast_zero] at *
    omega
  | m + 1 => by
    have h0 := endN_bd h hk hst b hi m
    have h1 := heat_bd 100 (hL s.ts b ((m + 1 : Nat) : Int) hi) _ _ (hL_bd h b _ hi) (fall_bd _ hk h0)
    have h2 := hL_len s.ts b ((m + 1 : Nat) : Int) hi
    have h3 := h.t6
    show _ ≤ heat (fall (endN st (fun m => hL s.ts b m hi) k m) k) (hL s.ts b ((m + 1 : Nat) : Int) hi) ∧ heat (fall (endN st (fun m => hL s.ts b m hi) k m) k) (hL s.ts b ((m + 1 : Nat) : Int) hi) ≤ _
    omega
theorem en_bd {s : Sn} (h : s.Fine) {b : Nat} (hb : b < s.bs.length) {k : Int} (hk : 1 ≤ k) {m : Nat} (hm : m ≤ 200) : (-200000 ≤ (s.en b k m).1 ∧ (s.en b k m).1 ≤ 200000) ∧ -200000 ≤ (s.en b k m).2 ∧ (s.en b k m).2 ≤ 200000 := by
  have hx := (h.bkF hb).x
  have h1 := endN_bd h hk (st := (elB s.bs b).1) (by omega) b false m
  have h2 := endN_bd h hk (st := (elB s.bs b).2.1) (by omega) b true m
  unfold Sn.en Sn.lo Sn.hi
  dsimp only
  omega
def jdE (n : Int) (e : Sp) : Int := if -n ≤ e.1 ∧ e.1 ≤ n ∧ -n ≤ e.2 ∧ e.2 ≤ n then 2 else if (e.1 < -n ∧ e.2 < -n) ∨ (n < e.1 ∧ n < e.2) then 0 else 1
/-- The numbers of a span. -/
def slW (b : Bk) : Nat := (b.2.2.2.1 - b.2.2.1 + 1).toNat
def slN (b : Bk) (i : Nat) : Int := b.2.2.1 + i
theorem slW_is {b : Bk} (h : BkF b) : (slW b : Int) = b.2.2.2.1 - b.2.2.1 + 1 := by have := h.s; unfold slW; omega
theorem slW_bd {b : Bk} (h : BkF b) : 1 ≤ slW b ∧ slW b ≤ 7 := by have := h.s; have := slW_is h; omega
theorem slN_bd {b : Bk} (h : BkF b) {i : Nat} (hi : i < slW b) : 2 ≤ slN b i ∧ slN b i ≤ 8 := by have := h.s; have := slW_is h; unfold slN; omega
def Sn.jd (s : Sn) (b m i : Nat) : Int := jdE s.near (s.en b (slN (elB s.bs b) i) m)
/-- The verdict of all. -/
def Sn.judge (s : Sn) (b m : Nat) : Int := if ∀ i, i < slW (elB s.bs b) → s.jd b m i = s.jd b m 0 then s.jd b m 0 else 1
def Sn.set (s : Sn) (b m : Nat) : Bool := s.judge b m == 2
/-- The least and the greatest of all ends. -/
def Sn.lows (s : Sn) (b m : Nat) : Nat → Int
  | 0 => 9223372036854775807
  | n + 1 => min (s.lows b m n) (s.en b (slN (elB s.bs b) n) m).1
def Sn.highs (s : Sn) (b m : Nat) : Nat → Int
  | 0 => -9223372036854775808
  | n + 1 => max (s.highs b m n) (s.en b (slN (elB s.bs b) n) m).2
def Sn.out (s : Sn) (b m : Nat) : Sp := (s.lows b m (slW (elB s.bs b)), s.highs b m (slW (elB s.bs b)))
theorem lows_bd {s : Sn} (h : s.Fine) {b m : Nat} (hb : b < s.bs.length) (hm : m ≤ 200) : ∀ n, n ≤ slW (elB s.bs b) → 0 < n → -200000 ≤ s.lows b m n ∧ s.lows b m n ≤ 200000
  | 0, _, h0 => absurd h0 (Nat.lt_irrefl _)
  | n + 1, hn, _ => by
    have h1 := en_bd h hb (k := slN (elB s.bs b) n) (by have := slN_bd (h.bkF hb) (i := n) hn; omega) hm
    show -200000 ≤ min (s.lows b m n) _ ∧ min (s.lows b m n) _ ≤ 200000
    cases n with
    | zero =>
      show -200000 ≤ min 9223372036854775807 _ ∧ min 9223372036854775807 _ ≤ 200000
      omega
    | succ n =>
      have h2 := lows_bd h hb hm (n + 1) (by omega) (by omega)
      omega
theorem highs_bd {s : Sn} (h : s.Fine) {b m : Nat} (hb : b < s.bs.length) (hm : m ≤ 200) : ∀ n, n ≤ slW (elB s.bs b) → 0 < n → -200000 ≤ s.highs b m n ∧ s.highs b m n ≤ 200000
  | 0, _, h0 => absurd h0 (Nat.lt_irrefl _)
  | n + 1, hn, _ => by
    have h1 := en_bd h hb (k := slN (elB s.bs b) n) (by have := slN_bd (h.bkF hb) (i := n) hn; omega) hm
    show -200000 ≤ max (s.highs b m n) _ ∧ max (s.highs b m n) _ ≤ 200000
    cases n with
    | zero =>
      show -200000 ≤ max (-9223372036854775808) _ ∧ max (-9223372036854775808) _ ≤ 200000
      omega
    | succ n =>
      have h2 := highs_bd h hb hm (n + 1) (by omega) (by omega)
      omega
/-- A number divided by ten, rounded down. -/
def dwn (n : Int) : Int := n / 10
theorem dwn_is (n : Int) : (n - ((n.tmod 10 + 10).tmod 10)).tdiv 10 = dwn n ∧ (n.tmod 10 + 10).tmod 10 = n % 10 := by
  have h1 : (n.tmod 10 + 10).tmod 10 = n % 10 := by
    rcases Int.lt_or_le n 0 with h | h
    · have e : n.tmod 10 = -((-n) % 10) := by
        have := Int.neg_tmod (-n) 10
        rw [Int.neg_neg, Int.tmod_eq_emod_of_nonneg (a := -n) (by omega)] at this
        exact this
      rw [e, Int.tmod_eq_emod_of_nonneg (by omega)]
      omega
    · rw [Int.tmod_eq_emod_of_nonneg h, Int.tmod_eq_emod_of_nonneg (by omega)]
      omega
  refine ⟨?_, h1⟩
  rw [h1]
  have h2 : n - n % 10 = 10 * (n / 10) := by omega
  rw [h2, Int.mul_tdiv_cancel_left _ (by omega)]
  rfl
end Go.Proofs.Ytfjfkaaflghaiaa
