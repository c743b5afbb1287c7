/-
  PAIR: sets of readings: the fewest that must be wrong, and the fewest that clash.
-/
import Derived.Test.YtmiobcnccbfknaaQ3
namespace Go.Proofs.Ytmiobcnccbfknaa

/-- How many of the first eight bits are set. -/
def bitsN (s : Nat) : Nat := (List.range 8).countP fun i => s.testBit i
/-- All sets of the first n numbers: smaller ones first, and of equal ones the lesser number. -/
def setsL (n : Nat) : List Nat := (List.range (n + 1)).flatMap fun size => (List.range (2 ^ n)).filter fun s => bitsN s == size
def fewestL (n : Nat) (so : Nat → Bool) : Nat := ((setsL n).find? so).getD (2 ^ n - 1)
/-- One set comes before another one. -/
def Before (s t : Nat) : Prop := bitsN s < bitsN t ∨ bitsN s = bitsN t ∧ s < t
theorem setsL_sorted (n : Nat) : (setsL n).Pairwise Before := by
  unfold setsL
  rw [List.pairwise_flatMap]
  refine ⟨fun size _ => ?_, ?_⟩
  · have h : ((List.range (2 ^ n)).filter fun s => bitsN s == size).Pairwise (· < ·) := List.Pairwise.filter _ List.pairwise_lt_range
    refine (List.pairwise_iff_forall_sublist.2 fun {a b} hab => ?_)
    have h1 := List.pairwise_iff_forall_sublist.1 h hab
    have ha : a ∈ (List.range (2 ^ n)).filter fun s => bitsN s == size := hab.subset (by simp)
    have hb : b ∈ (List.range (2 ^ n)).filter fun s => bitsN s == size := hab.subset (by simp)
    have ea := (List.mem_filter.1 ha).2
    have eb := (List.mem_filter.1 hb).2
    simp only [beq_iff_eq] at ea eb
    exact .inr ⟨by omega, h1⟩
  · refine List.pairwise_lt_range.imp ?_
    intro i j hij a ha b hb
    have ea := (List.mem_filter.1 ha).2
    have eb := (List.mem_filter.1 hb).2
    simp only [beq_iff_eq] at ea eb
    exact .inl (by omega)
theorem bitsN_le {n s : Nat} (hn : n ≤ 8) (hs : s < 2 ^ n) : bitsN s ≤ n := by
  unfold bitsN
  have h : (List.range 8) = List.range n ++ (List.range (8 - n)).map (n + ·) := by
    rw [← List.range_add]
    congr 1
    omega
  rw [h, List.countP_append]
  have h1 : (List.range n).countP (fun i => s.testBit i) ≤ n := by
    have := List.countP_le_length (p := fun i => s.testBit i) (l := List.range n)
    rwa [List.length_range] at this
  have h2 : ((List.range (8 - n)).map (n + ·)).countP (fun i => s.testBit i) = 0 := by
    rw [List.countP_eq_zero]
    intro i hi
    obtain ⟨j, _, rfl⟩ := List.mem_map.1 hi
    have : s.testBit (n + j) = false := Nat.testBit_lt_two_pow (Nat.lt_of_lt_of_le hs (Nat.pow_le_pow_right (by omega) (by omega)))
    simp [this]
  omega
theorem mem_setsL {n s : Nat} (hn : n ≤ 8) : s ∈ setsL n ↔ s < 2 ^ n := by
  unfold setsL
  rw [List.mem_flatMap]
  constructor
  · rintro ⟨_, _, h⟩
    exact List.mem_range.1 (List.mem_filter.1 h).1
  · intro h
    exact ⟨bitsN s, List.mem_range.2 (by have := bitsN_le hn h; omega), List.mem_filter.2 ⟨List.mem_range.2 h, by simp⟩⟩
/-- The first set by size of which something is so. -/
theorem fewest_is {n : Nat} (hn : n ≤ 8) {so : Nat → Bool} (h : ∃ s, s < 2 ^ n ∧ so s = true) : fewestL n so < 2 ^ n ∧ so (fewestL n so) = true ∧ ∀ s, s < 2 ^ n → so s = true → s = fewestL n so ∨ Before (fewestL n so) s := by
  unfold fewestL
  cases e : (setsL n).find? so with
  | none =>
    obtain ⟨s, h1, h2⟩ := h
    have := List.find?_eq_none.1 e s ((mem_setsL hn).2 h1)
    exact (this h2).elim
  | some f =>
    rw [Option.getD_some]
    obtain ⟨hf, as, bs, hl, ha⟩ := List.find?_eq_some_iff_append.1 e
    have hs := setsL_sorted n
    rw [hl, List.pairwise_append] at hs
    refine ⟨(mem_setsL hn).1 (by rw [hl]; simp), hf, fun s h1 h2 => ?_⟩
    have hm := (mem_setsL hn).2 h1
    rw [hl, List.mem_append, List.mem_cons] at hm
    rcases hm with hm | rfl | hm
    · have := ha s hm
      rw [h2] at this
      cases this
    · exact .inl rfl
    · exact .inr ((List.pairwise_cons.1 hs.2.1).1 s hm)
/-- The readings of which something is so, by their numbers. -/
def keepL (rs : List Rdg) (f : Nat → Bool) : List Rdg := (rs.zipIdx.filter fun x => f x.2).map (·.1)
def Prn.keep (p : Prn) (f : Nat → Bool) : Prn := { p with rs := keepL p.rs f }
theorem mem_keepL {rs : List Rdg} {f : Nat → Bool} {r : Rdg} : r ∈ keepL rs f ↔ ∃ i, rs[i]? = some r ∧ f i = true := by
  unfold keepL
  rw [List.mem_map]
  constructor
  · rintro ⟨⟨q, i⟩, h, rfl⟩
    obtain ⟨h1, h2⟩ := List.mem_filter.1 h
    exact ⟨i, List.mem_zipIdx_iff_getElem?.1 h1, h2⟩
  · rintro ⟨i, h1, h2⟩
    exact ⟨(r, i), List.mem_filter.2 ⟨List.mem_zipIdx_iff_getElem?.2 h1, h2⟩, rfl⟩
theorem Prn.Ok.keep {p : Prn} (hp : p.Ok) (f : Nat → Bool) : (p.keep f).Ok :=
  ⟨hp.bl, fun r hr => by
    obtain ⟨i, h, _⟩ := mem_keepL.1 hr
    exact hp.rl r (List.mem_of_getElem? h)⟩
theorem Prn.Tr.keep {p : Prn} {f g : Nat → Bool} (hfg : ∀ i, i < p.rs.length → g i = true → f i = true) {c : Int × Int} {x : Nat → Int} (h : (p.keep f).Tr c x) : (p.keep g).Tr c x :=
  ⟨h.mark, h.blk, fun r hr => by
    obtain ⟨i, h1, h2⟩ := mem_keepL.1 hr
    obtain ⟨hi, _⟩ := List.getElem?_eq_some_iff.1 h1
    exact h.rd r (mem_keepL.2 ⟨i, h1, hfg i hi h2⟩)⟩
/-- Is there a truth? -/
def Prn.agreeB (p : Prn) : Bool := !p.known.isEmpty
theorem Prn.agree_is {p : Prn} (hp : p.Ok) : p.agreeB = true ↔ p.some_ fun _ _ => True := by
  rw [← Prn.known_is hp]
  unfold Prn.agreeB
  cases p.known <;> simp
/-- Which readings must be wrong; and which clash. -/
def Prn.wrongL (p : Prn) : Nat := fewestL p.rs.length fun out => (p.keep fun i => !out.testBit i).agreeB
def Prn.clashL (p : Prn) : Nat := fewestL p.rs.length fun kept => !(p.keep fun i => kept.testBit i).agreeB
/-- Without any reading there always is a truth. -/
theorem Prn.agree_bare {p : Prn} (hp : p.Ok) (hz : p.zlo ≤ p.zhi) (hr : p.rlo ≤ p.rhi) {f : Nat → Bool} (hf : ∀ i, i < p.rs.length → f i = false) : (p.keep f).agreeB = true := by
  rw [Prn.agree_is (hp.keep f)]
  refine ⟨(p.zlo, p.rlo), Prn.mem_comps.2 ⟨⟨Int.le_refl _, hz⟩, Int.le_refl _, hr⟩, fun i => if i < 5 then (p.blk i).1 else 0, ⟨rfl, fun i hi => ?_, fun r hr' => ?_⟩, trivial⟩
  · have h1 := hp.bl i hi
    show (p.blk i).1 ≤ (if i < 5 then (p.blk i).1 else 0) ∧ (if i < 5 then (p.blk i).1 else 0) ≤ (p.blk i).2
    rw [if_pos hi]
    omega
  · obtain ⟨i, h1, h2⟩ := mem_keepL.1 hr'
    obtain ⟨hi, _⟩ := List.getElem?_eq_some_iff.1 h1
    rw [hf i hi] at h2
    cases h2
theorem all_bits {n i : Nat} (hi : i < n) : (2 ^ n - 1).testBit i = true := by
  rw [Nat.testBit_two_pow_sub_one]
  simpa using hi
/-- The readings that are told to be wrong: without them there is a truth, and without others that are fewer, or come before, there is none. -/
theorem Prn.wrong_is {p : Prn} (hp : p.Ok) (h8 : p.rs.length ≤ 8) (hz : p.zlo ≤ p.zhi) (hr : p.rlo ≤ p.rhi) :
    p.wrongL < 2 ^ p.rs.length ∧ (p.keep fun i => !p.wrongL.testBit i).agreeB = true ∧ ∀ s, s < 2 ^ p.rs.length → (p.keep fun i => !s.testBit i).agreeB = true → s = p.wrongL ∨ Before p.wrongL s :=
  fewest_is h8 ⟨2 ^ p.rs.length - 1, Nat.sub_lt (Nat.two_pow_pos _) (by omega), Prn.agree_bare hp hz hr fun i hi => by rw [all_bits hi]; rfl⟩
theorem Prn.keep_all (p : Prn) {f : Nat → Bool} (hf : ∀ i, i < p.rs.length → f i = true) : p.keep f = p := by
  have h : keepL p.rs f = p.rs := by
    unfold keepL
    rw [List.filter_eq_self.2 (fun x hx => ?_)]
    · exact List.zipIdx_map_fst ..
    · obtain ⟨hi, _⟩ := List.getElem?_eq_some_iff.1 (List.mem_zipIdx_iff_getElem?.1 hx)
      exact hf _ hi
  unfold Prn.keep
  rw [h]
/-- The readings that are told to clash: alone they leave no truth, and others that are fewer, or come before, leave one. -/
theorem Prn.clash_is {p : Prn} (h8 : p.rs.length ≤ 8) (ha : p.agreeB = false) :
    p.clashL < 2 ^ p.rs.length ∧ (p.keep fun i => p.clashL.testBit i).agreeB = false ∧ ∀ s, s < 2 ^ p.rs.length → (p.keep fun i => s.testBit i).agreeB = false → s = p.clashL ∨ Before p.clashL s := by
  have h := fewest_is h8 (so := fun kept => !(p.keep fun i => kept.testBit i).agreeB) ⟨2 ^ p.rs.length - 1, Nat.sub_lt (Nat.two_pow_pos _) (by omega), by
    rw [p.keep_all (fun i hi => all_bits hi), ha]
    rfl⟩
  refine ⟨h.1, ?_, fun s h1 h2 => h.2.2 s h1 ?_⟩
  · have h3 : (!(p.keep fun i => p.clashL.testBit i).agreeB) = true := h.2.1
    simpa using h3
  · rw [h2]
    rfl
end Go.Proofs.Ytmiobcnccbfknaa
