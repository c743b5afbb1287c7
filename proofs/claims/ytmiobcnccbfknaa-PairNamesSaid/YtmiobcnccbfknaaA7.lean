/-
  PAIR: a pair as numbers; what is left with a comparator, reading by reading.
-/
import Derived.Test.YtmiobcnccbfknaaA6
namespace Go.Proofs.Ytmiobcnccbfknaa
open Go.RowKit Go.Proofs.Try


def Rw.n (r : Rw) : Rdg := ⟨r.1.toNat, r.2.1.toNat, r.2.2.1, r.2.2.2.1, r.2.2.2.2⟩
/-- A pair as numbers. -/
def Pr.n (p : Pr) : Prn := ⟨p.bs, p.zlo, p.zhi, p.rlo, p.rhi, p.rs.map Rw.n⟩
def elN (p : Pr) (k : Nat) : Rdg := (elR p.rs k).n
def rdN (r : Rdg) : List Value := [.int .i64 (r.a : Int), .int .i64 (r.b : Int), .int .i64 r.lo, .int .i64 r.hi, .int .i64 r.at_]
def rdRowN (p : Pr) : List Value := rowL p.rs.length (fun i => rdN (elN p i))
structure Pr.Fine (p : Pr) : Prop where
  b1 : 1 ≤ p.bs.length
  b5 : p.bs.length ≤ 5
  bl : ∀ k, k < p.bs.length → -20 ≤ (elB p.bs k).1 ∧ (elB p.bs k).1 ≤ (elB p.bs k).2 ∧ (elB p.bs k).2 ≤ 20
  z : -10 ≤ p.zlo ∧ p.zlo ≤ p.zhi ∧ p.zhi ≤ 10
  zw : p.zhi - p.zlo ≤ 4
  r : -5 ≤ p.rlo ∧ p.rlo ≤ p.rhi ∧ p.rhi ≤ 5
  rw_ : p.rhi - p.rlo ≤ 4
  r8 : p.rs.length ≤ 8
  rd : ∀ k, k < p.rs.length → (0 ≤ (elR p.rs k).1 ∧ (elR p.rs k).1 < p.bs.length) ∧ (0 ≤ (elR p.rs k).2.1 ∧ (elR p.rs k).2.1 < p.bs.length) ∧ (elR p.rs k).1 ≠ (elR p.rs k).2.1 ∧ (0 ≤ (elR p.rs k).2.2.1 ∧ (elR p.rs k).2.2.1 ≤ 60) ∧ -80 ≤ (elR p.rs k).2.2.2.1 ∧ (elR p.rs k).2.2.2.1 ≤ (elR p.rs k).2.2.2.2 ∧ (elR p.rs k).2.2.2.2 ≤ 80
theorem all_at {α : Type} {q : α → Bool} {l : List α} (h : l.all q = true) {k : Nat} (hk : k < l.length) (d : α) : q (l[k]?.getD d) = true := by
  rw [List.getElem?_eq_getElem hk]
  exact List.all_eq_true.1 h _ (List.getElem_mem hk)
theorem Pr.fine {p : Pr} (h : p.ok = true) : p.Fine := by
  unfold Pr.ok at h
  simp only [Bool.and_eq_true, decide_eq_true_eq] at h
  obtain ⟨⟨⟨⟨⟨h1, h2⟩, h3⟩, h4⟩, h5⟩, h6⟩ := h
  unfold vBls at h1
  unfold vRds at h6
  simp only [Bool.and_eq_true, decide_eq_true_eq] at h1 h6
  refine ⟨h1.1.1, h1.1.2, fun k hk => inS_bd (all_at h1.2 hk (0, 0)), inS_bd h2, h3, inS_bd h4, h5, h6.1, fun k hk => ?_⟩
  have h7 := all_at h6.2 hk (0, 0, 0, 0, 0)
  unfold vRd blkB minB at h7
  simp only [Bool.and_eq_true, decide_eq_true_eq, Bool.not_eq_true', beq_eq_false_iff_ne] at h7
  obtain ⟨⟨⟨⟨q1, q2⟩, q3⟩, q4⟩, q5⟩ := h7
  exact ⟨q1, q2, q3, q4, inS_bd q5⟩
theorem elN_a {p : Pr} (h : p.Fine) {k : Nat} (hk : k < p.rs.length) : (((elN p k).a : Nat) : Int) = (elR p.rs k).1 ∧ (((elN p k).b : Nat) : Int) = (elR p.rs k).2.1 := by
  have := h.rd k hk
  exact ⟨Int.toNat_of_nonneg this.1.1, Int.toNat_of_nonneg this.2.1.1⟩
theorem rdRow_n {p : Pr} (h : p.Fine) : rdRow p.rs = rdRowN p := rowL_congr fun i hi => by
  unfold rdC rdN
  rw [(elN_a h hi).1, (elN_a h hi).2]
  rfl
theorem Pr.Fine.ok {p : Pr} (h : p.Fine) : p.n.Ok := by
  refine ⟨fun i hi => ?_, fun r hr => ?_⟩
  · by_cases hl : i < p.bs.length
    · rw [blk_in (p := p.n) hl]
      exact h.bl i hl
    · rw [blk_out (p := p.n) hl]
      dsimp only
      omega
  · obtain ⟨q, hq, rfl⟩ := List.mem_map.1 hr
    obtain ⟨k, hk, rfl⟩ := List.getElem_of_mem hq
    have h1 := h.rd k hk
    have e : elR p.rs k = p.rs[k] := by unfold elR; rw [List.getElem?_eq_getElem hk]; rfl
    rw [e] at h1
    have := h.b5
    unfold Rw.n
    dsimp only
    omega
theorem UnI.all {p : Prn} (hp : p.Ok) : UnI p 5 := (((((UnI.start p).next hp (by omega)).next hp (by omega)).next hp (by omega)).next hp (by omega)).next hp (by omega)
theorem rs_at {p : Pr} {k : Nat} (hk : k < p.rs.length) : p.n.rs[k]? = some (elN p k) := by
  show (p.rs.map Rw.n)[k]? = _
  rw [List.getElem?_map, List.getElem?_eq_getElem hk]
  unfold elN elR
  rw [List.getElem?_eq_getElem hk]
  rfl
/-- What is written down with the first k readings. -/
def lf (p : Pr) (c : Int × Int) : Nat → Gp
  | 0 => unr p.n 5
  | k + 1 => (lf p c k).putr (elN p k).a (elN p k).b ((elN p k).lo - shw c (elN p k).at_) ((elN p k).hi - shw c (elN p k).at_)
structure LfI (p : Pr) (c : Int × Int) (k : Nat) : Prop where
  le : k ≤ p.rs.length
  done : (lf p c k).Done 6
  small : (lf p c k).Small 6 40
  puts : (unr p.n 5).puts ((p.n.rs.take k).map (Rdg.bd c)) = some (lf p c k)
theorem LfI.start {p : Pr} (h : UnI p.n 5) (c : Int × Int) : LfI p c 0 := ⟨Nat.zero_le _, h.done, h.small, rfl⟩
theorem LfI.more {p : Pr} {c : Int × Int} {k : Nat} (h : LfI p c k) (hk : k < p.rs.length) : (unr p.n 5).puts ((p.n.rs.take (k + 1)).map (Rdg.bd c)) = (lf p c k).put (elN p k).a (elN p k).b ((elN p k).lo - shw c (elN p k).at_) ((elN p k).hi - shw c (elN p k).at_) := by
  rw [List.take_add_one, rs_at hk, List.map_append, Gp.puts_append, h.puts]
  show (lf p c k).puts [_] = _
  unfold Gp.puts Rdg.bd
  dsimp only
  cases (lf p c k).put (elN p k).a (elN p k).b ((elN p k).lo - shw c (elN p k).at_) ((elN p k).hi - shw c (elN p k).at_) <;> rfl
theorem LfI.next {p : Pr} {c : Int × Int} {k : Nat} (hf : p.Fine) (h : LfI p c k) (hk : k < p.rs.length) (ht : ((lf p c k).put (elN p k).a (elN p k).b ((elN p k).lo - shw c (elN p k).at_) ((elN p k).hi - shw c (elN p k).at_)).isSome = true) : LfI p c (k + 1) := by
  obtain ⟨g, hg⟩ := Option.isSome_iff_exists.1 ht
  have h1 := h.more hk
  rw [hg] at h1
  have h3 : lf p c (k + 1) = g := Gp.putr_some hg
  rw [← h3] at h1 hg
  have h4 := h.done
  have h5 := (hf.ok).rl (elN p k) (List.mem_of_getElem? (rs_at hk))
  exact ⟨hk, (Gp.put_some h4 (by omega) (by omega) hg).1, Gp.Small.put h.small hg, h1⟩
theorem LfI.left {p : Pr} {c : Int × Int} (h5 : UnI p.n 5) : p.n.left c = (unr p.n 5).puts (p.n.rs.map (Rdg.bd c)) := by
  unfold Prn.left
  rw [unread_is h5]
  rfl
theorem LfI.none {p : Pr} {c : Int × Int} {k : Nat} (h5 : UnI p.n 5) (h : LfI p c k) (hk : k < p.rs.length) (ht : ((lf p c k).put (elN p k).a (elN p k).b ((elN p k).lo - shw c (elN p k).at_) ((elN p k).hi - shw c (elN p k).at_)).isSome = false) : p.n.left c = none := by
  have h1 := h.more hk
  rw [Option.isSome_eq_false_iff, Option.isNone_iff_eq_none] at ht
  rw [ht] at h1
  rw [LfI.left h5, ← List.take_append_drop (k + 1) p.n.rs, List.map_append, Gp.puts_append, h1]
  rfl
theorem LfI.all {p : Pr} {c : Int × Int} {k : Nat} (h5 : UnI p.n 5) (h : LfI p c k) (hk : k = p.rs.length) : p.n.left c = some (lf p c k) := by
  have h1 := h.puts
  rw [List.take_of_length_le (by show (p.rs.map Rw.n).length ≤ k; simp [hk])] at h1
  rw [LfI.left h5, h1]
-- ---- what is given
def knV (k : (Int × Int) × Gp) : List Value := [.agg #[.int .i64 k.1.1, .int .i64 k.1.2], .agg (gc k.2).toArray]
def intV : Value → Int
  | .int _ x => x
  | _ => 0
def cOf (x : List Value) : Int × Int := match x with
  | [.agg a] => (intV (a.getD 0 undef), intV (a.getD 1 undef))
  | _ => (0, 0)
def givenOf (p : Pr) (pre : List (List Value)) : List (List Value) := pre.filterMap fun x => (p.n.left (cOf x)).map fun g => knV (cOf x, g)
def Pr.knL (p : Pr) : List (List Value) := p.n.known.map knV
theorem compL_is (p : Pr) : p.compL = p.n.comps.map fun c => [.agg #[.int .i64 c.1, .int .i64 c.2]] := by
  unfold Pr.compL pre2 Prn.comps Pr.nr Pr.nz
  rw [List.map_flatMap]
  simp only [List.range_zero, List.map_nil, List.append_nil, List.map_map]
  rfl
theorem given_all (p : Pr) : givenOf p p.compL = p.knL := by
  unfold givenOf Pr.knL Prn.known
  rw [compL_is, List.filterMap_map, List.map_filterMap]
  congr 1
  funext c
  show Option.map (fun g => knV (c, g)) (p.n.left c) = _
  cases p.n.left c <;> rfl
theorem given_none {p : Pr} {z r : Int} (h : p.n.left (z, r) = none) (pre : List (List Value)) : givenOf p (pre ++ [[.agg #[.int .i64 z, .int .i64 r]]]) = givenOf p pre := by
  unfold givenOf
  rw [List.filterMap_append, List.filterMap_cons_none (by show Option.map (fun g => knV ((z, r), g)) (p.n.left (z, r)) = Option.none; rw [h]; rfl)]
  simp
theorem given_some {p : Pr} {z r : Int} {g : Gp} (h : p.n.left (z, r) = some g) (pre : List (List Value)) : givenOf p (pre ++ [[.agg #[.int .i64 z, .int .i64 r]]]) = givenOf p pre ++ [knV ((z, r), g)] := by
  unfold givenOf
  rw [List.filterMap_append, List.filterMap_cons_some (b := knV ((z, r), g)) (by show Option.map (fun g => knV ((z, r), g)) (p.n.left (z, r)) = some _; rw [h]; rfl)]
  simp
theorem given_pre {p : Pr} {z r : Int} {g : Gp} (h : p.n.left (z, r) = some g) {pre : List (List Value)} (hp : pre ++ [[.agg #[.int .i64 z, .int .i64 r]]] <+: p.compL) : givenOf p pre ++ [knV ((z, r), g)] <+: p.knL := by
  obtain ⟨t, ht⟩ := hp
  rw [← given_some h, ← given_all, ← ht]
  unfold givenOf
  rw [List.filterMap_append (l := pre ++ _)]
  exact List.prefix_append _ _
theorem comp_in {p : Pr} {x : List Value} (h : x ∈ p.compL) : ∃ z r : Int, x = [.agg #[.int .i64 z, .int .i64 r]] ∧ (p.zlo ≤ z ∧ z ≤ p.zhi) ∧ p.rlo ≤ r ∧ r ≤ p.rhi := by
  rw [compL_is] at h
  obtain ⟨c, hc, rfl⟩ := List.mem_map.1 h
  exact ⟨c.1, c.2, rfl, Prn.mem_comps.1 hc⟩
end Go.Proofs.Ytmiobcnccbfknaa
