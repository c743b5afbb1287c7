/-
  PAIR: the least and the greatest that is told.
-/
import Derived.Test.YtmiobcnccbfknaaB2
namespace Go.Proofs.Ytmiobcnccbfknaa
open Go.RowKit Go.Proofs.Try


/-- What gaps tell of two. -/
def tellV (a b : Nat) (x : List Value) : Int × Int := match x with
  | [.agg c] => (-(intV (c.getD (b * 6 + a) undef)), intV (c.getD (a * 6 + b) undef))
  | _ => (0, 0)
def gV (k : (Int × Int) × Gp) : List Value := [.agg (gc k.2).toArray]
theorem tellV_is {a b : Nat} (ha : a < 6) (hb : b < 6) (k : (Int × Int) × Gp) : tellV a b (gV k) = (-(k.2 b a), k.2 a b) := by
  unfold tellV gV
  have h1 := gc_at k.2 ha hb
  have h2 := gc_at k.2 hb ha
  simp only [Array.getD_eq_getD_getElem?, List.getElem?_toArray, h1, h2]
  rfl
/-- What a comparator tells at a minute. -/
def tellM (m : Int) (x : List Value) : Int × Int := match x with
  | [.agg c] => (shw (intV (c.getD 0 undef), intV (c.getD 1 undef)) m, shw (intV (c.getD 0 undef), intV (c.getD 1 undef)) m)
  | _ => (0, 0)
def cV (k : (Int × Int) × Gp) : List Value := [.agg #[.int .i64 k.1.1, .int .i64 k.1.2]]
theorem tellM_is (m : Int) (k : (Int × Int) × Gp) : tellM m (cV k) = (shw k.1 m, shw k.1 m) := rfl
theorem entF_list : ∀ (s : List ((Int × Int) × Gp)) (es : Array MapEntry), (s.foldl entK es).toList.map valV = es.toList.map valV ++ s.map gV ∧ (s.foldl entK es).toList.map keyV = es.toList.map keyV ++ s.map cV
  | [], es => by simp
  | k :: s, es => by
    obtain ⟨h1, h2⟩ := entF_list s (entK es k)
    rw [List.foldl_cons, h1, h2]
    unfold entK
    simp [valV, gV, keyV, cV]
theorem vals_are (s : List ((Int × Int) × Gp)) : (entF s).toList.map valV = s.map gV := by
  have := (entF_list s #[]).1
  simpa [entF] using this
theorem keys_are (s : List ((Int × Int) × Gp)) : (entF s).toList.map keyV = s.map cV := by
  have := (entF_list s #[]).2
  simpa [entF] using this
theorem hull_next (f : List Value → Int × Int) (l : List (List Value)) (x : List Value) : hullS hull0 ((l ++ [x]).map f) = (min (hullS hull0 (l.map f)).1 (f x).1, max (hullS hull0 (l.map f)).2 (f x).2) := by
  unfold hullS
  rw [List.map_append, List.foldl_append]
  rfl
theorem pre_in {s : List ((Int × Int) × Gp)} {V : MapEntry → List Value} {G : ((Int × Int) × Gp) → List Value} (h : (entF s).toList.map V = s.map G) {pre : List (List Value)} {x : List Value} (hp : PrePerm ((entF s).toList.map V) (pre ++ [x])) : ∃ k ∈ s, x = G k := by
  obtain ⟨r, hr⟩ := hp
  rw [h] at hr
  have := hr.mem_iff.1 (show x ∈ pre ++ [x] ++ r by simp)
  obtain ⟨k, hk, e⟩ := List.mem_map.1 this
  exact ⟨k, hk, e.symm⟩
theorem hull_end {s : List ((Int × Int) × Gp)} {V : MapEntry → List Value} {G : ((Int × Int) × Gp) → List Value} (h : (entF s).toList.map V = s.map G) {ys : List (List Value)} (hy : FinPerm ((entF s).toList.map V) ys) (f : List Value → Int × Int) : hullS hull0 (ys.map f) = hullS hull0 (s.map fun k => f (G k)) := by
  unfold FinPerm at hy
  rw [h] at hy
  rw [hullS_perm (List.Perm.map f hy), List.map_map]
  rfl
/-- Gaps that keep to limits. -/
def Mild (s : List ((Int × Int) × Gp)) : Prop := ∀ k ∈ s, (∀ i j, i < 6 → j < 6 → -1000 ≤ k.2 i j ∧ k.2 i j ≤ 1000) ∧ (-10 ≤ k.1.1 ∧ k.1.1 ≤ 10) ∧ -5 ≤ k.1.2 ∧ k.1.2 ≤ 5

theorem hull_gaps {a b : Nat} (ha : a < 6) (hb : b < 6) (kn : List ((Int × Int) × Gp)) : hullS hull0 (kn.map fun k => tellV a b (gV k)) = hullS hull0 (kn.map fun k => (-k.2 b a, k.2 a b)) := by
  congr 1
  exact List.map_congr_left fun k _ => tellV_is ha hb k
set_option maxRecDepth 100000 in
theorem reach_gaps (kn : List ((Int × Int) × Gp)) (bq bm a b : Nat) (w : World) (hS : Mild kn) (hq : w.heap[bq]? = some (.cells #[.map (some bm)] 77 (0, 0))) (hmp : w.heap[bm]? = some (.map (entF kn) kn.length)) (ha : a < 6) (hb : b < 6) : Calls Try.prog 38 #[.func (.func 76) #[] #[.pointer (some ⟨bq, 0, none⟩)], .agg #[.func (.func 41) #[] #[], .int .i64 (a : Int), .int .i64 (b : Int)]] w (Ret (.agg #[.int .i64 (hullS hull0 (kn.map fun k => (-k.2 b a, k.2 a b))).1, .int .i64 (hullS hull0 (kn.map fun k => (-k.2 b a, k.2 a b))).2]) w) := by
  refine calls_run (fn := f38) (c := (f38.body).getD .skip) [.func (.func 76) #[] #[.pointer (some ⟨bq, 0, none⟩)], .agg #[.func (.func 41) #[] #[], .int .i64 (a : Int), .int .i64 (b : Int)]] func38 (by kernel_rfl) (fun _ => False) [] (fun _ h => by cases h) (List.Pairwise.nil) 29 (by kernel_rfl) (by simp) ?_
  refine run_auto [] 2 [] [] [0, 1] [] (st' := ⟨[(0, .func (.func 76) #[] #[.pointer (some ⟨bq, 0, none⟩)]), (1, .agg #[.func (.func 41) #[] #[], .int .i64 (a : Int), .int .i64 (b : Int)])], []⟩) (acc := []) (by kernel_rfl) (by kernel_rfl) trivial ?_
  refine run_new (.cells #[.func (.func 41) #[] #[], .int .i64 (a : Int), .int .i64 (b : Int)] 84 (0, 0)) (fun b1 => .pointer (some ⟨b1, 0, none⟩)) (some 3) (fun _ => by kernel_rfl) (fun b1 hb1 => ?_)
  refine run_new (.cells #[.int .i64 0, .int .i64 0] 23 (0, 0)) (fun b2 => .pointer (some ⟨b2, 0, none⟩)) (some 4) (fun _ => by kernel_rfl) (fun b2 hb2 => ?_)
  refine run_auto [] 4 [] [] [0, 3, 4, 8] [0, 1] (st' := ⟨[(0, .func (.func 76) #[] #[.pointer (some ⟨bq, 0, none⟩)]), (3, .pointer (some ⟨b1, 0, none⟩)), (4, .pointer (some ⟨b2, 0, none⟩)), (8, .agg #[.int .i64 9223372036854775807, .int .i64 (-9223372036854775808)])], [(b2, .cells #[.int .i64 0, .int .i64 0] 23 (0, 0)), (b1, .cells #[.func (.func 41) #[] #[], .int .i64 (a : Int), .int .i64 (b : Int)] 84 (0, 0))]⟩) (acc := []) (by kernel_rfl) (by kernel_rfl) trivial ?_
  refine run_new (.cells #[.int .i64 0, .int .i64 0] 23 (0, 0)) (fun b3 => .pointer (some ⟨b3, 0, none⟩)) (some 5) (fun _ => by kernel_rfl) (fun b3 hb3 => ?_)
  refine run_auto [] 8 [] [0] [3, 4, 5, 9] [0, 1, 2] (st' := ⟨[(3, .pointer (some ⟨b1, 0, none⟩)), (4, .pointer (some ⟨b2, 0, none⟩)), (5, .pointer (some ⟨b3, 0, none⟩)), (9, .func (.func 76) #[] #[.pointer (some ⟨bq, 0, none⟩)])], [(b3, .cells #[.int .i64 9223372036854775807, .int .i64 (-9223372036854775808)] 23 (0, 0)), (b2, .cells #[.int .i64 0, .int .i64 0] 23 (0, 0)), (b1, .cells #[.func (.func 41) #[] #[], .int .i64 (a : Int), .int .i64 (b : Int)] 84 (0, 0))]⟩) (acc := [(.pointer (some ⟨b3, 0, none⟩), .pointer (some ⟨b3, 0, none⟩))]) (by kernel_rfl) (by kernel_rfl) ⟨rfl, trivial⟩ ?_
  refine run_auto [] 0 [] [] [3, 4, 5, 9] [0, 1, 2] (st' := ⟨[(3, .pointer (some ⟨b1, 0, none⟩)), (4, .pointer (some ⟨b2, 0, none⟩)), (5, .pointer (some ⟨b3, 0, none⟩)), (9, .func (.func 76) #[] #[.pointer (some ⟨bq, 0, none⟩)])], [(b3, .cells #[.int .i64 9223372036854775807, .int .i64 (-9223372036854775808)] 23 (0, 0)), (b2, .cells #[.int .i64 0, .int .i64 0] 23 (0, 0)), (b1, .cells #[.func (.func 41) #[] #[], .int .i64 (a : Int), .int .i64 (b : Int)] 84 (0, 0))]⟩) (acc := []) (by kernel_rfl) (by kernel_rfl) trivial ?_
  refine run_range (σ := List (List Value)) (τ := Unit) 76 #[.pointer (some ⟨bq, 0, none⟩)] [10] [] [(b3, .cells #[.int .i64 9223372036854775807, .int .i64 (-9223372036854775808)] 23 (0, 0)), (b2, .cells #[.int .i64 0, .int .i64 0] 23 (0, 0)), (b1, .cells #[.func (.func 41) #[] #[], .int .i64 (a : Int), .int .i64 (b : Int)] 84 (0, 0))] (MapPin kn bq bm) (PrePerm ((entF kn).toList.map valV)) (FinPerm ((entF kn).toList.map valV)) (by kernel_rfl) rfl rfl (fun l => by kernel_rfl) rfl (by kernel_rfl) (fun pre x hx => by obtain ⟨k, _, rfl⟩ := pre_in (vals_are kn) hx; rfl) (values_give kn bq bm) (fun D w1 k1 hD => ⟨(k1.block bq (Array.getElem?_eq_some_iff.1 hq).1 (fun h => h)).trans hq, (k1.block bm (Array.getElem?_eq_some_iff.1 hmp).1 (fun h => h)).trans hmp, fun h => hD _ (Array.getElem?_eq_some_iff.1 hq).1 h, fun h => hD _ (Array.getElem?_eq_some_iff.1 hmp).1 h⟩)
    (fun s => [(b3, .cells #[.int .i64 ((hullS hull0 (s.map (tellV a b))).1), .int .i64 ((hullS hull0 (s.map (tellV a b))).2)] 23 (0, 0)), (b2, .cells #[.int .i64 0, .int .i64 0] 23 (0, 0)), (b1, .cells #[.func (.func 41) #[] #[], .int .i64 (a : Int), .int .i64 (b : Int)] 84 (0, 0))]) (fun s => Ext.none) (fun pre s => s = pre) (fun y => []) (fun y => Ext.none) (fun c y => False) ([]) (rfl) rfl rfl (fun _ _ _ => ⟨rfl, fun _ _ h => h.elim⟩) (fun _ _ _ => rfl)
    (fun pre x s hpre hI l0 ms ro ob w0 Jb Jn Je hkk hll hbeg hnext hexit => ?_) (fun ys s hys hI => ?_) (fun c y hI => ?_)
  · skip
    obtain rfl : pre = s := hI.symm
    obtain ⟨k, hk, rfl⟩ := pre_in (vals_are kn) hpre
    have hm := hS k hk
    refine run_auto [] 1 [] [] [3, 4, 5, 10] [0, 1, 2] (st' := ⟨[(3, .pointer (some ⟨b1, 0, none⟩)), (4, .pointer (some ⟨b2, 0, none⟩)), (5, .pointer (some ⟨b3, 0, none⟩)), (10, .agg (gc k.2).toArray)], [(b3, .cells #[.int .i64 ((hullS hull0 (pre.map (tellV a b))).1), .int .i64 ((hullS hull0 (pre.map (tellV a b))).2)] 23 (0, 0)), (b2, .cells #[.int .i64 0, .int .i64 0] 23 (0, 0)), (b1, .cells #[.func (.func 41) #[] #[], .int .i64 (a : Int), .int .i64 (b : Int)] 84 (0, 0))]⟩) (acc := []) (by kernel_rfl) (by kernel_rfl) trivial ?_
    refine run_new (.cells #[.int .i64 0, .int .i64 0, .int .i64 0, .int .i64 0, .int .i64 0, .int .i64 0, .int .i64 0, .int .i64 0, .int .i64 0, .int .i64 0, .int .i64 0, .int .i64 0, .int .i64 0, .int .i64 0, .int .i64 0, .int .i64 0, .int .i64 0, .int .i64 0, .int .i64 0, .int .i64 0, .int .i64 0, .int .i64 0, .int .i64 0, .int .i64 0, .int .i64 0, .int .i64 0, .int .i64 0, .int .i64 0, .int .i64 0, .int .i64 0, .int .i64 0, .int .i64 0, .int .i64 0, .int .i64 0, .int .i64 0, .int .i64 0] 70 (0, 0)) (fun b4 => .pointer (some ⟨b4, 0, none⟩)) (some 6) (fun _ => by kernel_rfl) (fun b4 hb4 => ?_)
    refine run_auto [] 2 [] [0] [3, 4, 5, 6] [0, 1, 2, 3] (st' := ⟨[(3, .pointer (some ⟨b1, 0, none⟩)), (4, .pointer (some ⟨b2, 0, none⟩)), (5, .pointer (some ⟨b3, 0, none⟩)), (6, .pointer (some ⟨b4, 0, none⟩))], [(b4, .cells (gc k.2).toArray 70 (0, 0)), (b3, .cells #[.int .i64 ((hullS hull0 (pre.map (tellV a b))).1), .int .i64 ((hullS hull0 (pre.map (tellV a b))).2)] 23 (0, 0)), (b2, .cells #[.int .i64 0, .int .i64 0] 23 (0, 0)), (b1, .cells #[.func (.func 41) #[] #[], .int .i64 (a : Int), .int .i64 (b : Int)] 84 (0, 0))]⟩) (acc := [(.pointer (some ⟨b4, 0, none⟩), .pointer (some ⟨b4, 0, none⟩))]) (by kernel_rfl) (by kernel_rfl) ⟨rfl, trivial⟩ ?_
    refine run_round rfl (hbeg _ ?_)
    refine run_auto [] 8 [] [3, 0, 3] [4, 5, 12, 13, 15] [1, 2, 3] (st' := ⟨[(4, .pointer (some ⟨b2, 0, none⟩)), (5, .pointer (some ⟨b3, 0, none⟩)), (12, .func (.func 41) #[] #[]), (13, .agg (gc k.2).toArray), (15, .agg #[.int .i64 (a : Int), .int .i64 (b : Int)])], [(b3, .cells #[.int .i64 ((hullS hull0 (pre.map (tellV a b))).1), .int .i64 ((hullS hull0 (pre.map (tellV a b))).2)] 23 (0, 0)), (b2, .cells #[.int .i64 0, .int .i64 0] 23 (0, 0)), (b1, .cells #[.func (.func 41) #[] #[], .int .i64 (a : Int), .int .i64 (b : Int)] 84 (0, 0))]⟩) (acc := [(.pointer (some ⟨b1, 0, none⟩), .pointer (some ⟨b1, 0, none⟩)), (.pointer (some ⟨b4, 0, none⟩), .pointer (some ⟨b4, 0, none⟩)), (.pointer (some ⟨b1, 0, none⟩), .pointer (some ⟨b1, 0, none⟩))]) (by kernel_rfl) (by kernel_rfl) ⟨rfl, rfl, rfl, trivial⟩ ?_
    refine run_ret1 41 #[.agg (gc k.2).toArray, .agg #[.int .i64 (a : Int), .int .i64 (b : Int)]] (some 16) (.agg #[.int .i64 (-(k.2 b a)), .int .i64 (k.2 a b)]) (by kernel_rfl) (fun w1 k1 h1 => differ_any (k.2) a b ha hb (hm.1 b a hb ha).1 (hm.1 b a hb ha).2 w1) ?_
    refine run_new (.cells #[.int .i64 0, .int .i64 0] 23 (0, 0)) (fun b5 => .pointer (some ⟨b5, 0, none⟩)) (some 7) (fun _ => by kernel_rfl) (fun b5 hb5 => ?_)
    refine run_auto [(21, .int .i64 (min ((hullS hull0 (pre.map (tellV a b))).1) (-(k.2 b a)))), (26, .int .i64 (max ((hullS hull0 (pre.map (tellV a b))).2) (k.2 a b)))] 17 [] [0, 1, 0, 1, 0, 1] [] [1, 2, 3] (st' := ⟨[], [(b3, .cells #[.int .i64 (min ((hullS hull0 (pre.map (tellV a b))).1) (-(k.2 b a))), .int .i64 (max ((hullS hull0 (pre.map (tellV a b))).2) (k.2 a b))] 23 (0, 0)), (b2, .cells #[.int .i64 0, .int .i64 0] 23 (0, 0)), (b1, .cells #[.func (.func 41) #[] #[], .int .i64 (a : Int), .int .i64 (b : Int)] 84 (0, 0))]⟩) (acc := [(.pointer (some ⟨b3, 0, none⟩), .pointer (some ⟨b3, 0, none⟩)), (.int .i64 (if (k.2 a b) > ((hullS hull0 (pre.map (tellV a b))).2) then (k.2 a b) else ((hullS hull0 (pre.map (tellV a b))).2)), .int .i64 (max ((hullS hull0 (pre.map (tellV a b))).2) (k.2 a b))), (.pointer (some ⟨b5, 0, none⟩), .pointer (some ⟨b5, 0, none⟩)), (.pointer (some ⟨b3, 0, none⟩), .pointer (some ⟨b3, 0, none⟩)), (.int .i64 (if (-(k.2 b a)) < ((hullS hull0 (pre.map (tellV a b))).1) then (-(k.2 b a)) else ((hullS hull0 (pre.map (tellV a b))).1)), .int .i64 (min ((hullS hull0 (pre.map (tellV a b))).1) (-(k.2 b a)))), (.pointer (some ⟨b5, 0, none⟩), .pointer (some ⟨b5, 0, none⟩)), (.pointer (some ⟨b3, 0, none⟩), .pointer (some ⟨b3, 0, none⟩)), (.pointer (some ⟨b5, 0, none⟩), .pointer (some ⟨b5, 0, none⟩))]) (by kernel_rfl) (by kernel_rfl) ⟨rfl, (mx _ _ _), rfl, rfl, (mn _ _ _), rfl, rfl, rfl, trivial⟩ ?_
    have hx := hull_next (tellV a b) pre (gV k)
    rw [tellV_is ha hb] at hx
    dsimp only at hx
    exact run_nil rfl (fun a w1 g => hnext (pre ++ [gV k]) _ rfl (fun b h => h.elim) a w1 (by rw [hx]; exact g))
  · skip
    obtain rfl : ys = s := hI.symm
    have hz := hull_end (vals_are kn) hys (tellV a b)
    rw [hull_gaps ha hb kn] at hz
    refine run_auto [] 6 [] [0, 1] [4] [1] (st' := ⟨[(4, .pointer (some ⟨b2, 0, none⟩))], [(b2, .cells #[.int .i64 ((hullS hull0 (ys.map (tellV a b))).1), .int .i64 ((hullS hull0 (ys.map (tellV a b))).2)] 23 (0, 0))]⟩) (acc := [(.pointer (some ⟨b2, 0, none⟩), .pointer (some ⟨b2, 0, none⟩)), (.pointer (some ⟨b3, 0, none⟩), .pointer (some ⟨b3, 0, none⟩))]) (by kernel_rfl) (by kernel_rfl) ⟨rfl, rfl, trivial⟩ ?_
    refine run_end (fn := f38) rfl (Nat.le_refl _) (by kernel_rfl) [0] [.agg #[.int .i64 ((hullS hull0 (ys.map (tellV a b))).1), .int .i64 ((hullS hull0 (ys.map (tellV a b))).2)]] (e := [(.pointer (some ⟨b2, 0, none⟩), .pointer (some ⟨b2, 0, none⟩))]) (by kernel_rfl) ⟨rfl, trivial⟩ (fun w1 k1 h1 => ?_)
    exact ⟨by rw [hz]; rfl, k1.keeps (fun _ h => h)⟩
  · skip
    exact hI.elim

set_option maxRecDepth 100000 in
theorem reach_comp (kn : List ((Int × Int) × Gp)) (bq bm : Nat) (m : Int) (m1 : 0 ≤ m) (m2 : m ≤ 60) (w : World) (hS : Mild kn) (hq : w.heap[bq]? = some (.cells #[.map (some bm)] 77 (0, 0))) (hmp : w.heap[bm]? = some (.map (entF kn) kn.length)) : Calls Try.prog 45 #[.func (.func 79) #[] #[.pointer (some ⟨bq, 0, none⟩)], .agg #[.func (.func 47) #[] #[], .int .i64 m]] w (Ret (.agg #[.int .i64 (hullS hull0 (kn.map fun k => (shw k.1 m, shw k.1 m))).1, .int .i64 (hullS hull0 (kn.map fun k => (shw k.1 m, shw k.1 m))).2]) w) := by
  refine calls_run (fn := f45) (c := (f45.body).getD .skip) [.func (.func 79) #[] #[.pointer (some ⟨bq, 0, none⟩)], .agg #[.func (.func 47) #[] #[], .int .i64 m]] func45 (by kernel_rfl) (fun _ => False) [] (fun _ h => by cases h) (List.Pairwise.nil) 29 (by kernel_rfl) (by simp) ?_
  refine run_auto [] 2 [] [] [0, 1] [] (st' := ⟨[(0, .func (.func 79) #[] #[.pointer (some ⟨bq, 0, none⟩)]), (1, .agg #[.func (.func 47) #[] #[], .int .i64 m])], []⟩) (acc := []) (by kernel_rfl) (by kernel_rfl) trivial ?_
  refine run_new (.cells #[.func (.func 47) #[] #[], .int .i64 m] 94 (0, 0)) (fun b1 => .pointer (some ⟨b1, 0, none⟩)) (some 3) (fun _ => by kernel_rfl) (fun b1 hb1 => ?_)
  refine run_new (.cells #[.int .i64 0, .int .i64 0] 23 (0, 0)) (fun b2 => .pointer (some ⟨b2, 0, none⟩)) (some 4) (fun _ => by kernel_rfl) (fun b2 hb2 => ?_)
  refine run_auto [] 4 [] [] [0, 3, 4, 8] [0, 1] (st' := ⟨[(0, .func (.func 79) #[] #[.pointer (some ⟨bq, 0, none⟩)]), (3, .pointer (some ⟨b1, 0, none⟩)), (4, .pointer (some ⟨b2, 0, none⟩)), (8, .agg #[.int .i64 9223372036854775807, .int .i64 (-9223372036854775808)])], [(b2, .cells #[.int .i64 0, .int .i64 0] 23 (0, 0)), (b1, .cells #[.func (.func 47) #[] #[], .int .i64 m] 94 (0, 0))]⟩) (acc := []) (by kernel_rfl) (by kernel_rfl) trivial ?_
  refine run_new (.cells #[.int .i64 0, .int .i64 0] 23 (0, 0)) (fun b3 => .pointer (some ⟨b3, 0, none⟩)) (some 5) (fun _ => by kernel_rfl) (fun b3 hb3 => ?_)
  refine run_auto [] 8 [] [0] [3, 4, 5, 9] [0, 1, 2] (st' := ⟨[(3, .pointer (some ⟨b1, 0, none⟩)), (4, .pointer (some ⟨b2, 0, none⟩)), (5, .pointer (some ⟨b3, 0, none⟩)), (9, .func (.func 79) #[] #[.pointer (some ⟨bq, 0, none⟩)])], [(b3, .cells #[.int .i64 9223372036854775807, .int .i64 (-9223372036854775808)] 23 (0, 0)), (b2, .cells #[.int .i64 0, .int .i64 0] 23 (0, 0)), (b1, .cells #[.func (.func 47) #[] #[], .int .i64 m] 94 (0, 0))]⟩) (acc := [(.pointer (some ⟨b3, 0, none⟩), .pointer (some ⟨b3, 0, none⟩))]) (by kernel_rfl) (by kernel_rfl) ⟨rfl, trivial⟩ ?_
  refine run_auto [] 0 [] [] [3, 4, 5, 9] [0, 1, 2] (st' := ⟨[(3, .pointer (some ⟨b1, 0, none⟩)), (4, .pointer (some ⟨b2, 0, none⟩)), (5, .pointer (some ⟨b3, 0, none⟩)), (9, .func (.func 79) #[] #[.pointer (some ⟨bq, 0, none⟩)])], [(b3, .cells #[.int .i64 9223372036854775807, .int .i64 (-9223372036854775808)] 23 (0, 0)), (b2, .cells #[.int .i64 0, .int .i64 0] 23 (0, 0)), (b1, .cells #[.func (.func 47) #[] #[], .int .i64 m] 94 (0, 0))]⟩) (acc := []) (by kernel_rfl) (by kernel_rfl) trivial ?_
  refine run_range (σ := List (List Value)) (τ := Unit) 79 #[.pointer (some ⟨bq, 0, none⟩)] [10] [] [(b3, .cells #[.int .i64 9223372036854775807, .int .i64 (-9223372036854775808)] 23 (0, 0)), (b2, .cells #[.int .i64 0, .int .i64 0] 23 (0, 0)), (b1, .cells #[.func (.func 47) #[] #[], .int .i64 m] 94 (0, 0))] (MapPin kn bq bm) (PrePerm ((entF kn).toList.map keyV)) (FinPerm ((entF kn).toList.map keyV)) (by kernel_rfl) rfl rfl (fun l => by kernel_rfl) rfl (by kernel_rfl) (fun pre x hx => by obtain ⟨k, _, rfl⟩ := pre_in (keys_are kn) hx; rfl) (keys_give kn bq bm) (fun D w1 k1 hD => ⟨(k1.block bq (Array.getElem?_eq_some_iff.1 hq).1 (fun h => h)).trans hq, (k1.block bm (Array.getElem?_eq_some_iff.1 hmp).1 (fun h => h)).trans hmp, fun h => hD _ (Array.getElem?_eq_some_iff.1 hq).1 h, fun h => hD _ (Array.getElem?_eq_some_iff.1 hmp).1 h⟩)
    (fun s => [(b3, .cells #[.int .i64 ((hullS hull0 (s.map (tellM m))).1), .int .i64 ((hullS hull0 (s.map (tellM m))).2)] 23 (0, 0)), (b2, .cells #[.int .i64 0, .int .i64 0] 23 (0, 0)), (b1, .cells #[.func (.func 47) #[] #[], .int .i64 m] 94 (0, 0))]) (fun s => Ext.none) (fun pre s => s = pre) (fun y => []) (fun y => Ext.none) (fun c y => False) ([]) (rfl) rfl rfl (fun _ _ _ => ⟨rfl, fun _ _ h => h.elim⟩) (fun _ _ _ => rfl)
    (fun pre x s hpre hI l0 ms ro ob w0 Jb Jn Je hkk hll hbeg hnext hexit => ?_) (fun ys s hys hI => ?_) (fun c y hI => ?_)
  · skip
    obtain rfl : pre = s := hI.symm
    obtain ⟨k, hk, rfl⟩ := pre_in (keys_are kn) hpre
    have hm := hS k hk
    have hm2 := hm.2
    refine run_auto [] 1 [] [] [3, 4, 5, 10] [0, 1, 2] (st' := ⟨[(3, .pointer (some ⟨b1, 0, none⟩)), (4, .pointer (some ⟨b2, 0, none⟩)), (5, .pointer (some ⟨b3, 0, none⟩)), (10, .agg #[.int .i64 k.1.1, .int .i64 k.1.2])], [(b3, .cells #[.int .i64 ((hullS hull0 (pre.map (tellM m))).1), .int .i64 ((hullS hull0 (pre.map (tellM m))).2)] 23 (0, 0)), (b2, .cells #[.int .i64 0, .int .i64 0] 23 (0, 0)), (b1, .cells #[.func (.func 47) #[] #[], .int .i64 m] 94 (0, 0))]⟩) (acc := []) (by kernel_rfl) (by kernel_rfl) trivial ?_
    refine run_new (.cells #[.int .i64 0, .int .i64 0] 79 (0, 0)) (fun b4 => .pointer (some ⟨b4, 0, none⟩)) (some 6) (fun _ => by kernel_rfl) (fun b4 hb4 => ?_)
    refine run_auto [] 2 [] [0] [3, 4, 5, 6] [0, 1, 2, 3] (st' := ⟨[(3, .pointer (some ⟨b1, 0, none⟩)), (4, .pointer (some ⟨b2, 0, none⟩)), (5, .pointer (some ⟨b3, 0, none⟩)), (6, .pointer (some ⟨b4, 0, none⟩))], [(b4, .cells #[.int .i64 k.1.1, .int .i64 k.1.2] 79 (0, 0)), (b3, .cells #[.int .i64 ((hullS hull0 (pre.map (tellM m))).1), .int .i64 ((hullS hull0 (pre.map (tellM m))).2)] 23 (0, 0)), (b2, .cells #[.int .i64 0, .int .i64 0] 23 (0, 0)), (b1, .cells #[.func (.func 47) #[] #[], .int .i64 m] 94 (0, 0))]⟩) (acc := [(.pointer (some ⟨b4, 0, none⟩), .pointer (some ⟨b4, 0, none⟩))]) (by kernel_rfl) (by kernel_rfl) ⟨rfl, trivial⟩ ?_
    refine run_round rfl (hbeg _ ?_)
    refine run_auto [] 8 [] [3, 0, 3] [4, 5, 12, 13, 15] [1, 2, 3] (st' := ⟨[(4, .pointer (some ⟨b2, 0, none⟩)), (5, .pointer (some ⟨b3, 0, none⟩)), (12, .func (.func 47) #[] #[]), (13, .agg #[.int .i64 k.1.1, .int .i64 k.1.2]), (15, .int .i64 m)], [(b3, .cells #[.int .i64 ((hullS hull0 (pre.map (tellM m))).1), .int .i64 ((hullS hull0 (pre.map (tellM m))).2)] 23 (0, 0)), (b2, .cells #[.int .i64 0, .int .i64 0] 23 (0, 0)), (b1, .cells #[.func (.func 47) #[] #[], .int .i64 m] 94 (0, 0))]⟩) (acc := [(.pointer (some ⟨b1, 0, none⟩), .pointer (some ⟨b1, 0, none⟩)), (.pointer (some ⟨b4, 0, none⟩), .pointer (some ⟨b4, 0, none⟩)), (.pointer (some ⟨b1, 0, none⟩), .pointer (some ⟨b1, 0, none⟩))]) (by kernel_rfl) (by kernel_rfl) ⟨rfl, rfl, rfl, trivial⟩ ?_
    refine run_ret1 47 #[.agg #[.int .i64 k.1.1, .int .i64 k.1.2], .int .i64 m] (some 16) (.agg #[.int .i64 (shw (k.1.1, k.1.2) m), .int .i64 (shw (k.1.1, k.1.2) m)]) (by kernel_rfl) (fun w1 k1 h1 => tells_any k.1.1 k.1.2 m (by omega) (by omega) (by omega) (by omega) (by omega) (by omega) w1) ?_
    refine run_new (.cells #[.int .i64 0, .int .i64 0] 23 (0, 0)) (fun b5 => .pointer (some ⟨b5, 0, none⟩)) (some 7) (fun _ => by kernel_rfl) (fun b5 hb5 => ?_)
    refine run_auto [(21, .int .i64 (min ((hullS hull0 (pre.map (tellM m))).1) (shw (k.1.1, k.1.2) m))), (26, .int .i64 (max ((hullS hull0 (pre.map (tellM m))).2) (shw (k.1.1, k.1.2) m)))] 17 [] [0, 1, 0, 1, 0, 1] [] [1, 2, 3] (st' := ⟨[], [(b3, .cells #[.int .i64 (min ((hullS hull0 (pre.map (tellM m))).1) (shw (k.1.1, k.1.2) m)), .int .i64 (max ((hullS hull0 (pre.map (tellM m))).2) (shw (k.1.1, k.1.2) m))] 23 (0, 0)), (b2, .cells #[.int .i64 0, .int .i64 0] 23 (0, 0)), (b1, .cells #[.func (.func 47) #[] #[], .int .i64 m] 94 (0, 0))]⟩) (acc := [(.pointer (some ⟨b3, 0, none⟩), .pointer (some ⟨b3, 0, none⟩)), (.int .i64 (if (shw (k.1.1, k.1.2) m) > ((hullS hull0 (pre.map (tellM m))).2) then (shw (k.1.1, k.1.2) m) else ((hullS hull0 (pre.map (tellM m))).2)), .int .i64 (max ((hullS hull0 (pre.map (tellM m))).2) (shw (k.1.1, k.1.2) m))), (.pointer (some ⟨b5, 0, none⟩), .pointer (some ⟨b5, 0, none⟩)), (.pointer (some ⟨b3, 0, none⟩), .pointer (some ⟨b3, 0, none⟩)), (.int .i64 (if (shw (k.1.1, k.1.2) m) < ((hullS hull0 (pre.map (tellM m))).1) then (shw (k.1.1, k.1.2) m) else ((hullS hull0 (pre.map (tellM m))).1)), .int .i64 (min ((hullS hull0 (pre.map (tellM m))).1) (shw (k.1.1, k.1.2) m))), (.pointer (some ⟨b5, 0, none⟩), .pointer (some ⟨b5, 0, none⟩)), (.pointer (some ⟨b3, 0, none⟩), .pointer (some ⟨b3, 0, none⟩)), (.pointer (some ⟨b5, 0, none⟩), .pointer (some ⟨b5, 0, none⟩))]) (by kernel_rfl) (by kernel_rfl) ⟨rfl, (mx _ _ _), rfl, rfl, (mn _ _ _), rfl, rfl, rfl, trivial⟩ ?_
    have hx := hull_next (tellM m) pre (cV k)
    rw [tellM_is] at hx
    dsimp only at hx
    exact run_nil rfl (fun a w1 g => hnext (pre ++ [cV k]) _ rfl (fun b h => h.elim) a w1 (by rw [hx]; exact g))
  · skip
    obtain rfl : ys = s := hI.symm
    have hz := hull_end (keys_are kn) hys (tellM m)
    rw [show (kn.map fun k => tellM m (cV k)) = kn.map fun k => (shw k.1 m, shw k.1 m) from rfl] at hz
    refine run_auto [] 6 [] [0, 1] [4] [1] (st' := ⟨[(4, .pointer (some ⟨b2, 0, none⟩))], [(b2, .cells #[.int .i64 ((hullS hull0 (ys.map (tellM m))).1), .int .i64 ((hullS hull0 (ys.map (tellM m))).2)] 23 (0, 0))]⟩) (acc := [(.pointer (some ⟨b2, 0, none⟩), .pointer (some ⟨b2, 0, none⟩)), (.pointer (some ⟨b3, 0, none⟩), .pointer (some ⟨b3, 0, none⟩))]) (by kernel_rfl) (by kernel_rfl) ⟨rfl, rfl, trivial⟩ ?_
    refine run_end (fn := f45) rfl (Nat.le_refl _) (by kernel_rfl) [0] [.agg #[.int .i64 ((hullS hull0 (ys.map (tellM m))).1), .int .i64 ((hullS hull0 (ys.map (tellM m))).2)]] (e := [(.pointer (some ⟨b2, 0, none⟩), .pointer (some ⟨b2, 0, none⟩))]) (by kernel_rfl) ⟨rfl, trivial⟩ (fun w1 k1 h1 => ?_)
    exact ⟨by rw [hz]; rfl, k1.keeps (fun _ h => h)⟩
  · skip
    exact hI.elim

end Go.Proofs.Ytmiobcnccbfknaa
