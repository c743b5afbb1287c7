/-
  ENGINE, sixteenth part: rows of structs, by what lies at each place.
-/
import Derived.Test.YtmiobcnccbfknaaXF
namespace Go.Proofs.Ytmiobcnccbfknaa
open Go.RowKit

def rowL (len : Nat) (f : Nat → List Value) : List Value := (List.range len).flatMap f
def tailL (f : Nat → List Value) (i d : Nat) : List Value := (List.range d).flatMap fun j => f (i + 1 + j)
theorem rowL_split (f : Nat → List Value) {i len : Nat} (h : i < len) : rowL len f = rowL i f ++ (f i ++ tailL f i (len - i - 1)) := by
  obtain ⟨d, rfl⟩ := Nat.exists_eq_add_of_le (show i + 1 ≤ len from h)
  unfold rowL tailL
  rw [List.range_add, List.flatMap_append, List.range_succ, List.flatMap_append, List.append_assoc, List.flatMap_map, show i + 1 + d - i - 1 = d by omega]
  simp
theorem rowL_congr {f g : Nat → List Value} {len : Nat} (h : ∀ i, i < len → f i = g i) : rowL len f = rowL len g := by
  unfold rowL
  rw [List.flatMap_def, List.flatMap_def]
  congr 1
  exact List.map_congr_left fun i hi => h i (List.mem_range.1 hi)
theorem rowL_len {f : Nat → List Value} {n : Nat} : ∀ {len : Nat}, (∀ i, i < len → (f i).length = n) → (rowL len f).length = len * n
  | 0, _ => by simp [rowL]
  | len + 1, h => by
    have h1 := rowL_len (len := len) (f := f) (n := n) fun i hi => h i (by omega)
    unfold rowL at h1 ⊢
    rw [List.range_succ, List.flatMap_append, List.length_append, h1]
    simp [h len (by omega), Nat.add_mul]
section
variable {P : Program} {t : TypeId} {n len i : Nat} {f : Nat → List Value}
theorem rowL_drop (hf : ∀ j, j < len → (f j).length = n) (hi : i < len) : (rowL len f).drop (i * n) = f i ++ tailL f i (len - i - 1) := by
  rw [rowL_split f hi]
  have := rowL_len (f := f) (n := n) (len := i) fun j hj => hf j (by omega)
  rw [← this]
  simp
theorem row_loadS (ha : tyAgg P t = some true) (hs : tySize P t = some n) (hf : ∀ j, j < len → (f j).length = n) (hi : i < len) : loadV P t (rowL len f) (i * n) = some (.agg (f i).toArray) := by
  unfold loadV
  rw [ha, hs]
  dsimp only
  have h1 : Nat.ble (i * n + n) (rowL len f).length = true := by
    rw [rowL_len hf]
    apply Nat.ble_eq_true_of_le
    rw [← Nat.succ_mul]
    exact Nat.mul_le_mul_right _ hi
  rw [h1]
  show some (Value.agg _) = _
  rw [rowL_drop hf hi, ← hf i hi]
  simp
theorem row_loadF {k : Nat} {v : Value} (ha : tyAgg P t = some false) (hf : ∀ j, j < len → (f j).length = n) (hi : i < len) (hk : (f i)[k]? = some v) : loadV P t (rowL len f) (i * n + k) = some v := by
  unfold loadV
  rw [ha]
  show (rowL len f)[i * n + k]? = some v
  rw [← List.getElem?_drop, rowL_drop hf hi, List.getElem?_append_left (List.getElem?_eq_some_iff.1 hk).1]
  exact hk
theorem row_store {v : Value} {c : List Value} {g : Nat → List Value} (hs : tySize P t = some n) (hv : v.cells.toList = c) (hc : c.length = n) (h1 : c.all (·.oneCell') = true) (hf : ∀ j, j < len → (f j).length = n) (hi : i < len) (hg : ∀ j, j < len → g j = if j = i then c else f j) : storeV P t (rowL len f) (i * n) v = some (rowL len g) := by
  unfold storeV
  rw [hs]
  dsimp only
  have hl := rowL_len hf
  have h2 : (v.cells.toList.length == n && Nat.ble (i * n + n) (rowL len f).length && v.cells.toList.all (·.oneCell')) = true := by
    have : Nat.ble (i * n + n) (rowL len f).length = true := by
      rw [hl]
      apply Nat.ble_eq_true_of_le
      rw [← Nat.succ_mul]
      exact Nat.mul_le_mul_right _ hi
    rw [hv, this, h1, hc]
    simp
  rw [h2]
  refine congrArg some ?_
  have hr : (rowL i f).length = i * n := rowL_len fun j hj => hf j (by omega)
  have e1 : (rowL len f).take (i * n) = rowL i f := by
    rw [rowL_split f hi, ← hr]
    simp
  have e2 : (rowL len f).drop (i * n + n) = tailL f i (len - i - 1) := by
    rw [← List.drop_drop, rowL_drop hf hi, ← hf i hi]
    simp
  rw [e1, e2, hv, rowL_split g hi, hg i hi, if_pos rfl, List.append_assoc]
  congr 1
  · exact rowL_congr fun j hj => by rw [hg j (by omega), if_neg (by omega)]
  · congr 1
    unfold tailL
    rw [List.flatMap_def, List.flatMap_def]
    congr 1
    refine List.map_congr_left fun j hj => ?_
    have := List.mem_range.1 hj
    rw [hg _ (by omega), if_neg (by omega)]
end
theorem row_made {z : Array Value} {n : Nat} (hz : z.size = n) (hn : 0 < n) : ∀ len : Nat, (madeCells z (len * n)).toList = rowL len fun _ => z.toList
  | 0 => by simp [madeCells, rowL]
  | len + 1 => by
    have ih := row_made hz hn len
    unfold madeCells at ih ⊢
    rw [Array.toList_map, Array.toList_range] at ih ⊢
    rw [Nat.succ_mul, List.range_add, List.map_append, ih]
    unfold rowL
    rw [List.range_succ, List.flatMap_append]
    congr 1
    rw [List.map_map]
    simp only [List.flatMap_cons, List.flatMap_nil, List.append_nil]
    apply List.ext_getElem
    · simp [hz]
    · intro j h1 h2
      have hj : j < n := by simpa using h1
      simp [hz, Nat.mod_eq_of_lt hj, hj]
def tyBytes (P : Program) (t : TypeId) : Nat := ((P.info? t).map (·.bytes)).getD 0
def tyZero (P : Program) (t : TypeId) : Option Value := (P.info? t).bind (·.zero)
/-- make([]T, n), by what lies at each place. -/
theorem run_mk {X : Cx} {k : List KI} {st : St} (t e : TypeId) (n : Nat) (z : Value) (ht : X.P.underlying t = some (.slice e)) (hs : tySize X.P e = some n) (hz : tyZero X.P e = some z) (hzn : z.cells.size = n) (hn : 0 < n)
    (d : Option Tmp) (len : Nat) (hl : len ≤ maxLen) (hc : len * n ≤ 16777216) (hb : tyBytes X.P e * len ≤ 281474976710656) (h : headSem X.N k st = some ((Instr.makeSlice t (.int .i64 (len : Int)) (.int .i64 (len : Int)) >>= fun v => pure (Next.value v)), d))
    (hr : ∀ g, X.B.heap.size ≤ g → Run X (nextK k) ((⟨st.sl, (g, .cells (rowL len fun _ => z.cells.toList).toArray e (0, 0)) :: st.hp⟩ : St).put d (.slice (some ⟨g, 0, none⟩) len len))) : Run X k st := by
  unfold tySize at hs
  unfold tyZero at hz
  unfold tyBytes at hb
  cases hi : X.P.info? e with
  | none => rw [hi] at hs; cases hs
  | some i =>
    rw [hi] at hs hz hb
    have hs : i.size = n := by injection hs
    refine run_make (i := i) (z := z) ht hi hz d len hl (by rw [hs]; exact hc) hb h fun g cs hg hcs => ?_
    rw [hs, row_made hzn hn] at hcs
    rw [hcs]
    exact hr g hg
/-- An element of a slice, at a given place. -/
theorem idx_off {P : Program} {t e : TypeId} {n : Nat} (hu : P.underlying t = some (.slice e)) (hs : tySize P e = some n) (b o : Nat) (len cap : Nat) (k : IntKind) (i : Nat) (hi : i < len) (off : Nat) (ho : o + i * n = off) (w : World) :
    (Instr.indexAt t (.slice (some ⟨b, o, none⟩) len cap) (.int k (i : Int)) >>= fun v => pure (Next.value v)).run P w = .ok (.value (.pointer (some ⟨b, off, none⟩))) w := by
  subst ho
  exact idx_run hu hs b o len cap k i hi w
end Go.Proofs.Ytmiobcnccbfknaa
