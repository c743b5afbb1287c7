/-
  WARM: which readings a set has; slices.Delete at readings: the library's contract, laid at this program's numbers.
-/
import Derived.Shelf.SlicesE.Delete
import Derived.Test.YtidiikmpgpnmpaaB4
namespace Go.Proofs.Ytidiikmpgpnmpaa
open Go.RowKit Go.Shelf Go.Proofs


/-- Is reading n in the set s? -/
def hasB (s n : Nat) : Bool := (s >>> n) % 2 == 1
theorem has_bits : ∀ s : Nat, s < 32 → ∀ n : Nat, n < 5 → (bits BinOp.and IntKind.i64 ((s : Int) / 2 ^ n) 1 == 1) = hasB s n := by decide +kernel
set_option maxHeartbeats 1600000 in
theorem has_any (s n : Nat) (hs : s < 32) (hn : n < 5) (w : World) :
    Calls Try.prog 116 #[.int .i64 s, .int .i64 n] w fun e w' => e = .returned (.bool (hasB s n)) ∧ w = w' := by
  have hb := has_bits s hs n hn
  have Hb := Lib.hid hb
  clear hb
  go_enter Try.func116, Try.ntmps116
  go_wp2
  rw [Hb.out]
  go_ret
  exact ⟨rfl, rfl⟩

def delRen : Go.Shelf.Ren := ⟨fun | 45 => 117 | n => n, fun | 0 => 0 | 3 => 3 | 4 => 4 | 22 => 96 | 23 => 95 | n => n, fun n => n⟩
theorem delLays : SlLaysE.n45 Try.prog delRen :=
  { mixed := by kernel_rfl
    f45 := ⟨Try.f117.name, by decide, Try.func117.trans (congrArg some (by kernel_rfl))⟩
    t0 := by kernel_rfl
    a0 := fun w => by kernel_rfl
    z0 := fun w => by kernel_rfl
    v0 := fun w => by kernel_rfl
    t3 := by kernel_rfl
    a3 := fun w => by kernel_rfl
    z3 := fun w => by kernel_rfl
    v3 := fun w => by kernel_rfl
    t4 := by kernel_rfl
    a4 := fun w => by kernel_rfl
    z4 := fun w => by kernel_rfl
    v4 := fun w => by kernel_rfl
    t22 := by kernel_rfl
    a22 := fun w => by kernel_rfl
    z22 := fun w => by kernel_rfl
    v22 := fun w => by kernel_rfl
    a23 := fun w => by kernel_rfl
    z23 := fun w => by kernel_rfl }

/-- A reading, or none. -/
def encR : Option Wr → Value
  | none => .nilIface
  | some g => rdV g
theorem encR_one : OneCell encR := by
  intro x
  cases x with
  | none => rfl
  | some g => unfold encR rdV; dsimp only; split <;> rfl
theorem keeps_putRow {a b : World} {α : Type} [Inhabited α] {enc : α → Value} {B off : Nat} {d : Array α} (h : Keeps a b) (hB : a.heap.size ≤ B) : Keeps a (Sort.putRow enc b B off d) :=
  Below.trans h ⟨rfl, rfl, rfl, by simp [Sort.putRow, Sort.mapBlock], fun k hk => by
    simp only [Sort.putRow, Sort.mapBlock, Array.getElem?_modify]
    rw [if_neg (by omega)]⟩
theorem size_putRow {b : World} {α : Type} [Inhabited α] {enc : α → Value} {B off : Nat} {d : Array α} : (Sort.putRow enc b B off d).heap.size = b.heap.size := by simp [Sort.putRow, Sort.mapBlock]
theorem delete_any (B cap k : Nat) (xs : List Wr) (w w0 : World) (hH : Sort.Holds encR w B 0 (xs.map some).toArray) (hk : k < xs.length) (hcap : xs.length ≤ cap) (hm : cap ≤ 6) (hB : w0.heap.size ≤ B) (h0 : Keeps w0 w) :
    Calls Try.prog 117 #[.slice (some ⟨B, 0, none⟩) xs.length cap, .int .i64 k, .int .i64 ((k : Int) + 1)] w fun e w' =>
      e = .returned (.slice (some ⟨B, 0, none⟩) (xs.eraseIdx k).length cap) ∧ Sort.Holds encR w' B 0 ((xs.eraseIdx k).map some).toArray ∧ Keeps w0 w' ∧ w'.heap.size = w.heap.size := by
  have hi : (Try.prog.info? 95).map (·.size) = some 1 := by kernel_rfl
  obtain ⟨i0, hi0, hz⟩ := Option.map_eq_some_iff.1 hi
  have h := AnyE.slices_Delete delLays encR encR_one none (fun w => Try.zeroValue95 w) i0 hi0 hz B 0 cap k (k + 1) (xs.map some).toArray w hH (by simpa using hcap) (by omega) (by omega) (by simp; omega)
  have e1 : (xs.map some).toArray.size = xs.length := by simp
  rw [e1] at h
  have e2 : xs.length - (k + 1 - k) = (xs.eraseIdx k).length := by rw [List.length_eraseIdx_of_lt hk]; omega
  rw [e2] at h
  refine Calls.mono h ?_
  rintro e w' ⟨rfl, q, rfl⟩
  refine ⟨rfl, ?_, keeps_putRow (show Keeps w0 (Sort.ahead w q) from ⟨h0.os, h0.tape, h0.output, h0.size, h0.block⟩) hB, by rw [size_putRow]; rfl⟩
  have hp := Sort.holds_putRow encR (Sort.ahead w q) B 0 (xs.map some).toArray ((xs.map some).toArray.toList.take k ++ (xs.map some).toArray.toList.drop (k + 1) ++ List.replicate (k + 1 - k) none).toArray (Sort.holds_ahead encR w q B 0 _ hH) (by simp; omega)
  intro j hj
  have hj' : j < (xs.eraseIdx k).length := by simpa using hj
  have := hp j (by rw [List.length_eraseIdx_of_lt hk] at hj'; simp; omega)
  have e3 : ((xs.map some).toArray.toList.take k ++ (xs.map some).toArray.toList.drop (k + 1)) = (xs.eraseIdx k).map some := by
    rw [List.eraseIdx_eq_take_drop_succ]; simp
  rw [e3] at this ⊢
  have hj2 : j < ((xs.eraseIdx k).map some).length := by simpa using hj'
  have e4 : (((xs.eraseIdx k).map some) ++ List.replicate (k + 1 - k) none).toArray[j]! = ((xs.eraseIdx k).map some).toArray[j]! := by
    rw [getElem!_pos _ j (by simp at hj' ⊢; omega), getElem!_pos _ j (by simpa using hj2)]
    simp only [List.getElem_toArray]
    rw [List.getElem_append_left hj2]
  rw [e4] at this
  exact this
end Go.Proofs.Ytidiikmpgpnmpaa
