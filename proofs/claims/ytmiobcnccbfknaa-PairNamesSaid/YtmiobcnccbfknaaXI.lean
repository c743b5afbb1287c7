/-
  ENGINE, eighteenth part: bits.
-/
import Derived.Test.YtmiobcnccbfknaaXH
import Derived.Laws.Shifts
namespace Go.Proofs.Ytmiobcnccbfknaa
open Go.RowKit

theorem ofInt_nat (a : Nat) (h : a < 2 ^ 64) : (BitVec.ofInt 64 (a : Int)).toNat = a := by
  rw [BitVec.toNat_ofInt]
  omega
theorem nat_wrap (a : Nat) (h : a < 2 ^ 63) : IntKind.i64.wrap (a : Int) = (a : Int) := IntWalk.i64_in _ (by omega)
theorem or_nat (a b : Nat) (ha : a < 2 ^ 62) (hb : b < 2 ^ 62) : Value.int .i64 (bits .or .i64 (a : Int) (b : Int)) = .int .i64 ((a ||| b : Nat) : Int) := by
  refine congrArg _ ?_
  show IntKind.i64.wrap (((BitVec.ofInt 64 (a : Int) ||| BitVec.ofInt 64 (b : Int)).toNat : Nat) : Int) = _
  rw [BitVec.toNat_or, ofInt_nat a (by omega), ofInt_nat b (by omega)]
  exact nat_wrap _ (Nat.lt_trans (Nat.or_lt_two_pow ha hb) (by omega))
theorem and_nat (a b : Nat) (ha : a < 2 ^ 62) (hb : b < 2 ^ 62) : Value.int .i64 (bits .and .i64 (a : Int) (b : Int)) = .int .i64 ((a &&& b : Nat) : Int) := by
  refine congrArg _ ?_
  show IntKind.i64.wrap (((BitVec.ofInt 64 (a : Int) &&& BitVec.ofInt 64 (b : Int)).toNat : Nat) : Int) = _
  rw [BitVec.toNat_and, ofInt_nat a (by omega), ofInt_nat b (by omega)]
  exact nat_wrap _ (Nat.lt_of_le_of_lt Nat.and_le_left (by omega))
theorem shl_run {P : Program} {w : World} {t : TypeId} (x y : Nat) (hy : y < 64) (h : x <<< y < 2 ^ 63) : (binOp .shl t (.int .i64 (x : Int)) (.int .i64 (y : Int)) >>= fun v => pure (Next.value v)).run P w = .ok (.value (.int .i64 ((x <<< y : Nat) : Int))) w := by
  have e : binOp .shl t (.int .i64 (x : Int)) (.int .i64 (y : Int)) = Op.shift .shl .i64 (x : Int) .i64 (y : Int) := by simp [binOp]
  have hb : IntKind.i64.bits = 64 := rfl
  rw [e, shift_shl_any _ _ _ _ (by omega), hb, show min ((y : Int)).toNat 64 = y by omega]
  rw [Nat.shiftLeft_eq] at h
  have e2 : (x : Int) * 2 ^ y = ((x <<< y : Nat) : Int) := by rw [Nat.shiftLeft_eq, Int.natCast_mul, Int.natCast_pow]; rfl
  rw [e2, nat_wrap _ (by rw [Nat.shiftLeft_eq]; exact h)]
  rfl
theorem shr_run {P : Program} {w : World} {t : TypeId} (x y : Nat) (hy : y < 64) : (binOp .shr t (.int .i64 (x : Int)) (.int .i64 (y : Int)) >>= fun v => pure (Next.value v)).run P w = .ok (.value (.int .i64 ((x >>> y : Nat) : Int))) w := by
  have e : binOp .shr t (.int .i64 (x : Int)) (.int .i64 (y : Int)) = Op.shift .shr .i64 (x : Int) .i64 (y : Int) := by simp [binOp]
  have hb : IntKind.i64.bits = 64 := rfl
  rw [e, shift_shr_any _ _ _ _ (by omega), hb, show min ((y : Int)).toNat 64 = y by omega]
  have e2 : (x : Int) / 2 ^ y = ((x >>> y : Nat) : Int) := by rw [Nat.shiftRight_eq_div_pow, Int.natCast_ediv, Int.natCast_pow]; rfl
  rw [e2]
  rfl
end Go.Proofs.Ytmiobcnccbfknaa
