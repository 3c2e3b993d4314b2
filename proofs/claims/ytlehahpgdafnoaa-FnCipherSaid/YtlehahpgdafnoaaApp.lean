/- Helper contracts: AppendUvarint and AppendBytes of the program and of the model return a new slice that holds the given bytes, then the varint (and the data). Asked: the slices read as the lists named, and are no longer than 2^40. -/
import Derived.Test.YtlehahpgdafnoaaVint
import Derived.Test.YtlehahpgdafnoaaConcat
namespace Go.Proofs.Ytlehahpgdafnoaa
open Go.ChangeShapes Go.WideShapes Go.ChangeAt Go.RowKit

theorem and127 (n : Int) : bits .and .i64 n 127 = n % 128 := by
  have h127 : (BitVec.ofInt 64 127).toNat = 2 ^ 7 - 1 := by decide
  have key : (BitVec.ofInt 64 n &&& BitVec.ofInt 64 127).toNat = (n % ((2 ^ 64 : Nat) : Int)).toNat % 2 ^ 7 := by
    rw [BitVec.toNat_and, BitVec.toNat_ofInt, h127, Nat.and_two_pow_sub_one_eq_mod]
  show IntKind.i64.wrap ((BitVec.ofInt 64 n &&& BitVec.ofInt 64 127).toNat : Nat) = n % 128
  rw [key, IntKind.wrap_i64]
  omega
theorem wraps_i64 (n : Int) (h0 : 0 ≤ n) (h1 : n < 2 ^ 62) : IntKind.i64.wrap n = n := by rw [IntKind.wrap_i64]; omega
theorem or128 (n : Int) : bits .or .i64 (n % 128) 128 = n % 128 + 128 :=
  Go.bits_join_low .i64 62 (by decide) wraps_i64 7 (n % 128) 128 (by omega) (by omega) (by omega) (by decide) (by decide) (by decide)
end Go.Proofs.Ytlehahpgdafnoaa
