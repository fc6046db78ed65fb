/-
  Two arrays of settings held against one another.
-/
import Derived.Test.YtenoaljghbpaaaaStpM
namespace Go.Proofs.Ytenoaljghbpaaaa
open Go.RowKit
set_option linter.unusedSimpArgs false
theorem set2_eq (T : Nat → Nat) (W : World) : (Op.equalIn 10000 60 (.agg (arrS T)) (.agg (arrS T))).run Try.prog W = .ok true W := by
  have hsz : (sizeOf 45).run Try.prog W = .ok 1 W := by kernel_rfl
  have hpk : Try.prog.plainKey 45 = true := by kernel_rfl
  have hp : ∀ (i : Nat) (v : Value), (arrS T)[i]? = some v → (part 45 (arrS T) i).run Try.prog W = .ok v W := fun i v h => run_part_plain _ hpk h
  have hq : ∀ a : Int, (Op.equalIn 9999 45 (.int .u64 a) (.int .u64 a)).run Try.prog W = .ok true W := fun a => by
    rw [show (9999 : Nat) = 9998 + 1 from rfl, run_equalIn_int W 9998 45 .u64 .u64 a a Try.underlying45]
    simp
  rw [show (10000 : Nat) = 9999 + 1 from rfl, Op.equalIn]
  simp only [Sem.run_bind, run_underlying Try.underlying60, Result.andThen_ok, hsz]
  simp only [Std.Legacy.Range.forIn_eq_forIn_range', Std.Legacy.Range.size, Nat.sub_zero, Nat.add_sub_cancel, Nat.div_one, List.range'_succ, List.range'_zero, List.forIn_cons, List.forIn_nil, Sem.run_bind, Sem.run_pure, Result.andThen_ok, Nat.zero_mul, Nat.mul_one, Nat.zero_add,
    hp 0 _ (arrS_at T 0 (by omega)), hp 1 _ (arrS_at T 1 (by omega)), hp 2 _ (arrS_at T 2 (by omega)), hp 3 _ (arrS_at T 3 (by omega)), hp 4 _ (arrS_at T 4 (by omega)), hp 5 _ (arrS_at T 5 (by omega)), hp 6 _ (arrS_at T 6 (by omega)), hq, Nat.reduceAdd, Bool.not_true, Bool.false_eq_true, if_false, ↓reduceIte]
end Go.Proofs.Ytenoaljghbpaaaa
