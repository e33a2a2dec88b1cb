/- Whole rows of numbers compared. -/
import Derived.Test.YtfmeidnpcbfloaaShareP
import Derived.ChangeKeysEq
namespace Go.Proofs.Ytfmeidnpcbfloaa
open Go.RowKit

theorem part_int (A : List Int) {i : Nat} (hi : i < A.length) (w : World) : (part 3 (ints A) (i * Try.prog.cellsOf 3)).run Try.prog w = .ok (.int .i64 (A.getD i 0)) w := by
  have hc : Try.prog.cellsOf 3 = 1 := by kernel_rfl
  have hu := Try.underlying3
  have hg : (ints A)[i]? = some (.int .i64 (A.getD i 0)) := by simp [ints, List.getD_eq_getElem?_getD, List.getElem?_eq_getElem hi]
  have hagg : (isAgg 3).run Try.prog w = .ok false w := by
    unfold isAgg
    rw [Sem.run_bind, run_underlying hu w]
    rfl
  unfold part
  rw [Sem.run_bind, hagg, hc, Nat.mul_one, hg]
  rfl
theorem eqItems_ints (A B : List Int) (w : World) : ∀ (is : List Nat), (∀ i ∈ is, i < A.length ∧ i < B.length) → (Op.eqItems 9999 3 (Try.prog.cellsOf 3) (ints A) (ints B) is).run Try.prog w = .ok (is.all fun i => A.getD i 0 == B.getD i 0) w
  | [], _ => rfl
  | i :: is, h => by
    have hu := Try.underlying3
    have h1 := h i (List.mem_cons_self ..)
    have ih := eqItems_ints A B w is (fun j hj => h j (List.mem_cons_of_mem _ hj))
    simp only [Op.eqItems, Sem.run_bind, part_int A h1.1 w, part_int B h1.2 w, Result.andThen_ok, run_equalIn_int w 9998 3 .i64 .i64 _ _ hu, List.all_cons]
    cases A.getD i 0 == B.getD i 0
    · rfl
    · simpa using ih
theorem eq_rows (A B : List Int) (hA : A.length = 256) (hB : B.length = 256) (w : World) : (Op.equalIn 10000 43 (.agg (A.map (Value.int .i64)).toArray) (.agg (B.map (Value.int .i64)).toArray)).run Try.prog w = .ok (decide (A = B)) w := by
  have hs : (Try.prog.info? 3).isSome = true := by kernel_rfl
  obtain ⟨i, hi⟩ := Option.isSome_iff_exists.1 hs
  have := run_equalIn_array (P := Try.prog) w 9999 (ints A) (ints B) Try.underlying43 hi
  rw [show (9999 + 1 : Nat) = 10000 from rfl] at this
  rw [this, eqItems_ints A B w _ (fun i hi => by have := List.mem_range.1 hi; omega)]
  congr 1
  by_cases e : A = B
  · subst e
    simp
  · rw [decide_eq_false e]
    apply Bool.eq_false_iff.2
    intro hh
    apply e
    apply List.ext_getElem?
    intro j
    by_cases hj : j < 256
    · have := List.all_eq_true.1 hh j (List.mem_range.2 hj)
      have := eq_of_beq this
      rw [List.getD_eq_getElem?_getD, List.getD_eq_getElem?_getD, List.getElem?_eq_getElem (by omega), List.getElem?_eq_getElem (by omega)] at this
      rw [List.getElem?_eq_getElem (by omega), List.getElem?_eq_getElem (by omega)]
      simpa using this
    · rw [List.getElem?_eq_none (by omega), List.getElem?_eq_none (by omega)]
end Go.Proofs.Ytfmeidnpcbfloaa
