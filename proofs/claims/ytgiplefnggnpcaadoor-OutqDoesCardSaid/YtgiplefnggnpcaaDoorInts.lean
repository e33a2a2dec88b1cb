/- Lists of numbers: made, filled, compared. No condition. -/
import Derived.Test.YtgiplefnggnpcaaDoorRows
import Derived.Test.YtgiplefnggnpcaaDoorApp
import Derived.Test.YtgiplefnggnpcaaDoorCopy
namespace Go.Proofs.YtgiplefnggnpcaaDoor
open Go.RowKit

def encZ (n : Int) : List Value := [.int .i64 n]
theorem encZ_len : ∀ n, (encZ n).length = 1 := fun _ => rfl
theorem encZ_one : ∀ n, ∀ u ∈ encZ n, u.oneCell' = true := fun n u hu => by simp [encZ] at hu; subst hu; rfl
theorem encZ_one0 : ∀ u ∈ encZ 0, u.oneCell' = true := encZ_one 0
theorem int_size : (Tryd.prog.info? 3).map (·.size) = some 1 := by kernel_rfl
theorem int_info : (Tryd.prog.info? 3).map (fun i => (i.zero, i.size, i.bytes)) = some (some (.int .i64 0), 1, 8) := by kernel_rfl
theorem made_zero (n : Nat) : (madeCells #[.int .i64 0] n).toList = (List.replicate n (0 : Int)).flatMap encZ := by
  unfold madeCells encZ
  apply List.ext_getElem?
  intro k
  by_cases hk : k < n
  · have := flat_at (enc := encZ) (sz := 1) (fun _ _ => rfl) (l := List.replicate n (0 : Int)) (i := k) (x := 0) (by rw [List.getElem?_replicate]; simp [hk]) (j := 0) (by decide)
    unfold encZ at this
    rw [Nat.mul_one, Nat.add_zero] at this
    rw [this]
    simp [hk, Nat.mod_one]
  · rw [List.getElem?_eq_none (by simp; omega), List.getElem?_eq_none (by rw [flat1 (enc := fun n => [Value.int .i64 n]) (fun _ => rfl)]; simp; omega)]
theorem hmakeN (n : Nat) (hn : n ≤ 4096) (w : World) : (Instr.makeSlice 43 (.int .i64 (n : Int)) (.int .i64 (n : Int))).run Tryd.prog w = .ok (.slice (some ⟨w.heap.size, 0, none⟩) n n) (w.alloc (.cells (madeCells #[.int .i64 0] n) 3)) := by
  obtain ⟨i, hi, hz, hs, hb⟩ := info_parts int_info
  have := run_make (P := Tryd.prog) w 43 3 i (.int .i64 0) Tryd.underlying43 hi hz .i64 .i64 n n (by omega) (by omega) (by rw [hb]; omega) (by omega)
  rw [hs] at this
  simpa [Value.cells] using this
theorem hmake0 (n : Nat) (hn : n ≤ 4096) (w : World) : (Instr.makeSlice 43 (.int .i64 0) (.int .i64 (n : Int))).run Tryd.prog w = .ok (.slice (some ⟨w.heap.size, 0, none⟩) 0 n) (w.alloc (.cells (madeCells #[.int .i64 0] n) 3)) := by
  obtain ⟨i, hi, hz, hs, hb⟩ := info_parts int_info
  have := run_make (P := Tryd.prog) w 43 3 i (.int .i64 0) Tryd.underlying43 hi hz .i64 .i64 0 n (by omega) (by omega) (by rw [hb]; omega) (by omega)
  rw [hs] at this
  simpa [Value.cells] using this
theorem made_own0 (n : Nat) (hn : n ≤ 4096) (w : World) : Ow encZ 1 (w.alloc (.cells (madeCells #[.int .i64 0] n) 3)) w.heap.size 3 (.slice (some ⟨w.heap.size, 0, none⟩) 0 n) [] :=
  Ow.made w _ n (by simp [maxLen]; omega) (by simp [madeCells]) (Nat.le_refl _)
end Go.Proofs.YtgiplefnggnpcaaDoor
