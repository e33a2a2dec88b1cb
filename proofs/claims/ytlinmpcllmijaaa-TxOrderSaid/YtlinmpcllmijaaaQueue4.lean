/- What Items and Copy of a queue do; the document's own queue. -/
import Derived.Test.YtlinmpcllmijaaaQueue3
import Derived.Test.YtlinmpcllmijaaaCopyF
namespace Go.Proofs.Ytlinmpcllmijaaa.Qu
open Go.Proofs.Ytlinmpcllmijaaa
open Go.RowKit

theorem made_zeroS (n : Nat) : (madeCells #[.string ByteArray.empty] n).toList = (List.replicate n noS).flatMap encS := by
  unfold madeCells
  apply List.ext_getElem?
  intro k
  by_cases hk : k < n
  · have := flat_at (enc := encS) (sz := 1) (fun _ _ => rfl) (l := List.replicate n noS) (i := k) (x := noS) (by rw [List.getElem?_replicate]; simp [hk]) (j := 0) (by decide)
    rw [Nat.mul_one, Nat.add_zero] at this
    rw [this]
    simp [hk, Nat.mod_one, encS]
    rfl
  · rw [List.getElem?_eq_none (by simp; omega), List.getElem?_eq_none (by rw [flat1 encS_len]; simp; omega)]
theorem hmakeS (n : Nat) (hn : n ≤ 4096) (w : World) : (Instr.makeSlice 32 (.int .i64 (n : Int)) (.int .i64 (n : Int))).run Try.prog w = .ok (.slice (some ⟨w.heap.size, 0, none⟩) n n) (w.alloc (.cells (madeCells #[.string ByteArray.empty] n) 9)) := by
  obtain ⟨i, hi, hz, hs, hb⟩ := info_parts str_info
  have := run_make (P := Try.prog) w 32 9 i (.string ByteArray.empty) Try.underlying32 hi hz .i64 .i64 n n (by omega) (by omega) (by rw [hb]; omega) (by omega)
  rw [hs] at this
  simpa [Value.cells] using this
theorem made_ownS (n : Nat) (hn : n ≤ 4096) (w : World) : Ow encS 1 (w.alloc (.cells (madeCells #[.string ByteArray.empty] n) 9)) w.heap.size 9 (.slice (some ⟨w.heap.size, 0, none⟩) n n) (List.replicate n noS) := by
  have := Ow.lit (enc := encS) (sz := 1) (e := 9) (base := w.heap.size) w (List.replicate n noS) (made_zeroS n) (by rw [flat1 encS_len]; simp) (by simp [maxLen]; omega) (Nat.le_refl _)
  simpa using this
def ItPost (w : World) (L : List ByteArray) (x : Ending) (w' : World) : Prop := ∃ A c, x = .returned (.slice A L.length c) ∧ Ow encS 1 w' w.heap.size 9 (.slice A L.length c) L ∧ Only Nil w w'
section
variable {w w' : World} {b base : Nat} {cp st : Int} {v : Value} {L : List ByteArray} {a t d : Int}
/-! ### the document's -/
end
end Go.Proofs.Ytlinmpcllmijaaa.Qu
