/- Lists of numbers: made, filled, compared. No condition. -/
import Derived.Test.YtfmeidnpcbfloaaRows
import Derived.Test.YtfmeidnpcbfloaaApp
import Derived.Test.YtfmeidnpcbfloaaCopy
namespace Go.Proofs.Ytfmeidnpcbfloaa
open Go.RowKit

def encZ (n : Int) : List Value := [.int .i64 n]
theorem encZ_len : ∀ n, (encZ n).length = 1 := fun _ => rfl
theorem encZ_one : ∀ n, ∀ u ∈ encZ n, u.oneCell' = true := fun n u hu => by simp [encZ] at hu; subst hu; rfl
theorem encZ_one0 : ∀ u ∈ encZ 0, u.oneCell' = true := encZ_one 0
theorem int_size : (Try.prog.info? 3).map (·.size) = some 1 := by kernel_rfl
theorem int_info : (Try.prog.info? 3).map (fun i => (i.zero, i.size, i.bytes)) = some (some (.int .i64 0), 1, 8) := by kernel_rfl
theorem made_zero (n : Nat) : (madeCells #[.int .i64 0] n).toList = (List.replicate n (0 : Int)).flatMap encZ := by
  unfold madeCells encZ
  apply List.ext_getElem?
  intro k
  by_cases hk : k < n
  · have := flat_at (enc := encZ) (sz := 1) (fun _ _ => rfl) (l := List.replicate n (0 : Int)) (i := k) (x := 0) (by rw [List.getElem?_replicate]; simp [hk]) (j := 0) (by decide)
    unfold encZ at this
    rw [Nat.mul_one, Nat.add_zero] at this
    rw [this]
    simp [hk, Nat.mod_one]
  · rw [List.getElem?_eq_none (by simp; omega), List.getElem?_eq_none (by rw [flat1 (enc := fun n => [Value.int .i64 n]) (fun _ => rfl)]; simp; omega)]
theorem hmakeN (n : Nat) (hn : n ≤ 4096) (w : World) : (Instr.makeSlice 24 (.int .i64 (n : Int)) (.int .i64 (n : Int))).run Try.prog w = .ok (.slice (some ⟨w.heap.size, 0, none⟩) n n) (w.alloc (.cells (madeCells #[.int .i64 0] n) 3)) := by
  obtain ⟨i, hi, hz, hs, hb⟩ := info_parts int_info
  have := run_make (P := Try.prog) w 24 3 i (.int .i64 0) Try.underlying24 hi hz .i64 .i64 n n (by omega) (by omega) (by rw [hb]; omega) (by omega)
  rw [hs] at this
  simpa [Value.cells] using this
theorem hmake0 (n : Nat) (hn : n ≤ 4096) (w : World) : (Instr.makeSlice 24 (.int .i64 0) (.int .i64 (n : Int))).run Try.prog w = .ok (.slice (some ⟨w.heap.size, 0, none⟩) 0 n) (w.alloc (.cells (madeCells #[.int .i64 0] n) 3)) := by
  obtain ⟨i, hi, hz, hs, hb⟩ := info_parts int_info
  have := run_make (P := Try.prog) w 24 3 i (.int .i64 0) Try.underlying24 hi hz .i64 .i64 0 n (by omega) (by omega) (by rw [hb]; omega) (by omega)
  rw [hs] at this
  simpa [Value.cells] using this
theorem made_own0 (n : Nat) (hn : n ≤ 4096) (w : World) : Ow encZ 1 (w.alloc (.cells (madeCells #[.int .i64 0] n) 3)) w.heap.size 3 (.slice (some ⟨w.heap.size, 0, none⟩) 0 n) [] :=
  Ow.made w _ n (by simp [maxLen]; omega) (by simp [madeCells]) (Nat.le_refl _)
set_option maxHeartbeats 2000000 in
theorem Ints_same (A B : Option Addr) (ca cb : Nat) (l : List Int) (w : World) (hA : Sq encZ 1 w w.heap.size A l) (hB : Sq encZ 1 w w.heap.size B l) (hlen : l.length ≤ 100000) :
    Calls Try.prog 11 #[.slice A l.length ca, .slice B l.length cb] w fun x w' => x = .returned (.bool true) ∧ Only Nil w w' := by
  generalize hn : l.length = n at *
  go_enter Try.func11, Try.ntmps11
  go_wp2
  go_loopw [5] (fun ii wr => ∃ k : Nat, k ≤ n ∧ ii = .int .i64 k ∧ Only Nil w wr) (fun ii _ => n - (intOf ii).toNat)
  case atStart => exact ⟨0, Nat.zero_le _, rfl, Only.refl _ _⟩
  case round =>
    obtain ⟨k, hk, rfl, ho⟩ := hrel
    by_cases hlt : k < n
    · obtain ⟨b1, o1, x, rfl, hb1, hx, _, h1⟩ := (hA.go ho).at_ (k := k) (by omega)
      obtain ⟨b2, o2, y, rfl, hb2, hy, _, h2⟩ := (hB.go ho).at_ (k := k) (by omega)
      rw [hx] at hy
      injection hy with hy
      subst hy
      have e1 : wr.cell? ⟨b1, o1 + k, none⟩ = some (.int .i64 x) := by simpa [encZ] using h1 0 (by decide)
      have e2 : wr.cell? ⟨b2, o2 + k, none⟩ = some (.int .i64 x) := by simpa [encZ] using h2 0 (by decide)
      have hki : (k : Int) < n := by omega
      clear h1 h2
      go_wp2
      go_quiet (fail)
      go_wp2
      go_roundw
      case rel => exact ⟨k + 1, by omega, by go_num, ho.drewN _⟩
      case measure => simp [intOf]; omega
    · go_wp2
      go_ret
      exact ⟨rfl, ho⟩
end Go.Proofs.Ytfmeidnpcbfloaa
