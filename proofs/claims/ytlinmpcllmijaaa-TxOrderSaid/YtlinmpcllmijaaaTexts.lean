/- Two lists of texts that are the same (over a queue's seat). No condition. -/
import Derived.Test.YtlinmpcllmijaaaQueue
namespace Go.Proofs.Ytlinmpcllmijaaa.Qu
open Go.Proofs.Ytlinmpcllmijaaa
open Go.RowKit

set_option maxHeartbeats 2000000 in
theorem Texts_same (A B : Option Addr) (ca cb : Nat) (l : List ByteArray) (w : World) (hA : Sq encS 1 w w.heap.size A l) (hB : Sq encS 1 w w.heap.size B l) (hlen : l.length ≤ 100000) :
    Calls Try.prog 24 #[.slice A l.length ca, .slice B l.length cb] w fun x w' => x = .returned (.bool true) ∧ Only Nil w w' := by
  generalize hn : l.length = n at *
  go_enter Try.func24, Try.ntmps24
  go_wp2
  go_loopw [5] (fun ii wr => ∃ k : Nat, k ≤ n ∧ ii = .int .i64 k ∧ Only Nil w wr) (fun ii _ => n - (intOf ii).toNat)
  case atStart => exact ⟨0, Nat.zero_le _, rfl, Only.refl _ _⟩
  case round =>
    obtain ⟨k, hk, rfl, ho⟩ := hrel
    by_cases hlt : k < n
    · obtain ⟨b1, o1, x, rfl, hb1, hx, _, h1⟩ := (hA.go ho).at_ (k := k) (by omega)
      obtain ⟨b2, o2, y, rfl, hb2, hy, _, h2⟩ := (hB.go ho).at_ (k := k) (by omega)
      rw [hx] at hy
      injection hy with hy
      subst hy
      have e1 : wr.cell? ⟨b1, o1 + k, none⟩ = some (.string x) := by simpa [encS] using h1 0 (by decide)
      have e2 : wr.cell? ⟨b2, o2 + k, none⟩ = some (.string x) := by simpa [encS] using h2 0 (by decide)
      have hki : (k : Int) < n := by omega
      clear h1 h2 hx
      go_wp2
      go_quiet (fail)
      go_wp2
      go_roundw
      case rel => exact ⟨k + 1, by omega, by go_num, ho.drewN _⟩
      case measure => simp [intOf]; omega
    · go_wp2
      go_ret
      exact ⟨rfl, ho⟩
end Go.Proofs.Ytlinmpcllmijaaa.Qu
