/- Claims: what must come at any rate. -/
import Derived.Test.YtfmeidnpcbfloaaShare8
namespace Go.Proofs.Ytfmeidnpcbfloaa
open Go.RowKit

theorem ints_at {w : World} {A : Option Addr} {L : List Int} (h : Sq encZ 1 w w.heap.size A L) {k : Nat} (hk : k < L.length) : ∃ b off x, A = some ⟨b, off, none⟩ ∧ b < w.heap.size ∧ L[k]? = some x ∧ w.cell? ⟨b, off + k, none⟩ = some (.int .i64 x) := by
  obtain ⟨b, off, x, rfl, hb, hx, _, hc⟩ := h.at_ hk
  refine ⟨b, off, x, rfl, hb, hx, ?_⟩
  have := hc 0 (by decide)
  simpa [encZ] using this
def cmW : List Cm := [⟨2, 1⟩, ⟨9, 1⟩, ⟨9, 1⟩]
theorem shW : (shOut 10 cmW).2.take 3 = [2, 4, 4] := by kernel_rfl
theorem Blk.sqC {α : Type} {enc : α → List Value} {sz : Nat} {w : World} {g : Nat} {t : TypeId} {cs : Array Value} {l : List α} (h : Blk w g t cs) (hcs : cs.toList = l.flatMap enc) (hsz : ∀ x ∈ l, (enc x).length = sz) : Sq enc sz w w.heap.size (some ⟨g, 0, none⟩) l := fun _ =>
  ⟨g, 0, rfl, h.lt, fun i x hx j hj => by rw [h.cell, ← flat_at hsz hx hj, ← hcs, Nat.zero_add, Array.getElem?_toList]⟩
set_option maxHeartbeats 1000000 in
theorem awake_any (w : World) : Calls Try.prog 7 #[] w fun x w' => x = .returned (.bool true) ∧ Only Nil w w' := by
  have hb0 := Blk.new w 36 #[.int .i64 2, .int .i64 1, .int .i64 9, .int .i64 1, .int .i64 9, .int .i64 1]
  have hx0 := Lib.hid ((Only.refl Nil w).alloc (.cells #[.int .i64 2, .int .i64 1, .int .i64 9, .int .i64 1, .int .i64 9, .int .i64 1] 36))
  have hq0 := Lib.hid (Blk.sqC (enc := encC) (sz := 2) (l := cmW) hb0 rfl (fun _ _ => rfl))
  have HS : Hid (∀ W A, Sq encC 2 W W.heap.size A cmW → Calls Try.prog 8 #[.int .i64 10, .slice A 3 3] W fun x w' => ∃ A' c', x = .returned (.tuple #[.slice A' 3 c', .int .i64 0]) ∧ Ow encZ 1 w' W.heap.size 3 (.slice A' 3 c') [2, 4, 4] ∧ Only Nil W w') := Lib.hid (fun W A h => by
    have := Share_any (cap := 3) (whole := 10) W h (by decide) (by decide) (by decide) (by decide)
    rw [show cmW.length = 3 from rfl, shW] at this
    exact this)
  have HI : Hid (∀ W A B c1 c2, Sq encZ 1 W W.heap.size A [2, 4, 4] → Sq encZ 1 W W.heap.size B [2, 4, 4] → 3 ≤ c1 → 3 ≤ c2 → Calls Try.prog 11 #[.slice A 3 c1, .slice B 3 c2] W fun x w' => x = .returned (.bool true) ∧ Only Nil W w') := Lib.hid (fun W A B c1 c2 h1 h2 _ _ => Ints_same A B c1 c2 [2, 4, 4] W h1 h2 (by decide))
  clear hb0
  go_enter Try.func7, Try.ntmps7
  go_wp2_with (first
    | (go_at_call 8; (with_reducible refine (HS.out _ _ hq0.out).mono ?_); rintro e w1 ⟨A1, c1, rfl, hO1, ho1⟩; have HO1 := Lib.hid (hx0.out.trans ho1); have HW1 := Lib.hid (hO1.alloc (.cells #[.int .i64 2, .int .i64 4, .int .i64 4] 3)); have HQ1 := Lib.hid (Blk.sqC (enc := encZ) (sz := 1) (l := [2, 4, 4]) (Blk.new w1 3 #[.int .i64 2, .int .i64 4, .int .i64 4]) rfl (fun _ _ => rfl)); clear hO1 ho1)
    | (go_at_call 11; (with_reducible refine (HI.out _ _ _ _ _ (HW1.out.sqn (fun _ _ => rfl)) HQ1.out HW1.out.len.2.1 (Nat.le_refl _)).mono ?_); rintro e w2 ⟨rfl, ho2⟩)
    )
  go_ret
  exact ⟨rfl, (HO1.out.alloc _).trans ho2⟩
end Go.Proofs.Ytfmeidnpcbfloaa
