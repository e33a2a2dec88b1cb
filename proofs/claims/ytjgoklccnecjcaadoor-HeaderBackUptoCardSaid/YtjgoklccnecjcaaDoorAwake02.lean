/- What must come at any rate, of header; and what a type needs, as the document has it. -/
import Derived.Test.YtjgoklccnecjcaaDoorHeader
import Derived.Test.YtjgoklccnecjcaaDoorHeadGet
namespace Go.Proofs.YtjgoklccnecjcaaDoor
open Go.RowKit

set_option maxHeartbeats 4000000 in
theorem awake_any (w : World) (hT : Nds w) : Calls Tryd.prog 10 #[] w fun x w' => x = .returned (.bool true) ∧ Only Nil w w' := by
  have hp : ∀ W, Calls Tryd.prog 6 #[hdV 8 7 0 0] W fun x w' => x = .returned (.tuple #[.string ⟨#[0, 0, 8, 7, 0, 0, 0, 0, 0]⟩, .int .i64 0]) ∧ Only Nil W w' := fun W => by
    have := Put_any ⟨8, 7, 0, 0⟩ W ⟨by unfold i64Ok; decide, by unfold i64Ok; decide, by unfold i64Ok; decide, by unfold i64Ok; decide⟩
    rw [show Hd.S ⟨8, 7, 0, 0⟩ = ⟨#[0, 0, 8, 7, 0, 0, 0, 0, 0]⟩ from rfl, show Hd.E ⟨8, 7, 0, 0⟩ = 0 from rfl] at this
    exact this
  have hg : ∀ W, Calls Tryd.prog 7 #[.string ⟨#[0, 0, 8, 7, 0, 0, 0, 0, 0]⟩] W fun x w' => x = .returned (.tuple #[.agg #[.int .i64 8, .int .i64 7, .int .i64 0, .int .i64 0], .int .i64 0]) ∧ Only Nil W w' := fun W => by
    have := Get_any ⟨#[0, 0, 8, 7, 0, 0, 0, 0, 0]⟩ W
    rw [show getR ⟨#[0, 0, 8, 7, 0, 0, 0, 0, 0]⟩ = .tuple #[.agg #[.int .i64 8, .int .i64 7, .int .i64 0, .int .i64 0], .int .i64 0] from rfl] at this
    exact this
  have HP := Lib.hid hp
  have HG := Lib.hid hg
  have hb0 : Blk (w.alloc (.cells #[.int .i64 8, .int .i64 7, .int .i64 0, .int .i64 0] 23)) w.heap.size 23 #[.int .i64 8, .int .i64 7, .int .i64 0, .int .i64 0] := Blk.new _ _ _
  have ho0 := (Only.refl Nil w).alloc (.cells #[.int .i64 8, .int .i64 7, .int .i64 0, .int .i64 0] 23)
  have hT0 := hT.kept ho0 (fun hh => hh)
  clear hp hg
  go_enter Tryd.func10, Tryd.ntmps10
  go_wp2_with (first
    | (go_at_call 6; (with_reducible refine (HP.out _).mono ?_); rintro e w1 ⟨rfl, ho1⟩; have hb1 := Blk.kept hb0 ho1 (fun hh => hh); have hT1 := hT0.kept ho1 (fun hh => hh))
    | (go_at_call 7; (with_reducible refine (HG.out _).mono ?_); rintro e w2 ⟨rfl, ho2⟩; have hb2 := Blk.kept hb1 ho2 (fun hh => hh); have hT2 := (hT1.kept ho2 (fun hh => hh)).alloc (.cells #[.int .i64 8, .int .i64 7, .int .i64 0, .int .i64 0] 23); have c0 := hb2.cell 0; have c1 := hb2.cell 1; have c2 := hb2.cell 2; have c3 := hb2.cell 3; have z2 := hb2.lt)
    | (go_at_call 22; (with_reducible refine (Fits_8 _ hT2).mono ?_); rintro e w3 ⟨rfl, ho3⟩; have hT3 := hT2.kept ho3 (fun hh => hh))
    | (go_at_call 22; (with_reducible refine (Fits_7 _ hT3).mono ?_); rintro e w4 ⟨rfl, ho4⟩)
    )
  go_ret
  exact ⟨rfl, (((ho0.trans ho1).trans ho2).alloc _ |>.trans ho3).trans ho4⟩
theorem Zero_any (k : Int) (w : World) : Calls Tryd.prog 14 #[.int .i64 k] w fun x w' => x = .returned (.bool (nzB k)) ∧ w = w' := by
  unfold nzB
  cases h : decide (5 ≤ k)
  all_goals
    go_enter Tryd.func14, Tryd.ntmps14
    go_wp2
    go_ret
    exact ⟨rfl, rfl⟩
theorem One_any (k : Int) (w : World) : Calls Tryd.prog 15 #[.int .i64 k] w fun x w' => x = .returned (.bool (naB k)) ∧ w = w' := by
  unfold naB
  cases h : decide (k ≤ 4)
  all_goals
    go_enter Tryd.func15, Tryd.ntmps15
    go_wp2
    go_ret
    exact ⟨rfl, rfl⟩
set_option maxHeartbeats 2000000 in
theorem RLong_any (k : Int) (w : World) (k0 : 0 ≤ k) (k11 : k ≤ 11) : Calls Tryd.prog 16 #[.int .i64 k] w fun x w' => x = .returned (.int .i64 (lgI k)) ∧ w = w' := by
  have hk : k = 0 ∨ k = 1 ∨ k = 2 ∨ k = 3 ∨ k = 4 ∨ k = 5 ∨ k = 6 ∨ k = 7 ∨ k = 8 ∨ k = 9 ∨ k = 10 ∨ k = 11 := by omega
  rcases hk with rfl | rfl | rfl | rfl | rfl | rfl | rfl | rfl | rfl | rfl | rfl | rfl
  all_goals
    go_enter Tryd.func16, Tryd.ntmps16
    go_wp2
    go_ret
    exact ⟨rfl, rfl⟩
end Go.Proofs.YtjgoklccnecjcaaDoor
