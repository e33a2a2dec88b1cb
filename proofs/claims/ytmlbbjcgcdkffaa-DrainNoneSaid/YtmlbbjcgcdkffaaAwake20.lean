/- What must come at any rate, of layer 20. -/
import Derived.Test.YtmlbbjcgcdkffaaDo20
namespace Go.Proofs.Ytmlbbjcgcdkffaa
open Go.RowKit
set_option maxHeartbeats 2000000 in
theorem awake_any (w : World) : Calls Try.prog 8 #[] w fun e w' => e = .returned (.bool true) ∧ Only Nil w w' := by
  go_enter Try.func8, Try.ntmps8
  go_wp2_with (first
    | (go_at_call 6; (with_reducible refine (New_any _).mono ?_); rintro e w1 ⟨b, rfl, hb, ho1, h1⟩)
    | (go_at_call 12; (with_reducible refine (MayOpen_any b (-1) (-1) (-1) true _ h1 (by decide)).mono ?_); rintro e w2 ⟨rfl, rfl⟩)
    | (go_at_call 17; (with_reducible refine (send_ok b (-1) (-1) (-1) 4 _ h1 (by decide) (by decide) (by decide)).mono ?_); rintro e w3 ⟨rfl, ho3, h3⟩)
    | (go_at_call 12; (with_reducible refine (MayOpen_any b 4 (-1) (-1) false _ h3 (by decide)).mono ?_); rintro e w4 ⟨rfl, rfl⟩)
    | (go_at_call 13; (with_reducible refine (Takes_any b 4 (-1) (-1) 4 true _ h3 (by decide)).mono ?_); rintro e w5 ⟨rfl, rfl⟩)
    | (go_at_call 13; (with_reducible refine (Takes_any b 4 (-1) (-1) 6 false _ h3 (by decide)).mono ?_); rintro e w6 ⟨rfl, rfl⟩)
    | (go_at_call 15; (with_reducible refine (step_no b 4 (-1) (-1) 1 _ h3 (by decide) (by decide)).mono ?_); rintro e w7 ⟨rfl, ho7, h7⟩)
    | (go_at_call 15; (with_reducible refine (step_end b 4 (-1) (-1) 0 _ h7 (by decide) (by decide)).mono ?_); rintro e w8 ⟨rfl, ho8, h8⟩)
    )
  go_ret
  refine ⟨rfl, ?_⟩
  have hx : ∀ i, i < w.heap.size → One b i → Nil i := fun i hi hh => by unfold One at hh; omega
  exact (((ho1.trans_new ho3 hx).trans_new ho7 hx).trans_new ho8 hx)

end Go.Proofs.Ytmlbbjcgcdkffaa
