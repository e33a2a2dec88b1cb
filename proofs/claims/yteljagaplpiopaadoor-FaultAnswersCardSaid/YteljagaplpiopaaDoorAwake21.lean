/- What must come at any rate, of faults. -/
import Derived.Test.YteljagaplpiopaaDoorFault5
namespace Go.Proofs.YteljagaplpiopaaDoor
open Go.RowKit

set_option maxRecDepth 100000 in
set_option maxHeartbeats 4000000 in
theorem awake_any (w : World) (hR : Rws w) : Calls Tryd.prog 8 #[] w fun x w' => x = .returned (.bool true) ∧ Only Nil w w' := by
  have h1 := Lib.hid (show Calls Tryd.prog 11 #[ftV 8 3 0, .int .i64 0] w (AnPost w 4 3 3 0 0) from Answer_s 0 hR (by decide) (by decide) rfl (by decide) (by decide))
  have h2 := Lib.hid (fun W (h : Rws W) => (show Calls Tryd.prog 11 #[ftV 9 0 0, .int .i64 7] W (AnPost W 9 0 3 7 0) from Answer_c 7 h (by decide) (by decide) rfl (by decide) (by decide)))
  have HR := Lib.hid hR
  unfold AnPost at h1 h2
  clear hR
  go_enter Tryd.func8, Tryd.ntmps8
  go_wp2_with (first
    | (go_at_call 11; (with_reducible refine (h1.out).mono ?_); rintro e w1 ⟨rfl, ho1⟩; have ho1' := ho1.alloc (.cells (frA 4 3 3 0) 35); have hb1 := Blk.new w1 35 (frA 4 3 3 0); have hr1 := Tab.kept HR.out ho1' (fun hh => hh))
    | (go_at_call 11; (with_reducible refine (h2.out _ hr1).mono ?_); rintro e w2 ⟨rfl, ho2⟩; have ho2' := (ho1'.trans ho2).alloc (.cells (frA 9 0 3 7) 35); have hb2 := Blk.new w2 35 (frA 9 0 3 7); have hb1' := (hb1.kept ho2 (fun hh => hh)).alloc (.cells (frA 9 0 3 7) 35); have d0 := hb1'.cell 0; have d1 := hb1'.cell 1; have d2 := hb1'.cell 2; have d3 := hb1'.cell 3; have d4 := hb1'.cell 4; have d5 := hb1'.cell 5; have d6 := hb1'.cell 6; have d7 := hb1'.cell 7; have d8 := hb1'.cell 8; have d9 := hb1'.cell 9; have d10 := hb1'.cell 10; have d11 := hb1'.cell 11)
    | (go_at_call 17; (with_reducible refine (FSame_same 4 3 3 0 _).mono ?_); rintro e w3 ⟨rfl, ho3⟩; have hb3 := hb2.kept ho3 (fun hh => hh); have c0 := hb3.cell 0; have c1 := hb3.cell 1; have c2 := hb3.cell 2; have c3 := hb3.cell 3; have c4 := hb3.cell 4; have c5 := hb3.cell 5; have c6 := hb3.cell 6; have c7 := hb3.cell 7; have c8 := hb3.cell 8; have c9 := hb3.cell 9; have c10 := hb3.cell 10; have c11 := hb3.cell 11)
    | (go_at_call 17; (with_reducible refine (FSame_same 9 0 3 7 _).mono ?_); rintro e w4 ⟨rfl, ho4⟩)
    | (go_at_call 15; (with_reducible refine (All_any _).mono ?_); rintro e w5 ⟨A5, cp5, rfl, hO5, ho5⟩)
    )
  go_ret
  exact ⟨rfl, ((ho2'.trans ho3).trans ho4).trans ho5⟩
end Go.Proofs.YteljagaplpiopaaDoor
