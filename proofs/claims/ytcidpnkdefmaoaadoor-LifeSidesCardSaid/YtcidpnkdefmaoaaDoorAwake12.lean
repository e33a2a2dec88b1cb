/- What must come at any rate, of layer 12. -/
import Derived.Test.YtcidpnkdefmaoaaDoorLife
namespace Go.Proofs.YtcidpnkdefmaoaaDoor
open Go.RowKit

theorem Fol.kept {w w' : World} {S : Nat → Prop} (h : Fol w) (ho : Only S w w') (hg : ¬ S 0) : Fol w' := Tab.kept h ho hg
set_option maxHeartbeats 2000000 in
theorem awake_any (w : World) (h : Fol w) : Calls Tryd.prog 8 #[] w fun e w' => e = .returned (.bool true) ∧ Only Nil w w' := by
  have h0 := h.lt
  have s1 : okB 1 2 = true := by decide
  have s2 : okB 2 2 = false := by decide
  have s3 : okB 2 3 = true := by decide
  have k1 := fun (b : Nat) (W : World) (hf : Fol W) (hL : Lf W b 1) => MaySend_of _ 1 W hf (State_any b 1 W hL)
  have k2 := fun (b : Nat) (W : World) (hf : Fol W) (hL : Lf W b 2) => MaySend_of _ 2 W hf (State_any b 2 W hL)
  have k3 := fun (b : Nat) (W : World) (hf : Fol W) (hL : Lf W b 2) => MayRecv_of _ 2 W hf (State_any b 2 W hL)
  have k4 := fun (b : Nat) (W : World) (hL : Lf W b 4) => Done_of _ 4 W (State_any b 4 W hL)
  rw [s1] at k1
  rw [s2] at k2
  rw [s3] at k3
  clear s1 s2 s3
  go_enter Tryd.func8, Tryd.ntmps8
  go_wp2_with (first
    | (go_at_call 10; (with_reducible refine (New_any _).mono ?_); rintro e w1 ⟨b, rfl, hb, ho1, h1⟩; have t1 := h.kept ho1 (fun hh => hh); have hb0 : ¬ One b 0 := by unfold One; omega)
    | (go_at_call 11; (with_reducible refine (Event_at b 0 0 0 1 _ t1 h1 (by decide) (by decide)).mono ?_); rintro e w2 ⟨rfl, ho2, h2⟩; have t2 := t1.kept ho2 hb0)
    | (go_at_call 13; (with_reducible refine (k1 b _ t2 h2).mono ?_); rintro e w3 ⟨rfl, ho3⟩; have t3 := t2.kept ho3 (fun hh => hh); have h3 := Blk.kept h2 ho3 (fun hh => hh))
    | (go_at_call 11; (with_reducible refine (Event_at b 1 2 0 2 _ t3 h3 (by decide) (by decide)).mono ?_); rintro e w4 ⟨rfl, ho4, h4⟩; have t4 := t3.kept ho4 hb0)
    | (go_at_call 13; (with_reducible refine (k2 b _ t4 h4).mono ?_); rintro e w5 ⟨rfl, ho5⟩; have t5 := t4.kept ho5 (fun hh => hh); have h5 := Blk.kept h4 ho5 (fun hh => hh))
    | (go_at_call 14; (with_reducible refine (k3 b _ t5 h5).mono ?_); rintro e w6 ⟨rfl, ho6⟩; have t6 := t5.kept ho6 (fun hh => hh); have h6 := Blk.kept h5 ho6 (fun hh => hh))
    | (go_at_call 11; (with_reducible refine (Event_at b 2 3 0 4 _ t6 h6 (by decide) (by decide)).mono ?_); rintro e w7 ⟨rfl, ho7, h7⟩)
    | (go_at_call 15; (with_reducible refine (k4 b _ h7).mono ?_); rintro e w8 ⟨rfl, rfl⟩)
    )
  go_ret
  refine ⟨rfl, ?_⟩
  have hx : ∀ i, i < w.heap.size → One b i → Nil i := fun i hi hh => by unfold One at hh; omega
  exact (((((ho1.trans_new ho2 hx).trans ho3).trans_new ho4 hx).trans ho5).trans ho6).trans_new ho7 hx
end Go.Proofs.YtcidpnkdefmaoaaDoor
