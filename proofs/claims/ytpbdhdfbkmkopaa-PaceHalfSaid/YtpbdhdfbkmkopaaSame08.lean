/- What must come at any rate, and whether both are alike, of layer 8. -/
import Derived.Test.YtpbdhdfbkmkopaaDo08
namespace Go.Proofs.Ytpbdhdfbkmkopaa
open Go.RowKit
set_option linter.unusedVariables false
theorem got_nil (n : Int) (w : World) : Calls Try.prog 17 #[.pointer none, .int .i64 n] w fun e w' => e = .returned (.int .i64 1) ∧ w = w' := by
  go_enter Try.func17, Try.ntmps17
  go_wp2
  go_ret
  exact ⟨rfl, rfl⟩
theorem use_nil (n : Int) (w : World) : Calls Try.prog 15 #[.pointer none, .int .i64 n] w fun e w' => e = .returned (.int .i64 1) ∧ w = w' := by
  go_enter Try.func15, Try.ntmps15
  go_wp2
  go_ret
  exact ⟨rfl, rfl⟩
theorem resize_nil (n : Int) (w : World) : Calls Try.prog 18 #[.pointer none, .int .i64 n] w fun e w' => e = .returned (.int .i64 1) ∧ w = w' := by
  go_enter Try.func18, Try.ntmps18
  go_wp2
  go_ret
  exact ⟨rfl, rfl⟩
theorem due_nil (n : Int) (w : World) : Calls Try.prog 19 #[.pointer none] w fun e w' => e = .returned (.int .i64 0) ∧ w = w' := by
  go_enter Try.func19, Try.ntmps19
  go_wp2
  go_ret
  exact ⟨rfl, rfl⟩
theorem grant_nil (n : Int) (w : World) : Calls Try.prog 16 #[.pointer none] w fun e w' => e = .returned (.int .i64 0) ∧ w = w' := by
  go_enter Try.func16, Try.ntmps16
  go_wp2
  go_ret
  exact ⟨rfl, rfl⟩
theorem open_nil (n : Int) (w : World) : Calls Try.prog 12 #[.pointer none] w fun e w' => e = .returned (.int .i64 0) ∧ w = w' := by
  go_enter Try.func12, Try.ntmps12
  go_wp2
  go_ret
  exact ⟨rfl, rfl⟩
theorem kept_nil (n : Int) (w : World) : Calls Try.prog 13 #[.pointer none] w fun e w' => e = .returned (.int .i64 0) ∧ w = w' := by
  go_enter Try.func13, Try.ntmps13
  go_wp2
  go_ret
  exact ⟨rfl, rfl⟩
theorem granted_nil (n : Int) (w : World) : Calls Try.prog 20 #[.pointer none] w fun e w' => e = .returned (.int .i64 0) ∧ w = w' := by
  go_enter Try.func20, Try.ntmps20
  go_wp2
  go_ret
  exact ⟨rfl, rfl⟩
theorem most_nil (n : Int) (w : World) : Calls Try.prog 14 #[.pointer none] w fun e w' => e = .returned (.int .i64 0) ∧ w = w' := by
  go_enter Try.func14, Try.ntmps14
  go_wp2
  go_ret
  exact ⟨rfl, rfl⟩

theorem Open_only (b : Nat) (C M G T U : Int) (w : World) (hP : Pa w b C M G T U) (hs : smallK C G T U) : Calls Try.prog 12 #[.pointer (some ⟨b, 0, none⟩)] w (RdPost w (.int .i64 (G - U))) :=
  (Open_any b C M G T U w hP hs).mono fun _ _ ⟨he, n, hw⟩ => ⟨he, hw ▸ (Only.refl _ _).drewN _⟩

set_option maxHeartbeats 4000000 in
theorem same_any (b c : Nat) (C M G T U : Int) (w : World) (hP : Pa w b C M G T U) (hR : RPa w c C M G T U) (hs : smallK C G T U) :
    Calls Try.prog 11 #[.pointer (some ⟨b, 0, none⟩), .pointer (some ⟨c, 0, none⟩)] w (RdPost w (.bool true)) := by
  have h1 := fun (W : World) (h : Pa W b C M G T U) => Due_any b C M G T U W h hs
  have h2 := fun (W : World) (h : RPa W c C M G T U) => RDue_any c C M G T U W h hs
  obtain ⟨⟨_, _⟩, ⟨_, _⟩, ⟨_, _⟩, _, _⟩ := id hs
  have e1 : IntKind.i64.wrap (G - U) = G - U := IntWalk.i64_in _ (by omega)
  have e2 : IntKind.i64.wrap (T - U) = T - U := IntWalk.i64_in _ (by omega)
  generalize dueF C G U = D at h1 h2
  go_enter Try.func11, Try.ntmps11
  go_wp2
  go_region_held3 (fun w' => w'.cell? ⟨c, 1, none⟩ = some (.int .i64 M) ∧ w'.cell? ⟨c, 2, none⟩ = some (.int .i64 G) ∧ w'.cell? ⟨c, 3, none⟩ = some (.int .i64 T) ∧ w'.cell? ⟨c, 4, none⟩ = some (.int .i64 U)) (first | exact ⟨hR6.cell 1, hR6.cell 2, hR6.cell 3, hR6.cell 4⟩ | exact ⟨hR4.cell 1, hR4.cell 2, hR4.cell 3, hR4.cell 4⟩ | exact ⟨hR3.cell 1, hR3.cell 2, hR3.cell 3, hR3.cell 4⟩ | exact ⟨hR2.cell 1, hR2.cell 2, hR2.cell 3, hR2.cell 4⟩ | exact ⟨hR1.cell 1, hR1.cell 2, hR1.cell 3, hR1.cell 4⟩ | exact ⟨hR.cell 1, hR.cell 2, hR.cell 3, hR.cell 4⟩) (first
    | (go_at_call 19; (with_reducible refine (h1 _ (Blk.drew hP)).mono ?_); rintro e w1 ⟨rfl, ho1⟩; have hP1 := (Blk.drew hP).kept ho1 (fun hh => hh); have hR1 := (Blk.drew hR).kept ho1 (fun hh => hh))
    | (go_at_call 22; (with_reducible refine (h2 _ hR1).mono ?_); rintro e w2 ⟨rfl, ho2⟩; have hP2 := hP1.kept ho2 (fun hh => hh); have hR2 := hR1.kept ho2 (fun hh => hh))
    | (go_at_call 12; (with_reducible refine (Open_only b C M G T U _ hP2 hs).mono ?_); rintro e w3 ⟨rfl, ho3⟩; have hP3 := hP2.kept ho3 (fun hh => hh); have hR3 := hR2.kept ho3 (fun hh => hh))
    | (go_at_call 13; (with_reducible refine (Kept_any b C M G T U _ hP3 hs).mono ?_); rintro e w4 ⟨rfl, ho4⟩; have hP4 := hP3.kept ho4 (fun hh => hh); have hR4 := hR3.kept ho4 (fun hh => hh))
    | (go_at_call 20; (with_reducible refine (Granted_any b C M G T U _ hP4).mono ?_); rintro e w5 ⟨rfl, rfl⟩)
    | (go_at_call 14; (with_reducible refine (Most_any b C M G T U _ hP4).mono ?_); rintro e w6 ⟨rfl, rfl⟩)
    )
  all_goals
    go_wp2
    go_ret
    exact ⟨by first | rfl | simp, ((((Only.refl Nil w).drew.trans ho1).trans ho2).trans ho3).trans ho4⟩

set_option maxHeartbeats 4000000 in
theorem awake_any (w : World) : Calls Try.prog 8 #[] w fun e w' => e = .returned (.bool true) ∧ Only Nil w w' := by
  have s0 : smallK 10 10 0 0 := by unfold smallK; omega
  have s1 : smallK 10 10 6 0 := by unfold smallK; omega
  have s2 : smallK 10 10 6 4 := by unfold smallK; omega
  have s3 : smallK 10 10 6 5 := by unfold smallK; omega
  have s4 : smallK 10 15 6 5 := by unfold smallK; omega
  have d2 := fun (b : Nat) (W : World) (h : Pa W b 10 10 10 6 4) => Due_any b 10 10 10 6 4 W h s2
  have d3 := fun (b : Nat) (W : World) (h : Pa W b 10 10 10 6 5) => Due_any b 10 10 10 6 5 W h s3
  have d4 := fun (b : Nat) (W : World) (h : Pa W b 10 10 15 6 5) => Due_any b 10 10 15 6 5 W h s4
  have g3 := fun (b : Nat) (W : World) (h : Pa W b 10 10 10 6 5) => Grant_any b 10 10 10 6 5 W h s3
  rw [show dueF 10 10 4 = 0 by decide] at d2
  rw [show dueF 10 10 5 = 5 by decide] at d3 g3
  rw [show dueF 10 15 5 = 0 by decide] at d4
  go_enter Try.func8, Try.ntmps8
  go_wp2_with (first
    | (go_at_call 7; (with_reducible refine (New_any 10 _ (by omega) (by omega)).mono ?_); rintro e w1 ⟨b, rfl, hb, ho1, h1⟩)
    | (go_at_call 17; (with_reducible refine (got_ok b 10 10 10 0 0 6 _ h1 s0 (by omega) (by omega)).mono ?_); rintro e w2 ⟨rfl, ho2, h2⟩)
    | (go_at_call 15; (with_reducible refine (use_ok b 10 10 10 6 0 4 _ h2 s1 (by omega) (by omega)).mono ?_); rintro e w3 ⟨rfl, ho3, h3⟩)
    | (go_at_call 19; (with_reducible refine (d2 b _ h3).mono ?_); rintro e w4 ⟨rfl, ho4⟩; have h4 := Blk.kept h3 ho4 (fun hh => hh))
    | (go_at_call 15; (with_reducible refine (use_ok b 10 10 10 6 4 1 _ h4 s2 (by omega) (by omega)).mono ?_); rintro e w5 ⟨rfl, ho5, h5⟩)
    | (go_at_call 19; (with_reducible refine (d3 b _ h5).mono ?_); rintro e w6 ⟨rfl, ho6⟩; have h6 := Blk.kept h5 ho6 (fun hh => hh))
    | (go_at_call 16; (with_reducible refine (g3 b _ h6).mono ?_); rintro e w7 ⟨rfl, ho7, h7⟩)
    | (go_at_call 19; (with_reducible refine (d4 b _ h7).mono ?_); rintro e w8 ⟨rfl, ho8⟩; have h8 := Blk.kept h7 ho8 (fun hh => hh))
    | (go_at_call 12; (with_reducible refine (Open_only b 10 10 15 6 5 _ h8 s4).mono ?_); rintro e w9 ⟨rfl, ho9⟩; have h9 := Blk.kept h8 ho9 (fun hh => hh))
    | (go_at_call 13; (with_reducible refine (Kept_any b 10 10 15 6 5 _ h9 s4).mono ?_); rintro e w10 ⟨rfl, ho10⟩)
    )
  go_ret
  refine ⟨rfl, ?_⟩
  have hx : ∀ i, i < w.heap.size → One b i → Nil i := fun i hi hh => by unfold One at hh; omega
  exact ((((((((ho1.trans_new ho2 hx).trans_new ho3 hx).trans ho4).trans_new ho5 hx).trans ho6).trans_new ho7 hx).trans ho8).trans ho9).trans ho10
end Go.Proofs.Ytpbdhdfbkmkopaa
