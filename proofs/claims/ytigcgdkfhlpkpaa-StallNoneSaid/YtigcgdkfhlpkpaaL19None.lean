/- For every tick: a nil stall never fires, nor one that is off (the statement StallNone, as it is given). No condition. -/
import Derived.Test.YtigcgdkfhlpkpaaL19Only
namespace Go.Proofs.Ytigcgdkfhlpkpaa
open Go.RowKit

set_option maxHeartbeats 2000000 in
theorem stallNone_walk (v0 v1 : Value) (w : World) (h0 : Kd.Fit w (.int .i64) v0) (h1 : Kd.Fit w .bool v1) :
    Calls Try.prog 4 #[v0, v1] w fun e w' => e = .returned (.bool true) ∧ Below w.heap.size w w' := by
  obtain ⟨t, rfl, _⟩ := Kd.int_fit h0
  obtain ⟨bl, rfl⟩ := Kd.bool_fit h1
  clear h0 h1
  go_enter Try.func4, Try.ntmps4
  go_wp2_with (first
    | (go_at_call 7; (with_reducible refine (Credit_nil _ _).mono ?_); rintro e w0 ⟨rfl, rfl⟩)
    | (go_at_call 5; (with_reducible refine (New_any _ _ (by omega) (by omega)).mono ?_); rintro e w1 ⟨b, rfl, hb, ho1, h1⟩)
    | (go_at_call 9; (with_reducible refine (Since_nil _).mono ?_); rintro e w2 ⟨rfl, rfl⟩)
    | (go_at_call 6; (with_reducible refine (awake_any _).mono ?_); rintro e w3 ⟨rfl, ho3⟩; have h3 := h1.kept ho3 (fun hh => hh))
    | (go_at_call 8; (with_reducible refine (Step_nil _ _ _).mono ?_); rintro e w4 ⟨rfl, rfl⟩)
    | (go_at_call 8; (with_reducible refine (Step_off b _ _ _ _ _ _ _ h3).mono ?_); rintro e w5 ⟨rfl, rfl⟩)
    | (go_at_call 10; (with_reducible refine (Fired_nil _).mono ?_); rintro e w6 ⟨rfl, rfl⟩)
    | (go_at_call 10; (with_reducible refine (Fired_any b _ _ _ _ _ _ h3).mono ?_); rintro e w7 ⟨rfl, rfl⟩)
    )
  go_ret
  exact ⟨rfl, (ho1.trans ho3).below (Nat.le_refl _) (fun _ _ hh => hh)⟩
/-! The step from the walk to the statement of StallNone. -/
namespace frStallNone
open Go.ChangeShapes Go.WideShapes Go.ChangeAt Go.RowKit
set_option linter.unusedVariables false
theorem own : ownKnob Try.prog.godebug = none := by kernel_rfl
theorem laidOut : laidOutB Try.prog = true := by kernel_rfl
theorem shape0 : Kd.ok Try.prog (.int .i64) 3 = true := by kernel_rfl
theorem shape1 : Kd.ok Try.prog (.bool) 4 = true := by kernel_rfl
set_option maxRecDepth 100000 in
theorem contract (H : Type) (enc : TypeId × Value → H) (W : World) (base : Nat) (args : Array Value) (ds gs : List (DataW H)) (before : List MemPlace)
    (hval : ∀ (j : Nat) t v, Try.f4.params[j]? = some t → args[j]? = some v → Value.okWide Try.prog W .any base t v)
    (hW : DataW.Whole enc Try.prog Try.f4.params.toList Rows.stallNoneSpec.vars false W args.toList ds gs before) :
    Calls Try.prog 4 args W fun e W' => ∃ v, e = .returned v ∧ Rows.stallNoneSpec.post enc Try.prog Try.f4 false true false false W args v W' := by
  have hW' := hW
  obtain ⟨p, q, hA0, hV, rfl, hfz, hnd⟩ := hW
  have hA : DataW.TrodAll enc Try.prog W 0 (fun _ => true) true Try.f4.params.toList args.toList ds p := hA0
  rw [Try.params4] at hA hval
  obtain ⟨v0, vs0, d0, ds0, p0, q0, hargs, rfl, rfl, h0, r0⟩ := trodAll_cons hA
  obtain ⟨v1, vs1, d1, ds1, p1, q1, rfl, rfl, rfl, h1, r1⟩ := trodAll_cons r0
  obtain ⟨rfl, rfl, rfl⟩ := trodAll_nil r1
  obtain rfl : args = #[v0, v1] := by cases args; simp_all
  obtain ⟨rfl, rfl⟩ := trodVars_none hV
  have k0 := Kd.fit _ shape0 (hval 0 3 v0 rfl rfl) h0
  have lt0 : ∀ x ∈ p0, x.block < W.heap.size := by obtain ⟨m, hm⟩ := h0; exact DataW.trod_lt m _ _ _ hm
  have k1 := Kd.fit _ shape1 (hval 1 4 v1 rfl rfl) h1
  have lt1 : ∀ x ∈ p1, x.block < W.heap.size := by obtain ⟨m, hm⟩ := h1; exact DataW.trod_lt m _ _ _ hm
  refine (stallNone_walk v0 v1 W k0 k1).mono fun e W' ⟨he, bel⟩ => ?_
  subst he
  exact ⟨_, rfl, _, _, _, [], _, [], hW', trodAll_mk1 (shut_bool Try.underlying4 _), (trodAll_cons_mk (Below.trod laidOut (by kernel_rfl) (of_decide_eq_true (by kernel_rfl)) h0 bel lt0) (trodAll_cons_mk (Below.trod laidOut (by kernel_rfl) (of_decide_eq_true (by kernel_rfl)) h1 bel lt1) trodAll_mk0)), rfl, bel.frame _, fun h => by cases h⟩
set_option maxRecDepth 100000 in
theorem lifted (os : Os) (started : os.Started) (H : Type) (enc : TypeId × Value → H) :
    ReturnsInHanded {} Try.checked os 4 .any (Rows.stallNoneSpec.pre6 enc Try.prog Try.f4 Rows.stallNoneRow.domain false) (Rows.stallNoneSpec.post enc Try.prog Try.f4 false true false false) := by
  refine returnsInHanded_of_change (C := Try.checked) own started (by kernel_rfl) Try.func4
    (ChangeSpec.witness6 (enc := enc) (C := Try.checked) false ⟨#[], #[.int .i64 0, .bool false], []⟩ 8 (by kernel_rfl) (by kernel_rfl) (by kernel_rfl) (by kernel_rfl)) ?_
  intro W base args ds gs before hval hW _ _
  exact contract H enc W base args ds gs before hval hW
theorem over : Rows.stallNoneRow.holds Try.pinned (OpenSpec.ofChange Rows.stallNoneSpec) :=
  OpenClaim.holds_of_wide 4 Try.f4 rfl rfl rfl rfl rfl rfl rfl ⟨rfl, rfl, rfl, rfl, rfl⟩ rfl rfl rfl rfl rfl (by kernel_rfl) Try.func4 (by kernel_rfl)
    (of_decide_eq_true (by kernel_rfl)) (by unfold Func.isWrapper; first | (rw [if_pos (by decide +kernel)]; kernel_rfl) | (rw [if_neg (by decide +kernel)]; exact ⟨rfl, rfl⟩))
    (fun os started H enc _ => lifted os started H enc)
theorem proved : Rows.StallNoneSaid := over
end frStallNone
end Go.Proofs.Ytigcgdkfhlpkpaa
