/- For every call: a nil drain is over (the statement DrainNone, as it is given). No condition. -/
import Derived.Test.YtmlbbjcgcdkffaaAwake20
namespace Go.Proofs.Ytmlbbjcgcdkffaa
open Go.RowKit

set_option linter.unusedVariables false
theorem send_nil (n c : Int) (w : World) : Calls Try.prog 17 #[.pointer none, .int .i64 n] w fun e w' => e = .returned (.int .i64 1) ∧ w = w' := by
  go_enter Try.func17, Try.ntmps17
  go_wp2
  first | go_ret | go_ret2
  exact ⟨rfl, rfl⟩
theorem got_nil (n c : Int) (w : World) : Calls Try.prog 16 #[.pointer none, .int .i64 n, .int .i64 c] w fun e w' => e = .returned (.int .i64 1) ∧ w = w' := by
  go_enter Try.func16, Try.ntmps16
  go_wp2
  first | go_ret | go_ret2
  exact ⟨rfl, rfl⟩
theorem fail_nil (n c : Int) (w : World) : Calls Try.prog 18 #[.pointer none, .int .i64 n] w fun e w' => e = .returned (.int .i64 1) ∧ w = w' := by
  go_enter Try.func18, Try.ntmps18
  go_wp2
  first | go_ret | go_ret2
  exact ⟨rfl, rfl⟩
theorem may_nil (n c : Int) (w : World) : Calls Try.prog 12 #[.pointer none] w fun e w' => e = .returned (.bool false) ∧ w = w' := by
  go_enter Try.func12, Try.ntmps12
  go_wp2
  first | go_ret | go_ret2
  exact ⟨rfl, rfl⟩
theorem takes_nil (n c : Int) (w : World) : Calls Try.prog 13 #[.pointer none, .int .i64 n] w fun e w' => e = .returned (.bool false) ∧ w = w' := by
  go_enter Try.func13, Try.ntmps13
  go_wp2
  first | go_ret | go_ret2
  exact ⟨rfl, rfl⟩
theorem refused_nil (n c : Int) (w : World) : Calls Try.prog 14 #[.pointer none, .int .i64 n] w fun e w' => e = .returned (.bool false) ∧ w = w' := by
  go_enter Try.func14, Try.ntmps14
  go_wp2
  first | go_ret | go_ret2
  exact ⟨rfl, rfl⟩
theorem step_nil (n c : Int) (w : World) : Calls Try.prog 15 #[.pointer none, .int .i64 n] w fun e w' => e = .returned (.bool true) ∧ w = w' := by
  go_enter Try.func15, Try.ntmps15
  go_wp2
  first | go_ret | go_ret2
  exact ⟨rfl, rfl⟩
theorem over_nil (n c : Int) (w : World) : Calls Try.prog 9 #[.pointer none] w fun e w' => e = .returned (.tuple #[.bool true, .int .i64 0]) ∧ w = w' := by
  go_enter Try.func9, Try.ntmps9
  go_wp2
  first | go_ret | go_ret2
  exact ⟨rfl, rfl⟩
theorem sent_nil (n c : Int) (w : World) : Calls Try.prog 11 #[.pointer none] w fun e w' => e = .returned (.tuple #[.int .i64 0, .bool false]) ∧ w = w' := by
  go_enter Try.func11, Try.ntmps11
  go_wp2
  first | go_ret | go_ret2
  exact ⟨rfl, rfl⟩

set_option maxHeartbeats 2000000 in
theorem drainNone_walk (v0 : Value) (w : World) (h0 : Kd.Fit w (.agg [.int .i64, .int .i64, .int .i64]) v0) :
    Calls Try.prog 5 #[v0] w fun e w' => e = .returned (.bool true) ∧ Below w.heap.size w w' := by
  obtain ⟨kd, n, c, rfl, _, _, _⟩ := Kd.ints3 h0
  clear h0
  have hA : Blk (w.alloc (.cells #[.int .i64 kd, .int .i64 n, .int .i64 c] 32)) w.heap.size 32 #[.int .i64 kd, .int .i64 n, .int .i64 c] := Blk.new _ _ _
  go_enter Try.func5, Try.ntmps5
  go_wp2_with (first
    | (go_at_call 9; (with_reducible refine (over_nil 0 0 _).mono ?_); rintro e w0 ⟨rfl, rfl⟩)
    | (go_at_call 11; (with_reducible refine (sent_nil 0 0 _).mono ?_); rintro e w0 ⟨rfl, rfl⟩)
    | (go_at_call 8; (with_reducible refine (awake_any _).mono ?_); rintro e w1 ⟨rfl, ho1⟩; have hA1 := hA.kept ho1 (fun hh => hh); have l1 : w1.cell? ⟨w.heap.size, 1, none⟩ = some (.int .i64 n) := hA1.cell 1; have l2 : w1.cell? ⟨w.heap.size, 2, none⟩ = some (.int .i64 c) := hA1.cell 2)
    | (go_at_call 17; (with_reducible refine (send_nil _ 0 _).mono ?_); rintro e w0 ⟨rfl, rfl⟩)
    | (go_at_call 16; (with_reducible refine (got_nil _ _ _).mono ?_); rintro e w0 ⟨rfl, rfl⟩)
    | (go_at_call 18; (with_reducible refine (fail_nil _ 0 _).mono ?_); rintro e w0 ⟨rfl, rfl⟩)
    | (go_at_call 12; (with_reducible refine (may_nil 0 0 _).mono ?_); rintro e w0 ⟨rfl, rfl⟩)
    | (go_at_call 13; (with_reducible refine (takes_nil _ 0 _).mono ?_); rintro e w0 ⟨rfl, rfl⟩)
    | (go_at_call 14; (with_reducible refine (refused_nil _ 0 _).mono ?_); rintro e w0 ⟨rfl, rfl⟩)
    | (go_at_call 15; (with_reducible refine (step_nil _ 0 _).mono ?_); rintro e w0 ⟨rfl, rfl⟩)
    )
  go_ret
  exact ⟨rfl, (((Only.refl Nil w).alloc _).trans ho1).below (Nat.le_refl _) (fun _ _ hh => hh)⟩
/-! The step from the walk to the statement of DrainNone. -/
namespace frDrainNone
open Go.ChangeShapes Go.WideShapes Go.ChangeAt Go.RowKit
set_option linter.unusedVariables false
theorem own : ownKnob Try.prog.godebug = none := by kernel_rfl
theorem laidOut : laidOutB Try.prog = true := by kernel_rfl
theorem shape0 : Kd.ok Try.prog (.agg [.int .i64, .int .i64, .int .i64]) 32 = true := by kernel_rfl
set_option maxRecDepth 100000 in
theorem contract (H : Type) (enc : TypeId × Value → H) (W : World) (base : Nat) (args : Array Value) (ds gs : List (DataW H)) (before : List MemPlace)
    (hval : ∀ (j : Nat) t v, Try.f5.params[j]? = some t → args[j]? = some v → Value.okWide Try.prog W .any base t v)
    (hW : DataW.Whole enc Try.prog Try.f5.params.toList Rows.drainNoneSpec.vars false W args.toList ds gs before) :
    Calls Try.prog 5 args W fun e W' => ∃ v, e = .returned v ∧ Rows.drainNoneSpec.post enc Try.prog Try.f5 false true false false W args v W' := by
  have hW' := hW
  obtain ⟨p, q, hA0, hV, rfl, hfz, hnd⟩ := hW
  have hA : DataW.TrodAll enc Try.prog W 0 (fun _ => true) true Try.f5.params.toList args.toList ds p := hA0
  rw [Try.params5] at hA hval
  obtain ⟨v0, vs0, d0, ds0, p0, q0, hargs, rfl, rfl, h0, r0⟩ := trodAll_cons hA
  obtain ⟨rfl, rfl, rfl⟩ := trodAll_nil r0
  obtain rfl : args = #[v0] := by cases args; simp_all
  obtain ⟨rfl, rfl⟩ := trodVars_none hV
  have k0 := Kd.fit _ shape0 (hval 0 32 v0 rfl rfl) h0
  have lt0 : ∀ x ∈ p0, x.block < W.heap.size := by obtain ⟨m, hm⟩ := h0; exact DataW.trod_lt m _ _ _ hm
  refine (drainNone_walk v0 W k0).mono fun e W' ⟨he, bel⟩ => ?_
  subst he
  exact ⟨_, rfl, _, _, _, [], _, [], hW', trodAll_mk1 (shut_bool Try.underlying4 _), (trodAll_cons_mk (Below.trod laidOut (by kernel_rfl) (of_decide_eq_true (by kernel_rfl)) h0 bel lt0) trodAll_mk0), rfl, bel.frame _, fun h => by cases h⟩
set_option maxRecDepth 100000 in
theorem lifted (os : Os) (started : os.Started) (H : Type) (enc : TypeId × Value → H) :
    ReturnsInHanded {} Try.checked os 5 .any (Rows.drainNoneSpec.pre6 enc Try.prog Try.f5 Rows.drainNoneRow.domain false) (Rows.drainNoneSpec.post enc Try.prog Try.f5 false true false false) := by
  refine returnsInHanded_of_change (C := Try.checked) own started (by kernel_rfl) Try.func5
    (ChangeSpec.witness6 (enc := enc) (C := Try.checked) false ⟨#[], #[.agg #[.int .i64 0, .int .i64 0, .int .i64 0]], []⟩ 8 (by kernel_rfl) (by kernel_rfl) (by kernel_rfl) (by kernel_rfl)) ?_
  intro W base args ds gs before hval hW _ _
  exact contract H enc W base args ds gs before hval hW
theorem over : Rows.drainNoneRow.holds Try.pinned (OpenSpec.ofChange Rows.drainNoneSpec) :=
  OpenClaim.holds_of_wide 5 Try.f5 rfl rfl rfl rfl rfl rfl rfl ⟨rfl, rfl, rfl, rfl, rfl⟩ rfl rfl rfl rfl rfl (by kernel_rfl) Try.func5 (by kernel_rfl)
    (of_decide_eq_true (by kernel_rfl)) (by unfold Func.isWrapper; first | (rw [if_pos (by decide +kernel)]; kernel_rfl) | (rw [if_neg (by decide +kernel)]; exact ⟨rfl, rfl⟩))
    (fun os started H enc _ => lifted os started H enc)
theorem proved : Rows.DrainNoneSaid := over
end frDrainNone
end Go.Proofs.Ytmlbbjcgcdkffaa
