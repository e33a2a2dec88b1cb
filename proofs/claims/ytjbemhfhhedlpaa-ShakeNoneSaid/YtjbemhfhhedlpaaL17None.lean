/- For all settings: a nil shake has nothing (the statement ShakeNone, as it is given). No condition. -/
import Derived.Test.YtjbemhfhhedlpaaAwake17
namespace Go.Proofs.Ytjbemhfhhedlpaa
open Go.RowKit

set_option maxRecDepth 100000 in
set_option maxHeartbeats 8000000 in
theorem shakeNone_walk (v0 : Value) (w : World) (h0 : Kd.Fit w (.agg [.int .i64, .int .i64, .int .i64]) v0) :
    Calls Try.prog 4 #[v0] w fun e w' => e = .returned (.bool true) ∧ Below w.heap.size w w' := by
  obtain ⟨a, b, c, rfl, _, _, _⟩ := Kd.ints3 h0
  clear h0
  go_enter Try.func4, Try.ntmps4
  go_wp2_with (first
    | (go_at_call 8; (with_reducible refine (Send_nil ⟨a, b, c⟩ _).mono ?_); rintro e w1 ⟨rfl, ho1⟩)
    | (go_at_call 7; (with_reducible refine (Ack_nil _).mono ?_); rintro e w2 ⟨rfl, ho2⟩)
    )
  have hx3 := (((Only.refl Nil w2).alloc (.cells #[.int .i64 0, .int .i64 0, .int .i64 0] 27)).alloc (.cells #[.int .i64 0, .int .i64 0, .int .i64 0] 27)).alloc (.cells #[.int .i64 0, .int .i64 0, .int .i64 0] 27)
  have r3 : Sb _ w2.heap.size ⟨0, 0, 0⟩ := ((Blk.new w2 27 #[.int .i64 0, .int .i64 0, .int .i64 0]).alloc (.cells #[.int .i64 0, .int .i64 0, .int .i64 0] 27)).alloc (.cells #[.int .i64 0, .int .i64 0, .int .i64 0] 27)
  have q3 : Sb _ (w2.heap.size + 1) ⟨0, 0, 0⟩ := (by simpa using Blk.new (w2.alloc (.cells #[.int .i64 0, .int .i64 0, .int .i64 0] 27)) 27 #[.int .i64 0, .int .i64 0, .int .i64 0] : Sb _ (w2.heap.size + 1) ⟨0, 0, 0⟩).alloc (.cells #[.int .i64 0, .int .i64 0, .int .i64 0] 27)
  have p3 : Sb ((w2.alloc (.cells #[.int .i64 0, .int .i64 0, .int .i64 0] 27)).alloc (.cells #[.int .i64 0, .int .i64 0, .int .i64 0] 27) |>.alloc (.cells #[.int .i64 0, .int .i64 0, .int .i64 0] 27)) (w2.heap.size + 1 + 1) ⟨0, 0, 0⟩ := by simpa using Blk.new ((w2.alloc (.cells #[.int .i64 0, .int .i64 0, .int .i64 0] 27)).alloc (.cells #[.int .i64 0, .int .i64 0, .int .i64 0] 27)) 27 #[.int .i64 0, .int .i64 0, .int .i64 0]
  have r4 := Blk.drew r3
  have q4 := Blk.drew q3
  have p4 := Blk.drew p3
  go_region_held3 (fun w' => (w'.cell? ⟨w2.heap.size, 0, none⟩ = some (.int .i64 0) ∧ w'.cell? ⟨w2.heap.size, 1, none⟩ = some (.int .i64 0) ∧ w'.cell? ⟨w2.heap.size, 2, none⟩ = some (.int .i64 0)) ∧ (w'.cell? ⟨w2.heap.size + 1, 0, none⟩ = some (.int .i64 0) ∧ w'.cell? ⟨w2.heap.size + 1, 1, none⟩ = some (.int .i64 0) ∧ w'.cell? ⟨w2.heap.size + 1, 2, none⟩ = some (.int .i64 0)) ∧ (w'.cell? ⟨w2.heap.size + 1 + 1, 0, none⟩ = some (.int .i64 0) ∧ w'.cell? ⟨w2.heap.size + 1 + 1, 1, none⟩ = some (.int .i64 0) ∧ w'.cell? ⟨w2.heap.size + 1 + 1, 2, none⟩ = some (.int .i64 0))) (first | exact ⟨Sb.facts (q := ⟨0, 0, 0⟩) r8, Sb.facts (q := ⟨0, 0, 0⟩) q8, Sb.facts (q := ⟨0, 0, 0⟩) p8⟩ | exact ⟨Sb.facts (q := ⟨0, 0, 0⟩) r7, Sb.facts (q := ⟨0, 0, 0⟩) q7, Sb.facts (q := ⟨0, 0, 0⟩) p7⟩ | exact ⟨Sb.facts (q := ⟨0, 0, 0⟩) r6, Sb.facts (q := ⟨0, 0, 0⟩) q6, Sb.facts (q := ⟨0, 0, 0⟩) p6⟩ | exact ⟨Sb.facts (q := ⟨0, 0, 0⟩) r5, Sb.facts (q := ⟨0, 0, 0⟩) q5, Sb.facts (q := ⟨0, 0, 0⟩) p5⟩ | exact ⟨Sb.facts (q := ⟨0, 0, 0⟩) r4, Sb.facts (q := ⟨0, 0, 0⟩) q4, Sb.facts (q := ⟨0, 0, 0⟩) p4⟩) (first
    | (go_at_call 14; (with_reducible refine (Most_nil _).mono ?_); rintro e w8 ⟨rfl, ho8⟩; have r8 : Sb _ _ ⟨0, 0, 0⟩ := Blk.kept r7 ho8 (fun hh => hh); have q8 : Sb _ _ ⟨0, 0, 0⟩ := Blk.kept q7 ho8 (fun hh => hh); have p8 : Sb _ _ ⟨0, 0, 0⟩ := Blk.kept p7 ho8 (fun hh => hh))
    | (go_at_call 13; (with_reducible refine (Latest_nil _).mono ?_); rintro e w7 ⟨rfl, ho7⟩; have r7 : Sb _ _ ⟨0, 0, 0⟩ := Blk.kept r6 ho7 (fun hh => hh); have q7 : Sb _ _ ⟨0, 0, 0⟩ := Blk.kept q6 ho7 (fun hh => hh); have p7 : Sb _ _ ⟨0, 0, 0⟩ := Blk.kept p6 ho7 (fun hh => hh))
    | (go_at_call 12; (with_reducible refine (Holds_nil _).mono ?_); rintro e w6 ⟨rfl, ho6⟩; have r6 : Sb _ _ ⟨0, 0, 0⟩ := Blk.kept r5 ho6 (fun hh => hh); have q6 : Sb _ _ ⟨0, 0, 0⟩ := Blk.kept q5 ho6 (fun hh => hh); have p6 : Sb _ _ ⟨0, 0, 0⟩ := Blk.kept p5 ho6 (fun hh => hh))
    | (go_at_call 6; (with_reducible refine (awake_any _).mono ?_); rintro e w5 ⟨rfl, hb5⟩; have ho5 := Only.of_below hb5; have r5 : Sb _ _ ⟨0, 0, 0⟩ := Blk.kept r4 ho5 (fun hh => hh); have q5 : Sb _ _ ⟨0, 0, 0⟩ := Blk.kept q4 ho5 (fun hh => hh); have p5 : Sb _ _ ⟨0, 0, 0⟩ := Blk.kept p4 ho5 (fun hh => hh))
    | (go_at_call 15; (with_reducible refine (Waiting_nil _).mono ?_); rintro e w9 ⟨rfl, rfl⟩)
    )
  all_goals
    go_wp2
    go_ret
    exact ⟨rfl, ((((((((Only.refl Nil w).alloc (.cells #[.int .i64 a, .int .i64 b, .int .i64 c] 27)).trans ho1).trans ho2).trans hx3).drew.trans ho5).trans ho6).trans ho7 |>.trans ho8).below (Nat.le_refl _) (fun _ _ hh => hh)⟩
/-! The step from the walk to the statement of ShakeNone. -/
namespace frShakeNone
open Go.ChangeShapes Go.WideShapes Go.ChangeAt Go.RowKit
set_option linter.unusedVariables false
theorem own : ownKnob Try.prog.godebug = none := by kernel_rfl
theorem laidOut : laidOutB Try.prog = true := by kernel_rfl
theorem shape0 : Kd.ok Try.prog (.agg [.int .i64, .int .i64, .int .i64]) 27 = true := by kernel_rfl
set_option maxRecDepth 100000 in
theorem contract (H : Type) (enc : TypeId × Value → H) (W : World) (base : Nat) (args : Array Value) (ds gs : List (DataW H)) (before : List MemPlace)
    (hval : ∀ (j : Nat) t v, Try.f4.params[j]? = some t → args[j]? = some v → Value.okWide Try.prog W .any base t v)
    (hW : DataW.Whole enc Try.prog Try.f4.params.toList Rows.shakeNoneSpec.vars false W args.toList ds gs before) :
    Calls Try.prog 4 args W fun e W' => ∃ v, e = .returned v ∧ Rows.shakeNoneSpec.post enc Try.prog Try.f4 false true false false W args v W' := by
  have hW' := hW
  obtain ⟨p, q, hA0, hV, rfl, hfz, hnd⟩ := hW
  have hA : DataW.TrodAll enc Try.prog W 0 (fun _ => true) true Try.f4.params.toList args.toList ds p := hA0
  rw [Try.params4] at hA hval
  obtain ⟨v0, vs0, d0, ds0, p0, q0, hargs, rfl, rfl, h0, r0⟩ := trodAll_cons hA
  obtain ⟨rfl, rfl, rfl⟩ := trodAll_nil r0
  obtain rfl : args = #[v0] := by cases args; simp_all
  obtain ⟨rfl, rfl⟩ := trodVars_none hV
  have k0 := Kd.fit _ shape0 (hval 0 27 v0 rfl rfl) h0
  have lt0 : ∀ x ∈ p0, x.block < W.heap.size := by obtain ⟨m, hm⟩ := h0; exact DataW.trod_lt m _ _ _ hm
  refine (shakeNone_walk v0 W k0).mono fun e W' ⟨he, bel⟩ => ?_
  subst he
  exact ⟨_, rfl, _, _, _, [], _, [], hW', trodAll_mk1 (shut_bool Try.underlying4 _), (trodAll_cons_mk (Below.trod laidOut (by kernel_rfl) (of_decide_eq_true (by kernel_rfl)) h0 bel lt0) trodAll_mk0), rfl, bel.frame _, fun h => by cases h⟩
set_option maxRecDepth 100000 in
theorem lifted (os : Os) (started : os.Started) (H : Type) (enc : TypeId × Value → H) :
    ReturnsInHanded {} Try.checked os 4 .any (Rows.shakeNoneSpec.pre6 enc Try.prog Try.f4 Rows.shakeNoneRow.domain false) (Rows.shakeNoneSpec.post enc Try.prog Try.f4 false true false false) := by
  refine returnsInHanded_of_change (C := Try.checked) own started (by kernel_rfl) Try.func4
    (ChangeSpec.witness6 (enc := enc) (C := Try.checked) false ⟨#[], #[.agg #[.int .i64 0, .int .i64 0, .int .i64 0]], []⟩ 8 (by kernel_rfl) (by kernel_rfl) (by kernel_rfl) (by kernel_rfl)) ?_
  intro W base args ds gs before hval hW _ _
  exact contract H enc W base args ds gs before hval hW
theorem over : Rows.shakeNoneRow.holds Try.pinned (OpenSpec.ofChange Rows.shakeNoneSpec) :=
  OpenClaim.holds_of_wide 4 Try.f4 rfl rfl rfl rfl rfl rfl rfl ⟨rfl, rfl, rfl, rfl, rfl⟩ rfl rfl rfl rfl rfl (by kernel_rfl) Try.func4 (by kernel_rfl)
    (of_decide_eq_true (by kernel_rfl)) (by unfold Func.isWrapper; first | (rw [if_pos (by decide +kernel)]; kernel_rfl) | (rw [if_neg (by decide +kernel)]; exact ⟨rfl, rfl⟩))
    (fun os started H enc _ => lifted os started H enc)
theorem proved : Rows.ShakeNoneSaid := over
end frShakeNone
end Go.Proofs.Ytjbemhfhhedlpaa
