/- For every call and every number: a nil window has nothing; a copy goes its own way (the statement WindowNone, as it is given). No condition. -/
import Derived.Test.YtcokkomfhjdbcaaDo05
import Derived.Test.YtcokkomfhjdbcaaArgs
namespace Go.Proofs.Ytcokkomfhjdbcaa
open Go.RowKit

set_option maxHeartbeats 1000000 in
theorem windowNone_walk (v0 v1 : Value) (w : World) (h0 : Kd.Fit w (.agg [.int .i64, .int .i64, .int .i64]) v0) (h1 : Kd.Fit w (.int .u32) v1) :
    Calls Try.prog 5 #[v0, v1] w fun e w' => e = .returned (.bool true) ∧ Below w.heap.size w w' := by
  obtain ⟨kd, k, t, rfl, _, hk, ht⟩ := Kd.ints3 h0
  obtain ⟨n, rfl, hn⟩ := Kd.int_fit h1
  have hk' := i64Ok_of hk
  have ht' := i64Ok_of ht
  obtain ⟨hn1, hn2⟩ := u32_of hn
  clear hk ht h0 h1 hn
  go_enter Try.func5, Try.ntmps5
  have hA : Blk (w.alloc (.cells #[.int .i64 kd, .int .i64 k, .int .i64 t] 31)) w.heap.size 31 #[.int .i64 kd, .int .i64 k, .int .i64 t] := Blk.new _ _ _
  go_wp2_with (first
    | (go_at_call 6; refine (new_any _ _ (by omega)).mono ?_; rintro e w1 ⟨b, rfl, hb, ho1, hW1⟩; have hA1 := hA.kept ho1 id)
    | (go_at_call 14; refine (Copy_any b _ _ hW1).mono ?_; rintro e w2 ⟨c, rfl, hc, ho2, hW2⟩; have hx2 := hW1.kept ho2 id; have hbc : b ≠ c := by have := hW1.lt; omega))
  have hA2 := hA1.kept ho2 id
  have l2 : w2.cell? ⟨w.heap.size, 0, none⟩ = some (.int .i64 kd) := hA2.cell 0
  have l2b : w2.cell? ⟨w.heap.size, 1, none⟩ = some (.int .i64 k) := hA2.cell 1
  have l2c : w2.cell? ⟨w.heap.size, 2, none⟩ = some (.int .i64 t) := hA2.cell 2
  have hA1lt : w.heap.size < w1.heap.size := hA1.lt
  clear hA hA1
  go_region_with (first
    | (go_at_call 9; refine (Size_any c _ _ hW2.drew).mono ?_; rintro e w2' ⟨rfl, rfl⟩)
    | (go_at_call 8; refine (do_any c _ kd k t _ hW2.drew ⟨by omega, by omega⟩ hk' ht').mono ?_; rintro e w3 ⟨rfl, ho3, hW3⟩; have hx3 := hx2.drew.kept ho3 hbc))
  all_goals
    have hA3 := hA2.drew.kept ho3 (by unfold One; have := hA2.lt; have := hA1lt; omega)
    clear l2 l2b l2c hA2
    go_wp2_with (first
      | (go_at_call 7; refine (awake_any _).mono ?_; rintro e w4 ⟨rfl, ho4⟩; have hx4 := hx3.kept ho4 id; have hA4 := hA3.kept ho4 id; have l2b : w4.cell? ⟨w.heap.size, 1, none⟩ = some (.int .i64 k) := hA4.cell 1; have l2c : w4.cell? ⟨w.heap.size, 2, none⟩ = some (.int .i64 t) := hA4.cell 2; clear hA3 hA4)
      | (go_at_call 11; refine (grow_nil _ _).mono ?_; rintro e w5 ⟨rfl, rfl⟩)
      | (go_at_call 13; refine (spend_nil _ _).mono ?_; rintro e w6 ⟨rfl, rfl⟩)
      | (go_at_call 12; refine (resize_nil _ _ _).mono ?_; rintro e w7 ⟨rfl, rfl⟩)
      | (go_at_call 9; refine (Size_nil _).mono ?_; rintro e w8 ⟨rfl, rfl⟩)
      | (go_at_call 10; refine (Free_nil _).mono ?_; rintro e w9 ⟨rfl, rfl⟩)
      | (go_at_call 14; refine (Copy_nil _).mono ?_; rintro e w10 ⟨rfl, rfl⟩)
      | (go_at_call 9; refine (Size_any b _ _ hx4).mono ?_; rintro e w11 ⟨rfl, rfl⟩))
    go_ret
    refine ⟨rfl, ?_⟩
    have hb1 : w.heap.size ≤ c := by have := ho1.size; simp at this; omega
    have h0 : Only Nil w (w.alloc (.cells #[.int .i64 kd, .int .i64 k, .int .i64 t] 31)) := (Only.refl _ _).alloc _
    have hall := ((((h0.trans ho1).trans ho2).drew).trans_new (S' := One c) ho3 (fun i hi hh => by unfold One at hh; omega)).trans ho4
    exact hall.below (Nat.le_refl _) (fun _ _ => id)
/-! The step from the walk to the statement of WindowNone. -/
namespace frWindowNone
open Go.ChangeShapes Go.WideShapes Go.ChangeAt Go.RowKit
set_option linter.unusedVariables false
theorem own : ownKnob Try.prog.godebug = none := by kernel_rfl
theorem laidOut : laidOutB Try.prog = true := by kernel_rfl
theorem shape0 : Kd.ok Try.prog (.agg [.int .i64, .int .i64, .int .i64]) 31 = true := by kernel_rfl
theorem shape1 : Kd.ok Try.prog (.int .u32) 34 = true := by kernel_rfl
set_option maxRecDepth 100000 in
theorem contract (H : Type) (enc : TypeId × Value → H) (W : World) (base : Nat) (args : Array Value) (ds gs : List (DataW H)) (before : List MemPlace)
    (hval : ∀ (j : Nat) t v, Try.f5.params[j]? = some t → args[j]? = some v → Value.okWide Try.prog W .any base t v)
    (hW : DataW.Whole enc Try.prog Try.f5.params.toList Rows.windowNoneSpec.vars false W args.toList ds gs before) :
    Calls Try.prog 5 args W fun e W' => ∃ v, e = .returned v ∧ Rows.windowNoneSpec.post enc Try.prog Try.f5 false true false false W args v W' := by
  have hW' := hW
  obtain ⟨p, q, hA0, hV, rfl, hfz, hnd⟩ := hW
  have hA : DataW.TrodAll enc Try.prog W 0 (fun _ => true) true Try.f5.params.toList args.toList ds p := hA0
  rw [Try.params5] at hA hval
  obtain ⟨v0, vs0, d0, ds0, p0, q0, hargs, rfl, rfl, h0, r0⟩ := trodAll_cons hA
  obtain ⟨v1, vs1, d1, ds1, p1, q1, rfl, rfl, rfl, h1, r1⟩ := trodAll_cons r0
  obtain ⟨rfl, rfl, rfl⟩ := trodAll_nil r1
  obtain rfl : args = #[v0, v1] := by cases args; simp_all
  obtain ⟨rfl, rfl⟩ := trodVars_none hV
  have k0 := Kd.fit _ shape0 (hval 0 31 v0 rfl rfl) h0
  have lt0 : ∀ x ∈ p0, x.block < W.heap.size := by obtain ⟨m, hm⟩ := h0; exact DataW.trod_lt m _ _ _ hm
  have k1 := Kd.fit _ shape1 (hval 1 34 v1 rfl rfl) h1
  have lt1 : ∀ x ∈ p1, x.block < W.heap.size := by obtain ⟨m, hm⟩ := h1; exact DataW.trod_lt m _ _ _ hm
  refine (windowNone_walk v0 v1 W k0 k1).mono fun e W' ⟨he, bel⟩ => ?_
  subst he
  exact ⟨_, rfl, _, _, _, [], _, [], hW', trodAll_mk1 (shut_bool Try.underlying4 _), (trodAll_cons_mk (Below.trod laidOut (by kernel_rfl) (of_decide_eq_true (by kernel_rfl)) h0 bel lt0) (trodAll_cons_mk (Below.trod laidOut (by kernel_rfl) (of_decide_eq_true (by kernel_rfl)) h1 bel lt1) trodAll_mk0)), rfl, bel.frame _, fun h => by cases h⟩
set_option maxRecDepth 100000 in
theorem lifted (os : Os) (started : os.Started) (H : Type) (enc : TypeId × Value → H) :
    ReturnsInHanded {} Try.checked os 5 .any (Rows.windowNoneSpec.pre6 enc Try.prog Try.f5 Rows.windowNoneRow.domain false) (Rows.windowNoneSpec.post enc Try.prog Try.f5 false true false false) := by
  refine returnsInHanded_of_change (C := Try.checked) own started (by kernel_rfl) Try.func5
    (ChangeSpec.witness6 (enc := enc) (C := Try.checked) false ⟨#[], #[.agg #[.int .i64 0, .int .i64 0, .int .i64 0], .int .u32 0], []⟩ 8 (by kernel_rfl) (by kernel_rfl) (by kernel_rfl) (by kernel_rfl)) ?_
  intro W base args ds gs before hval hW _ _
  exact contract H enc W base args ds gs before hval hW
theorem over : Rows.windowNoneRow.holds Try.pinned (OpenSpec.ofChange Rows.windowNoneSpec) :=
  OpenClaim.holds_of_wide 5 Try.f5 rfl rfl rfl rfl rfl rfl rfl ⟨rfl, rfl, rfl, rfl, rfl⟩ rfl rfl rfl rfl rfl (by kernel_rfl) Try.func5 (by kernel_rfl)
    (of_decide_eq_true (by kernel_rfl)) (by unfold Func.isWrapper; first | (rw [if_pos (by decide +kernel)]; kernel_rfl) | (rw [if_neg (by decide +kernel)]; exact ⟨rfl, rfl⟩))
    (fun os started H enc _ => lifted os started H enc)
theorem proved : Rows.WindowNoneSaid := over
end frWindowNone
end Go.Proofs.Ytcokkomfhjdbcaa
