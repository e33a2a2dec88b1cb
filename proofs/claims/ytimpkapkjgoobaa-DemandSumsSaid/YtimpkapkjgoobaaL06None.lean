/- For every number and every limit: a nil count has nothing; a copy goes its own way (the statement DemandNone, as it is given). No condition. -/
import Derived.Test.YtimpkapkjgoobaaDemand
namespace Go.Proofs.Ytimpkapkjgoobaa
open Go.RowKit

set_option maxHeartbeats 1000000 in
theorem awake_any (w : World) : Calls Try.prog 7 #[] w fun e w' => e = .returned (.bool true) ∧ Only Nil w w' := by
  have k0 : demOk 0 10 := ⟨by omega, by omega, by omega⟩
  have k7 : demOk 7 10 := ⟨by omega, by omega, by omega⟩
  have a1 : addK 0 10 7 = 7 := by decide
  have a2 : addK 7 10 7 = 3 := by decide
  have a3 : addE 7 = 0 := by decide
  go_enter Try.func7, Try.ntmps7
  go_wp2_with (first
    | (go_at_call 6; (with_reducible refine (New_any _ _ (by omega) (by omega)).mono ?_); rintro e w1 ⟨b, rfl, hb, ho1, hW1⟩)
    | (go_at_call 8; (with_reducible refine (Add_at b 0 10 7 7 0 7 _ hW1 k0 a1 a3 (by omega)).mono ?_); rintro e w2 ⟨rfl, ho2, hW2⟩)
    | (go_at_call 8; (with_reducible refine (Add_at b 7 10 7 3 0 10 _ hW2 k7 a2 a3 (by omega)).mono ?_); rintro e w3 ⟨rfl, ho3, hW3⟩)
    | (go_at_call 13; (with_reducible refine (Endless_any b _ _ _ hW3).mono ?_); rintro e w4 ⟨rfl, ho4⟩; have hW4 := hW3.kept ho4 id)
    | (go_at_call 12; (with_reducible refine (Left_any b _ _ _ hW4).mono ?_); rintro e w5 ⟨rfl, rfl⟩)
    )
  go_ret
  refine ⟨rfl, ?_⟩
  exact (((ho1.trans_new (S' := One b) ho2 (fun i hi hh => by unfold One at hh; omega)).trans_new (S' := One b) ho3 (fun i hi hh => by unfold One at hh; omega)).trans ho4)

set_option maxRecDepth 100000 in
set_option maxHeartbeats 1000000 in
theorem demandNone_walk (v0 v1 : Value) (w : World) (h0 : Kd.Fit w (.int .i64) v0) (h1 : Kd.Fit w (.int .u8) v1) :
    Calls Try.prog 5 #[v0, v1] w fun e w' => e = .returned (.bool true) ∧ Below w.heap.size w w' := by
  obtain ⟨n, rfl, hn⟩ := Kd.int_fit h0
  obtain ⟨l, rfl, hl⟩ := Kd.int_fit h1
  obtain ⟨hl1, hl2⟩ := u8_of hl
  clear hn hl h0 h1
  have hz : addK 0 (l + 1) 1 = 1 := by unfold addK; omega
  have hz2 : addE 1 = 0 := by simp [addE]
  have hadd : ∀ (c : Nat) (W : World), Dem W c 0 (l + 1) → Calls Try.prog 8 #[.pointer (some ⟨c, 0, none⟩), .int .i64 1] W (AddPost W c 1 0 1 (l + 1)) := by
    intro c W hW
    have ha := Add_any c 0 (l + 1) 1 W hW ⟨by omega, by omega, by omega⟩
    rw [hz, hz2] at ha
    exact ha
  clear hz hz2
  go_enter Try.func5, Try.ntmps5
  go_wp2_with (first
    | (go_at_call 8; (with_reducible refine (Add_nil _ _).mono ?_); rintro e w0 ⟨rfl, rfl⟩)
    | (go_at_call 6; (with_reducible refine (New_any _ _ (by omega) (by omega)).mono ?_); rintro e w1 ⟨b, rfl, hb, ho1, hW1⟩)
    | (go_at_call 14; (with_reducible refine (Copy_any b _ _ _ hW1).mono ?_); rintro e w2 ⟨c, rfl, hc, ho2, hW2⟩; have hx2 := hW1.kept ho2 id; have hbc : ¬ One c b := by have := hW1.lt; unfold One; omega)
    | (go_at_call 8; (with_reducible refine (hadd c _ hW2).mono ?_); rintro e w3 ⟨rfl, ho3, hW3⟩; have hx3 := hx2.kept ho3 hbc)
    | (go_at_call 7; (with_reducible refine (awake_any _).mono ?_); rintro e w4 ⟨rfl, ho4⟩; have hx4 := hx3.kept ho4 id; have hW4 := hW3.kept ho4 id)
    | (go_at_call 10; (with_reducible refine (Take_nil _ _).mono ?_); rintro e w6 ⟨rfl, rfl⟩)
    | (go_at_call 11; (with_reducible refine (Upto_nil _ _).mono ?_); rintro e w7 ⟨rfl, rfl⟩)
    | (go_at_call 12; (with_reducible refine (Left_nil _).mono ?_); rintro e w8 ⟨rfl, rfl⟩)
    | (go_at_call 13; (with_reducible refine (Endless_nil _).mono ?_); rintro e w9 ⟨rfl, ho9⟩; have hx9 := hx4.kept ho9 id; have hW9 := hW4.kept ho9 id)
    | (go_at_call 14; (with_reducible refine (Copy_nil _).mono ?_); rintro e w10 ⟨rfl, rfl⟩)
    | (go_at_call 12; (with_reducible refine (Left_any b _ _ _ hx9).mono ?_); rintro e w11 ⟨rfl, rfl⟩)
    | (go_at_call 12; (with_reducible refine (Left_any c _ _ _ hW9).mono ?_); rintro e w12 ⟨rfl, rfl⟩)
    )
  go_ret
  refine ⟨rfl, ?_⟩
  have hall := (((ho1.trans ho2).trans_new (S' := One c) ho3 (fun i hi hh => by have := ho1.size; unfold One at hh; omega)).trans ho4).trans ho9
  exact hall.below (Nat.le_refl _) (fun _ _ => id)
/-! The step from the walk to the statement of DemandNone. -/
namespace frDemandNone
open Go.ChangeShapes Go.WideShapes Go.ChangeAt Go.RowKit
set_option linter.unusedVariables false
theorem own : ownKnob Try.prog.godebug = none := by kernel_rfl
theorem laidOut : laidOutB Try.prog = true := by kernel_rfl
theorem shape0 : Kd.ok Try.prog (.int .i64) 3 = true := by kernel_rfl
theorem shape1 : Kd.ok Try.prog (.int .u8) 5 = true := by kernel_rfl
set_option maxRecDepth 100000 in
theorem contract (H : Type) (enc : TypeId × Value → H) (W : World) (base : Nat) (args : Array Value) (ds gs : List (DataW H)) (before : List MemPlace)
    (hval : ∀ (j : Nat) t v, Try.f5.params[j]? = some t → args[j]? = some v → Value.okWide Try.prog W .any base t v)
    (hW : DataW.Whole enc Try.prog Try.f5.params.toList Rows.demandNoneSpec.vars false W args.toList ds gs before) :
    Calls Try.prog 5 args W fun e W' => ∃ v, e = .returned v ∧ Rows.demandNoneSpec.post enc Try.prog Try.f5 false true false false W args v W' := by
  have hW' := hW
  obtain ⟨p, q, hA0, hV, rfl, hfz, hnd⟩ := hW
  have hA : DataW.TrodAll enc Try.prog W 0 (fun _ => true) true Try.f5.params.toList args.toList ds p := hA0
  rw [Try.params5] at hA hval
  obtain ⟨v0, vs0, d0, ds0, p0, q0, hargs, rfl, rfl, h0, r0⟩ := trodAll_cons hA
  obtain ⟨v1, vs1, d1, ds1, p1, q1, rfl, rfl, rfl, h1, r1⟩ := trodAll_cons r0
  obtain ⟨rfl, rfl, rfl⟩ := trodAll_nil r1
  obtain rfl : args = #[v0, v1] := by cases args; simp_all
  obtain ⟨rfl, rfl⟩ := trodVars_none hV
  have k0 := Kd.fit _ shape0 (hval 0 3 v0 rfl rfl) h0
  have lt0 : ∀ x ∈ p0, x.block < W.heap.size := by obtain ⟨m, hm⟩ := h0; exact DataW.trod_lt m _ _ _ hm
  have k1 := Kd.fit _ shape1 (hval 1 5 v1 rfl rfl) h1
  have lt1 : ∀ x ∈ p1, x.block < W.heap.size := by obtain ⟨m, hm⟩ := h1; exact DataW.trod_lt m _ _ _ hm
  refine (demandNone_walk v0 v1 W k0 k1).mono fun e W' ⟨he, bel⟩ => ?_
  subst he
  exact ⟨_, rfl, _, _, _, [], _, [], hW', trodAll_mk1 (shut_bool Try.underlying4 _), (trodAll_cons_mk (Below.trod laidOut (by kernel_rfl) (of_decide_eq_true (by kernel_rfl)) h0 bel lt0) (trodAll_cons_mk (Below.trod laidOut (by kernel_rfl) (of_decide_eq_true (by kernel_rfl)) h1 bel lt1) trodAll_mk0)), rfl, bel.frame _, fun h => by cases h⟩
set_option maxRecDepth 100000 in
theorem lifted (os : Os) (started : os.Started) (H : Type) (enc : TypeId × Value → H) :
    ReturnsInHanded {} Try.checked os 5 .any (Rows.demandNoneSpec.pre6 enc Try.prog Try.f5 Rows.demandNoneRow.domain false) (Rows.demandNoneSpec.post enc Try.prog Try.f5 false true false false) := by
  refine returnsInHanded_of_change (C := Try.checked) own started (by kernel_rfl) Try.func5
    (ChangeSpec.witness6 (enc := enc) (C := Try.checked) false ⟨#[], #[.int .i64 0, .int .u8 0], []⟩ 8 (by kernel_rfl) (by kernel_rfl) (by kernel_rfl) (by kernel_rfl)) ?_
  intro W base args ds gs before hval hW _ _
  exact contract H enc W base args ds gs before hval hW
theorem over : Rows.demandNoneRow.holds Try.pinned (OpenSpec.ofChange Rows.demandNoneSpec) :=
  OpenClaim.holds_of_wide 5 Try.f5 rfl rfl rfl rfl rfl rfl rfl ⟨rfl, rfl, rfl, rfl, rfl⟩ rfl rfl rfl rfl rfl (by kernel_rfl) Try.func5 (by kernel_rfl)
    (of_decide_eq_true (by kernel_rfl)) (by unfold Func.isWrapper; first | (rw [if_pos (by decide +kernel)]; kernel_rfl) | (rw [if_neg (by decide +kernel)]; exact ⟨rfl, rfl⟩))
    (fun os started H enc _ => lifted os started H enc)
theorem proved : Rows.DemandNoneSaid := over
end frDemandNone
end Go.Proofs.Ytimpkapkjgoobaa
