/- A nil flow has nothing, whatever is called (the statement ModelNone, as it is given). No condition. -/
import Derived.Test.YtikjifhilemocaaModel
namespace Go.Proofs.Ytikjifhilemocaa
open Go.RowKit

theorem Only.new1 {w0 w w' : World} {b : Nat} (h0 : Only Nil w0 w) (hb : w0.heap.size ≤ b) (ho : Only (One b) w w') : Only Nil w0 w' :=
  h0.trans_new ho (fun _ hi hh => by unfold One at hh; omega)
set_option maxRecDepth 100000 in
set_option maxHeartbeats 2000000 in
theorem awake_any (w : World) : Calls Try.prog 6 #[] w fun x w' => x = .returned (.bool true) ∧ Only Nil w w' := by
  have hN := Lib.hid (New_awake w)
  go_enter Try.func6, Try.ntmps6
  go_wp2_with (first
    | (go_at_call 5; (with_reducible refine (hN.out).mono ?_); rintro e w1 ⟨b, rfl, h1, hzb, ho1⟩)
    | (go_at_call 17; (with_reducible refine (Offer_awake _ h1).mono ?_); rintro e w2 ⟨rfl, h2, ho2⟩)
    | (go_at_call 20; (with_reducible refine (Sent_awake _ h2).mono ?_); rintro e w3 ⟨g, o, cap, rfl, h3, q0, q1, hcp, hmx, hgb, ho3⟩)
    | (go_at_call 21; (with_reducible refine (Came_no _ h3 q0 q1).mono ?_); rintro e w4 ⟨rfl, rfl⟩)
    | (go_at_call 21; (with_reducible refine (Came_ab _ h3 q0 q1 hcp).mono ?_); rintro e w5 ⟨way, rfl, h5, ho5⟩)
    | (go_at_call 22; (with_reducible refine (Read_ab _ h5).mono ?_); rintro e w6 ⟨rfl, h6, ho6⟩)
    | (go_at_call 15; (with_reducible refine (Done_awake _ h6).mono ?_); rintro e w7 ⟨rfl, rfl⟩)
    )
  go_ret
  exact ⟨rfl, ((((ho1.new1 hzb ho2).new1 hzb ho3).new1 hzb ho5).new1 hzb ho6)⟩
set_option maxRecDepth 100000 in
set_option maxHeartbeats 4000000 in
theorem modelNone_walk (v0 : Value) (w : World) (h0 : Kd.Fit w (.agg [.int .i64, .int .i64, .str, .bool]) v0) :
    Calls Try.prog 4 #[v0] w fun e w' => e = .returned (.bool true) ∧ Below w.heap.size w w' := by
  obtain ⟨cs, rfl, hc⟩ := h0
  obtain ⟨v0, c0, rfl, i0, hc⟩ := Kd.headL rfl hc
  obtain ⟨v1, c1, rfl, i1, hc⟩ := Kd.headL rfl hc
  obtain ⟨v2, c2, rfl, i2, hc⟩ := Kd.headL rfl hc
  obtain ⟨v3, c3, rfl, i3, hc⟩ := Kd.headL rfl hc
  obtain rfl := Kd.end_ hc
  obtain ⟨k, rfl, -⟩ := Kd.int_is i0
  obtain ⟨n, rfl, -⟩ := Kd.int_is i1
  obtain ⟨S, rfl, -⟩ := Kd.str_is i2
  obtain ⟨e, rfl⟩ := Kd.bool_is i3
  clear i0 i1 i2 i3 hc
  have hn := (Only.refl Nil w).alloc (.cells #[.int .i64 k, .int .i64 n, .string S, .bool e] 33)
  have hb := Blk.new w 33 #[.int .i64 k, .int .i64 n, .string S, .bool e]
  have hns : (noS ++ noS).toList = [] := by decide +kernel
  go_enter Try.func4, Try.ntmps4
  go_wp2_with (first
    | (go_at_call 6; (with_reducible refine (awake_any _).mono ?_); rintro e w2 ⟨rfl, ho2⟩; have hb1 := hb.kept ho2 (fun hh => hh); have d0 := hb1.cell 0; have d1 := hb1.cell 1; have d2 := hb1.cell 2; have d3 := hb1.cell 3)
    | (go_at_call 17; (with_reducible refine (Offer_nil _ _).mono ?_); rintro e w3 ⟨rfl, rfl⟩)
    | (go_at_call 18; (with_reducible refine (Item_nil _).mono ?_); rintro e w3 ⟨rfl, rfl⟩)
    | (go_at_call 9; (with_reducible refine (Rows_nil _).mono ?_); rintro e w3 ⟨rfl, rfl⟩)
    | (go_at_call 10; (with_reducible refine (Counts_nil _).mono ?_); rintro e w3 ⟨rfl, rfl⟩)
    | (go_at_call 19; (with_reducible refine (Finish_nil _).mono ?_); rintro e w3 ⟨rfl, rfl⟩)
    | (go_at_call 20; (with_reducible refine (Sent_nil _ _ _).mono ?_); rintro e w3 ⟨rfl, rfl⟩)
    | (go_at_call 21; (with_reducible refine (Came_nil _ _ _).mono ?_); rintro e w3 ⟨rfl, rfl⟩)
    | (go_at_call 22; (with_reducible refine (Read_nil _ _).mono ?_); rintro e w3 ⟨rfl, rfl⟩)
    | (go_at_call 16; (with_reducible refine (Kind_nil _).mono ?_); rintro e w3 ⟨rfl, rfl⟩)
    | (go_at_call 15; (with_reducible refine (Done_nil _).mono ?_); rintro e w3 ⟨rfl, rfl⟩)
    | (go_at_call 14; (with_reducible refine (Out_nil _).mono ?_); rintro e w3 ⟨rfl, rfl⟩)
    )
  go_ret
  exact ⟨rfl, (hn.trans ho2).below (Nat.le_refl _) (fun _ _ hh => hh)⟩
/-! The step from the walk to the statement of ModelNone. -/
namespace frModelNone
open Go.ChangeShapes Go.WideShapes Go.ChangeAt Go.RowKit
set_option linter.unusedVariables false
theorem own : ownKnob Try.prog.godebug = none := by kernel_rfl
theorem laidOut : laidOutB Try.prog = true := by kernel_rfl
theorem shape0 : Kd.ok Try.prog (.agg [.int .i64, .int .i64, .str, .bool]) 33 = true := by kernel_rfl
set_option maxRecDepth 100000 in
theorem contract (H : Type) (enc : TypeId × Value → H) (W : World) (base : Nat) (args : Array Value) (ds gs : List (DataW H)) (before : List MemPlace)
    (hval : ∀ (j : Nat) t v, Try.f4.params[j]? = some t → args[j]? = some v → Value.okWide Try.prog W .any base t v)
    (hW : DataW.Whole enc Try.prog Try.f4.params.toList Rows.modelNoneSpec.vars false W args.toList ds gs before) :
    Calls Try.prog 4 args W fun e W' => ∃ v, e = .returned v ∧ Rows.modelNoneSpec.post enc Try.prog Try.f4 false true false false W args v W' := by
  have hW' := hW
  obtain ⟨p, q, hA0, hV, rfl, hfz, hnd⟩ := hW
  have hA : DataW.TrodAll enc Try.prog W 0 (fun _ => true) true Try.f4.params.toList args.toList ds p := hA0
  rw [Try.params4] at hA hval
  obtain ⟨v0, vs0, d0, ds0, p0, q0, hargs, rfl, rfl, h0, r0⟩ := trodAll_cons hA
  obtain ⟨rfl, rfl, rfl⟩ := trodAll_nil r0
  obtain rfl : args = #[v0] := by cases args; simp_all
  obtain ⟨rfl, rfl⟩ := trodVars_none hV
  have k0 := Kd.fit _ shape0 (hval 0 33 v0 rfl rfl) h0
  have lt0 : ∀ x ∈ p0, x.block < W.heap.size := by obtain ⟨m, hm⟩ := h0; exact DataW.trod_lt m _ _ _ hm
  refine (modelNone_walk v0 W k0).mono fun e W' ⟨he, bel⟩ => ?_
  subst he
  exact ⟨_, rfl, _, _, _, [], _, [], hW', trodAll_mk1 (shut_bool Try.underlying4 _), (trodAll_cons_mk (Below.trod laidOut (by kernel_rfl) (of_decide_eq_true (by kernel_rfl)) h0 bel lt0) trodAll_mk0), rfl, bel.frame _, fun h => by cases h⟩
set_option maxRecDepth 100000 in
theorem lifted (os : Os) (started : os.Started) (H : Type) (enc : TypeId × Value → H) :
    ReturnsInHanded {} Try.checked os 4 .any (Rows.modelNoneSpec.pre6 enc Try.prog Try.f4 Rows.modelNoneRow.domain false) (Rows.modelNoneSpec.post enc Try.prog Try.f4 false true false false) := by
  refine returnsInHanded_of_change (C := Try.checked) own started (by kernel_rfl) Try.func4
    (ChangeSpec.witness6 (enc := enc) (C := Try.checked) false ⟨#[], #[.agg #[.int .i64 0, .int .i64 0, .string ByteArray.empty, .bool false]], []⟩ 8 (by kernel_rfl) (by kernel_rfl) (by kernel_rfl) (by kernel_rfl)) ?_
  intro W base args ds gs before hval hW _ _
  exact contract H enc W base args ds gs before hval hW
theorem over : Rows.modelNoneRow.holds Try.pinned (OpenSpec.ofChange Rows.modelNoneSpec) :=
  OpenClaim.holds_of_wide 4 Try.f4 rfl rfl rfl rfl rfl rfl rfl ⟨rfl, rfl, rfl, rfl, rfl⟩ rfl rfl rfl rfl rfl (by kernel_rfl) Try.func4 (by kernel_rfl)
    (of_decide_eq_true (by kernel_rfl)) (by unfold Func.isWrapper; first | (rw [if_pos (by decide +kernel)]; kernel_rfl) | (rw [if_neg (by decide +kernel)]; exact ⟨rfl, rfl⟩))
    (fun os started H enc _ => lifted os started H enc)
theorem proved : Rows.ModelNoneSaid := over
end frModelNone
end Go.Proofs.Ytikjifhilemocaa
