/- A nil receiver has nothing, whatever is called (the statement RxNone, as it is given). No condition. -/
import Derived.Test.YtjmnpeebddedkaaAwake23
namespace Go.Proofs.Ytjmnpeebddedkaa
open Go.RowKit

set_option maxRecDepth 100000 in
set_option maxHeartbeats 4000000 in
theorem rxNone_walk (v0 : Value) (w : World) (h0 : Kd.Fit w (.agg [.int .i64, .int .i64, .str, .agg [.int .i64, .int .i64, .int .i64]]) v0) :
    Calls Try.prog 6 #[v0] w fun e w' => e = .returned (.bool true) ∧ Below w.heap.size w w' := by
  obtain ⟨cs, rfl, hc⟩ := h0
  obtain ⟨v0, c0, rfl, i0, hc⟩ := Kd.headL rfl hc
  obtain ⟨v1, c1, rfl, i1, hc⟩ := Kd.headL rfl hc
  obtain ⟨v2, c2, rfl, i2, hc⟩ := Kd.headL rfl hc
  unfold Kd.IsL at hc
  obtain ⟨xs, r, rfl, hxl, hx, hc⟩ := hc
  obtain rfl := Kd.end_ hc
  obtain ⟨k, rfl, -⟩ := Kd.int_is i0
  obtain ⟨n, rfl, -⟩ := Kd.int_is i1
  obtain ⟨S, rfl, -⟩ := Kd.str_is i2
  obtain ⟨a, b, c, rfl, -, -, -⟩ := Kd.list_ints3 (w := w) (k0 := .i64) (k1 := .i64) (k2 := .i64) hx
  clear i0 i1 i2 hc hx hxl
  have hn := (Only.refl Nil w).alloc (.cells #[.int .i64 k, .int .i64 n, .string S, .int .i64 a, .int .i64 b, .int .i64 c] 34)
  have hb := Blk.new w 34 #[.int .i64 k, .int .i64 n, .string S, .int .i64 a, .int .i64 b, .int .i64 c]
  have hns : (noS ++ noS).toList = [] := by decide +kernel
  go_enter Try.func6, Try.ntmps6
  go_wp2_with (first
    | (go_at_call 8; (with_reducible refine (awake_any _).mono ?_); rintro e w2 ⟨rfl, ho2⟩; have hb1 := hb.kept ho2 (fun hh => hh); have d0 := hb1.cell 0; have d1 := hb1.cell 1; have d2 := hb1.cell 2; have d3 := hb1.cell 3; have d4 := hb1.cell 4; have d5 := hb1.cell 5; have dz := hb1.lt)
    | (go_at_call 20; (with_reducible refine (RArrive_nil _ _ _).mono ?_); rintro e w3 ⟨rfl, rfl⟩)
    | (go_at_call 15; (with_reducible refine (RRead_nil _ _).mono ?_); rintro e w3 ⟨rfl, rfl⟩)
    | (go_at_call 16; (with_reducible refine (RItem_nil _).mono ?_); rintro e w3 ⟨rfl, rfl⟩)
    | (go_at_call 17; (with_reducible refine (RAsk_nil _ _).mono ?_); rintro e w3 ⟨rfl, rfl⟩)
    | (go_at_call 19; (with_reducible refine (RResize_nil _ _ _ _).mono ?_); rintro e w4 ⟨rfl, ho4⟩)
    | (go_at_call 22; (with_reducible refine (RDue_nil _).mono ?_); rintro e w5 ⟨rfl, ho5⟩)
    | (go_at_call 18; (with_reducible refine (RGrant_nil _).mono ?_); rintro e w6 ⟨rfl, ho6⟩)
    | (go_at_call 23; (with_reducible refine (RClear_nil _).mono ?_); rintro e w7 ⟨rfl, rfl⟩)
    | (go_at_call 13; (with_reducible refine (RKept_nil _).mono ?_); rintro e w7 ⟨rfl, rfl⟩)
    | (go_at_call 14; (with_reducible refine (ROpen_nil _).mono ?_); rintro e w7 ⟨rfl, rfl⟩)
    | (go_at_call 24; (with_reducible refine (RKind_nil _).mono ?_); rintro e w7 ⟨rfl, rfl⟩)
    | (go_at_call 25; (with_reducible refine (REnded_nil _).mono ?_); rintro e w7 ⟨rfl, rfl⟩)
    | (go_at_call 26; (with_reducible refine (RDone_nil _).mono ?_); rintro e w7 ⟨rfl, rfl⟩)
    )
  go_ret
  exact ⟨rfl, ((((hn.trans ho2).trans ho4).trans ho5).trans ho6).below (Nat.le_refl _) (fun _ _ hh => hh)⟩
/-! The step from the walk to the statement of RxNone. -/
namespace frRxNone
open Go.ChangeShapes Go.WideShapes Go.ChangeAt Go.RowKit
set_option linter.unusedVariables false
theorem own : ownKnob Try.prog.godebug = none := by kernel_rfl
theorem laidOut : laidOutB Try.prog = true := by kernel_rfl
theorem shape0 : Kd.ok Try.prog (.agg [.int .i64, .int .i64, .str, .agg [.int .i64, .int .i64, .int .i64]]) 34 = true := by kernel_rfl
set_option maxRecDepth 100000 in
theorem contract (H : Type) (enc : TypeId × Value → H) (W : World) (base : Nat) (args : Array Value) (ds gs : List (DataW H)) (before : List MemPlace)
    (hval : ∀ (j : Nat) t v, Try.f6.params[j]? = some t → args[j]? = some v → Value.okWide Try.prog W .any base t v)
    (hW : DataW.Whole enc Try.prog Try.f6.params.toList Rows.rxNoneSpec.vars false W args.toList ds gs before) :
    Calls Try.prog 6 args W fun e W' => ∃ v, e = .returned v ∧ Rows.rxNoneSpec.post enc Try.prog Try.f6 false true false false W args v W' := by
  have hW' := hW
  obtain ⟨p, q, hA0, hV, rfl, hfz, hnd⟩ := hW
  have hA : DataW.TrodAll enc Try.prog W 0 (fun _ => true) true Try.f6.params.toList args.toList ds p := hA0
  rw [Try.params6] at hA hval
  obtain ⟨v0, vs0, d0, ds0, p0, q0, hargs, rfl, rfl, h0, r0⟩ := trodAll_cons hA
  obtain ⟨rfl, rfl, rfl⟩ := trodAll_nil r0
  obtain rfl : args = #[v0] := by cases args; simp_all
  obtain ⟨rfl, rfl⟩ := trodVars_none hV
  have k0 := Kd.fit _ shape0 (hval 0 34 v0 rfl rfl) h0
  have lt0 : ∀ x ∈ p0, x.block < W.heap.size := by obtain ⟨m, hm⟩ := h0; exact DataW.trod_lt m _ _ _ hm
  refine (rxNone_walk v0 W k0).mono fun e W' ⟨he, bel⟩ => ?_
  subst he
  exact ⟨_, rfl, _, _, _, [], _, [], hW', trodAll_mk1 (shut_bool Try.underlying4 _), (trodAll_cons_mk (Below.trod laidOut (by kernel_rfl) (of_decide_eq_true (by kernel_rfl)) h0 bel lt0) trodAll_mk0), rfl, bel.frame _, fun h => by cases h⟩
set_option maxRecDepth 100000 in
theorem lifted (os : Os) (started : os.Started) (H : Type) (enc : TypeId × Value → H) :
    ReturnsInHanded {} Try.checked os 6 .any (Rows.rxNoneSpec.pre6 enc Try.prog Try.f6 Rows.rxNoneRow.domain false) (Rows.rxNoneSpec.post enc Try.prog Try.f6 false true false false) := by
  refine returnsInHanded_of_change (C := Try.checked) own started (by kernel_rfl) Try.func6
    (ChangeSpec.witness6 (enc := enc) (C := Try.checked) false ⟨#[], #[.agg #[.int .i64 0, .int .i64 0, .string ByteArray.empty, .int .i64 0, .int .i64 0, .int .i64 0]], []⟩ 8 (by kernel_rfl) (by kernel_rfl) (by kernel_rfl) (by kernel_rfl)) ?_
  intro W base args ds gs before hval hW _ _
  exact contract H enc W base args ds gs before hval hW
theorem over : Rows.rxNoneRow.holds Try.pinned (OpenSpec.ofChange Rows.rxNoneSpec) :=
  OpenClaim.holds_of_wide 6 Try.f6 rfl rfl rfl rfl rfl rfl rfl ⟨rfl, rfl, rfl, rfl, rfl⟩ rfl rfl rfl rfl rfl (by kernel_rfl) Try.func6 (by kernel_rfl)
    (of_decide_eq_true (by kernel_rfl)) (by unfold Func.isWrapper; first | (rw [if_pos (by decide +kernel)]; kernel_rfl) | (rw [if_neg (by decide +kernel)]; exact ⟨rfl, rfl⟩))
    (fun os started H enc _ => lifted os started H enc)
theorem proved : Rows.RxNoneSaid := over
end frRxNone
end Go.Proofs.Ytjmnpeebddedkaa
