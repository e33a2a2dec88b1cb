/- Any fault's code, and whether it is of the connection (the statement FaultCodes, as its card is given). No condition. -/
import Derived.Test.YteljagaplpiopaaDoorCards
import Derived.Test.YteljagaplpiopaaDoorTie
import Derived.Test.YteljagaplpiopaaDoorAwake21
import Derived.Deep.DeepHandedRow
namespace Go.Proofs.YteljagaplpiopaaDoor
open Go.RowKit

set_option maxHeartbeats 4000000 in
theorem faultCodes_walk (v0 : Value) (w : World) (h0 : Kd.Fit w (.agg [.int .i64, .int .i64, .int .i64]) v0) (hT : Tab w 0 tab_fault_rows) :
    Calls Tryd.prog 3 #[v0] w fun e w' => e = .returned (.bool true) ∧ Below w.heap.size w w' := by
  obtain ⟨cs, rfl, h0⟩ := h0
  obtain ⟨k, s, o, rfl, _, _, _⟩ := Kd.list_ints3 h0
  have hn := (Only.refl Nil w).alloc (.cells #[.int .i64 k, .int .i64 s, .int .i64 o] 23)
  have hb := Blk.new w 23 #[.int .i64 k, .int .i64 s, .int .i64 o]
  have hT0 := Tab.kept hT hn (fun hh => hh)
  by_cases k0 : k < 0
  · have hC := Lib.hid (fun W (h : Rws W) => Code_out (w := W) (s := s) (o := o) h (.inl k0))
    have hW := Lib.hid (fun W (h : Rws W) => Whole_out (w := W) (s := s) (o := o) h (.inl k0))
    have hRC := Lib.hid True.intro
    have hRW := Lib.hid True.intro
    clear h0 hT
    go_enter Tryd.func3, Tryd.ntmps3
    go_wp2_with (first
      | (go_at_call 6; (with_reducible refine (hC.out _ hT0).mono ?_); rintro e w1 ⟨rfl, ho1⟩; have hT1 := Tab.kept hT0 ho1 (fun hh => hh); have hb1 := hb.kept ho1 (fun hh => hh); have d0 := hb1.cell 0; have d1 := hb1.cell 1; have d2 := hb1.cell 2)
      | (go_at_call 7; (with_reducible refine (hW.out _ hT1).mono ?_); rintro e w2 ⟨rfl, ho2⟩; have hT2 := Tab.kept hT1 ho2 (fun hh => hh); have hb2 := hb1.kept ho2 (fun hh => hh); have e0 := hb2.cell 0; have e1 := hb2.cell 1; have e2 := hb2.cell 2)
      | (go_at_call 8; (with_reducible refine (awake_any _ hT2).mono ?_); rintro e w3 ⟨rfl, ho3⟩; have hb3 := hb2.kept ho3 (fun hh => hh); have f0 := hb3.cell 0; have f1 := hb3.cell 1; have f2 := hb3.cell 2)
      | (go_at_call 9; (with_reducible refine (hRC.out _).mono ?_); rintro e w4 ⟨rfl, rfl⟩)
      | (go_at_call 10; (with_reducible refine (hRW.out _).mono ?_); rintro e w5 ⟨rfl, rfl⟩)
      )
    go_ret
    exact ⟨rfl, (((hn.trans ho1).trans ho2).trans ho3).below (Nat.le_refl _) (fun _ _ hh => hh)⟩
  by_cases k20 : 20 < k
  · have hC := Lib.hid (fun W (h : Rws W) => Code_out (w := W) (s := s) (o := o) h (.inr k20))
    have hW := Lib.hid (fun W (h : Rws W) => Whole_out (w := W) (s := s) (o := o) h (.inr k20))
    have hRC := Lib.hid True.intro
    have hRW := Lib.hid True.intro
    clear h0 hT
    go_enter Tryd.func3, Tryd.ntmps3
    go_wp2_with (first
      | (go_at_call 6; (with_reducible refine (hC.out _ hT0).mono ?_); rintro e w1 ⟨rfl, ho1⟩; have hT1 := Tab.kept hT0 ho1 (fun hh => hh); have hb1 := hb.kept ho1 (fun hh => hh); have d0 := hb1.cell 0; have d1 := hb1.cell 1; have d2 := hb1.cell 2)
      | (go_at_call 7; (with_reducible refine (hW.out _ hT1).mono ?_); rintro e w2 ⟨rfl, ho2⟩; have hT2 := Tab.kept hT1 ho2 (fun hh => hh); have hb2 := hb1.kept ho2 (fun hh => hh); have e0 := hb2.cell 0; have e1 := hb2.cell 1; have e2 := hb2.cell 2)
      | (go_at_call 8; (with_reducible refine (awake_any _ hT2).mono ?_); rintro e w3 ⟨rfl, ho3⟩; have hb3 := hb2.kept ho3 (fun hh => hh); have f0 := hb3.cell 0; have f1 := hb3.cell 1; have f2 := hb3.cell 2)
      | (go_at_call 9; (with_reducible refine (hRC.out _).mono ?_); rintro e w4 ⟨rfl, rfl⟩)
      | (go_at_call 10; (with_reducible refine (hRW.out _).mono ?_); rintro e w5 ⟨rfl, rfl⟩)
      )
    go_ret
    exact ⟨rfl, (((hn.trans ho1).trans ho2).trans ho3).below (Nat.le_refl _) (fun _ _ hh => hh)⟩
  · have hC := Lib.hid (fun W (h : Rws W) => Code_in (w := W) (k := k) (s := s) (o := o) h (by omega) (by omega))
    have hW := Lib.hid (fun W (h : Rws W) => Whole_in (w := W) (k := k) (s := s) (o := o) h (by omega) (by omega))
    have hRC := Lib.hid (fun W => RCode_in (w := W) (o := o) (k := k) (by omega) (by omega))
    have hRW := Lib.hid (fun W => RWhole_in (w := W) (k := k) (by omega) (by omega))
    generalize cdF k o = cc at *
    generalize whB k = ww at *
    clear h0 hT
    go_enter Tryd.func3, Tryd.ntmps3
    go_wp2_with (first
      | (go_at_call 6; (with_reducible refine (hC.out _ hT0).mono ?_); rintro e w1 ⟨rfl, ho1⟩; have hT1 := Tab.kept hT0 ho1 (fun hh => hh); have hb1 := hb.kept ho1 (fun hh => hh); have d0 := hb1.cell 0; have d1 := hb1.cell 1; have d2 := hb1.cell 2)
      | (go_at_call 7; (with_reducible refine (hW.out _ hT1).mono ?_); rintro e w2 ⟨rfl, ho2⟩; have hT2 := Tab.kept hT1 ho2 (fun hh => hh); have hb2 := hb1.kept ho2 (fun hh => hh); have e0 := hb2.cell 0; have e1 := hb2.cell 1; have e2 := hb2.cell 2)
      | (go_at_call 8; (with_reducible refine (awake_any _ hT2).mono ?_); rintro e w3 ⟨rfl, ho3⟩; have hb3 := hb2.kept ho3 (fun hh => hh); have f0 := hb3.cell 0; have f1 := hb3.cell 1; have f2 := hb3.cell 2)
      | (go_at_call 9; (with_reducible refine (hRC.out _).mono ?_); rintro e w4 ⟨rfl, rfl⟩)
      | (go_at_call 10; (with_reducible refine (hRW.out _).mono ?_); rintro e w5 ⟨rfl, rfl⟩)
      )
    go_ret
    exact ⟨rfl, (((hn.trans ho1).trans ho2).trans ho3).below (Nat.le_refl _) (fun _ _ hh => hh)⟩
/-! The step from the walk to the statement of FaultCodes. -/
namespace frFaultCodes
open Go.ChangeShapes Go.WideShapes Go.ChangeAt Go.RowKit
set_option linter.unusedVariables false
theorem own : ownKnob Tryd.prog.godebug = none := by kernel_rfl
theorem laidOut : laidOutB Tryd.prog = true := by kernel_rfl
theorem shape0 : Kd.ok Tryd.prog (.agg [.int .i64, .int .i64, .int .i64]) 23 = true := by kernel_rfl
theorem tabs {W : World} (h : laidMetH Tryd.prog Rows.faultCodesRow.laid W) : Tab W 0 tab_fault_rows := by
  have h0 : laidMet Tryd.prog [("paternoster/fault.rows", Rows.laid_paternoster_fault_rows)] W := h
  obtain ⟨t0, h1⟩ := Tab.of_var tab_fault_rows_g tab_fault_rows_ty tab_fault_rows_ok tab_fault_rows_vals (by decide) h0
  exact t0
set_option maxRecDepth 100000 in
theorem contract (H : Type) (enc : TypeId × Value → H) (W : World) (base : Nat) (args : Array Value) (ds gs : List (DataW H)) (before : List MemPlace)
    (hval : ∀ (j : Nat) t v, Tryd.f3.params[j]? = some t → args[j]? = some v → Value.okWide Tryd.prog W .any base t v)
    (hW : DataW.Whole enc Tryd.prog Tryd.f3.params.toList Rows.faultCodesSpec.vars false W args.toList ds gs before) (hL : laidMetH Tryd.prog Rows.faultCodesRow.laid W) :
    Calls Tryd.prog 3 args W fun e W' => ∃ v, e = .returned v ∧ Rows.faultCodesSpec.post enc Tryd.prog Tryd.f3 false true false false W args v W' := by
  have hT := tabs hL
  have hW' := hW
  obtain ⟨p, q, hA0, hV, rfl, hfz, hnd⟩ := hW
  have hA : DataW.TrodAll enc Tryd.prog W 0 (fun _ => true) true Tryd.f3.params.toList args.toList ds p := hA0
  rw [Tryd.params3] at hA hval
  obtain ⟨v0, vs0, d0, ds0, p0, q0, hargs, rfl, rfl, h0, r0⟩ := trodAll_cons hA
  obtain ⟨rfl, rfl, rfl⟩ := trodAll_nil r0
  obtain rfl : args = #[v0] := by cases args; simp_all
  obtain ⟨rfl, rfl⟩ := trodVars_none hV
  have k0 := Kd.fit _ shape0 (hval 0 23 v0 rfl rfl) h0
  have lt0 : ∀ x ∈ p0, x.block < W.heap.size := by obtain ⟨m, hm⟩ := h0; exact DataW.trod_lt m _ _ _ hm
  refine (faultCodes_walk v0 W k0 hT).mono fun e W' ⟨he, bel⟩ => ?_
  subst he
  exact ⟨_, rfl, _, _, _, [], _, [], hW', trodAll_mk1 (shut_bool Tryd.underlying4 _), (trodAll_cons_mk (Below.trod laidOut (by kernel_rfl) (of_decide_eq_true (by kernel_rfl)) h0 bel lt0) trodAll_mk0), rfl, bel.frame _, fun h => by cases h⟩
noncomputable def laidWorld (os : Os) : World := { World.holding Tryd.prog os ⟨#[], #[], []⟩ with heap := ((World.holding Tryd.prog os ⟨#[], #[], []⟩).heap.modify 0 fun | .cells _ t frozen => .cells tab_fault_rows t frozen | o => o) }
theorem laid_met (os : Os) : laidMet Tryd.prog Rows.faultCodesRow.laid ((laidWorld os).forCall (fun _ _ => 0) ⟨#[], #[.agg #[.int .i64 0, .int .i64 0, .int .i64 0]], []⟩).memory :=
  laidMet_of_run' 8 (by kernel_rfl) (by kernel_rfl)
theorem reads (os : Os) {H : Type} (enc : TypeId × Value → H) : ∃ places, DataW.whole enc Tryd.prog ((laidWorld os).forCall (fun _ _ => 0) ⟨#[], #[.agg #[.int .i64 0, .int .i64 0, .int .i64 0]], []⟩).memory Tryd.f3.params.toList Rows.faultCodesSpec.vars false (#[.agg #[.int .i64 0, .int .i64 0, .int .i64 0]] : Array Value).toList 8 = some ([.agg [.lit (.int .i64 0), .lit (.int .i64 0), .lit (.int .i64 0)]], [], places) :=
  ⟨[], by kernel_rfl⟩
set_option maxRecDepth 100000 in
theorem lifted (os : Os) (started : os.Started) (H : Type) (enc : TypeId × Value → H) (F : Stop.Interp) :
    ReturnsInHanded {} Tryd.checked os 3 .any ((OpenSpec.ofChange Rows.faultCodesSpec).preRow enc Tryd.prog Tryd.f3 Rows.faultCodesRow.domain false Rows.faultCodesRow.laid) (((OpenSpec.ofChange Rows.faultCodesSpec).at F).post enc Tryd.prog Tryd.f3 false true false false) := by
  obtain ⟨places, hx⟩ := reads os enc
  refine returnsInHanded_of_row (C := Tryd.checked) (s := (OpenSpec.ofChange Rows.faultCodesSpec)) own started (by kernel_rfl) Tryd.func3
    (witness_row_at (enc := enc) (C := Tryd.checked) false (laidWorld os) #[.agg #[.int .i64 0, .int .i64 0, .int .i64 0]] rfl (by kernel_rfl) (by kernel_rfl) (by kernel_rfl)
      (OpenSpec.preRow_of_cond 8 hx (by kernel_rfl) (fun k hk => by cases hk) (by kernel_rfl) (laid_met os))) ?_
  intro W base args ds gs before hval hW _ _ _ hL _ _
  exact contract H enc W base args ds gs before hval hW hL
theorem said : Rows.FaultCodesSaid :=
  OpenClaim.holds_of_cond 3 Tryd.f3 rfl rfl rfl rfl rfl rfl rfl ⟨rfl, rfl, rfl, rfl, rfl⟩ rfl rfl rfl rfl rfl (by kernel_rfl) Tryd.func3 (by kernel_rfl)
    (of_decide_eq_true (by kernel_rfl)) (by unfold Func.isWrapper; first | (rw [if_pos (by decide +kernel)]; kernel_rfl) | (rw [if_neg (by decide +kernel)]; exact ⟨rfl, rfl⟩))
    (fun os started H enc _ F => by rw [OpenClaim.pre_eq_preRow]; exact lifted os started H enc F)
theorem plain (f : FuncId) (fn : Func) (hf : Tryd.pinned.checked.prog.funcNamed "paternoster/paternosterlaw21.FaultCodes" = some f) (hfn : Tryd.pinned.checked.prog.funcs[f]? = some fn) :
    false = Tryd.pinned.checked.prog.looks [] ∧ ∀ (j : Nat) t, fn.params[j]? = some t → Tryd.pinned.checked.prog.wantsStandIn t = false := by
  obtain rfl : f = 3 := Option.some.inj ((show Tryd.prog.funcNamed "paternoster/paternosterlaw21.FaultCodes" = some 3 by kernel_rfl).symm.trans hf) |>.symm
  obtain rfl : fn = Tryd.f3 := (Option.some.inj (Tryd.func3.symm.trans hfn)).symm
  refine ⟨by kernel_rfl, fun j t ht => ?_⟩
  rw [Tryd.params3] at ht
  have hm : t ∈ [23] := by simpa using Array.mem_of_getElem? ht
  simp only [List.mem_cons, List.not_mem_nil, or_false] at hm
  subst hm
  exact (show Tryd.prog.wantsStandIn 23 = false by kernel_rfl)
theorem proved : Rows.FaultCodesCardSaid :=
  Claim7.holds_tied_plain_at .later [] _ _ _ _ said (fun _ h => by cases h) (by kernel_rfl) (fun _ h => by cases h) faultCodes_row_tie rfl ⟨rfl, rfl⟩ (by kernel_rfl) rfl plain (by kernel_rfl)
end frFaultCodes
end Go.Proofs.YteljagaplpiopaaDoor
