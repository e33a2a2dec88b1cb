/- For every type: which streams it has, and how long it is (the statement HeaderNeeds, as its card is given). No condition. -/
import Derived.Test.YtjgoklccnecjcaaDoorCards
import Derived.Test.YtjgoklccnecjcaaDoorTie
import Derived.Test.YtjgoklccnecjcaaDoorAwake02
import Derived.Deep.DeepHandedRow
namespace Go.Proofs.YtjgoklccnecjcaaDoor
open Go.RowKit

set_option maxHeartbeats 4000000 in
theorem headerNeeds_walk (v0 : Value) (w : World) (h0 : Kd.Fit w (.int .i64) v0) (hT : Tab w 0 tab_header_needs) :
    Calls Tryd.prog 4 #[v0] w fun e w' => e = .returned (.bool true) ∧ Below w.heap.size w w' := by
  obtain ⟨k, rfl, _⟩ := Kd.int_fit h0
  clear h0
  by_cases k0 : k < 0
  · have hN := fun (W : World) => Needs_out k W (.inl k0)
    have hL := fun (W : World) => Long_out k W (.inl k0)
    go_enter Tryd.func4, Tryd.ntmps4
    go_wp2_with (first
      | (go_at_call 12; (with_reducible refine (hN _).mono ?_); rintro e w1 ⟨rfl, ho1⟩; have hT1 := hT.kept ho1 (fun hh => hh))
      | (go_at_call 13; (with_reducible refine (hL _).mono ?_); rintro e w2 ⟨rfl, ho2⟩; have hT2 := hT1.kept ho2 (fun hh => hh))
      | (go_at_call 10; (with_reducible refine (awake_any _ hT2).mono ?_); rintro e w3 ⟨rfl, ho3⟩)
      )
    go_ret
    exact ⟨rfl, ((ho1.trans ho2).trans ho3).below (Nat.le_refl _) (fun _ _ hh => hh)⟩
  · by_cases k11 : 11 < k
    · have hN := fun (W : World) => Needs_out k W (.inr k11)
      have hL := fun (W : World) => Long_out k W (.inr k11)
      go_enter Tryd.func4, Tryd.ntmps4
      go_wp2_with (first
        | (go_at_call 12; (with_reducible refine (hN _).mono ?_); rintro e w1 ⟨rfl, ho1⟩; have hT1 := hT.kept ho1 (fun hh => hh))
        | (go_at_call 13; (with_reducible refine (hL _).mono ?_); rintro e w2 ⟨rfl, ho2⟩; have hT2 := hT1.kept ho2 (fun hh => hh))
        | (go_at_call 10; (with_reducible refine (awake_any _ hT2).mono ?_); rintro e w3 ⟨rfl, ho3⟩)
        )
      go_ret
      exact ⟨rfl, ((ho1.trans ho2).trans ho3).below (Nat.le_refl _) (fun _ _ hh => hh)⟩
    · have hN := fun (W : World) (h : Nds W) => Needs_in k W h (by omega) (by omega)
      have hL := fun (W : World) (h : Nds W) => Long_in k W h (by omega) (by omega)
      have hR := fun (W : World) => RLong_any k W (by omega) (by omega)
      have hZ := fun (W : World) => Zero_any k W
      have hO := fun (W : World) => One_any k W
      generalize nzB k = z at hN hZ
      generalize naB k = a at hN hO
      generalize lgI k = l at hL hR
      go_enter Tryd.func4, Tryd.ntmps4
      go_wp2_with (first
        | (go_at_call 12; (with_reducible refine (hN _ hT).mono ?_); rintro e w1 ⟨rfl, ho1⟩; have hT1 := hT.kept ho1 (fun hh => hh))
        | (go_at_call 13; (with_reducible refine (hL _ hT1).mono ?_); rintro e w2 ⟨rfl, ho2⟩; have hT2 := hT1.kept ho2 (fun hh => hh))
        | (go_at_call 10; (with_reducible refine (awake_any _ hT2).mono ?_); rintro e w3 ⟨rfl, ho3⟩)
        | (go_at_call 14; (with_reducible refine (hZ _).mono ?_); rintro e w4 ⟨rfl, rfl⟩)
        | (go_at_call 15; (with_reducible refine (hO _).mono ?_); rintro e w5 ⟨rfl, rfl⟩)
        | (go_at_call 16; (with_reducible refine (hR _).mono ?_); rintro e w6 ⟨rfl, rfl⟩)
        )
      go_ret
      exact ⟨rfl, ((ho1.trans ho2).trans ho3).below (Nat.le_refl _) (fun _ _ hh => hh)⟩
/-! The step from the walk to the statement of HeaderNeeds. -/
namespace frHeaderNeeds
open Go.ChangeShapes Go.WideShapes Go.ChangeAt Go.RowKit
set_option linter.unusedVariables false
theorem own : ownKnob Tryd.prog.godebug = none := by kernel_rfl
theorem laidOut : laidOutB Tryd.prog = true := by kernel_rfl
theorem shape0 : Kd.ok Tryd.prog (.int .i64) 3 = true := by kernel_rfl
theorem tabs {W : World} (h : laidMetH Tryd.prog Rows.headerNeedsRow.laid W) : Tab W 0 tab_header_needs := by
  have h0 : laidMet Tryd.prog [("paternoster/header.needs", Rows.laid_paternoster_header_needs)] W := h
  obtain ⟨t0, h1⟩ := Tab.of_var tab_header_needs_g tab_header_needs_ty tab_header_needs_ok tab_header_needs_vals (by decide) h0
  exact t0
set_option maxRecDepth 100000 in
theorem contract (H : Type) (enc : TypeId × Value → H) (W : World) (base : Nat) (args : Array Value) (ds gs : List (DataW H)) (before : List MemPlace)
    (hval : ∀ (j : Nat) t v, Tryd.f4.params[j]? = some t → args[j]? = some v → Value.okWide Tryd.prog W .any base t v)
    (hW : DataW.Whole enc Tryd.prog Tryd.f4.params.toList Rows.headerNeedsSpec.vars false W args.toList ds gs before) (hL : laidMetH Tryd.prog Rows.headerNeedsRow.laid W) :
    Calls Tryd.prog 4 args W fun e W' => ∃ v, e = .returned v ∧ Rows.headerNeedsSpec.post enc Tryd.prog Tryd.f4 false true false false W args v W' := by
  have hT := tabs hL
  have hW' := hW
  obtain ⟨p, q, hA0, hV, rfl, hfz, hnd⟩ := hW
  have hA : DataW.TrodAll enc Tryd.prog W 0 (fun _ => true) true Tryd.f4.params.toList args.toList ds p := hA0
  rw [Tryd.params4] at hA hval
  obtain ⟨v0, vs0, d0, ds0, p0, q0, hargs, rfl, rfl, h0, r0⟩ := trodAll_cons hA
  obtain ⟨rfl, rfl, rfl⟩ := trodAll_nil r0
  obtain rfl : args = #[v0] := by cases args; simp_all
  obtain ⟨rfl, rfl⟩ := trodVars_none hV
  have k0 := Kd.fit _ shape0 (hval 0 3 v0 rfl rfl) h0
  have lt0 : ∀ x ∈ p0, x.block < W.heap.size := by obtain ⟨m, hm⟩ := h0; exact DataW.trod_lt m _ _ _ hm
  refine (headerNeeds_walk v0 W k0 hT).mono fun e W' ⟨he, bel⟩ => ?_
  subst he
  exact ⟨_, rfl, _, _, _, [], _, [], hW', trodAll_mk1 (shut_bool Tryd.underlying4 _), (trodAll_cons_mk (Below.trod laidOut (by kernel_rfl) (of_decide_eq_true (by kernel_rfl)) h0 bel lt0) trodAll_mk0), rfl, bel.frame _, fun h => by cases h⟩
noncomputable def laidWorld (os : Os) : World := { World.holding Tryd.prog os ⟨#[], #[], []⟩ with heap := ((World.holding Tryd.prog os ⟨#[], #[], []⟩).heap.modify 0 fun | .cells _ t frozen => .cells tab_header_needs t frozen | o => o) }
theorem laid_met (os : Os) : laidMet Tryd.prog Rows.headerNeedsRow.laid ((laidWorld os).forCall (fun _ _ => 0) ⟨#[], #[.int .i64 0], []⟩).memory :=
  laidMet_of_run' 8 (by kernel_rfl) (by kernel_rfl)
theorem reads (os : Os) {H : Type} (enc : TypeId × Value → H) : ∃ places, DataW.whole enc Tryd.prog ((laidWorld os).forCall (fun _ _ => 0) ⟨#[], #[.int .i64 0], []⟩).memory Tryd.f4.params.toList Rows.headerNeedsSpec.vars false (#[.int .i64 0] : Array Value).toList 8 = some ([.lit (.int .i64 0)], [], places) :=
  ⟨[], by kernel_rfl⟩
set_option maxRecDepth 100000 in
theorem lifted (os : Os) (started : os.Started) (H : Type) (enc : TypeId × Value → H) (F : Stop.Interp) :
    ReturnsInHanded {} Tryd.checked os 4 .any ((OpenSpec.ofChange Rows.headerNeedsSpec).preRow enc Tryd.prog Tryd.f4 Rows.headerNeedsRow.domain false Rows.headerNeedsRow.laid) (((OpenSpec.ofChange Rows.headerNeedsSpec).at F).post enc Tryd.prog Tryd.f4 false true false false) := by
  obtain ⟨places, hx⟩ := reads os enc
  refine returnsInHanded_of_row (C := Tryd.checked) (s := (OpenSpec.ofChange Rows.headerNeedsSpec)) own started (by kernel_rfl) Tryd.func4
    (witness_row_at (enc := enc) (C := Tryd.checked) false (laidWorld os) #[.int .i64 0] rfl (by kernel_rfl) (by kernel_rfl) (by kernel_rfl)
      (OpenSpec.preRow_of_cond 8 hx (by kernel_rfl) (fun k hk => by cases hk) (by kernel_rfl) (laid_met os))) ?_
  intro W base args ds gs before hval hW _ _ _ hL _ _
  exact contract H enc W base args ds gs before hval hW hL
theorem said : Rows.HeaderNeedsSaid :=
  OpenClaim.holds_of_cond 4 Tryd.f4 rfl rfl rfl rfl rfl rfl rfl ⟨rfl, rfl, rfl, rfl, rfl⟩ rfl rfl rfl rfl rfl (by kernel_rfl) Tryd.func4 (by kernel_rfl)
    (of_decide_eq_true (by kernel_rfl)) (by unfold Func.isWrapper; first | (rw [if_pos (by decide +kernel)]; kernel_rfl) | (rw [if_neg (by decide +kernel)]; exact ⟨rfl, rfl⟩))
    (fun os started H enc _ F => by rw [OpenClaim.pre_eq_preRow]; exact lifted os started H enc F)
theorem plain (f : FuncId) (fn : Func) (hf : Tryd.pinned.checked.prog.funcNamed "paternoster/paternosterlaw02.HeaderNeeds" = some f) (hfn : Tryd.pinned.checked.prog.funcs[f]? = some fn) :
    false = Tryd.pinned.checked.prog.looks [] ∧ ∀ (j : Nat) t, fn.params[j]? = some t → Tryd.pinned.checked.prog.wantsStandIn t = false := by
  obtain rfl : f = 4 := Option.some.inj ((show Tryd.prog.funcNamed "paternoster/paternosterlaw02.HeaderNeeds" = some 4 by kernel_rfl).symm.trans hf) |>.symm
  obtain rfl : fn = Tryd.f4 := (Option.some.inj (Tryd.func4.symm.trans hfn)).symm
  refine ⟨by kernel_rfl, fun j t ht => ?_⟩
  rw [Tryd.params4] at ht
  have hm : t ∈ [3] := by simpa using Array.mem_of_getElem? ht
  simp only [List.mem_cons, List.not_mem_nil, or_false] at hm
  subst hm
  exact (show Tryd.prog.wantsStandIn 3 = false by kernel_rfl)
theorem proved : Rows.HeaderNeedsCardSaid :=
  Claim7.holds_tied_plain_at .later [] _ _ _ _ said (fun _ h => by cases h) (by kernel_rfl) (fun _ h => by cases h) headerNeeds_row_tie rfl ⟨rfl, rfl⟩ (by kernel_rfl) rfl plain (by kernel_rfl)
end frHeaderNeeds
end Go.Proofs.YtjgoklccnecjcaaDoor
