/- There are just so many kinds of faults, each of which has a code above 0 (the statement FaultAll, as its card is given). No condition. -/
import Derived.Test.YteljagaplpiopaaDoorCards
import Derived.Test.YteljagaplpiopaaDoorTie
import Derived.Test.YteljagaplpiopaaDoorAwake21
import Derived.Deep.DeepHandedRow
namespace Go.Proofs.YteljagaplpiopaaDoor
open Go.RowKit

theorem cdF_in (k o : Int) : 1 ≤ cdF k o ∧ cdF k o ≤ 12 := by
  unfold cdF
  split
  · omega
  · unfold cdI
    repeat' split
    all_goals omega
theorem rgI_at {k : Nat} (h : k < 21) : (rgI 21)[k]? = some (k : Int) := by
  unfold rgI
  rw [List.getElem?_map, List.getElem?_range h]
  rfl
set_option maxHeartbeats 4000000 in
theorem faultAll_walk (v0 : Value) (w : World) (h0 : Kd.Fit w (.int .i64) v0) (hT : Tab w 0 tab_fault_rows) :
    Calls Tryd.prog 5 #[v0] w fun e w' => e = .returned (.bool true) ∧ Below w.heap.size w w' := by
  obtain ⟨o, rfl, -⟩ := Kd.int_fit h0
  clear h0
  have hA := Lib.hid (All_any w)
  go_enter Tryd.func5, Tryd.ntmps5
  go_wp2_with (first
    | (go_at_call 15; (with_reducible refine (hA.out).mono ?_); rintro e w1 ⟨A, cp, rfl, hO1, ho1⟩)
    )
  have hs1 := hO1.sqn (fun _ _ => rfl)
  have hT1 := Tab.kept hT ho1 (fun hh => hh)
  clear hO1 hA hT
  go_loopw [4] (fun ii wr => ∃ k : Nat, k ≤ 21 ∧ ii = .int .i64 k ∧ Only Nil w1 wr) (fun ii _ => 21 - (intOf ii).toNat)
  case atStart => exact ⟨0, Nat.zero_le _, rfl, Only.refl _ _⟩
  case round =>
    obtain ⟨k, hk, rfl, ho⟩ := hrel
    have hTr := Tab.kept hT1 ho (fun hh => hh)
    by_cases hlt : k < 21
    · obtain ⟨b, off, x, rfl, hb, hx, _, hc⟩ := (hs1.go ho).at_ (k := k) (by rw [rgI_len]; exact hlt)
      rw [rgI_at hlt] at hx
      injection hx with hx
      subst hx
      have c0 : wr.cell? ⟨b, off + k, none⟩ = some (.int .i64 k) := by simpa [encZ] using hc 0 (by decide)
      have hki : (k : Int) < 21 := by omega
      have hC := Lib.hid (Code_in (w := wr) (k := k) (s := 0) (o := o) hTr (by omega) (by omega))
      obtain ⟨j1, j2⟩ := cdF_in k o
      have hbl := hb
      generalize cdF k o = cc at *
      have hkeep := Lib.hid (fun W (q : Only Nil wr W) => ((Only.below q (Nat.le_refl _) (fun _ _ hh => hh)).cell (p := ⟨b, off + k, none⟩) hbl).trans c0)
      clear hc
      go_wp2_with (first
        | (go_at_call 6; (with_reducible refine (hC.out).mono ?_); rintro e w2 ⟨rfl, ho2⟩; have c2 := hkeep.out _ ho2)
        )
      go_roundw
      case rel => exact ⟨k + 1, by omega, by go_num, ho.trans ho2⟩
      case measure => simp [intOf]; omega
    · have hki : ¬ (k : Int) < 21 := by omega
      go_wp2_with (first
        | (go_at_call 8; (with_reducible refine (awake_any _ hTr).mono ?_); rintro e w3 ⟨rfl, ho3⟩)
        )
      go_ret
      exact ⟨rfl, ((ho1.trans ho).trans ho3).below (Nat.le_refl _) (fun _ _ hh => hh)⟩
/-! The step from the walk to the statement of FaultAll. -/
namespace frFaultAll
open Go.ChangeShapes Go.WideShapes Go.ChangeAt Go.RowKit
set_option linter.unusedVariables false
theorem own : ownKnob Tryd.prog.godebug = none := by kernel_rfl
theorem laidOut : laidOutB Tryd.prog = true := by kernel_rfl
theorem shape0 : Kd.ok Tryd.prog (.int .i64) 3 = true := by kernel_rfl
theorem tabs {W : World} (h : laidMetH Tryd.prog Rows.faultAllRow.laid W) : Tab W 0 tab_fault_rows := by
  have h0 : laidMet Tryd.prog [("paternoster/fault.rows", Rows.laid_paternoster_fault_rows)] W := h
  obtain ⟨t0, h1⟩ := Tab.of_var tab_fault_rows_g tab_fault_rows_ty tab_fault_rows_ok tab_fault_rows_vals (by decide) h0
  exact t0
set_option maxRecDepth 100000 in
theorem contract (H : Type) (enc : TypeId × Value → H) (W : World) (base : Nat) (args : Array Value) (ds gs : List (DataW H)) (before : List MemPlace)
    (hval : ∀ (j : Nat) t v, Tryd.f5.params[j]? = some t → args[j]? = some v → Value.okWide Tryd.prog W .any base t v)
    (hW : DataW.Whole enc Tryd.prog Tryd.f5.params.toList Rows.faultAllSpec.vars false W args.toList ds gs before) (hL : laidMetH Tryd.prog Rows.faultAllRow.laid W) :
    Calls Tryd.prog 5 args W fun e W' => ∃ v, e = .returned v ∧ Rows.faultAllSpec.post enc Tryd.prog Tryd.f5 false true false false W args v W' := by
  have hT := tabs hL
  have hW' := hW
  obtain ⟨p, q, hA0, hV, rfl, hfz, hnd⟩ := hW
  have hA : DataW.TrodAll enc Tryd.prog W 0 (fun _ => true) true Tryd.f5.params.toList args.toList ds p := hA0
  rw [Tryd.params5] at hA hval
  obtain ⟨v0, vs0, d0, ds0, p0, q0, hargs, rfl, rfl, h0, r0⟩ := trodAll_cons hA
  obtain ⟨rfl, rfl, rfl⟩ := trodAll_nil r0
  obtain rfl : args = #[v0] := by cases args; simp_all
  obtain ⟨rfl, rfl⟩ := trodVars_none hV
  have k0 := Kd.fit _ shape0 (hval 0 3 v0 rfl rfl) h0
  have lt0 : ∀ x ∈ p0, x.block < W.heap.size := by obtain ⟨m, hm⟩ := h0; exact DataW.trod_lt m _ _ _ hm
  refine (faultAll_walk v0 W k0 hT).mono fun e W' ⟨he, bel⟩ => ?_
  subst he
  exact ⟨_, rfl, _, _, _, [], _, [], hW', trodAll_mk1 (shut_bool Tryd.underlying4 _), (trodAll_cons_mk (Below.trod laidOut (by kernel_rfl) (of_decide_eq_true (by kernel_rfl)) h0 bel lt0) trodAll_mk0), rfl, bel.frame _, fun h => by cases h⟩
noncomputable def laidWorld (os : Os) : World := { World.holding Tryd.prog os ⟨#[], #[], []⟩ with heap := ((World.holding Tryd.prog os ⟨#[], #[], []⟩).heap.modify 0 fun | .cells _ t frozen => .cells tab_fault_rows t frozen | o => o) }
theorem laid_met (os : Os) : laidMet Tryd.prog Rows.faultAllRow.laid ((laidWorld os).forCall (fun _ _ => 0) ⟨#[], #[.int .i64 0], []⟩).memory :=
  laidMet_of_run' 8 (by kernel_rfl) (by kernel_rfl)
theorem reads (os : Os) {H : Type} (enc : TypeId × Value → H) : ∃ places, DataW.whole enc Tryd.prog ((laidWorld os).forCall (fun _ _ => 0) ⟨#[], #[.int .i64 0], []⟩).memory Tryd.f5.params.toList Rows.faultAllSpec.vars false (#[.int .i64 0] : Array Value).toList 8 = some ([.lit (.int .i64 0)], [], places) :=
  ⟨[], by kernel_rfl⟩
set_option maxRecDepth 100000 in
theorem lifted (os : Os) (started : os.Started) (H : Type) (enc : TypeId × Value → H) (F : Stop.Interp) :
    ReturnsInHanded {} Tryd.checked os 5 .any ((OpenSpec.ofChange Rows.faultAllSpec).preRow enc Tryd.prog Tryd.f5 Rows.faultAllRow.domain false Rows.faultAllRow.laid) (((OpenSpec.ofChange Rows.faultAllSpec).at F).post enc Tryd.prog Tryd.f5 false true false false) := by
  obtain ⟨places, hx⟩ := reads os enc
  refine returnsInHanded_of_row (C := Tryd.checked) (s := (OpenSpec.ofChange Rows.faultAllSpec)) own started (by kernel_rfl) Tryd.func5
    (witness_row_at (enc := enc) (C := Tryd.checked) false (laidWorld os) #[.int .i64 0] rfl (by kernel_rfl) (by kernel_rfl) (by kernel_rfl)
      (OpenSpec.preRow_of_cond 8 hx (by kernel_rfl) (fun k hk => by cases hk) (by kernel_rfl) (laid_met os))) ?_
  intro W base args ds gs before hval hW _ _ _ hL _ _
  exact contract H enc W base args ds gs before hval hW hL
theorem said : Rows.FaultAllSaid :=
  OpenClaim.holds_of_cond 5 Tryd.f5 rfl rfl rfl rfl rfl rfl rfl ⟨rfl, rfl, rfl, rfl, rfl⟩ rfl rfl rfl rfl rfl (by kernel_rfl) Tryd.func5 (by kernel_rfl)
    (of_decide_eq_true (by kernel_rfl)) (by unfold Func.isWrapper; first | (rw [if_pos (by decide +kernel)]; kernel_rfl) | (rw [if_neg (by decide +kernel)]; exact ⟨rfl, rfl⟩))
    (fun os started H enc _ F => by rw [OpenClaim.pre_eq_preRow]; exact lifted os started H enc F)
theorem plain (f : FuncId) (fn : Func) (hf : Tryd.pinned.checked.prog.funcNamed "paternoster/paternosterlaw21.FaultAll" = some f) (hfn : Tryd.pinned.checked.prog.funcs[f]? = some fn) :
    false = Tryd.pinned.checked.prog.looks [] ∧ ∀ (j : Nat) t, fn.params[j]? = some t → Tryd.pinned.checked.prog.wantsStandIn t = false := by
  obtain rfl : f = 5 := Option.some.inj ((show Tryd.prog.funcNamed "paternoster/paternosterlaw21.FaultAll" = some 5 by kernel_rfl).symm.trans hf) |>.symm
  obtain rfl : fn = Tryd.f5 := (Option.some.inj (Tryd.func5.symm.trans hfn)).symm
  refine ⟨by kernel_rfl, fun j t ht => ?_⟩
  rw [Tryd.params5] at ht
  have hm : t ∈ [3] := by simpa using Array.mem_of_getElem? ht
  simp only [List.mem_cons, List.not_mem_nil, or_false] at hm
  subst hm
  exact (show Tryd.prog.wantsStandIn 3 = false by kernel_rfl)
theorem proved : Rows.FaultAllCardSaid :=
  Claim7.holds_tied_plain_at .later [] _ _ _ _ said (fun _ h => by cases h) (by kernel_rfl) (fun _ h => by cases h) faultAll_row_tie rfl ⟨rfl, rfl⟩ (by kernel_rfl) rfl plain (by kernel_rfl)
end frFaultAll
end Go.Proofs.YteljagaplpiopaaDoor
