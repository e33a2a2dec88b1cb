/- For every event: what follows, or that it may not (the statement LifeNext, as its card is given). No condition. -/
import Derived.Test.YtcidpnkdefmaoaaDoorCards
import Derived.Test.YtcidpnkdefmaoaaDoorTie
import Derived.Test.YtcidpnkdefmaoaaDoorAwake12
import Derived.Deep.DeepHandedRow
namespace Go.Proofs.YtcidpnkdefmaoaaDoor
open Go.RowKit

set_option maxHeartbeats 2000000 in
theorem lifeNext_walk (v0 v1 : Value) (w : World) (h0 : Kd.Fit w (.int .i64) v0) (h1 : Kd.Fit w (.int .i64) v1) (hT : Tab w 0 tab_life_follows) :
    Calls Tryd.prog 3 #[v0, v1] w fun e w' => e = .returned (.bool true) ∧ Below w.heap.size w w' := by
  obtain ⟨s, rfl, _⟩ := Kd.int_fit h0
  obtain ⟨x, rfl, _⟩ := Kd.int_fit h1
  clear h0 h1
  have hn := next_any s x w hT
  unfold NextPost at hn
  have hbad : (s < 0 ∨ 4 < s ∨ x < 0 ∨ 5 < x) → nxS s x = 0 ∧ nxE s x = 2 := by
    intro h
    have : ¬ (0 ≤ s ∧ s ≤ 4 ∧ 0 ≤ colF x) := by unfold colF; omega
    exact ⟨by unfold nxS; rw [if_neg (fun hh => this ⟨hh.1, hh.2.1, hh.2.2.1⟩)], by unfold nxE; rw [if_neg this]⟩
  by_cases b1 : s < 0
  · rw [(hbad (by omega)).1, (hbad (by omega)).2] at hn
    have hr : ∀ W : World, True := fun _ => trivial
    go_enter Tryd.func3, Tryd.ntmps3
    go_wp2_with (first
      | (go_at_call 7; (with_reducible refine (hn).mono ?_); rintro e w1 ⟨rfl, rfl⟩)
      | (go_at_call 9; (with_reducible refine (hr _).mono ?_); rintro e w2 ⟨rfl, rfl⟩)
      | (go_at_call 8; (with_reducible refine (awake_any _ hT).mono ?_); rintro e w3 ⟨rfl, ho⟩)
      )
    go_ret
    exact ⟨rfl, ho.below (Nat.le_refl _) (fun _ _ hh => hh)⟩
  by_cases b2 : 4 < s
  · rw [(hbad (by omega)).1, (hbad (by omega)).2] at hn
    have hr : ∀ W : World, True := fun _ => trivial
    go_enter Tryd.func3, Tryd.ntmps3
    go_wp2_with (first
      | (go_at_call 7; (with_reducible refine (hn).mono ?_); rintro e w1 ⟨rfl, rfl⟩)
      | (go_at_call 9; (with_reducible refine (hr _).mono ?_); rintro e w2 ⟨rfl, rfl⟩)
      | (go_at_call 8; (with_reducible refine (awake_any _ hT).mono ?_); rintro e w3 ⟨rfl, ho⟩)
      )
    go_ret
    exact ⟨rfl, ho.below (Nat.le_refl _) (fun _ _ hh => hh)⟩
  by_cases b3 : x < 0
  · rw [(hbad (by omega)).1, (hbad (by omega)).2] at hn
    have hr : ∀ W : World, True := fun _ => trivial
    go_enter Tryd.func3, Tryd.ntmps3
    go_wp2_with (first
      | (go_at_call 7; (with_reducible refine (hn).mono ?_); rintro e w1 ⟨rfl, rfl⟩)
      | (go_at_call 9; (with_reducible refine (hr _).mono ?_); rintro e w2 ⟨rfl, rfl⟩)
      | (go_at_call 8; (with_reducible refine (awake_any _ hT).mono ?_); rintro e w3 ⟨rfl, ho⟩)
      )
    go_ret
    exact ⟨rfl, ho.below (Nat.le_refl _) (fun _ _ hh => hh)⟩
  by_cases b4 : 5 < x
  · rw [(hbad (by omega)).1, (hbad (by omega)).2] at hn
    have hr : ∀ W : World, True := fun _ => trivial
    go_enter Tryd.func3, Tryd.ntmps3
    go_wp2_with (first
      | (go_at_call 7; (with_reducible refine (hn).mono ?_); rintro e w1 ⟨rfl, rfl⟩)
      | (go_at_call 9; (with_reducible refine (hr _).mono ?_); rintro e w2 ⟨rfl, rfl⟩)
      | (go_at_call 8; (with_reducible refine (awake_any _ hT).mono ?_); rintro e w3 ⟨rfl, ho⟩)
      )
    go_ret
    exact ⟨rfl, ho.below (Nat.le_refl _) (fun _ _ hh => hh)⟩
  have hr := fun (W : World) => rnext_any s x W (by omega) (by omega) (by omega) (by omega)
  have hc : 0 ≤ colF x := by unfold colF; omega
  by_cases hf : fol s (colF x) = -1
  · have e1 : nxS s x = 0 := by unfold nxS; rw [if_neg (fun hh => hh.2.2.2 hf)]
    have e2 : nxE s x = 11 := by unfold nxE; rw [if_pos ⟨by omega, by omega, hc⟩, if_pos hf]
    rw [e1, e2] at hn
    rw [hf] at hr
    clear hf e1 e2 hbad hc
    go_enter Tryd.func3, Tryd.ntmps3
    go_wp2_with (first
      | (go_at_call 7; (with_reducible refine (hn).mono ?_); rintro e w1 ⟨rfl, rfl⟩)
      | (go_at_call 9; (with_reducible refine (hr _).mono ?_); rintro e w2 ⟨rfl, rfl⟩)
      | (go_at_call 8; (with_reducible refine (awake_any _ hT).mono ?_); rintro e w3 ⟨rfl, ho⟩)
      )
    go_ret
    exact ⟨rfl, ho.below (Nat.le_refl _) (fun _ _ hh => hh)⟩
  · have e1 : nxS s x = fol s (colF x) := by unfold nxS; rw [if_pos ⟨by omega, by omega, hc, hf⟩]
    have e2 : nxE s x = 0 := by unfold nxE; rw [if_pos ⟨by omega, by omega, hc⟩, if_neg hf]
    have e3 : ¬ fol s (colF x) < 0 := by
      have hp : fol s (colF x) = -1 ∨ 0 ≤ fol s (colF x) := by unfold fol; omega
      omega
    rw [e1, e2] at hn
    generalize fol s (colF x) = F at hn hr hf e3
    clear hf e1 e2 hbad hc
    go_enter Tryd.func3, Tryd.ntmps3
    go_wp2_with (first
      | (go_at_call 7; (with_reducible refine (hn).mono ?_); rintro e w1 ⟨rfl, rfl⟩)
      | (go_at_call 9; (with_reducible refine (hr _).mono ?_); rintro e w2 ⟨rfl, rfl⟩)
      | (go_at_call 8; (with_reducible refine (awake_any _ hT).mono ?_); rintro e w3 ⟨rfl, ho⟩)
      )
    go_ret
    exact ⟨rfl, ho.below (Nat.le_refl _) (fun _ _ hh => hh)⟩
/-! The step from the walk to the statement of LifeNext. -/
namespace frLifeNext
open Go.ChangeShapes Go.WideShapes Go.ChangeAt Go.RowKit
set_option linter.unusedVariables false
theorem own : ownKnob Tryd.prog.godebug = none := by kernel_rfl
theorem laidOut : laidOutB Tryd.prog = true := by kernel_rfl
theorem shape0 : Kd.ok Tryd.prog (.int .i64) 3 = true := by kernel_rfl
theorem shape1 : Kd.ok Tryd.prog (.int .i64) 3 = true := by kernel_rfl
theorem tabs {W : World} (h : laidMetH Tryd.prog Rows.lifeNextRow.laid W) : Tab W 0 tab_life_follows := by
  have h0 : laidMet Tryd.prog [("paternoster/life.follows", Rows.laid_paternoster_life_follows)] W := h
  obtain ⟨t0, h1⟩ := Tab.of_var tab_life_follows_g tab_life_follows_ty tab_life_follows_ok tab_life_follows_vals (by decide) h0
  exact t0
set_option maxRecDepth 100000 in
theorem contract (H : Type) (enc : TypeId × Value → H) (W : World) (base : Nat) (args : Array Value) (ds gs : List (DataW H)) (before : List MemPlace)
    (hval : ∀ (j : Nat) t v, Tryd.f3.params[j]? = some t → args[j]? = some v → Value.okWide Tryd.prog W .any base t v)
    (hW : DataW.Whole enc Tryd.prog Tryd.f3.params.toList Rows.lifeNextSpec.vars false W args.toList ds gs before) (hL : laidMetH Tryd.prog Rows.lifeNextRow.laid W) :
    Calls Tryd.prog 3 args W fun e W' => ∃ v, e = .returned v ∧ Rows.lifeNextSpec.post enc Tryd.prog Tryd.f3 false true false false W args v W' := by
  have hT := tabs hL
  have hW' := hW
  obtain ⟨p, q, hA0, hV, rfl, hfz, hnd⟩ := hW
  have hA : DataW.TrodAll enc Tryd.prog W 0 (fun _ => true) true Tryd.f3.params.toList args.toList ds p := hA0
  rw [Tryd.params3] at hA hval
  obtain ⟨v0, vs0, d0, ds0, p0, q0, hargs, rfl, rfl, h0, r0⟩ := trodAll_cons hA
  obtain ⟨v1, vs1, d1, ds1, p1, q1, rfl, rfl, rfl, h1, r1⟩ := trodAll_cons r0
  obtain ⟨rfl, rfl, rfl⟩ := trodAll_nil r1
  obtain rfl : args = #[v0, v1] := by cases args; simp_all
  obtain ⟨rfl, rfl⟩ := trodVars_none hV
  have k0 := Kd.fit _ shape0 (hval 0 3 v0 rfl rfl) h0
  have lt0 : ∀ x ∈ p0, x.block < W.heap.size := by obtain ⟨m, hm⟩ := h0; exact DataW.trod_lt m _ _ _ hm
  have k1 := Kd.fit _ shape1 (hval 1 3 v1 rfl rfl) h1
  have lt1 : ∀ x ∈ p1, x.block < W.heap.size := by obtain ⟨m, hm⟩ := h1; exact DataW.trod_lt m _ _ _ hm
  refine (lifeNext_walk v0 v1 W k0 k1 hT).mono fun e W' ⟨he, bel⟩ => ?_
  subst he
  exact ⟨_, rfl, _, _, _, [], _, [], hW', trodAll_mk1 (shut_bool Tryd.underlying4 _), (trodAll_cons_mk (Below.trod laidOut (by kernel_rfl) (of_decide_eq_true (by kernel_rfl)) h0 bel lt0) (trodAll_cons_mk (Below.trod laidOut (by kernel_rfl) (of_decide_eq_true (by kernel_rfl)) h1 bel lt1) trodAll_mk0)), rfl, bel.frame _, fun h => by cases h⟩
noncomputable def laidWorld (os : Os) : World := { World.holding Tryd.prog os ⟨#[], #[], []⟩ with heap := ((World.holding Tryd.prog os ⟨#[], #[], []⟩).heap.modify 0 fun | .cells _ t frozen => .cells tab_life_follows t frozen | o => o) }
theorem laid_met (os : Os) : laidMet Tryd.prog Rows.lifeNextRow.laid ((laidWorld os).forCall (fun _ _ => 0) ⟨#[], #[.int .i64 0, .int .i64 0], []⟩).memory :=
  laidMet_of_run' 8 (by kernel_rfl) (by kernel_rfl)
theorem reads (os : Os) {H : Type} (enc : TypeId × Value → H) : ∃ places, DataW.whole enc Tryd.prog ((laidWorld os).forCall (fun _ _ => 0) ⟨#[], #[.int .i64 0, .int .i64 0], []⟩).memory Tryd.f3.params.toList Rows.lifeNextSpec.vars false (#[.int .i64 0, .int .i64 0] : Array Value).toList 8 = some ([.lit (.int .i64 0), .lit (.int .i64 0)], [], places) :=
  ⟨[], by kernel_rfl⟩
set_option maxRecDepth 100000 in
theorem lifted (os : Os) (started : os.Started) (H : Type) (enc : TypeId × Value → H) (F : Stop.Interp) :
    ReturnsInHanded {} Tryd.checked os 3 .any ((OpenSpec.ofChange Rows.lifeNextSpec).preRow enc Tryd.prog Tryd.f3 Rows.lifeNextRow.domain false Rows.lifeNextRow.laid) (((OpenSpec.ofChange Rows.lifeNextSpec).at F).post enc Tryd.prog Tryd.f3 false true false false) := by
  obtain ⟨places, hx⟩ := reads os enc
  refine returnsInHanded_of_row (C := Tryd.checked) (s := (OpenSpec.ofChange Rows.lifeNextSpec)) own started (by kernel_rfl) Tryd.func3
    (witness_row_at (enc := enc) (C := Tryd.checked) false (laidWorld os) #[.int .i64 0, .int .i64 0] rfl (by kernel_rfl) (by kernel_rfl) (by kernel_rfl)
      (OpenSpec.preRow_of_cond 8 hx (by kernel_rfl) (fun k hk => by cases hk) (by kernel_rfl) (laid_met os))) ?_
  intro W base args ds gs before hval hW _ _ _ hL _ _
  exact contract H enc W base args ds gs before hval hW hL
theorem said : Rows.LifeNextSaid :=
  OpenClaim.holds_of_cond 3 Tryd.f3 rfl rfl rfl rfl rfl rfl rfl ⟨rfl, rfl, rfl, rfl, rfl⟩ rfl rfl rfl rfl rfl (by kernel_rfl) Tryd.func3 (by kernel_rfl)
    (of_decide_eq_true (by kernel_rfl)) (by unfold Func.isWrapper; first | (rw [if_pos (by decide +kernel)]; kernel_rfl) | (rw [if_neg (by decide +kernel)]; exact ⟨rfl, rfl⟩))
    (fun os started H enc _ F => by rw [OpenClaim.pre_eq_preRow]; exact lifted os started H enc F)
theorem plain (f : FuncId) (fn : Func) (hf : Tryd.pinned.checked.prog.funcNamed "paternoster/paternosterlaw12.LifeNext" = some f) (hfn : Tryd.pinned.checked.prog.funcs[f]? = some fn) :
    false = Tryd.pinned.checked.prog.looks [] ∧ ∀ (j : Nat) t, fn.params[j]? = some t → Tryd.pinned.checked.prog.wantsStandIn t = false := by
  obtain rfl : f = 3 := Option.some.inj ((show Tryd.prog.funcNamed "paternoster/paternosterlaw12.LifeNext" = some 3 by kernel_rfl).symm.trans hf) |>.symm
  obtain rfl : fn = Tryd.f3 := (Option.some.inj (Tryd.func3.symm.trans hfn)).symm
  refine ⟨by kernel_rfl, fun j t ht => ?_⟩
  rw [Tryd.params3] at ht
  have hm : t ∈ [3, 3] := by simpa using Array.mem_of_getElem? ht
  simp only [List.mem_cons, List.not_mem_nil, or_false] at hm
  rcases hm with rfl | rfl
  · exact (show Tryd.prog.wantsStandIn 3 = false by kernel_rfl)
  · exact (show Tryd.prog.wantsStandIn 3 = false by kernel_rfl)
theorem proved : Rows.LifeNextCardSaid :=
  Claim7.holds_tied_plain_at .later [] _ _ _ _ said (fun _ h => by cases h) (by kernel_rfl) (fun _ h => by cases h) lifeNext_row_tie rfl ⟨rfl, rfl⟩ (by kernel_rfl) rfl plain (by kernel_rfl)
end frLifeNext
end Go.Proofs.YtcidpnkdefmaoaaDoor
