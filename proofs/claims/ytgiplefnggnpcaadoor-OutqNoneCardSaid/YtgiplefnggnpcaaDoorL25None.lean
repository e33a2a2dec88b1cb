/- A nil queue of frames has nothing, whatever is called (the statement OutqNone, as its card is given). No condition. -/
import Derived.Test.YtgiplefnggnpcaaDoorCards
import Derived.Test.YtgiplefnggnpcaaDoorTie
import Derived.Test.YtgiplefnggnpcaaDoorAwake25
import Derived.Test.YtgiplefnggnpcaaDoorFrmR2
import Derived.Deep.DeepHandedRow
namespace Go.Proofs.YtgiplefnggnpcaaDoor
open Go.RowKit Nd

theorem Kd.frame {w : World} {v : Value} (h : Kd.Fit w (.agg [.int .i64, .int .i64, .bool, .str, .int .i64, .agg [.int .i64, .int .i64, .bool], .int .i64, .int .i64, .int .i64, .slc (.agg [.int .i64, .int .i64])]) v) : ∃ (f : Frm) (A : Option Addr) (m cap : Nat), v = frmV f (.slice A m cap) ∧ f.d.size ≤ maxLen ∧ f.P.length = m ∧ PmIs w (.slice A m cap) f.P ∧ i64Ok f.t ∧ i64Ok f.s ∧ i64Ok f.n := by
  obtain ⟨cs, rfl, hc⟩ := h
  obtain ⟨v0, c0, rfl, i0, hc⟩ := Kd.headL rfl hc
  obtain ⟨v1, c1, rfl, i1, hc⟩ := Kd.headL rfl hc
  obtain ⟨v2, c2, rfl, i2, hc⟩ := Kd.headL rfl hc
  obtain ⟨v3, c3, rfl, i3, hc⟩ := Kd.headL rfl hc
  obtain ⟨v4, c4, rfl, i4, hc⟩ := Kd.headL rfl hc
  unfold Kd.IsL at hc
  obtain ⟨d, r, rfl, hdl, hd, hc⟩ := hc
  obtain ⟨v6, c6, rfl, i6, hc⟩ := Kd.headL rfl hc
  obtain ⟨v7, c7, rfl, i7, hc⟩ := Kd.headL rfl hc
  obtain ⟨v8, c8, rfl, i8, hc⟩ := Kd.headL rfl hc
  obtain ⟨v9, c9, rfl, i9, hc⟩ := Kd.headL rfl hc
  obtain rfl := Kd.end_ hc
  have hd' : Kd.IsL w [.int .i64, .int .i64, .bool] d := hd
  obtain ⟨d0, e0, rfl, j0, hd'⟩ := Kd.headL rfl hd'
  obtain ⟨d1, e1, rfl, j1, hd'⟩ := Kd.headL rfl hd'
  obtain ⟨d2, e2, rfl, j2, hd'⟩ := Kd.headL rfl hd'
  obtain rfl := Kd.end_ hd'
  obtain ⟨t, rfl, wt⟩ := Kd.int_is i0
  obtain ⟨s, rfl, ws⟩ := Kd.int_is i1
  obtain ⟨en, rfl⟩ := Kd.bool_is i2
  obtain ⟨dd, rfl, hdd⟩ := Kd.str_is i3
  obtain ⟨k, rfl, -⟩ := Kd.int_is i4
  obtain ⟨on, rfl, -⟩ := Kd.int_is j0
  obtain ⟨wtt, rfl, -⟩ := Kd.int_is j1
  obtain ⟨ex, rfl⟩ := Kd.bool_is j2
  obtain ⟨c, rfl, -⟩ := Kd.int_is i6
  obtain ⟨l, rfl, -⟩ := Kd.int_is i7
  obtain ⟨n, rfl, wn⟩ := Kd.int_is i8
  obtain ⟨A, m, cap, rfl, hsl⟩ := Kd.slc_is i9
  obtain ⟨P, hPl, -, hS⟩ := hsl.list (by decide) encPm (fun _ => True) (fun cs hcs hi => by
    obtain ⟨a, b, rfl, -, -⟩ := Kd.list_ints2 hi
    exact ⟨⟨a, b⟩, rfl, trivial⟩)
  exact ⟨⟨t, s, en, dd, k, on, wtt, ex, c, l, n, P⟩, A, m, cap, rfl, hdd, hPl, ⟨A, cap, by rw [← hPl], by rw [hPl]; exact hsl.1, hsl.2.1, hS⟩, i64Ok_of wt, i64Ok_of ws, i64Ok_of wn⟩
set_option maxRecDepth 100000 in
set_option maxHeartbeats 4000000 in
theorem outqNone_walk (v0 : Value) (w : World) (h0 : Kd.Fit w (.agg [.int .i64, .int .i64, .bool, .str, .int .i64, .agg [.int .i64, .int .i64, .bool], .int .i64, .int .i64, .int .i64, .slc (.agg [.int .i64, .int .i64])]) v0) (hT : Nds w) : Calls Tryd.prog 5 #[v0] w fun e w' => e = .returned (.bool true) ∧ Below w.heap.size w w' := by
  obtain ⟨f, A, m, cap, rfl, -, -, -⟩ := Kd.frame h0
  clear h0
  have HT := Lib.hid hT
  have hn := Lib.hid ((Only.refl Nil w).alloc (.cells (frC f (.slice A m cap)) 31))
  have hb := Lib.hid (Blk.new w 31 (frC f (.slice A m cap)))
  clear hT
  go_enter Tryd.func5, Tryd.ntmps5
  go_wp2_with (first
    | (go_at_call 10; (with_reducible refine (Next_nil _).mono ?_); rintro e w1 ⟨rfl, ho1⟩; have HO1 := Lib.hid ((hn.out.trans ho1).alloc (.cells (frC zel.f (.slice none 0 0)) 31)); have hb1 := (hb.out.kept ho1 (fun hh => hh)).alloc (.cells (frC zel.f (.slice none 0 0)) 31); have hx1 := Blk.new w1 31 (frC zel.f (.slice none 0 0)); clear ho1)
    | (go_at_call 7; (with_reducible refine (awake_any _ (Tab.kept HT.out HO1.out (fun hh => hh))).mono ?_); rintro e w2 ⟨rfl, ho2⟩; have HO2 := Lib.hid (HO1.out.trans ho2); have hb2 := hb1.kept ho2 (fun hh => hh); have hx2 := hx1.kept ho2 (fun hh => hh); obtain ⟨c0, c1, c2, c3, c4, c5, c6, c7, c8, c9, c10, c11⟩ := hb2.frm; have zb := hb2.lt; clear ho2)
    | (go_at_call 13; (with_reducible refine (Push_nil f _ _).mono ?_); rintro e w3 ⟨rfl, ho3⟩; have HO3 := Lib.hid (HO2.out.trans ho3); have hx3 := hx2.kept ho3 (fun hh => hh); obtain ⟨d0, d1, d2, d3, d4, d5, d6, d7, d8, d9, d10, d11⟩ := hx3.frm; have zd := hx3.lt; clear ho3)
    | (go_at_call 11; (with_reducible refine (RSame_any zel.f zel.f (PmIs.nil _) (PmIs.nil _) true (by simp)).mono ?_); rintro e w4 ⟨rfl, ho4⟩; have HO4 := Lib.hid (HO3.out.trans ho4); clear ho4)
    | (go_at_call 15; (with_reducible refine (Len_nil _).mono ?_); rintro e w5 ⟨rfl, rfl⟩)
    | (go_at_call 16; (with_reducible refine (Room_nil _).mono ?_); rintro e w5 ⟨rfl, rfl⟩)
    | (go_at_call 9; (with_reducible refine (Clear_nil _).mono ?_); rintro e w5 ⟨rfl, rfl⟩)
    | (go_at_call 14; (with_reducible refine (Types_nil _).mono ?_); rintro e w6 ⟨rfl, ho6⟩)
    )
  go_ret
  exact ⟨rfl, (HO4.out.trans ho6).below (Nat.le_refl _) (fun _ _ hh => hh)⟩
/-! The step from the walk to the statement of OutqNone. -/
namespace frOutqNone
open Go.ChangeShapes Go.WideShapes Go.ChangeAt Go.RowKit
set_option linter.unusedVariables false
theorem own : ownKnob Tryd.prog.godebug = none := by kernel_rfl
theorem laidOut : laidOutB Tryd.prog = true := by kernel_rfl
theorem shape0 : Kd.ok Tryd.prog (.agg [.int .i64, .int .i64, .bool, .str, .int .i64, .agg [.int .i64, .int .i64, .bool], .int .i64, .int .i64, .int .i64, .slc (.agg [.int .i64, .int .i64])]) 31 = true := by kernel_rfl
theorem tabs {W : World} (h : laidMetH Tryd.prog Rows.outqNoneRow.laid W) : Tab W 0 tab_header_needs := by
  have h0 : laidMet Tryd.prog [("paternoster/header.needs", Rows.laid_paternoster_header_needs)] W := h
  obtain ⟨t0, h1⟩ := Tab.of_var tab_header_needs_g tab_header_needs_ty tab_header_needs_ok tab_header_needs_vals (by decide) h0
  exact t0
set_option maxRecDepth 100000 in
theorem contract (H : Type) (enc : TypeId × Value → H) (W : World) (base : Nat) (args : Array Value) (ds gs : List (DataW H)) (before : List MemPlace)
    (hval : ∀ (j : Nat) t v, Tryd.f5.params[j]? = some t → args[j]? = some v → Value.okWide Tryd.prog W .any base t v)
    (hW : DataW.Whole enc Tryd.prog Tryd.f5.params.toList Rows.outqNoneSpec.vars false W args.toList ds gs before) (hL : laidMetH Tryd.prog Rows.outqNoneRow.laid W) :
    Calls Tryd.prog 5 args W fun e W' => ∃ v, e = .returned v ∧ Rows.outqNoneSpec.post enc Tryd.prog Tryd.f5 false true false false W args v W' := by
  have hT := tabs hL
  have hW' := hW
  obtain ⟨p, q, hA0, hV, rfl, hfz, hnd⟩ := hW
  have hA : DataW.TrodAll enc Tryd.prog W 0 (fun _ => true) true Tryd.f5.params.toList args.toList ds p := hA0
  rw [Tryd.params5] at hA hval
  obtain ⟨v0, vs0, d0, ds0, p0, q0, hargs, rfl, rfl, h0, r0⟩ := trodAll_cons hA
  obtain ⟨rfl, rfl, rfl⟩ := trodAll_nil r0
  obtain rfl : args = #[v0] := by cases args; simp_all
  obtain ⟨rfl, rfl⟩ := trodVars_none hV
  have k0 := Kd.fit _ shape0 (hval 0 31 v0 rfl rfl) h0
  have lt0 : ∀ x ∈ p0, x.block < W.heap.size := by obtain ⟨m, hm⟩ := h0; exact DataW.trod_lt m _ _ _ hm
  refine (outqNone_walk v0 W k0 hT).mono fun e W' ⟨he, bel⟩ => ?_
  subst he
  exact ⟨_, rfl, _, _, _, [], _, [], hW', trodAll_mk1 (shut_bool Tryd.underlying4 _), (trodAll_cons_mk (Below.trod laidOut (by kernel_rfl) (of_decide_eq_true (by kernel_rfl)) h0 bel lt0) trodAll_mk0), rfl, bel.frame _, fun h => by cases h⟩
noncomputable def laidWorld (os : Os) : World := { World.holding Tryd.prog os ⟨#[], #[], []⟩ with heap := ((World.holding Tryd.prog os ⟨#[], #[], []⟩).heap.modify 0 fun | .cells _ t frozen => .cells tab_header_needs t frozen | o => o) }
theorem laid_met (os : Os) : laidMet Tryd.prog Rows.outqNoneRow.laid ((laidWorld os).forCall (fun _ _ => 0) ⟨#[], #[.agg #[.int .i64 0, .int .i64 0, .bool false, .string ByteArray.empty, .int .i64 0, .int .i64 0, .int .i64 0, .bool false, .int .i64 0, .int .i64 0, .int .i64 0, .slice none 0 0]], []⟩).memory :=
  laidMet_of_run' 8 (by kernel_rfl) (by kernel_rfl)
theorem reads (os : Os) {H : Type} (enc : TypeId × Value → H) : ∃ places, DataW.whole enc Tryd.prog ((laidWorld os).forCall (fun _ _ => 0) ⟨#[], #[.agg #[.int .i64 0, .int .i64 0, .bool false, .string ByteArray.empty, .int .i64 0, .int .i64 0, .int .i64 0, .bool false, .int .i64 0, .int .i64 0, .int .i64 0, .slice none 0 0]], []⟩).memory Tryd.f5.params.toList Rows.outqNoneSpec.vars false (#[.agg #[.int .i64 0, .int .i64 0, .bool false, .string ByteArray.empty, .int .i64 0, .int .i64 0, .int .i64 0, .bool false, .int .i64 0, .int .i64 0, .int .i64 0, .slice none 0 0]] : Array Value).toList 8 = some ([.agg [.lit (.int .i64 0), .lit (.int .i64 0), .lit (.bool false), .lit (.string []), .lit (.int .i64 0), .agg [.lit (.int .i64 0), .lit (.int .i64 0), .lit (.bool false)], .lit (.int .i64 0), .lit (.int .i64 0), .lit (.int .i64 0), .nil]], [], places) :=
  ⟨[], by kernel_rfl⟩
set_option maxRecDepth 100000 in
theorem lifted (os : Os) (started : os.Started) (H : Type) (enc : TypeId × Value → H) (F : Stop.Interp) :
    ReturnsInHanded {} Tryd.checked os 5 .any ((OpenSpec.ofChange Rows.outqNoneSpec).preRow enc Tryd.prog Tryd.f5 Rows.outqNoneRow.domain false Rows.outqNoneRow.laid) (((OpenSpec.ofChange Rows.outqNoneSpec).at F).post enc Tryd.prog Tryd.f5 false true false false) := by
  obtain ⟨places, hx⟩ := reads os enc
  refine returnsInHanded_of_row (C := Tryd.checked) (s := (OpenSpec.ofChange Rows.outqNoneSpec)) own started (by kernel_rfl) Tryd.func5
    (witness_row_at (enc := enc) (C := Tryd.checked) false (laidWorld os) #[.agg #[.int .i64 0, .int .i64 0, .bool false, .string ByteArray.empty, .int .i64 0, .int .i64 0, .int .i64 0, .bool false, .int .i64 0, .int .i64 0, .int .i64 0, .slice none 0 0]] rfl (by kernel_rfl) (by kernel_rfl) (by kernel_rfl)
      (OpenSpec.preRow_of_cond 8 hx (by kernel_rfl) (fun k hk => by cases hk) (by kernel_rfl) (laid_met os))) ?_
  intro W base args ds gs before hval hW _ _ _ hL _ _
  exact contract H enc W base args ds gs before hval hW hL
theorem said : Rows.OutqNoneSaid :=
  OpenClaim.holds_of_cond 5 Tryd.f5 rfl rfl rfl rfl rfl rfl rfl ⟨rfl, rfl, rfl, rfl, rfl⟩ rfl rfl rfl rfl rfl (by kernel_rfl) Tryd.func5 (by kernel_rfl)
    (of_decide_eq_true (by kernel_rfl)) (by unfold Func.isWrapper; first | (rw [if_pos (by decide +kernel)]; kernel_rfl) | (rw [if_neg (by decide +kernel)]; exact ⟨rfl, rfl⟩))
    (fun os started H enc _ F => by rw [OpenClaim.pre_eq_preRow]; exact lifted os started H enc F)
theorem plain (f : FuncId) (fn : Func) (hf : Tryd.pinned.checked.prog.funcNamed "paternoster/paternosterlaw25.OutqNone" = some f) (hfn : Tryd.pinned.checked.prog.funcs[f]? = some fn) :
    false = Tryd.pinned.checked.prog.looks [] ∧ ∀ (j : Nat) t, fn.params[j]? = some t → Tryd.pinned.checked.prog.wantsStandIn t = false := by
  obtain rfl : f = 5 := Option.some.inj ((show Tryd.prog.funcNamed "paternoster/paternosterlaw25.OutqNone" = some 5 by kernel_rfl).symm.trans hf) |>.symm
  obtain rfl : fn = Tryd.f5 := (Option.some.inj (Tryd.func5.symm.trans hfn)).symm
  refine ⟨by kernel_rfl, fun j t ht => ?_⟩
  rw [Tryd.params5] at ht
  have hm : t ∈ [31] := by simpa using Array.mem_of_getElem? ht
  simp only [List.mem_cons, List.not_mem_nil, or_false] at hm
  subst hm
  exact (show Tryd.prog.wantsStandIn 31 = false by kernel_rfl)
theorem proved : Rows.OutqNoneCardSaid :=
  Claim7.holds_tied_plain_at .later [] _ _ _ _ said (fun _ h => by cases h) (by kernel_rfl) (fun _ h => by cases h) outqNone_row_tie rfl ⟨rfl, rfl⟩ (by kernel_rfl) rfl plain (by kernel_rfl)
end frOutqNone
end Go.Proofs.YtgiplefnggnpcaaDoor
