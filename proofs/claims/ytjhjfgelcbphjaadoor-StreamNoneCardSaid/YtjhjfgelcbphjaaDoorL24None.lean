/- A nil stream has nothing, whatever is called (the statement StreamNone, as it is given). No condition. -/
import Derived.Test.YtjhjfgelcbphjaaDoorCards
import Derived.Test.YtjhjfgelcbphjaaDoorTie
import Derived.Test.YtjhjfgelcbphjaaDoorAwake24
import Derived.Test.YtjhjfgelcbphjaaDoorKfr
import Derived.Deep.DeepHandedRow
namespace Go.Proofs.YtjhjfgelcbphjaaDoor
open Go.RowKit

set_option maxRecDepth 100000 in
set_option maxHeartbeats 4000000 in
theorem streamNone_walk (v0 v1 : Value) (w : World) (h0 : Kd.Fit w (.agg [.int .i64, .int .i64, .bool, .str, .int .i64, .agg [.int .i64, .int .i64, .bool], .int .i64, .int .i64, .int .i64, .slc (.agg [.int .i64, .int .i64])]) v0) (h1 : Kd.Fit w (.int .i64) v1) (hT : Fol w) :
    Calls Tryd.prog 7 #[v0, v1] w fun e w' => e = .returned (.bool true) ∧ Below w.heap.size w w' := by
  obtain ⟨n, rfl, -⟩ := Kd.int_fit h1
  obtain ⟨f, A, m, cap, rfl, -, -, -⟩ := Kd.frame h0
  clear h0 h1
  have HT := Lib.hid hT
  have hn := Lib.hid ((Only.refl Nil w).alloc (.cells (frC f (.slice A m cap)) 62))
  have hb := Lib.hid (Blk.new w 62 (frC f (.slice A m cap)))
  clear hT
  go_enter Tryd.func7, Tryd.ntmps7
  go_wp2_with (first
    | (go_at_call 28; (with_reducible refine (SOffer_nil _ _).mono ?_); rintro e w1 ⟨rfl, rfl⟩)
    | (go_at_call 35; (with_reducible refine (STake_nil n _).mono ?_); rintro e w2 ⟨rfl, ho2⟩; have HO2 := Lib.hid (hn.out.trans ho2); have hb2 := hb.out.kept ho2 (fun hh => hh); obtain ⟨u0, u1, u2, u3, u4, u5, u6, u7, u8, u9, u10, u11⟩ := hb2.frm; have uz := hb2.lt; have HX := Lib.hid (Blk.new w2 62 (frC zfr (.slice none 0 0))); have HO2a := Lib.hid (HO2.out.alloc (.cells (frC zfr (.slice none 0 0)) 62)); clear ho2 hb2)
    | (go_at_call 24; (with_reducible refine (SCome_nil f (.slice A m cap) _).mono ?_); rintro e w3 ⟨rfl, ho3⟩; have HO3 := Lib.hid (HO2a.out.trans ho3); have HX3 := Lib.hid (HX.out.kept ho3 (fun hh => hh)); have hT3 := Lib.hid (HT.out.kept HO3.out (fun hh => hh)); clear ho3)
    | (go_at_call 10; (with_reducible refine (awake_any _ hT3.out).mono ?_); rintro e w4 ⟨rfl, hb4⟩; have HB4 := Lib.hid hb4; have hx4 := HX3.out.below hb4 HX3.out.lt; obtain ⟨q0, q1, q2, q3, q4, q5, q6, q7, q8, q9, q10, q11⟩ := hx4.frm; have qz := hx4.lt; clear hb4 hx4)
    | (go_at_call 36; (with_reducible refine (SFinish_nil _).mono ?_); rintro e w5 ⟨rfl, rfl⟩)
    | (go_at_call 37; (with_reducible refine (FSame_any zfr zfr (PmIs.nil _) (PmIs.nil _) true (by simp)).mono ?_); rintro e w6 ⟨rfl, ho6⟩; have HO6 := Lib.hid ho6; clear ho6)
    | (go_at_call 31; (with_reducible refine (SEnd_nil n _).mono ?_); rintro e w7 ⟨rfl, rfl⟩)
    | (go_at_call 11; (with_reducible refine (SID_nil _).mono ?_); rintro e w8 ⟨rfl, rfl⟩)
    | (go_at_call 12; (with_reducible refine (SKind_nil _).mono ?_); rintro e w8 ⟨rfl, rfl⟩)
    | (go_at_call 16; (with_reducible refine (STx_nil _).mono ?_); rintro e w8 ⟨rfl, rfl⟩)
    | (go_at_call 17; (with_reducible refine (SRx_nil _).mono ?_); rintro e w8 ⟨rfl, rfl⟩)
    | (go_at_call 13; (with_reducible refine (SOwn_nil _).mono ?_); rintro e w8 ⟨rfl, rfl⟩)
    | (go_at_call 34; (with_reducible refine (SGone_nil _).mono ?_); rintro e w8 ⟨rfl, rfl⟩)
    )
  go_ret
  have hA := HO3.out.below (Nat.le_refl _) (fun _ _ hh => hh)
  have hB := hA.trans (HB4.out.mono HO3.out.size)
  exact ⟨rfl, hB.trans (HO6.out.below hB.size (fun _ _ hh => hh))⟩
/-! The step from the walk to the statement of StreamNone. -/
namespace frStreamNone
open Go.ChangeShapes Go.WideShapes Go.ChangeAt Go.RowKit
set_option linter.unusedVariables false
theorem own : ownKnob Tryd.prog.godebug = none := by kernel_rfl
theorem laidOut : laidOutB Tryd.prog = true := by kernel_rfl
theorem shape0 : Kd.ok Tryd.prog (.agg [.int .i64, .int .i64, .bool, .str, .int .i64, .agg [.int .i64, .int .i64, .bool], .int .i64, .int .i64, .int .i64, .slc (.agg [.int .i64, .int .i64])]) 62 = true := by kernel_rfl
theorem shape1 : Kd.ok Tryd.prog (.int .i64) 3 = true := by kernel_rfl
theorem tabs {W : World} (h : laidMetH Tryd.prog Rows.streamNoneRow.laid W) : Tab W 0 tab_life_follows := by
  have h0 : laidMet Tryd.prog [("paternoster/life.follows", Rows.laid_paternoster_life_follows)] W := h
  obtain ⟨t0, h1⟩ := Tab.of_var tab_life_follows_g tab_life_follows_ty tab_life_follows_ok tab_life_follows_vals (by decide) h0
  exact t0
set_option maxRecDepth 100000 in
theorem contract (H : Type) (enc : TypeId × Value → H) (W : World) (base : Nat) (args : Array Value) (ds gs : List (DataW H)) (before : List MemPlace)
    (hval : ∀ (j : Nat) t v, Tryd.f7.params[j]? = some t → args[j]? = some v → Value.okWide Tryd.prog W .any base t v)
    (hW : DataW.Whole enc Tryd.prog Tryd.f7.params.toList Rows.streamNoneSpec.vars false W args.toList ds gs before) (hL : laidMetH Tryd.prog Rows.streamNoneRow.laid W) :
    Calls Tryd.prog 7 args W fun e W' => ∃ v, e = .returned v ∧ Rows.streamNoneSpec.post enc Tryd.prog Tryd.f7 false true false false W args v W' := by
  have hT := tabs hL
  have hW' := hW
  obtain ⟨p, q, hA0, hV, rfl, hfz, hnd⟩ := hW
  have hA : DataW.TrodAll enc Tryd.prog W 0 (fun _ => true) true Tryd.f7.params.toList args.toList ds p := hA0
  rw [Tryd.params7] at hA hval
  obtain ⟨v0, vs0, d0, ds0, p0, q0, hargs, rfl, rfl, h0, r0⟩ := trodAll_cons hA
  obtain ⟨v1, vs1, d1, ds1, p1, q1, rfl, rfl, rfl, h1, r1⟩ := trodAll_cons r0
  obtain ⟨rfl, rfl, rfl⟩ := trodAll_nil r1
  obtain rfl : args = #[v0, v1] := by cases args; simp_all
  obtain ⟨rfl, rfl⟩ := trodVars_none hV
  have k0 := Kd.fit _ shape0 (hval 0 62 v0 rfl rfl) h0
  have lt0 : ∀ x ∈ p0, x.block < W.heap.size := by obtain ⟨m, hm⟩ := h0; exact DataW.trod_lt m _ _ _ hm
  have k1 := Kd.fit _ shape1 (hval 1 3 v1 rfl rfl) h1
  have lt1 : ∀ x ∈ p1, x.block < W.heap.size := by obtain ⟨m, hm⟩ := h1; exact DataW.trod_lt m _ _ _ hm
  refine (streamNone_walk v0 v1 W k0 k1 hT).mono fun e W' ⟨he, bel⟩ => ?_
  subst he
  exact ⟨_, rfl, _, _, _, [], _, [], hW', trodAll_mk1 (shut_bool Tryd.underlying4 _), (trodAll_cons_mk (Below.trod laidOut (by kernel_rfl) (of_decide_eq_true (by kernel_rfl)) h0 bel lt0) (trodAll_cons_mk (Below.trod laidOut (by kernel_rfl) (of_decide_eq_true (by kernel_rfl)) h1 bel lt1) trodAll_mk0)), rfl, bel.frame _, fun h => by cases h⟩
noncomputable def laidWorld (os : Os) : World := { World.holding Tryd.prog os ⟨#[], #[], []⟩ with heap := ((World.holding Tryd.prog os ⟨#[], #[], []⟩).heap.modify 0 fun | .cells _ t frozen => .cells tab_life_follows t frozen | o => o) }
theorem laid_met (os : Os) : laidMet Tryd.prog Rows.streamNoneRow.laid ((laidWorld os).forCall (fun _ _ => 0) ⟨#[], #[.agg #[.int .i64 0, .int .i64 0, .bool false, .string ByteArray.empty, .int .i64 0, .int .i64 0, .int .i64 0, .bool false, .int .i64 0, .int .i64 0, .int .i64 0, .slice none 0 0], .int .i64 0], []⟩).memory :=
  laidMet_of_run' 8 (by kernel_rfl) (by kernel_rfl)
theorem reads (os : Os) {H : Type} (enc : TypeId × Value → H) : ∃ places, DataW.whole enc Tryd.prog ((laidWorld os).forCall (fun _ _ => 0) ⟨#[], #[.agg #[.int .i64 0, .int .i64 0, .bool false, .string ByteArray.empty, .int .i64 0, .int .i64 0, .int .i64 0, .bool false, .int .i64 0, .int .i64 0, .int .i64 0, .slice none 0 0], .int .i64 0], []⟩).memory Tryd.f7.params.toList Rows.streamNoneSpec.vars false (#[.agg #[.int .i64 0, .int .i64 0, .bool false, .string ByteArray.empty, .int .i64 0, .int .i64 0, .int .i64 0, .bool false, .int .i64 0, .int .i64 0, .int .i64 0, .slice none 0 0], .int .i64 0] : Array Value).toList 8 = some ([.agg [.lit (.int .i64 0), .lit (.int .i64 0), .lit (.bool false), .lit (.string []), .lit (.int .i64 0), .agg [.lit (.int .i64 0), .lit (.int .i64 0), .lit (.bool false)], .lit (.int .i64 0), .lit (.int .i64 0), .lit (.int .i64 0), .nil], .lit (.int .i64 0)], [], places) :=
  ⟨[], by kernel_rfl⟩
set_option maxRecDepth 100000 in
theorem lifted (os : Os) (started : os.Started) (H : Type) (enc : TypeId × Value → H) (F : Stop.Interp) :
    ReturnsInHanded {} Tryd.checked os 7 .any ((OpenSpec.ofChange Rows.streamNoneSpec).preRow enc Tryd.prog Tryd.f7 Rows.streamNoneRow.domain false Rows.streamNoneRow.laid) (((OpenSpec.ofChange Rows.streamNoneSpec).at F).post enc Tryd.prog Tryd.f7 false true false false) := by
  obtain ⟨places, hx⟩ := reads os enc
  refine returnsInHanded_of_row (C := Tryd.checked) (s := (OpenSpec.ofChange Rows.streamNoneSpec)) own started (by kernel_rfl) Tryd.func7
    (witness_row_at (enc := enc) (C := Tryd.checked) false (laidWorld os) #[.agg #[.int .i64 0, .int .i64 0, .bool false, .string ByteArray.empty, .int .i64 0, .int .i64 0, .int .i64 0, .bool false, .int .i64 0, .int .i64 0, .int .i64 0, .slice none 0 0], .int .i64 0] rfl (by kernel_rfl) (by kernel_rfl) (by kernel_rfl)
      (OpenSpec.preRow_of_cond 8 hx (by kernel_rfl) (fun k hk => by cases hk) (by kernel_rfl) (laid_met os))) ?_
  intro W base args ds gs before hval hW _ _ _ hL _ _
  exact contract H enc W base args ds gs before hval hW hL
theorem said : Rows.StreamNoneSaid :=
  OpenClaim.holds_of_cond 7 Tryd.f7 rfl rfl rfl rfl rfl rfl rfl ⟨rfl, rfl, rfl, rfl, rfl⟩ rfl rfl rfl rfl rfl (by kernel_rfl) Tryd.func7 (by kernel_rfl)
    (of_decide_eq_true (by kernel_rfl)) (by unfold Func.isWrapper; first | (rw [if_pos (by decide +kernel)]; kernel_rfl) | (rw [if_neg (by decide +kernel)]; exact ⟨rfl, rfl⟩))
    (fun os started H enc _ F => by rw [OpenClaim.pre_eq_preRow]; exact lifted os started H enc F)
theorem plain (f : FuncId) (fn : Func) (hf : Tryd.pinned.checked.prog.funcNamed "paternoster/paternosterlaw24.StreamNone" = some f) (hfn : Tryd.pinned.checked.prog.funcs[f]? = some fn) :
    false = Tryd.pinned.checked.prog.looks [] ∧ ∀ (j : Nat) t, fn.params[j]? = some t → Tryd.pinned.checked.prog.wantsStandIn t = false := by
  obtain rfl : f = 7 := Option.some.inj ((show Tryd.prog.funcNamed "paternoster/paternosterlaw24.StreamNone" = some 7 by kernel_rfl).symm.trans hf) |>.symm
  obtain rfl : fn = Tryd.f7 := (Option.some.inj (Tryd.func7.symm.trans hfn)).symm
  refine ⟨by kernel_rfl, fun j t ht => ?_⟩
  rw [Tryd.params7] at ht
  have hm : t ∈ [62, 3] := by simpa using Array.mem_of_getElem? ht
  simp only [List.mem_cons, List.not_mem_nil, or_false] at hm
  rcases hm with rfl | rfl
  · exact (show Tryd.prog.wantsStandIn 62 = false by kernel_rfl)
  · exact (show Tryd.prog.wantsStandIn 3 = false by kernel_rfl)
theorem proved : Rows.StreamNoneCardSaid :=
  Claim7.holds_tied_plain_at .later [] _ _ _ _ said (fun _ h => by cases h) (by kernel_rfl) (fun _ h => by cases h) streamNone_row_tie rfl ⟨rfl, rfl⟩ (by kernel_rfl) rfl plain (by kernel_rfl)
end frStreamNone
end Go.Proofs.YtjhjfgelcbphjaaDoor
