/- For every header and every text: the header's bytes, or that it may not be laid; and what the text is as a header (the statement HeaderPuts, as its card is given). No condition. -/
import Derived.Test.YtjgoklccnecjcaaDoorCards
import Derived.Test.YtjgoklccnecjcaaDoorTie
import Derived.Test.YtjgoklccnecjcaaDoorAwake02
import Derived.Test.YtjgoklccnecjcaaDoorRefLay
import Derived.Test.YtjgoklccnecjcaaDoorRefGet
import Derived.Deep.DeepHandedRow
namespace Go.Proofs.YtjgoklccnecjcaaDoor
open Go.RowKit

theorem Kd.ints4 {w : World} {k0 k1 k2 k3 : IntKind} {v : Value} (h : Kd.Fit w (.agg [.int k0, .int k1, .int k2, .int k3]) v) :
    ∃ a b c d, v = .agg #[.int k0 a, .int k1 b, .int k2 c, .int k3 d] ∧ (Lit.int k0 a).wf = true ∧ (Lit.int k1 b).wf = true ∧ (Lit.int k2 c).wf = true ∧ (Lit.int k3 d).wf = true := by
  obtain ⟨cs, rfl, hc⟩ := h
  obtain ⟨v0, c0, rfl, i0, h0⟩ := Kd.headL rfl hc
  obtain ⟨a, rfl, wa⟩ := Kd.int_is i0
  obtain ⟨b, c, d, rfl, wb, wc, wd⟩ := Kd.list_ints3 h0
  exact ⟨a, b, c, d, rfl, wa, wb, wc, wd⟩
theorem getR_is (S : ByteArray) : ∃ (Y : Hd) (f : Int), getR S = getV Y f := by
  unfold getR
  split
  · exact ⟨_, _, rfl⟩
  · split
    · exact ⟨_, _, rfl⟩
    · exact ⟨_, _, rfl⟩
set_option maxRecDepth 100000 in
set_option maxHeartbeats 8000000 in
theorem headerPuts_walk (v0 v1 : Value) (w : World) (h0 : Kd.Fit w (.agg [.int .i64, .int .i64, .int .i64, .int .i64]) v0) (h1 : Kd.Fit w .str v1) (hT : Tab w 0 tab_header_needs) :
    Calls Tryd.prog 3 #[v0, v1] w fun e w' => e = .returned (.bool true) ∧ Below w.heap.size w w' := by
  obtain ⟨l, t, f, s, rfl, q0, q1, q2, q3⟩ := Kd.ints4 h0
  obtain ⟨S, rfl, _⟩ := Kd.str_fit h1
  have hok : Hd.ok ⟨l, t, f, s⟩ := ⟨i64Ok_of q0, i64Ok_of q1, i64Ok_of q2, i64Ok_of q3⟩
  clear h0 h1 q0 q1 q2 q3
  have hP := fun W => Put_any ⟨l, t, f, s⟩ W hok
  have hG := fun W => Get_any S W
  have hR := fun W => RGet_any S W
  have hQ := fun W => RRight_any ⟨l, t, f, s⟩ W
  obtain ⟨⟨yl, yt, yf, ys⟩, g, hg⟩ := getR_is S
  rw [hg] at hG hR
  unfold getV at hG hR
  have HG := Lib.hid hG
  have HR := Lib.hid hR
  clear hG hR hg
  cases hr : rightH ⟨l, t, f, s⟩
  · obtain ⟨e1, e2⟩ := S_wrong hr
    rw [e1, e2] at hP
    rw [hr] at hQ
    have HP := Lib.hid hP
    have HQ := Lib.hid hQ
    clear hP hQ e1 e2 hr hok
    have hb0 : Blk (w.alloc (.cells #[.int .i64 l, .int .i64 t, .int .i64 f, .int .i64 s] 23)) w.heap.size 23 #[.int .i64 l, .int .i64 t, .int .i64 f, .int .i64 s] := Blk.new _ _ _
    have hx0 := (Only.refl Nil w).alloc (.cells #[.int .i64 l, .int .i64 t, .int .i64 f, .int .i64 s] 23)
    go_enter Tryd.func3, Tryd.ntmps3
    go_wp2_with (first
      | (go_at_call 6; (with_reducible refine (HP.out _).mono ?_); rintro e w1 ⟨rfl, ho1⟩; have hb1 := hb0.kept ho1 (fun hh => hh))
      | (go_at_call 7; (with_reducible refine (HG.out _).mono ?_); rintro e w2 ⟨rfl, ho2⟩; have hb2 := hb1.kept ho2 (fun hh => hh); have hy2 := Blk.new w2 23 #[.int .i64 yl, .int .i64 yt, .int .i64 yf, .int .i64 ys]; have hx2 := ((hx0.trans ho1).trans ho2).alloc (.cells #[.int .i64 yl, .int .i64 yt, .int .i64 yf, .int .i64 ys] 23))
      | (go_at_call 8; (with_reducible refine (HR.out _).mono ?_); rintro e w3 ⟨rfl, ho3⟩; have hb3 := (hb2.alloc (.cells #[.int .i64 yl, .int .i64 yt, .int .i64 yf, .int .i64 ys] 23)).kept ho3 (fun hh => hh); have hy3 := hy2.kept ho3 (fun hh => hh); have c0 := hb3.cell 0; have c1 := hb3.cell 1; have c2 := hb3.cell 2; have c3 := hb3.cell 3; have z3 := hb3.lt; have y0 := hy3.cell 0; have y1 := hy3.cell 1; have y2 := hy3.cell 2; have y3 := hy3.cell 3; have zy := hy3.lt; have hx3 := (hx2.trans ho3).alloc (.cells #[.int .i64 yl, .int .i64 yt, .int .i64 yf, .int .i64 ys] 23); have hT3 := hT.kept hx3 (fun hh => hh))
      | (go_at_call 9; (with_reducible refine (HQ.out _).mono ?_); rintro e w4 ⟨rfl, ho4⟩; have hb4 := (hb3.alloc (.cells #[.int .i64 yl, .int .i64 yt, .int .i64 yf, .int .i64 ys] 23)).kept ho4 (fun hh => hh); have hT4 := hT3.kept ho4 (fun hh => hh); have hx4 := hx3.trans ho4)
      | (go_at_call 10; (with_reducible refine (awake_any _ hT4).mono ?_); rintro e w5 ⟨rfl, ho5⟩; have hb5 := hb4.kept ho5 (fun hh => hh); have d0 := hb5.cell 0; have d1 := hb5.cell 1; have d2 := hb5.cell 2; have d3 := hb5.cell 3; have hx5 := hx4.trans ho5)
      | (go_at_call 11; (with_reducible refine (HL.out _).mono ?_); rintro e w6 ⟨rfl, ho6⟩; have hx6 := hx5.trans ho6)
      )
    go_ret
    exact ⟨rfl, hx5.below (Nat.le_refl _) (fun _ _ hh => hh)⟩
  · obtain ⟨e1, e2⟩ := S_right hr
    have hL := fun W => RLay_any ⟨l, t, f, s⟩ W hok hr
    rw [e1, e2] at hP
    rw [hr] at hQ
    generalize layR ⟨l, t, f, s⟩ = X at hP hL
    have HP := Lib.hid hP
    have HQ := Lib.hid hQ
    have HL := Lib.hid hL
    clear hP hQ hL e1 e2 hr hok
    have hb0 : Blk (w.alloc (.cells #[.int .i64 l, .int .i64 t, .int .i64 f, .int .i64 s] 23)) w.heap.size 23 #[.int .i64 l, .int .i64 t, .int .i64 f, .int .i64 s] := Blk.new _ _ _
    have hx0 := (Only.refl Nil w).alloc (.cells #[.int .i64 l, .int .i64 t, .int .i64 f, .int .i64 s] 23)
    go_enter Tryd.func3, Tryd.ntmps3
    go_wp2_with (first
      | (go_at_call 6; (with_reducible refine (HP.out _).mono ?_); rintro e w1 ⟨rfl, ho1⟩; have hb1 := hb0.kept ho1 (fun hh => hh))
      | (go_at_call 7; (with_reducible refine (HG.out _).mono ?_); rintro e w2 ⟨rfl, ho2⟩; have hb2 := hb1.kept ho2 (fun hh => hh); have hy2 := Blk.new w2 23 #[.int .i64 yl, .int .i64 yt, .int .i64 yf, .int .i64 ys]; have hx2 := ((hx0.trans ho1).trans ho2).alloc (.cells #[.int .i64 yl, .int .i64 yt, .int .i64 yf, .int .i64 ys] 23))
      | (go_at_call 8; (with_reducible refine (HR.out _).mono ?_); rintro e w3 ⟨rfl, ho3⟩; have hb3 := (hb2.alloc (.cells #[.int .i64 yl, .int .i64 yt, .int .i64 yf, .int .i64 ys] 23)).kept ho3 (fun hh => hh); have hy3 := hy2.kept ho3 (fun hh => hh); have c0 := hb3.cell 0; have c1 := hb3.cell 1; have c2 := hb3.cell 2; have c3 := hb3.cell 3; have z3 := hb3.lt; have y0 := hy3.cell 0; have y1 := hy3.cell 1; have y2 := hy3.cell 2; have y3 := hy3.cell 3; have zy := hy3.lt; have hx3 := (hx2.trans ho3).alloc (.cells #[.int .i64 yl, .int .i64 yt, .int .i64 yf, .int .i64 ys] 23); have hT3 := hT.kept hx3 (fun hh => hh))
      | (go_at_call 9; (with_reducible refine (HQ.out _).mono ?_); rintro e w4 ⟨rfl, ho4⟩; have hb4 := (hb3.alloc (.cells #[.int .i64 yl, .int .i64 yt, .int .i64 yf, .int .i64 ys] 23)).kept ho4 (fun hh => hh); have hT4 := hT3.kept ho4 (fun hh => hh); have hx4 := hx3.trans ho4)
      | (go_at_call 10; (with_reducible refine (awake_any _ hT4).mono ?_); rintro e w5 ⟨rfl, ho5⟩; have hb5 := hb4.kept ho5 (fun hh => hh); have d0 := hb5.cell 0; have d1 := hb5.cell 1; have d2 := hb5.cell 2; have d3 := hb5.cell 3; have hx5 := hx4.trans ho5)
      | (go_at_call 11; (with_reducible refine (HL.out _).mono ?_); rintro e w6 ⟨rfl, ho6⟩; have hx6 := hx5.trans ho6)
      )
    go_ret
    exact ⟨rfl, hx6.below (Nat.le_refl _) (fun _ _ hh => hh)⟩
/-! The step from the walk to the statement of HeaderPuts. -/
namespace frHeaderPuts
open Go.ChangeShapes Go.WideShapes Go.ChangeAt Go.RowKit
set_option linter.unusedVariables false
theorem own : ownKnob Tryd.prog.godebug = none := by kernel_rfl
theorem laidOut : laidOutB Tryd.prog = true := by kernel_rfl
theorem shape0 : Kd.ok Tryd.prog (.agg [.int .i64, .int .i64, .int .i64, .int .i64]) 23 = true := by kernel_rfl
theorem shape1 : Kd.ok Tryd.prog (.str) 9 = true := by kernel_rfl
theorem tabs {W : World} (h : laidMetH Tryd.prog Rows.headerPutsRow.laid W) : Tab W 0 tab_header_needs := by
  have h0 : laidMet Tryd.prog [("paternoster/header.needs", Rows.laid_paternoster_header_needs)] W := h
  obtain ⟨t0, h1⟩ := Tab.of_var tab_header_needs_g tab_header_needs_ty tab_header_needs_ok tab_header_needs_vals (by decide) h0
  exact t0
set_option maxRecDepth 100000 in
theorem contract (H : Type) (enc : TypeId × Value → H) (W : World) (base : Nat) (args : Array Value) (ds gs : List (DataW H)) (before : List MemPlace)
    (hval : ∀ (j : Nat) t v, Tryd.f3.params[j]? = some t → args[j]? = some v → Value.okWide Tryd.prog W .any base t v)
    (hW : DataW.Whole enc Tryd.prog Tryd.f3.params.toList Rows.headerPutsSpec.vars false W args.toList ds gs before) (hL : laidMetH Tryd.prog Rows.headerPutsRow.laid W) :
    Calls Tryd.prog 3 args W fun e W' => ∃ v, e = .returned v ∧ Rows.headerPutsSpec.post enc Tryd.prog Tryd.f3 false true false false W args v W' := by
  have hT := tabs hL
  have hW' := hW
  obtain ⟨p, q, hA0, hV, rfl, hfz, hnd⟩ := hW
  have hA : DataW.TrodAll enc Tryd.prog W 0 (fun _ => true) true Tryd.f3.params.toList args.toList ds p := hA0
  rw [Tryd.params3] at hA hval
  obtain ⟨v0, vs0, d0, ds0, p0, q0, hargs, rfl, rfl, h0, r0⟩ := trodAll_cons hA
  obtain ⟨v1, vs1, d1, ds1, p1, q1, rfl, rfl, rfl, h1, r1⟩ := trodAll_cons r0
  obtain ⟨rfl, rfl, rfl⟩ := trodAll_nil r1
  obtain rfl : args = #[v0, v1] := by cases args; simp_all
  obtain ⟨rfl, rfl⟩ := trodVars_none hV
  have k0 := Kd.fit _ shape0 (hval 0 23 v0 rfl rfl) h0
  have lt0 : ∀ x ∈ p0, x.block < W.heap.size := by obtain ⟨m, hm⟩ := h0; exact DataW.trod_lt m _ _ _ hm
  have k1 := Kd.fit _ shape1 (hval 1 9 v1 rfl rfl) h1
  have lt1 : ∀ x ∈ p1, x.block < W.heap.size := by obtain ⟨m, hm⟩ := h1; exact DataW.trod_lt m _ _ _ hm
  refine (headerPuts_walk v0 v1 W k0 k1 hT).mono fun e W' ⟨he, bel⟩ => ?_
  subst he
  exact ⟨_, rfl, _, _, _, [], _, [], hW', trodAll_mk1 (shut_bool Tryd.underlying4 _), (trodAll_cons_mk (Below.trod laidOut (by kernel_rfl) (of_decide_eq_true (by kernel_rfl)) h0 bel lt0) (trodAll_cons_mk (Below.trod laidOut (by kernel_rfl) (of_decide_eq_true (by kernel_rfl)) h1 bel lt1) trodAll_mk0)), rfl, bel.frame _, fun h => by cases h⟩
noncomputable def laidWorld (os : Os) : World := { World.holding Tryd.prog os ⟨#[], #[], []⟩ with heap := ((World.holding Tryd.prog os ⟨#[], #[], []⟩).heap.modify 0 fun | .cells _ t frozen => .cells tab_header_needs t frozen | o => o) }
theorem laid_met (os : Os) : laidMet Tryd.prog Rows.headerPutsRow.laid ((laidWorld os).forCall (fun _ _ => 0) ⟨#[], #[.agg #[.int .i64 0, .int .i64 0, .int .i64 0, .int .i64 0], .string ByteArray.empty], []⟩).memory :=
  laidMet_of_run' 8 (by kernel_rfl) (by kernel_rfl)
theorem reads (os : Os) {H : Type} (enc : TypeId × Value → H) : ∃ places, DataW.whole enc Tryd.prog ((laidWorld os).forCall (fun _ _ => 0) ⟨#[], #[.agg #[.int .i64 0, .int .i64 0, .int .i64 0, .int .i64 0], .string ByteArray.empty], []⟩).memory Tryd.f3.params.toList Rows.headerPutsSpec.vars false (#[.agg #[.int .i64 0, .int .i64 0, .int .i64 0, .int .i64 0], .string ByteArray.empty] : Array Value).toList 8 = some ([.agg [.lit (.int .i64 0), .lit (.int .i64 0), .lit (.int .i64 0), .lit (.int .i64 0)], .lit (.string [])], [], places) :=
  ⟨[], by kernel_rfl⟩
set_option maxRecDepth 100000 in
theorem lifted (os : Os) (started : os.Started) (H : Type) (enc : TypeId × Value → H) (F : Stop.Interp) :
    ReturnsInHanded {} Tryd.checked os 3 .any ((OpenSpec.ofChange Rows.headerPutsSpec).preRow enc Tryd.prog Tryd.f3 Rows.headerPutsRow.domain false Rows.headerPutsRow.laid) (((OpenSpec.ofChange Rows.headerPutsSpec).at F).post enc Tryd.prog Tryd.f3 false true false false) := by
  obtain ⟨places, hx⟩ := reads os enc
  refine returnsInHanded_of_row (C := Tryd.checked) (s := (OpenSpec.ofChange Rows.headerPutsSpec)) own started (by kernel_rfl) Tryd.func3
    (witness_row_at (enc := enc) (C := Tryd.checked) false (laidWorld os) #[.agg #[.int .i64 0, .int .i64 0, .int .i64 0, .int .i64 0], .string ByteArray.empty] rfl (by kernel_rfl) (by kernel_rfl) (by kernel_rfl)
      (OpenSpec.preRow_of_cond 8 hx (by kernel_rfl) (fun k hk => by cases hk) (by kernel_rfl) (laid_met os))) ?_
  intro W base args ds gs before hval hW _ _ _ hL _ _
  exact contract H enc W base args ds gs before hval hW hL
theorem said : Rows.HeaderPutsSaid :=
  OpenClaim.holds_of_cond 3 Tryd.f3 rfl rfl rfl rfl rfl rfl rfl ⟨rfl, rfl, rfl, rfl, rfl⟩ rfl rfl rfl rfl rfl (by kernel_rfl) Tryd.func3 (by kernel_rfl)
    (of_decide_eq_true (by kernel_rfl)) (by unfold Func.isWrapper; first | (rw [if_pos (by decide +kernel)]; kernel_rfl) | (rw [if_neg (by decide +kernel)]; exact ⟨rfl, rfl⟩))
    (fun os started H enc _ F => by rw [OpenClaim.pre_eq_preRow]; exact lifted os started H enc F)
theorem plain (f : FuncId) (fn : Func) (hf : Tryd.pinned.checked.prog.funcNamed "paternoster/paternosterlaw02.HeaderPuts" = some f) (hfn : Tryd.pinned.checked.prog.funcs[f]? = some fn) :
    false = Tryd.pinned.checked.prog.looks [] ∧ ∀ (j : Nat) t, fn.params[j]? = some t → Tryd.pinned.checked.prog.wantsStandIn t = false := by
  obtain rfl : f = 3 := Option.some.inj ((show Tryd.prog.funcNamed "paternoster/paternosterlaw02.HeaderPuts" = some 3 by kernel_rfl).symm.trans hf) |>.symm
  obtain rfl : fn = Tryd.f3 := (Option.some.inj (Tryd.func3.symm.trans hfn)).symm
  refine ⟨by kernel_rfl, fun j t ht => ?_⟩
  rw [Tryd.params3] at ht
  have hm : t ∈ [23, 9] := by simpa using Array.mem_of_getElem? ht
  simp only [List.mem_cons, List.not_mem_nil, or_false] at hm
  rcases hm with rfl | rfl
  · exact (show Tryd.prog.wantsStandIn 23 = false by kernel_rfl)
  · exact (show Tryd.prog.wantsStandIn 9 = false by kernel_rfl)
theorem proved : Rows.HeaderPutsCardSaid :=
  Claim7.holds_tied_plain_at .later [] _ _ _ _ said (fun _ h => by cases h) (by kernel_rfl) (fun _ h => by cases h) headerPuts_row_tie rfl ⟨rfl, rfl⟩ (by kernel_rfl) rfl plain (by kernel_rfl)
end frHeaderPuts
end Go.Proofs.YtjgoklccnecjcaaDoor
