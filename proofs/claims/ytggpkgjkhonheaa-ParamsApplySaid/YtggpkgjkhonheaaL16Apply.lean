/- For all settings and every list of Params: what is applied is the document's answer, and settings may be one's own just when the document says so (the statement ParamsApply, as it is given). No condition. -/

import Derived.Test.YtggpkgjkhonheaaAwake16
namespace Go.Proofs.Ytggpkgjkhonheaa
open Go.RowKit

set_option maxRecDepth 100000 in
set_option maxHeartbeats 4000000 in
theorem paramsApply_walk (v0 v1 : Value) (w : World) (h0 : Kd.Fit w (.agg [.int .i64, .int .i64, .int .i64]) v0) (h1 : Kd.Fit w (.slc (.agg [.int .i64, .int .i64])) v1) :
    Calls Try.prog 3 #[v0, v1] w fun e w' => e = .returned (.bool true) ∧ Below w.heap.size w w' := by
  obtain ⟨sa, sb, sc, rfl, _, _, _⟩ := Kd.ints3 h0
  obtain ⟨A, len, cap, rfl, hl⟩ := Kd.slc_fit h1
  obtain ⟨l, hlen, hok, hs⟩ := pr_list hl
  have hll : len ≤ 9223372036854775807 := Nat.le_trans hl.1 hl.2.1
  have hcap := hl.1
  have hcm : cap ≤ 9223372036854775807 := hl.2.1
  clear h0 h1 hl hok
  by_cases hbig : 200 < len
  · obtain ⟨m, hm⟩ : ∃ m, l.take 200 = m := ⟨_, rfl⟩
    have hml : m.length = 200 := by rw [← hm, List.length_take]; omega
    have hsm : Sq encP 2 w w.heap.size A m := by rw [← hm]; exact hs.take 200
    clear hm hs hlen
    have hA := fun (W : World) (h : Sq encP 2 W W.heap.size A m) => Apply_any ⟨sa, sb, sc⟩ A cap m W h (by rw [hml]; omega)
    have hR := fun (W : World) (h : Sq encP 2 W W.heap.size A m) => RApply_any ⟨sa, sb, sc⟩ A cap m W h (by rw [hml]; omega)
    obtain ⟨⟨⟨ra, rb, rc⟩, rd⟩, hr⟩ : ∃ r, apG m ⟨sa, sb, sc⟩ = r := ⟨_, rfl⟩
    rw [hr, hml] at hA hR
    unfold apV at hA hR
    clear hr hml
    have hx0 := (Only.refl Nil w).alloc (.cells #[.int .i64 sa, .int .i64 sb, .int .i64 sc] 23)
    have hB0 : Sb (w.alloc (.cells #[.int .i64 sa, .int .i64 sb, .int .i64 sc] 23)) w.heap.size ⟨sa, sb, sc⟩ := Blk.new _ _ _
    have hrr := Right_any sa sb sc
    cases hrb : rightB sa sb sc
    · rw [hrb] at hrr
      have hcc : ∀ W, Calls Try.prog 8 #[stV sa sb sc] W fun x w' => x = .returned (.int .i64 3) ∧ Only Nil W w' := by intro W; have := Check_any sa sb sc W; rw [hrb] at this; exact this
      clear hrb
      go_enter Try.func3, Try.ntmps3
      go_wp2_with (first
        | (go_at_call 6; (with_reducible refine (hA _ (hsm.go hx0)).mono ?_); rintro e w1 ⟨rfl, ho1⟩; have hB1 := Blk.kept hB0 ho1 (fun hh => hh); obtain ⟨c0, c1, c2⟩ := Sb.facts (q := ⟨sa, sb, sc⟩) hB1; have z1 := hB1.lt; have hx1 := (hx0.trans ho1).alloc (.cells #[.int .i64 ra, .int .i64 rb, .int .i64 rc] 23); have hP1 := Blk.new w1 23 #[.int .i64 ra, .int .i64 rb, .int .i64 rc])
        | (go_at_call 7; (with_reducible refine (hR _ (hsm.go hx1)).mono ?_); rintro e w2 ⟨rfl, ho2⟩; have hB2 := Blk.kept (hB1.alloc _) ho2 (fun hh => hh); have hP2 := Blk.kept hP1 ho2 (fun hh => hh); obtain ⟨c0, c1, c2⟩ := Sb.facts (q := ⟨sa, sb, sc⟩) hB2; have z2 := hB2.lt; have z3 := hP2.lt; have hQ2 := Blk.new w2 23 #[.int .i64 ra, .int .i64 rb, .int .i64 rc]; have hx2 := (hx1.trans ho2).alloc (.cells #[.int .i64 ra, .int .i64 rb, .int .i64 rc] 23))
        | (go_at_call 8; (with_reducible refine (hcc _).mono ?_); rintro e w3 ⟨rfl, ho3⟩; have hB3 := Blk.kept (hB2.alloc _) ho3 (fun hh => hh); have hP3 := Blk.kept (hP2.alloc _) ho3 (fun hh => hh); have hQ3 := Blk.kept hQ2 ho3 (fun hh => hh))
        | (go_at_call 9; (with_reducible refine (awake_any _).mono ?_); rintro e w4 ⟨rfl, ho4⟩; have hB4 := Blk.kept hB3 ho4 (fun hh => hh); have hP4 := Blk.kept hP3 ho4 (fun hh => hh); have hQ4 := Blk.kept hQ3 ho4 (fun hh => hh); obtain ⟨c0, c1, c2⟩ := Sb.facts (q := ⟨sa, sb, sc⟩) hB4; obtain ⟨p0, p1, p2⟩ := Sb.facts (q := ⟨ra, rb, rc⟩) hP4; obtain ⟨q0, q1, q2⟩ := Sb.facts (q := ⟨ra, rb, rc⟩) hQ4)
        | (go_at_call 10; (with_reducible refine (hrr _).mono ?_); rintro e w5 ⟨rfl, ho5⟩)
        )
      go_ret
      exact ⟨rfl, (((hx2.trans ho3).trans ho4).trans ho5).below (Nat.le_refl _) (fun _ _ hh => hh)⟩
    · rw [hrb] at hrr
      have hcc : ∀ W, Calls Try.prog 8 #[stV sa sb sc] W fun x w' => x = .returned (.int .i64 0) ∧ Only Nil W w' := by intro W; have := Check_any sa sb sc W; rw [hrb] at this; exact this
      clear hrb
      go_enter Try.func3, Try.ntmps3
      go_wp2_with (first
        | (go_at_call 6; (with_reducible refine (hA _ (hsm.go hx0)).mono ?_); rintro e w1 ⟨rfl, ho1⟩; have hB1 := Blk.kept hB0 ho1 (fun hh => hh); obtain ⟨c0, c1, c2⟩ := Sb.facts (q := ⟨sa, sb, sc⟩) hB1; have z1 := hB1.lt; have hx1 := (hx0.trans ho1).alloc (.cells #[.int .i64 ra, .int .i64 rb, .int .i64 rc] 23); have hP1 := Blk.new w1 23 #[.int .i64 ra, .int .i64 rb, .int .i64 rc])
        | (go_at_call 7; (with_reducible refine (hR _ (hsm.go hx1)).mono ?_); rintro e w2 ⟨rfl, ho2⟩; have hB2 := Blk.kept (hB1.alloc _) ho2 (fun hh => hh); have hP2 := Blk.kept hP1 ho2 (fun hh => hh); obtain ⟨c0, c1, c2⟩ := Sb.facts (q := ⟨sa, sb, sc⟩) hB2; have z2 := hB2.lt; have z3 := hP2.lt; have hQ2 := Blk.new w2 23 #[.int .i64 ra, .int .i64 rb, .int .i64 rc]; have hx2 := (hx1.trans ho2).alloc (.cells #[.int .i64 ra, .int .i64 rb, .int .i64 rc] 23))
        | (go_at_call 8; (with_reducible refine (hcc _).mono ?_); rintro e w3 ⟨rfl, ho3⟩; have hB3 := Blk.kept (hB2.alloc _) ho3 (fun hh => hh); have hP3 := Blk.kept (hP2.alloc _) ho3 (fun hh => hh); have hQ3 := Blk.kept hQ2 ho3 (fun hh => hh))
        | (go_at_call 9; (with_reducible refine (awake_any _).mono ?_); rintro e w4 ⟨rfl, ho4⟩; have hB4 := Blk.kept hB3 ho4 (fun hh => hh); have hP4 := Blk.kept hP3 ho4 (fun hh => hh); have hQ4 := Blk.kept hQ3 ho4 (fun hh => hh); obtain ⟨c0, c1, c2⟩ := Sb.facts (q := ⟨sa, sb, sc⟩) hB4; obtain ⟨p0, p1, p2⟩ := Sb.facts (q := ⟨ra, rb, rc⟩) hP4; obtain ⟨q0, q1, q2⟩ := Sb.facts (q := ⟨ra, rb, rc⟩) hQ4)
        | (go_at_call 10; (with_reducible refine (hrr _).mono ?_); rintro e w5 ⟨rfl, ho5⟩)
        )
      go_ret
      exact ⟨rfl, (((hx2.trans ho3).trans ho4).trans ho5).below (Nat.le_refl _) (fun _ _ hh => hh)⟩
  · obtain ⟨m, rfl⟩ : ∃ m, m = l := ⟨_, rfl⟩
    have hml := hlen
    have hsm := hs
    clear hs hlen
    have hA := fun (W : World) (h : Sq encP 2 W W.heap.size A m) => Apply_any ⟨sa, sb, sc⟩ A cap m W h (by rw [hml]; omega)
    have hR := fun (W : World) (h : Sq encP 2 W W.heap.size A m) => RApply_any ⟨sa, sb, sc⟩ A cap m W h (by rw [hml]; omega)
    obtain ⟨⟨⟨ra, rb, rc⟩, rd⟩, hr⟩ : ∃ r, apG m ⟨sa, sb, sc⟩ = r := ⟨_, rfl⟩
    rw [hr, hml] at hA hR
    unfold apV at hA hR
    clear hr hml
    have hx0 := (Only.refl Nil w).alloc (.cells #[.int .i64 sa, .int .i64 sb, .int .i64 sc] 23)
    have hB0 : Sb (w.alloc (.cells #[.int .i64 sa, .int .i64 sb, .int .i64 sc] 23)) w.heap.size ⟨sa, sb, sc⟩ := Blk.new _ _ _
    have hrr := Right_any sa sb sc
    cases hrb : rightB sa sb sc
    · rw [hrb] at hrr
      have hcc : ∀ W, Calls Try.prog 8 #[stV sa sb sc] W fun x w' => x = .returned (.int .i64 3) ∧ Only Nil W w' := by intro W; have := Check_any sa sb sc W; rw [hrb] at this; exact this
      clear hrb
      go_enter Try.func3, Try.ntmps3
      go_wp2_with (first
        | (go_at_call 6; (with_reducible refine (hA _ (hsm.go hx0)).mono ?_); rintro e w1 ⟨rfl, ho1⟩; have hB1 := Blk.kept hB0 ho1 (fun hh => hh); obtain ⟨c0, c1, c2⟩ := Sb.facts (q := ⟨sa, sb, sc⟩) hB1; have z1 := hB1.lt; have hx1 := (hx0.trans ho1).alloc (.cells #[.int .i64 ra, .int .i64 rb, .int .i64 rc] 23); have hP1 := Blk.new w1 23 #[.int .i64 ra, .int .i64 rb, .int .i64 rc])
        | (go_at_call 7; (with_reducible refine (hR _ (hsm.go hx1)).mono ?_); rintro e w2 ⟨rfl, ho2⟩; have hB2 := Blk.kept (hB1.alloc _) ho2 (fun hh => hh); have hP2 := Blk.kept hP1 ho2 (fun hh => hh); obtain ⟨c0, c1, c2⟩ := Sb.facts (q := ⟨sa, sb, sc⟩) hB2; have z2 := hB2.lt; have z3 := hP2.lt; have hQ2 := Blk.new w2 23 #[.int .i64 ra, .int .i64 rb, .int .i64 rc]; have hx2 := (hx1.trans ho2).alloc (.cells #[.int .i64 ra, .int .i64 rb, .int .i64 rc] 23))
        | (go_at_call 8; (with_reducible refine (hcc _).mono ?_); rintro e w3 ⟨rfl, ho3⟩; have hB3 := Blk.kept (hB2.alloc _) ho3 (fun hh => hh); have hP3 := Blk.kept (hP2.alloc _) ho3 (fun hh => hh); have hQ3 := Blk.kept hQ2 ho3 (fun hh => hh))
        | (go_at_call 9; (with_reducible refine (awake_any _).mono ?_); rintro e w4 ⟨rfl, ho4⟩; have hB4 := Blk.kept hB3 ho4 (fun hh => hh); have hP4 := Blk.kept hP3 ho4 (fun hh => hh); have hQ4 := Blk.kept hQ3 ho4 (fun hh => hh); obtain ⟨c0, c1, c2⟩ := Sb.facts (q := ⟨sa, sb, sc⟩) hB4; obtain ⟨p0, p1, p2⟩ := Sb.facts (q := ⟨ra, rb, rc⟩) hP4; obtain ⟨q0, q1, q2⟩ := Sb.facts (q := ⟨ra, rb, rc⟩) hQ4)
        | (go_at_call 10; (with_reducible refine (hrr _).mono ?_); rintro e w5 ⟨rfl, ho5⟩)
        )
      go_ret
      exact ⟨rfl, (((hx2.trans ho3).trans ho4).trans ho5).below (Nat.le_refl _) (fun _ _ hh => hh)⟩
    · rw [hrb] at hrr
      have hcc : ∀ W, Calls Try.prog 8 #[stV sa sb sc] W fun x w' => x = .returned (.int .i64 0) ∧ Only Nil W w' := by intro W; have := Check_any sa sb sc W; rw [hrb] at this; exact this
      clear hrb
      go_enter Try.func3, Try.ntmps3
      go_wp2_with (first
        | (go_at_call 6; (with_reducible refine (hA _ (hsm.go hx0)).mono ?_); rintro e w1 ⟨rfl, ho1⟩; have hB1 := Blk.kept hB0 ho1 (fun hh => hh); obtain ⟨c0, c1, c2⟩ := Sb.facts (q := ⟨sa, sb, sc⟩) hB1; have z1 := hB1.lt; have hx1 := (hx0.trans ho1).alloc (.cells #[.int .i64 ra, .int .i64 rb, .int .i64 rc] 23); have hP1 := Blk.new w1 23 #[.int .i64 ra, .int .i64 rb, .int .i64 rc])
        | (go_at_call 7; (with_reducible refine (hR _ (hsm.go hx1)).mono ?_); rintro e w2 ⟨rfl, ho2⟩; have hB2 := Blk.kept (hB1.alloc _) ho2 (fun hh => hh); have hP2 := Blk.kept hP1 ho2 (fun hh => hh); obtain ⟨c0, c1, c2⟩ := Sb.facts (q := ⟨sa, sb, sc⟩) hB2; have z2 := hB2.lt; have z3 := hP2.lt; have hQ2 := Blk.new w2 23 #[.int .i64 ra, .int .i64 rb, .int .i64 rc]; have hx2 := (hx1.trans ho2).alloc (.cells #[.int .i64 ra, .int .i64 rb, .int .i64 rc] 23))
        | (go_at_call 8; (with_reducible refine (hcc _).mono ?_); rintro e w3 ⟨rfl, ho3⟩; have hB3 := Blk.kept (hB2.alloc _) ho3 (fun hh => hh); have hP3 := Blk.kept (hP2.alloc _) ho3 (fun hh => hh); have hQ3 := Blk.kept hQ2 ho3 (fun hh => hh))
        | (go_at_call 9; (with_reducible refine (awake_any _).mono ?_); rintro e w4 ⟨rfl, ho4⟩; have hB4 := Blk.kept hB3 ho4 (fun hh => hh); have hP4 := Blk.kept hP3 ho4 (fun hh => hh); have hQ4 := Blk.kept hQ3 ho4 (fun hh => hh); obtain ⟨c0, c1, c2⟩ := Sb.facts (q := ⟨sa, sb, sc⟩) hB4; obtain ⟨p0, p1, p2⟩ := Sb.facts (q := ⟨ra, rb, rc⟩) hP4; obtain ⟨q0, q1, q2⟩ := Sb.facts (q := ⟨ra, rb, rc⟩) hQ4)
        | (go_at_call 10; (with_reducible refine (hrr _).mono ?_); rintro e w5 ⟨rfl, ho5⟩)
        )
      go_ret
      exact ⟨rfl, (((hx2.trans ho3).trans ho4).trans ho5).below (Nat.le_refl _) (fun _ _ hh => hh)⟩
/-! The step from the walk to the statement of ParamsApply. -/
namespace frParamsApply
open Go.ChangeShapes Go.WideShapes Go.ChangeAt Go.RowKit
set_option linter.unusedVariables false
theorem own : ownKnob Try.prog.godebug = none := by kernel_rfl
theorem laidOut : laidOutB Try.prog = true := by kernel_rfl
theorem shape0 : Kd.ok Try.prog (.agg [.int .i64, .int .i64, .int .i64]) 23 = true := by kernel_rfl
theorem shape1 : Kd.ok Try.prog (.slc (.agg [.int .i64, .int .i64])) 24 = true := by kernel_rfl
set_option maxRecDepth 100000 in
theorem contract (H : Type) (enc : TypeId × Value → H) (W : World) (base : Nat) (args : Array Value) (ds gs : List (DataW H)) (before : List MemPlace)
    (hval : ∀ (j : Nat) t v, Try.f3.params[j]? = some t → args[j]? = some v → Value.okWide Try.prog W .any base t v)
    (hW : DataW.Whole enc Try.prog Try.f3.params.toList Rows.paramsApplySpec.vars false W args.toList ds gs before) :
    Calls Try.prog 3 args W fun e W' => ∃ v, e = .returned v ∧ Rows.paramsApplySpec.post enc Try.prog Try.f3 false true false false W args v W' := by
  have hW' := hW
  obtain ⟨p, q, hA0, hV, rfl, hfz, hnd⟩ := hW
  have hA : DataW.TrodAll enc Try.prog W 0 (fun _ => true) true Try.f3.params.toList args.toList ds p := hA0
  rw [Try.params3] at hA hval
  obtain ⟨v0, vs0, d0, ds0, p0, q0, hargs, rfl, rfl, h0, r0⟩ := trodAll_cons hA
  obtain ⟨v1, vs1, d1, ds1, p1, q1, rfl, rfl, rfl, h1, r1⟩ := trodAll_cons r0
  obtain ⟨rfl, rfl, rfl⟩ := trodAll_nil r1
  obtain rfl : args = #[v0, v1] := by cases args; simp_all
  obtain ⟨rfl, rfl⟩ := trodVars_none hV
  have k0 := Kd.fit _ shape0 (hval 0 23 v0 rfl rfl) h0
  have lt0 : ∀ x ∈ p0, x.block < W.heap.size := by obtain ⟨m, hm⟩ := h0; exact DataW.trod_lt m _ _ _ hm
  have k1 := Kd.fit _ shape1 (hval 1 24 v1 rfl rfl) h1
  have lt1 : ∀ x ∈ p1, x.block < W.heap.size := by obtain ⟨m, hm⟩ := h1; exact DataW.trod_lt m _ _ _ hm
  refine (paramsApply_walk v0 v1 W k0 k1).mono fun e W' ⟨he, bel⟩ => ?_
  subst he
  exact ⟨_, rfl, _, _, _, [], _, [], hW', trodAll_mk1 (shut_bool Try.underlying4 _), (trodAll_cons_mk (Below.trod laidOut (by kernel_rfl) (of_decide_eq_true (by kernel_rfl)) h0 bel lt0) (trodAll_cons_mk (Below.trod laidOut (by kernel_rfl) (of_decide_eq_true (by kernel_rfl)) h1 bel lt1) trodAll_mk0)), rfl, bel.frame _, fun h => by cases h⟩
set_option maxRecDepth 100000 in
theorem lifted (os : Os) (started : os.Started) (H : Type) (enc : TypeId × Value → H) :
    ReturnsInHanded {} Try.checked os 3 .any (Rows.paramsApplySpec.pre6 enc Try.prog Try.f3 Rows.paramsApplyRow.domain false) (Rows.paramsApplySpec.post enc Try.prog Try.f3 false true false false) := by
  refine returnsInHanded_of_change (C := Try.checked) own started (by kernel_rfl) Try.func3
    (ChangeSpec.witness6 (enc := enc) (C := Try.checked) false ⟨#[], #[.agg #[.int .i64 0, .int .i64 0, .int .i64 0], .slice none 0 0], []⟩ 8 (by kernel_rfl) (by kernel_rfl) (by kernel_rfl) (by kernel_rfl)) ?_
  intro W base args ds gs before hval hW _ _
  exact contract H enc W base args ds gs before hval hW
theorem over : Rows.paramsApplyRow.holds Try.pinned (OpenSpec.ofChange Rows.paramsApplySpec) :=
  OpenClaim.holds_of_wide 3 Try.f3 rfl rfl rfl rfl rfl rfl rfl ⟨rfl, rfl, rfl, rfl, rfl⟩ rfl rfl rfl rfl rfl (by kernel_rfl) Try.func3 (by kernel_rfl)
    (of_decide_eq_true (by kernel_rfl)) (by unfold Func.isWrapper; first | (rw [if_pos (by decide +kernel)]; kernel_rfl) | (rw [if_neg (by decide +kernel)]; exact ⟨rfl, rfl⟩))
    (fun os started H enc _ => lifted os started H enc)
theorem proved : Rows.ParamsApplySaid := over
end frParamsApply
end Go.Proofs.Ytggpkgjkhonheaa
