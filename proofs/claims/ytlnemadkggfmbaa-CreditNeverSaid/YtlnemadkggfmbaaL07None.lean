/- A nil ledger has nothing, whatever is called (the statement CreditNone, as it is given). No condition. -/
import Derived.Test.YtlnemadkggfmbaaAwake07
namespace Go.Proofs.Ytlnemadkggfmbaa
open Go.RowKit

theorem Kd.list_ints4 {w : World} {k0 k1 k2 k3 : IntKind} {cs : List Value} (h : Kd.IsL w [.int k0, .int k1, .int k2, .int k3] cs) :
    ∃ a b c d, cs = [.int k0 a, .int k1 b, .int k2 c, .int k3 d] ∧ (Lit.int k0 a).wf = true ∧ (Lit.int k1 b).wf = true ∧ (Lit.int k2 c).wf = true ∧ (Lit.int k3 d).wf = true := by
  obtain ⟨v0, c0, rfl, i0, h0⟩ := Kd.headL rfl h
  obtain ⟨a, rfl, wa⟩ := Kd.int_is i0
  obtain ⟨b, c, d, rfl, wb, wc, wd⟩ := Kd.list_ints3 h0
  exact ⟨a, b, c, d, rfl, wa, wb, wc, wd⟩
theorem Kd.ints4 {w : World} {k0 k1 k2 k3 : IntKind} {v : Value} (h : Kd.Fit w (.agg [.int k0, .int k1, .int k2, .int k3]) v) :
    ∃ a b c d, v = .agg #[.int k0 a, .int k1 b, .int k2 c, .int k3 d] ∧ (Lit.int k0 a).wf = true ∧ (Lit.int k1 b).wf = true ∧ (Lit.int k2 c).wf = true ∧ (Lit.int k3 d).wf = true := by
  obtain ⟨cs, rfl, hc⟩ := h
  obtain ⟨a, b, c, d, rfl, wa, wb, wc, wd⟩ := Kd.list_ints4 hc
  exact ⟨a, b, c, d, rfl, wa, wb, wc, wd⟩
set_option maxHeartbeats 4000000 in
theorem creditNone_walk (v0 : Value) (w : World) (h0 : Kd.Fit w (.agg [.int .i64, .int .i64, .int .i64, .int .i64]) v0) :
    Calls Try.prog 5 #[v0] w fun e w' => e = .returned (.bool true) ∧ Below w.heap.size w w' := by
  obtain ⟨k, id, n, t, rfl, _, _, _, _⟩ := Kd.ints4 h0
  clear h0
  have ho0 := (Only.refl Nil w).alloc (.cells #[.int .i64 k, .int .i64 id, .int .i64 n, .int .i64 t] 35)
  have hb0 := Blk.new w 35 #[.int .i64 k, .int .i64 id, .int .i64 n, .int .i64 t]
  have hB0 := ho0.below (Nat.le_refl _) (fun _ _ hh => hh)
  go_enter Try.func5, Try.ntmps5
  go_wp2_with (first
    | (go_at_call 17; (with_reducible refine (Size_nil' id _).mono ?_); rintro e w1 ⟨rfl, rfl⟩)
    | (go_at_call 18; (with_reducible refine (Spent_nil' id _).mono ?_); rintro e w1 ⟨rfl, rfl⟩)
    | (go_at_call 8; (with_reducible refine (awake_any _).mono ?_); rintro e w2 ⟨rfl, hb⟩; have hb1 := hb0.below hb (by simp); have c0 := hb1.cell 0; have c1 := hb1.cell 1; have c2 := hb1.cell 2; have c3 := hb1.cell 3)
    | (go_at_call 11; (with_reducible refine (Open_nil _ _ _).mono ?_); rintro e w3 ⟨rfl, rfl⟩)
    | (go_at_call 12; (with_reducible refine (Close_nil _ _).mono ?_); rintro e w3 ⟨rfl, rfl⟩)
    | (go_at_call 16; (with_reducible refine (Spend_nil _ _ _).mono ?_); rintro e w3 ⟨rfl, rfl⟩)
    | (go_at_call 13; (with_reducible refine (Grow_nil _ _ _).mono ?_); rintro e w3 ⟨rfl, rfl⟩)
    | (go_at_call 15; (with_reducible refine (Resize_nil _ _ _).mono ?_); rintro e w3 ⟨rfl, rfl⟩)
    | (go_at_call 19; (with_reducible refine (Free_nil' _ _).mono ?_); rintro e w3 ⟨rfl, rfl⟩)
    | (go_at_call 14; (with_reducible refine (IDs_nil _).mono ?_); rintro e w3 ⟨rfl, rfl⟩)
    )
  go_ret
  exact ⟨rfl, hB0.trans (hb.mono (by simp))⟩
/-! The step from the walk to the statement of CreditNone. -/
namespace frCreditNone
open Go.ChangeShapes Go.WideShapes Go.ChangeAt Go.RowKit
set_option linter.unusedVariables false
theorem own : ownKnob Try.prog.godebug = none := by kernel_rfl
theorem laidOut : laidOutB Try.prog = true := by kernel_rfl
theorem shape0 : Kd.ok Try.prog (.agg [.int .i64, .int .i64, .int .i64, .int .i64]) 35 = true := by kernel_rfl
set_option maxRecDepth 100000 in
theorem contract (H : Type) (enc : TypeId × Value → H) (W : World) (base : Nat) (args : Array Value) (ds gs : List (DataW H)) (before : List MemPlace)
    (hval : ∀ (j : Nat) t v, Try.f5.params[j]? = some t → args[j]? = some v → Value.okWide Try.prog W .any base t v)
    (hW : DataW.Whole enc Try.prog Try.f5.params.toList Rows.creditNoneSpec.vars false W args.toList ds gs before) :
    Calls Try.prog 5 args W fun e W' => ∃ v, e = .returned v ∧ Rows.creditNoneSpec.post enc Try.prog Try.f5 false true false false W args v W' := by
  have hW' := hW
  obtain ⟨p, q, hA0, hV, rfl, hfz, hnd⟩ := hW
  have hA : DataW.TrodAll enc Try.prog W 0 (fun _ => true) true Try.f5.params.toList args.toList ds p := hA0
  rw [Try.params5] at hA hval
  obtain ⟨v0, vs0, d0, ds0, p0, q0, hargs, rfl, rfl, h0, r0⟩ := trodAll_cons hA
  obtain ⟨rfl, rfl, rfl⟩ := trodAll_nil r0
  obtain rfl : args = #[v0] := by cases args; simp_all
  obtain ⟨rfl, rfl⟩ := trodVars_none hV
  have k0 := Kd.fit _ shape0 (hval 0 35 v0 rfl rfl) h0
  have lt0 : ∀ x ∈ p0, x.block < W.heap.size := by obtain ⟨m, hm⟩ := h0; exact DataW.trod_lt m _ _ _ hm
  refine (creditNone_walk v0 W k0).mono fun e W' ⟨he, bel⟩ => ?_
  subst he
  exact ⟨_, rfl, _, _, _, [], _, [], hW', trodAll_mk1 (shut_bool Try.underlying4 _), (trodAll_cons_mk (Below.trod laidOut (by kernel_rfl) (of_decide_eq_true (by kernel_rfl)) h0 bel lt0) trodAll_mk0), rfl, bel.frame _, fun h => by cases h⟩
set_option maxRecDepth 100000 in
theorem lifted (os : Os) (started : os.Started) (H : Type) (enc : TypeId × Value → H) :
    ReturnsInHanded {} Try.checked os 5 .any (Rows.creditNoneSpec.pre6 enc Try.prog Try.f5 Rows.creditNoneRow.domain false) (Rows.creditNoneSpec.post enc Try.prog Try.f5 false true false false) := by
  refine returnsInHanded_of_change (C := Try.checked) own started (by kernel_rfl) Try.func5
    (ChangeSpec.witness6 (enc := enc) (C := Try.checked) false ⟨#[], #[.agg #[.int .i64 0, .int .i64 0, .int .i64 0, .int .i64 0]], []⟩ 8 (by kernel_rfl) (by kernel_rfl) (by kernel_rfl) (by kernel_rfl)) ?_
  intro W base args ds gs before hval hW _ _
  exact contract H enc W base args ds gs before hval hW
theorem over : Rows.creditNoneRow.holds Try.pinned (OpenSpec.ofChange Rows.creditNoneSpec) :=
  OpenClaim.holds_of_wide 5 Try.f5 rfl rfl rfl rfl rfl rfl rfl ⟨rfl, rfl, rfl, rfl, rfl⟩ rfl rfl rfl rfl rfl (by kernel_rfl) Try.func5 (by kernel_rfl)
    (of_decide_eq_true (by kernel_rfl)) (by unfold Func.isWrapper; first | (rw [if_pos (by decide +kernel)]; kernel_rfl) | (rw [if_neg (by decide +kernel)]; exact ⟨rfl, rfl⟩))
    (fun os started H enc _ => lifted os started H enc)
theorem proved : Rows.CreditNoneSaid := over
end frCreditNone
end Go.Proofs.Ytlnemadkggfmbaa
