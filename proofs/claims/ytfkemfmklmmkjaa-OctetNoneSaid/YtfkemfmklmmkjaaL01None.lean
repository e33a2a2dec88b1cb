/- For every number: of a nil scan nothing is read (the statement OctetNone, as it is given). No condition. -/
import Derived.Test.YtfkemfmklmmkjaaAwake01
namespace Go.Proofs.Ytfkemfmklmmkjaa
open Go.RowKit

theorem SU_nil (n : Int) (w : World) : Calls Try.prog 9 #[.pointer none, .int .i64 n] w fun x w' => x = .returned (.int .i64 0) ∧ Only Nil w w' := by
  by_cases h0 : n < 1
  ·
    go_enter Try.func9, Try.ntmps9
    go_wp2_with (first
      | (go_at_call 19; (with_reducible refine (reader_any _ _).mono ?_); rintro e w1 ⟨g, rfl, hg, ho1, hG⟩)
      | (go_at_call 23; (with_reducible refine (reader1_nil g _ _ hG).mono ?_); rintro e w2 ⟨rfl, ho2⟩)
      )
    go_ret
    exact ⟨rfl, ho1.trans ho2⟩
  · by_cases h4 : 4 < n
    ·
      go_enter Try.func9, Try.ntmps9
      go_wp2_with (first
        | (go_at_call 19; (with_reducible refine (reader_any _ _).mono ?_); rintro e w1 ⟨g, rfl, hg, ho1, hG⟩)
        | (go_at_call 23; (with_reducible refine (reader1_nil g _ _ hG).mono ?_); rintro e w2 ⟨rfl, ho2⟩)
        )
      go_ret
      exact ⟨rfl, ho1.trans ho2⟩
    ·
      go_enter Try.func9, Try.ntmps9
      go_wp2_with (first
        | (go_at_call 19; (with_reducible refine (reader_any _ _).mono ?_); rintro e w1 ⟨g, rfl, hg, ho1, hG⟩)
        | (go_at_call 23; (with_reducible refine (reader1_nil g _ _ hG).mono ?_); rintro e w2 ⟨rfl, ho2⟩)
        )
      go_ret
      exact ⟨rfl, ho1.trans ho2⟩
set_option maxHeartbeats 2000000 in
theorem octetNone_walk (v0 : Value) (w : World) (h0 : Kd.Fit w (.int .i64) v0) :
    Calls Try.prog 6 #[v0] w fun e w' => e = .returned (.bool true) ∧ Below w.heap.size w w' := by
  obtain ⟨n, rfl, _⟩ := Kd.int_fit h0
  clear h0
  have hn1 : (noS ++ noS).toList = [] := by decide +kernel
  go_enter Try.func6, Try.ntmps6
  go_wp2_with (first
    | (go_at_call 14; (with_reducible refine (awake_any _).mono ?_); rintro e w1 ⟨rfl, ho1⟩)
    | (go_at_call 9; (with_reducible refine (SU_nil _ _).mono ?_); rintro e w2 ⟨rfl, ho2⟩)
    | (go_at_call 11; (with_reducible refine (Take_nil _ _).mono ?_); rintro e w3 ⟨rfl, ho3⟩)
    | (go_at_call 8; (with_reducible refine (Rest_nil _).mono ?_); rintro e w4 ⟨rfl, ho4⟩)
    | (go_at_call 13; (with_reducible refine (Left_nil _).mono ?_); rintro e w5 ⟨rfl, rfl⟩)
    | (go_at_call 12; (with_reducible refine (Bad_nil _).mono ?_); rintro e w6 ⟨rfl, rfl⟩)
    | (go_at_call 15; (with_reducible refine (End_nil _).mono ?_); rintro e w7 ⟨rfl, rfl⟩)
    )
  go_ret
  exact ⟨rfl, ((((ho1.trans ho2).trans ho3)).trans ho4).below (Nat.le_refl _) (fun _ _ hh => hh)⟩
/-! The step from the walk to the statement of OctetNone. -/
namespace frOctetNone
open Go.ChangeShapes Go.WideShapes Go.ChangeAt Go.RowKit
set_option linter.unusedVariables false
theorem own : ownKnob Try.prog.godebug = none := by kernel_rfl
theorem laidOut : laidOutB Try.prog = true := by kernel_rfl
theorem shape0 : Kd.ok Try.prog (.int .i64) 3 = true := by kernel_rfl
set_option maxRecDepth 100000 in
theorem contract (H : Type) (enc : TypeId × Value → H) (W : World) (base : Nat) (args : Array Value) (ds gs : List (DataW H)) (before : List MemPlace)
    (hval : ∀ (j : Nat) t v, Try.f6.params[j]? = some t → args[j]? = some v → Value.okWide Try.prog W .any base t v)
    (hW : DataW.Whole enc Try.prog Try.f6.params.toList Rows.octetNoneSpec.vars false W args.toList ds gs before) :
    Calls Try.prog 6 args W fun e W' => ∃ v, e = .returned v ∧ Rows.octetNoneSpec.post enc Try.prog Try.f6 false true false false W args v W' := by
  have hW' := hW
  obtain ⟨p, q, hA0, hV, rfl, hfz, hnd⟩ := hW
  have hA : DataW.TrodAll enc Try.prog W 0 (fun _ => true) true Try.f6.params.toList args.toList ds p := hA0
  rw [Try.params6] at hA hval
  obtain ⟨v0, vs0, d0, ds0, p0, q0, hargs, rfl, rfl, h0, r0⟩ := trodAll_cons hA
  obtain ⟨rfl, rfl, rfl⟩ := trodAll_nil r0
  obtain rfl : args = #[v0] := by cases args; simp_all
  obtain ⟨rfl, rfl⟩ := trodVars_none hV
  have k0 := Kd.fit _ shape0 (hval 0 3 v0 rfl rfl) h0
  have lt0 : ∀ x ∈ p0, x.block < W.heap.size := by obtain ⟨m, hm⟩ := h0; exact DataW.trod_lt m _ _ _ hm
  refine (octetNone_walk v0 W k0).mono fun e W' ⟨he, bel⟩ => ?_
  subst he
  exact ⟨_, rfl, _, _, _, [], _, [], hW', trodAll_mk1 (shut_bool Try.underlying4 _), (trodAll_cons_mk (Below.trod laidOut (by kernel_rfl) (of_decide_eq_true (by kernel_rfl)) h0 bel lt0) trodAll_mk0), rfl, bel.frame _, fun h => by cases h⟩
set_option maxRecDepth 100000 in
theorem lifted (os : Os) (started : os.Started) (H : Type) (enc : TypeId × Value → H) :
    ReturnsInHanded {} Try.checked os 6 .any (Rows.octetNoneSpec.pre6 enc Try.prog Try.f6 Rows.octetNoneRow.domain false) (Rows.octetNoneSpec.post enc Try.prog Try.f6 false true false false) := by
  refine returnsInHanded_of_change (C := Try.checked) own started (by kernel_rfl) Try.func6
    (ChangeSpec.witness6 (enc := enc) (C := Try.checked) false ⟨#[], #[.int .i64 0], []⟩ 8 (by kernel_rfl) (by kernel_rfl) (by kernel_rfl) (by kernel_rfl)) ?_
  intro W base args ds gs before hval hW _ _
  exact contract H enc W base args ds gs before hval hW
theorem over : Rows.octetNoneRow.holds Try.pinned (OpenSpec.ofChange Rows.octetNoneSpec) :=
  OpenClaim.holds_of_wide 6 Try.f6 rfl rfl rfl rfl rfl rfl rfl ⟨rfl, rfl, rfl, rfl, rfl⟩ rfl rfl rfl rfl rfl (by kernel_rfl) Try.func6 (by kernel_rfl)
    (of_decide_eq_true (by kernel_rfl)) (by unfold Func.isWrapper; first | (rw [if_pos (by decide +kernel)]; kernel_rfl) | (rw [if_neg (by decide +kernel)]; exact ⟨rfl, rfl⟩))
    (fun os started H enc _ => lifted os started H enc)
theorem proved : Rows.OctetNoneSaid := over
end frOctetNone
end Go.Proofs.Ytfkemfmklmmkjaa
