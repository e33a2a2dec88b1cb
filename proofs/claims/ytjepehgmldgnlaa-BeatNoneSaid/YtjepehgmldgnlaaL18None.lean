/- For all ticks and texts: a nil beat is quiet, and so is one that is off (the statement BeatNone, as it is given). No condition. -/
import Derived.Test.YtjepehgmldgnlaaBeat2
namespace Go.Proofs.Ytjepehgmldgnlaa
open Go.RowKit

theorem Bt.keep {w w' : World} {b : Nat} {q : Bs} (h : Bt w b q) (ho : Only Nil w w') : Bt w' b q := Blk.kept h ho (fun hh => hh)
set_option maxHeartbeats 4000000 in
theorem beatNone_walk (v0 v1 v2 : Value) (w : World) (h0 : Kd.Fit w (.int .i64) v0) (h1 : Kd.Fit w (.int .i64) v1) (h2 : Kd.Fit w .str v2) :
    Calls Try.prog 4 #[v0, v1, v2] w fun e w' => e = .returned (.bool true) ∧ Below w.heap.size w w' := by
  obtain ⟨t, rfl, _⟩ := Kd.int_fit h0
  obtain ⟨n, rfl, _⟩ := Kd.int_fit h1
  obtain ⟨S, rfl, _⟩ := Kd.str_fit h2
  clear h0 h1 h2
  have hn1 : (noS ++ noS).toList = [] := by decide +kernel
  have hm : 0 ≤ wrap64 ((IntKind.u64.wrap n).tmod 1000) ∧ wrap64 ((IntKind.u64.wrap n).tmod 1000) ≤ 1048576 := by
    have h1 : 0 ≤ IntKind.u64.wrap n := by
      simp only [IntKind.wrap, IntKind.signed, IntKind.bits]
      exact Int.emod_nonneg _ (by decide)
    rw [Int.tmod_eq_emod_of_nonneg h1]
    generalize IntKind.u64.wrap n = u at h1
    have h2 := Int.emod_nonneg u (b := 1000) (by decide)
    have h3 := Int.emod_lt_of_pos u (b := 1000) (by decide)
    simp only [wrap64]
    omega
  obtain ⟨m0, m1⟩ := hm
  go_enter Try.func4, Try.ntmps4
  go_wp2_with (first
    | (go_at_call 10; (with_reducible refine (Heard_nil _ _).mono ?_); rintro e w1 ⟨rfl, rfl⟩)
    | (go_at_call 7; (with_reducible refine (Step_nil _ _).mono ?_); rintro e w1 ⟨rfl, rfl⟩)
    | (go_at_call 5; (with_reducible refine (New_any 0 _ _ (by decide) (by decide) m0 m1).mono ?_); rintro e w1 ⟨b, rfl, hb, ho1, hB1⟩)
    | (go_at_call 7; (with_reducible refine (Step_off b _ _ _ hB1 rfl).mono ?_); rintro e w2 ⟨rfl, rfl⟩)
    | (go_at_call 6; (with_reducible refine (awake_any _).mono ?_); rintro e w3 ⟨rfl, ho3⟩; have hB3 := Bt.keep hB1 ho3)
    | (go_at_call 8; (with_reducible refine (Pong_nil _ _ _).mono ?_); rintro e w4 ⟨rfl, rfl⟩)
    | (go_at_call 8; (with_reducible refine (Pong_off b _ _ _ _ hB3 rfl).mono ?_); rintro e w5 ⟨rfl, rfl⟩)
    | (go_at_call 9; (with_reducible refine (Out_nil _).mono ?_); rintro e w6 ⟨rfl, rfl⟩)
    | (go_at_call 9; (with_reducible refine (Out_any b _ _ hB3).mono ?_); rintro e w7 ⟨rfl, rfl⟩)
    | (go_at_call 11; (with_reducible refine (Count_nil _).mono ?_); rintro e w8 ⟨rfl, rfl⟩)
    | (go_at_call 11; (with_reducible refine (Count_any b _ _ hB3).mono ?_); rintro e w9 ⟨rfl, rfl⟩)
    )
  go_ret
  exact ⟨rfl, (ho1.trans ho3).below (Nat.le_refl _) (fun _ _ hh => hh)⟩
/-! The step from the walk to the statement of BeatNone. -/
namespace frBeatNone
open Go.ChangeShapes Go.WideShapes Go.ChangeAt Go.RowKit
set_option linter.unusedVariables false
theorem own : ownKnob Try.prog.godebug = none := by kernel_rfl
theorem laidOut : laidOutB Try.prog = true := by kernel_rfl
theorem shape0 : Kd.ok Try.prog (.int .i64) 3 = true := by kernel_rfl
theorem shape1 : Kd.ok Try.prog (.int .i64) 3 = true := by kernel_rfl
theorem shape2 : Kd.ok Try.prog (.str) 9 = true := by kernel_rfl
set_option maxRecDepth 100000 in
theorem contract (H : Type) (enc : TypeId × Value → H) (W : World) (base : Nat) (args : Array Value) (ds gs : List (DataW H)) (before : List MemPlace)
    (hval : ∀ (j : Nat) t v, Try.f4.params[j]? = some t → args[j]? = some v → Value.okWide Try.prog W .any base t v)
    (hW : DataW.Whole enc Try.prog Try.f4.params.toList Rows.beatNoneSpec.vars false W args.toList ds gs before) :
    Calls Try.prog 4 args W fun e W' => ∃ v, e = .returned v ∧ Rows.beatNoneSpec.post enc Try.prog Try.f4 false true false false W args v W' := by
  have hW' := hW
  obtain ⟨p, q, hA0, hV, rfl, hfz, hnd⟩ := hW
  have hA : DataW.TrodAll enc Try.prog W 0 (fun _ => true) true Try.f4.params.toList args.toList ds p := hA0
  rw [Try.params4] at hA hval
  obtain ⟨v0, vs0, d0, ds0, p0, q0, hargs, rfl, rfl, h0, r0⟩ := trodAll_cons hA
  obtain ⟨v1, vs1, d1, ds1, p1, q1, rfl, rfl, rfl, h1, r1⟩ := trodAll_cons r0
  obtain ⟨v2, vs2, d2, ds2, p2, q2, rfl, rfl, rfl, h2, r2⟩ := trodAll_cons r1
  obtain ⟨rfl, rfl, rfl⟩ := trodAll_nil r2
  obtain rfl : args = #[v0, v1, v2] := by cases args; simp_all
  obtain ⟨rfl, rfl⟩ := trodVars_none hV
  have k0 := Kd.fit _ shape0 (hval 0 3 v0 rfl rfl) h0
  have lt0 : ∀ x ∈ p0, x.block < W.heap.size := by obtain ⟨m, hm⟩ := h0; exact DataW.trod_lt m _ _ _ hm
  have k1 := Kd.fit _ shape1 (hval 1 3 v1 rfl rfl) h1
  have lt1 : ∀ x ∈ p1, x.block < W.heap.size := by obtain ⟨m, hm⟩ := h1; exact DataW.trod_lt m _ _ _ hm
  have k2 := Kd.fit _ shape2 (hval 2 9 v2 rfl rfl) h2
  have lt2 : ∀ x ∈ p2, x.block < W.heap.size := by obtain ⟨m, hm⟩ := h2; exact DataW.trod_lt m _ _ _ hm
  refine (beatNone_walk v0 v1 v2 W k0 k1 k2).mono fun e W' ⟨he, bel⟩ => ?_
  subst he
  exact ⟨_, rfl, _, _, _, [], _, [], hW', trodAll_mk1 (shut_bool Try.underlying4 _), (trodAll_cons_mk (Below.trod laidOut (by kernel_rfl) (of_decide_eq_true (by kernel_rfl)) h0 bel lt0) (trodAll_cons_mk (Below.trod laidOut (by kernel_rfl) (of_decide_eq_true (by kernel_rfl)) h1 bel lt1) (trodAll_cons_mk (Below.trod laidOut (by kernel_rfl) (of_decide_eq_true (by kernel_rfl)) h2 bel lt2) trodAll_mk0))), rfl, bel.frame _, fun h => by cases h⟩
set_option maxRecDepth 100000 in
theorem lifted (os : Os) (started : os.Started) (H : Type) (enc : TypeId × Value → H) :
    ReturnsInHanded {} Try.checked os 4 .any (Rows.beatNoneSpec.pre6 enc Try.prog Try.f4 Rows.beatNoneRow.domain false) (Rows.beatNoneSpec.post enc Try.prog Try.f4 false true false false) := by
  refine returnsInHanded_of_change (C := Try.checked) own started (by kernel_rfl) Try.func4
    (ChangeSpec.witness6 (enc := enc) (C := Try.checked) false ⟨#[], #[.int .i64 0, .int .i64 0, .string ByteArray.empty], []⟩ 8 (by kernel_rfl) (by kernel_rfl) (by kernel_rfl) (by kernel_rfl)) ?_
  intro W base args ds gs before hval hW _ _
  exact contract H enc W base args ds gs before hval hW
theorem over : Rows.beatNoneRow.holds Try.pinned (OpenSpec.ofChange Rows.beatNoneSpec) :=
  OpenClaim.holds_of_wide 4 Try.f4 rfl rfl rfl rfl rfl rfl rfl ⟨rfl, rfl, rfl, rfl, rfl⟩ rfl rfl rfl rfl rfl (by kernel_rfl) Try.func4 (by kernel_rfl)
    (of_decide_eq_true (by kernel_rfl)) (by unfold Func.isWrapper; first | (rw [if_pos (by decide +kernel)]; kernel_rfl) | (rw [if_neg (by decide +kernel)]; exact ⟨rfl, rfl⟩))
    (fun os started H enc _ => lifted os started H enc)
theorem proved : Rows.BeatNoneSaid := over
end frBeatNone
end Go.Proofs.Ytjepehgmldgnlaa
