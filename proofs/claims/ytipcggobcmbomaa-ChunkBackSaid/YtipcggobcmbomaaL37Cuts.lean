/- For every text and every size: any message's pieces, or that it may not be cut (the statement ChunkCuts, as it is given). No condition. -/
import Derived.Test.YtipcggobcmbomaaL37Many
namespace Go.Proofs.Ytipcggobcmbomaa
open Go.RowKit

set_option maxRecDepth 100000 in
set_option maxHeartbeats 4000000 in
theorem chunkCuts_walk (v0 v1 : Value) (w : World) (h0 : Kd.Fit w .str v0) (h1 : Kd.Fit w (.int .i64) v1) :
    Calls Try.prog 3 #[v0, v1] w fun e w' => e = .returned (.bool true) ∧ Below w.heap.size w w' := by
  obtain ⟨X, rfl, hX⟩ := Kd.str_fit h0
  obtain ⟨s, rfl, -⟩ := Kd.int_fit h1
  clear h0 h1
  have hXm : (X.size : Int) ≤ 9223372036854775807 := by simp only [maxLen] at hX; omega
  clear hX
  by_cases a1 : s < 2
  · have hout : (s < 2 ∨ 256 < s) ∨ (X.size : Int) < 0 ∨ 65536 < (X.size : Int) := .inl (.inl a1)
    have hC := Lib.hid (fun W => Cut_out X s W (.inl a1))
    have hM := Lib.hid (fun W => Many_out X.size s W hout)
    clear hout
    go_enter Try.func3, Try.ntmps3
    go_wp2_with (first
      | (go_at_call 7; (with_reducible refine (hC.out _).mono ?_); rintro e w1 ⟨rfl, rfl⟩)
      | (go_at_call 8; (with_reducible refine (hM.out _).mono ?_); rintro e w1 ⟨rfl, rfl⟩)
      | (go_at_call 9; (with_reducible refine (awake_any _).mono ?_); rintro e w2 ⟨rfl, hb⟩)
      )
    go_ret
    exact ⟨rfl, hb⟩
  by_cases a2 : 256 < s
  · have hout : (s < 2 ∨ 256 < s) ∨ (X.size : Int) < 0 ∨ 65536 < (X.size : Int) := .inl (.inr a2)
    have hC := Lib.hid (fun W => Cut_out X s W (.inr a2))
    have hM := Lib.hid (fun W => Many_out X.size s W hout)
    clear hout
    go_enter Try.func3, Try.ntmps3
    go_wp2_with (first
      | (go_at_call 7; (with_reducible refine (hC.out _).mono ?_); rintro e w1 ⟨rfl, rfl⟩)
      | (go_at_call 8; (with_reducible refine (hM.out _).mono ?_); rintro e w1 ⟨rfl, rfl⟩)
      | (go_at_call 9; (with_reducible refine (awake_any _).mono ?_); rintro e w2 ⟨rfl, hb⟩)
      )
    go_ret
    exact ⟨rfl, hb⟩
  by_cases a4 : 65536 < (X.size : Int)
  · have hout : (s < 2 ∨ 256 < s) ∨ (X.size : Int) < 0 ∨ 65536 < (X.size : Int) := .inr (.inr a4)
    have hC := Lib.hid (fun W => Cut_big X s W (by omega) (by omega) (by omega))
    have hM := Lib.hid (fun W => Many_out X.size s W hout)
    clear hout
    go_enter Try.func3, Try.ntmps3
    go_wp2_with (first
      | (go_at_call 7; (with_reducible refine (hC.out _).mono ?_); rintro e w1 ⟨rfl, rfl⟩)
      | (go_at_call 8; (with_reducible refine (hM.out _).mono ?_); rintro e w1 ⟨rfl, rfl⟩)
      | (go_at_call 9; (with_reducible refine (awake_any _).mono ?_); rintro e w2 ⟨rfl, hb⟩)
      )
    go_ret
    exact ⟨rfl, hb⟩
  obtain ⟨K, rfl⟩ : ∃ K : Nat, s = (K : Int) + 1 := ⟨(s - 1).toNat, by omega⟩
  have hM := Lib.hid (fun W => Many_in X.size K W (by omega) (by omega) (by omega))
  have hC := Lib.hid (fun W => Cut_any X K W (by omega) (by omega) (by omega))
  have hR := Lib.hid (fun W => RCut_any X K W (by omega) (by omega) (by omega))
  have hml := mny_le K X.size (by omega)
  generalize hP : pcs K X.data.toList (mny K X.size) = P at *
  have hPl : P.length = mny K X.size := by rw [← hP, pcs_length]
  generalize mny K X.size = m at *
  subst hPl
  clear hP
  have hT := Lib.hid (fun W A B ca cb (h1 : Sq encS 1 W W.heap.size A P) (h2 : Sq encS 1 W W.heap.size B P) => Texts_same A B ca cb P W h1 h2 (by omega))
  go_enter Try.func3, Try.ntmps3
  go_wp2_with (first
    | (go_at_call 7; (with_reducible refine (hC.out _).mono ?_); rintro e w1 ⟨A1, c1, rfl, hO1, ho1⟩)
    | (go_at_call 8; (with_reducible refine (hM.out _).mono ?_); rintro e w1 ⟨rfl, rfl⟩)
    | (go_at_call 9; (with_reducible refine (awake_any _).mono ?_); rintro e w2 ⟨rfl, hb2⟩; have q2 := ((hO1.sqn (fun _ _ => rfl)).below hb2).more hb2.size)
    | (go_at_call 11; (with_reducible refine (hR.out _).mono ?_); rintro e w3 ⟨A3, c3, rfl, hO3, ho3⟩; have q3 := q2.go ho3; have r3 := hO3.sqn (fun _ _ => rfl))
    | (go_at_call 10; (with_reducible refine (hT.out _ _ _ _ _ q3 r3).mono ?_); rintro e w4 ⟨rfl, ho4⟩)
    )
  go_ret
  have z1 := ho1.below (Nat.le_refl _) (fun _ _ hh => hh)
  exact ⟨rfl, (z1.trans (hb2.mono ho1.size)).trans ((ho3.trans ho4).below (Nat.le_trans ho1.size hb2.size) (fun _ _ hh => hh))⟩
/-! The step from the walk to the statement of ChunkCuts. -/
namespace frChunkCuts
open Go.ChangeShapes Go.WideShapes Go.ChangeAt Go.RowKit
set_option linter.unusedVariables false
theorem own : ownKnob Try.prog.godebug = none := by kernel_rfl
theorem laidOut : laidOutB Try.prog = true := by kernel_rfl
theorem shape0 : Kd.ok Try.prog (.str) 9 = true := by kernel_rfl
theorem shape1 : Kd.ok Try.prog (.int .i64) 3 = true := by kernel_rfl
set_option maxRecDepth 100000 in
theorem contract (H : Type) (enc : TypeId × Value → H) (W : World) (base : Nat) (args : Array Value) (ds gs : List (DataW H)) (before : List MemPlace)
    (hval : ∀ (j : Nat) t v, Try.f3.params[j]? = some t → args[j]? = some v → Value.okWide Try.prog W .any base t v)
    (hW : DataW.Whole enc Try.prog Try.f3.params.toList Rows.chunkCutsSpec.vars false W args.toList ds gs before) :
    Calls Try.prog 3 args W fun e W' => ∃ v, e = .returned v ∧ Rows.chunkCutsSpec.post enc Try.prog Try.f3 false true false false W args v W' := by
  have hW' := hW
  obtain ⟨p, q, hA0, hV, rfl, hfz, hnd⟩ := hW
  have hA : DataW.TrodAll enc Try.prog W 0 (fun _ => true) true Try.f3.params.toList args.toList ds p := hA0
  rw [Try.params3] at hA hval
  obtain ⟨v0, vs0, d0, ds0, p0, q0, hargs, rfl, rfl, h0, r0⟩ := trodAll_cons hA
  obtain ⟨v1, vs1, d1, ds1, p1, q1, rfl, rfl, rfl, h1, r1⟩ := trodAll_cons r0
  obtain ⟨rfl, rfl, rfl⟩ := trodAll_nil r1
  obtain rfl : args = #[v0, v1] := by cases args; simp_all
  obtain ⟨rfl, rfl⟩ := trodVars_none hV
  have k0 := Kd.fit _ shape0 (hval 0 9 v0 rfl rfl) h0
  have lt0 : ∀ x ∈ p0, x.block < W.heap.size := by obtain ⟨m, hm⟩ := h0; exact DataW.trod_lt m _ _ _ hm
  have k1 := Kd.fit _ shape1 (hval 1 3 v1 rfl rfl) h1
  have lt1 : ∀ x ∈ p1, x.block < W.heap.size := by obtain ⟨m, hm⟩ := h1; exact DataW.trod_lt m _ _ _ hm
  refine (chunkCuts_walk v0 v1 W k0 k1).mono fun e W' ⟨he, bel⟩ => ?_
  subst he
  exact ⟨_, rfl, _, _, _, [], _, [], hW', trodAll_mk1 (shut_bool Try.underlying4 _), (trodAll_cons_mk (Below.trod laidOut (by kernel_rfl) (of_decide_eq_true (by kernel_rfl)) h0 bel lt0) (trodAll_cons_mk (Below.trod laidOut (by kernel_rfl) (of_decide_eq_true (by kernel_rfl)) h1 bel lt1) trodAll_mk0)), rfl, bel.frame _, fun h => by cases h⟩
set_option maxRecDepth 100000 in
theorem lifted (os : Os) (started : os.Started) (H : Type) (enc : TypeId × Value → H) :
    ReturnsInHanded {} Try.checked os 3 .any (Rows.chunkCutsSpec.pre6 enc Try.prog Try.f3 Rows.chunkCutsRow.domain false) (Rows.chunkCutsSpec.post enc Try.prog Try.f3 false true false false) := by
  refine returnsInHanded_of_change (C := Try.checked) own started (by kernel_rfl) Try.func3
    (ChangeSpec.witness6 (enc := enc) (C := Try.checked) false ⟨#[], #[.string ByteArray.empty, .int .i64 0], []⟩ 8 (by kernel_rfl) (by kernel_rfl) (by kernel_rfl) (by kernel_rfl)) ?_
  intro W base args ds gs before hval hW _ _
  exact contract H enc W base args ds gs before hval hW
theorem over : Rows.chunkCutsRow.holds Try.pinned (OpenSpec.ofChange Rows.chunkCutsSpec) :=
  OpenClaim.holds_of_wide 3 Try.f3 rfl rfl rfl rfl rfl rfl rfl ⟨rfl, rfl, rfl, rfl, rfl⟩ rfl rfl rfl rfl rfl (by kernel_rfl) Try.func3 (by kernel_rfl)
    (of_decide_eq_true (by kernel_rfl)) (by unfold Func.isWrapper; first | (rw [if_pos (by decide +kernel)]; kernel_rfl) | (rw [if_neg (by decide +kernel)]; exact ⟨rfl, rfl⟩))
    (fun os started H enc _ => lifted os started H enc)
theorem proved : Rows.ChunkCutsSaid := over
end frChunkCuts
end Go.Proofs.Ytipcggobcmbomaa
