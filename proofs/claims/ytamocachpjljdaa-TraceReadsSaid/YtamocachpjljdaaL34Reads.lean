/- What any bytes are as a trace (the statement TraceReads). No condition. -/
import Derived.Test.YtamocachpjljdaaTrace8
namespace Go.Proofs.Ytamocachpjljdaa
open Go.RowKit

set_option maxRecDepth 100000 in
set_option maxHeartbeats 4000000 in
theorem traceReads_walk (v0 : Value) (w : World) (h0 : Kd.Fit w (.str) v0) : Calls Try.prog 4 #[v0] w fun e w' => e = .returned (.bool true) ∧ Below w.heap.size w w' := by
  obtain ⟨S, rfl, hSs⟩ := Kd.str_fit h0
  unfold maxLen at hSs
  clear h0
  by_cases hbig : 131072 < S.size
  · have hbig' : (131072 : Int) < S.size := by omega
    have HR : Hid (∀ W, Calls Try.prog 13 #[.string S] W fun x w' => ∃ A c, x = .returned (.tuple #[.slice A 0 c, .int .i64 0, .int .i64 4]) ∧ Only Nil W w') := Lib.hid (fun W => by
      have := TRead_any S W
      rw [show rdO S = ([], 0, 4) by unfold rdO; rw [if_pos hbig]] at this
      exact this.mono fun x w' ⟨A, c, hx, _, hn⟩ => ⟨A, c, hx, hn⟩)
    go_enter Try.func4, Try.ntmps4
    go_wp2_with (first
      | (go_at_call 13; (with_reducible refine (HR.out _).mono ?_); rintro e w1 ⟨A1, c1, rfl, ho1⟩; have HO1 := Lib.hid ho1; clear ho1)
      | (go_at_call 8; (with_reducible refine (awake_any _).mono ?_); rintro e w2 ⟨rfl, ho2⟩; have HO2 := Lib.hid (HO1.out.trans ho2); clear ho2)
      )
    go_ret
    exact ⟨rfl, HO2.out.below (Nat.le_refl _) (fun _ _ hh => hh)⟩
  · have hbig' : ¬ (131072 : Int) < S.size := by omega
    have e : rdO S = rdOut S.data.toList := by unfold rdO; rw [if_neg hbig]
    have HR := Lib.hid (fun W => TRead_any S W)
    have HRR := Lib.hid (fun W => RRead_any S W (by omega))
    rw [← e] at HRR
    generalize rdO S = R at HR HRR
    obtain ⟨MM, at_, er⟩ := R
    unfold RPost at HR HRR
    simp only at HR HRR
    have HSM : Hid (∀ W A2 c2 A3 c3, Ow encM 5 W 0 28 (.slice A2 MM.length c2) MM → Ow encM 5 W 0 28 (.slice A3 MM.length c3) MM → Calls Try.prog 15 #[.slice A2 MM.length c2, .slice A3 MM.length c3] W fun x w' => x = .returned (.bool true) ∧ Only Nil W w') := Lib.hid (fun W A2 c2 A3 c3 h2 h3 => by
      have := Same_any A2 A3 c2 c3 MM MM W (h2.sqn encM_len) (h3.sqn encM_len) h2.len.2.1 h3.len.2.1 h2.len.2.2
      simpa using this)
    obtain ⟨n, hn⟩ : ∃ n, n = MM.length := ⟨_, rfl⟩
    rw [← hn] at HR HRR HSM
    clear e hn
    go_enter Try.func4, Try.ntmps4
    go_wp2_with (first
      | (go_at_call 13; (with_reducible refine (HR.out _).mono ?_); rintro e w1 ⟨A1, c1, rfl, hO1, ho1⟩; have HO1 := Lib.hid ho1; have HW1 := Lib.hid (hO1.mono (Nat.zero_le _)); clear ho1 hO1)
      | (go_at_call 14; (with_reducible refine (HRR.out _).mono ?_); rintro e w2 ⟨A2, c2, rfl, hO2, ho2⟩; have HO2 := Lib.hid (HO1.out.trans ho2); have HW2 := Lib.hid (hO2.mono (Nat.zero_le _)); have HV2 := Lib.hid (HW1.out.kept ho2 (fun _ _ hh => hh)); clear ho2 hO2)
      | (go_at_call 8; (with_reducible refine (awake_any _).mono ?_); rintro e w3 ⟨rfl, ho3⟩; have HO3 := Lib.hid (HO2.out.trans ho3); have HW3 := Lib.hid (HW2.out.kept ho3 (fun _ _ hh => hh)); have HV3 := Lib.hid (HV2.out.kept ho3 (fun _ _ hh => hh)); clear ho3)
      | (go_at_call 15; (with_reducible refine (HSM.out _ _ _ _ _ HV3.out HW3.out).mono ?_); rintro e w4 ⟨rfl, ho4⟩)
      )
    go_ret
    exact ⟨rfl, (HO3.out.trans ho4).below (Nat.le_refl _) (fun _ _ hh => hh)⟩
/-! The step from the walk to the statement of TraceReads. -/
namespace frTraceReads
open Go.ChangeShapes Go.WideShapes Go.ChangeAt Go.RowKit
set_option linter.unusedVariables false
theorem own : ownKnob Try.prog.godebug = none := by kernel_rfl
theorem laidOut : laidOutB Try.prog = true := by kernel_rfl
theorem shape0 : Kd.ok Try.prog (.str) 9 = true := by kernel_rfl
set_option maxRecDepth 100000 in
theorem contract (H : Type) (enc : TypeId × Value → H) (W : World) (base : Nat) (args : Array Value) (ds gs : List (DataW H)) (before : List MemPlace)
    (hval : ∀ (j : Nat) t v, Try.f4.params[j]? = some t → args[j]? = some v → Value.okWide Try.prog W .any base t v)
    (hW : DataW.Whole enc Try.prog Try.f4.params.toList Rows.traceReadsSpec.vars false W args.toList ds gs before) :
    Calls Try.prog 4 args W fun e W' => ∃ v, e = .returned v ∧ Rows.traceReadsSpec.post enc Try.prog Try.f4 false true false false W args v W' := by
  have hW' := hW
  obtain ⟨p, q, hA0, hV, rfl, hfz, hnd⟩ := hW
  have hA : DataW.TrodAll enc Try.prog W 0 (fun _ => true) true Try.f4.params.toList args.toList ds p := hA0
  rw [Try.params4] at hA hval
  obtain ⟨v0, vs0, d0, ds0, p0, q0, hargs, rfl, rfl, h0, r0⟩ := trodAll_cons hA
  obtain ⟨rfl, rfl, rfl⟩ := trodAll_nil r0
  obtain rfl : args = #[v0] := by cases args; simp_all
  obtain ⟨rfl, rfl⟩ := trodVars_none hV
  have k0 := Kd.fit _ shape0 (hval 0 9 v0 rfl rfl) h0
  have lt0 : ∀ x ∈ p0, x.block < W.heap.size := by obtain ⟨m, hm⟩ := h0; exact DataW.trod_lt m _ _ _ hm
  refine (traceReads_walk v0 W k0).mono fun e W' ⟨he, bel⟩ => ?_
  subst he
  exact ⟨_, rfl, _, _, _, [], _, [], hW', trodAll_mk1 (shut_bool Try.underlying4 _), (trodAll_cons_mk (Below.trod laidOut (by kernel_rfl) (of_decide_eq_true (by kernel_rfl)) h0 bel lt0) trodAll_mk0), rfl, bel.frame _, fun h => by cases h⟩
set_option maxRecDepth 100000 in
theorem lifted (os : Os) (started : os.Started) (H : Type) (enc : TypeId × Value → H) :
    ReturnsInHanded {} Try.checked os 4 .any (Rows.traceReadsSpec.pre6 enc Try.prog Try.f4 Rows.traceReadsRow.domain false) (Rows.traceReadsSpec.post enc Try.prog Try.f4 false true false false) := by
  refine returnsInHanded_of_change (C := Try.checked) own started (by kernel_rfl) Try.func4
    (ChangeSpec.witness6 (enc := enc) (C := Try.checked) false ⟨#[], #[.string ByteArray.empty], []⟩ 8 (by kernel_rfl) (by kernel_rfl) (by kernel_rfl) (by kernel_rfl)) ?_
  intro W base args ds gs before hval hW _ _
  exact contract H enc W base args ds gs before hval hW
theorem over : Rows.traceReadsRow.holds Try.pinned (OpenSpec.ofChange Rows.traceReadsSpec) :=
  OpenClaim.holds_of_wide 4 Try.f4 rfl rfl rfl rfl rfl rfl rfl ⟨rfl, rfl, rfl, rfl, rfl⟩ rfl rfl rfl rfl rfl (by kernel_rfl) Try.func4 (by kernel_rfl)
    (of_decide_eq_true (by kernel_rfl)) (by unfold Func.isWrapper; first | (rw [if_pos (by decide +kernel)]; kernel_rfl) | (rw [if_neg (by decide +kernel)]; exact ⟨rfl, rfl⟩))
    (fun os started H enc _ => lifted os started H enc)
theorem proved : Rows.TraceReadsSaid := over
end frTraceReads
end Go.Proofs.Ytamocachpjljdaa
