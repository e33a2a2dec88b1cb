/- What was laid is read as it was; what is read is laid as the very bytes (the statement TraceBack). No condition. -/
import Derived.Test.YtamocachpjljdaaTrace6
namespace Go.Proofs.Ytamocachpjljdaa
open Go.RowKit

set_option maxRecDepth 100000 in
set_option maxHeartbeats 4000000 in
theorem traceBack_walk (v0 v1 : Value) (w : World) (h0 : Kd.Fit w (.slc (.agg [.int .i64, .int .i64, .int .i64, .str, .bool])) v0) (h1 : Kd.Fit w (.str) v1) : Calls Try.prog 5 #[v0, v1] w fun e w' => e = .returned (.bool true) ∧ Below w.heap.size w w' := by
  obtain ⟨L, A, cap, rfl, hc, hm, hok, hS⟩ := Kd.moves h0
  obtain ⟨S, rfl, hSs⟩ := Kd.str_fit h1
  have HLI := Lib.hid (light_any A cap L w hS hc)
  have HTL := Lib.hid (fun W (h : Only Nil w W) => TLay_any A cap L W (hS.go h) hc)
  have HSM : Hid (∀ W, Only Nil w W → ∀ A2 c2, Ow encM 5 W 0 28 (.slice A2 L.length c2) L → Calls Try.prog 15 #[.slice A2 L.length c2, .slice A L.length cap] W fun x w' => x = .returned (.bool true) ∧ Only Nil W w') := Lib.hid (fun W h A2 c2 h2 => by
    have := Same_any A2 A c2 cap L L W (h2.sqn encM_len) (hS.go h) h2.len.2.1 hc h2.len.2.2
    simpa using this)
  unfold LtPost at HLI
  unfold maxLen at hm
  obtain ⟨n, hn⟩ : ∃ n, n = L.length := ⟨_, rfl⟩
  have HN := Lib.hid hn
  rw [← hn] at hc HLI HTL HSM ⊢
  clear h0 h1 hok hS hn
  by_cases hbig : 65536 < S.size
  · have hbig' : (65536 : Int) < S.size := by omega
    go_enter Try.func5, Try.ntmps5
    go_wp2_with (first
      | (go_at_call 7; (with_reducible refine (HLI.out).mono ?_); rintro e w1 ⟨q, rfl, hq, ho1⟩; have HO1 := Lib.hid ho1; clear hq ho1)
      | (go_at_call 8; (with_reducible refine (awake_any _).mono ?_); rintro e w2 ⟨rfl, ho2⟩; have HO2 := Lib.hid (HO1.out.trans ho2); clear ho2)
      )
    all_goals
      go_ret
      exact ⟨rfl, HO2.out.below (Nat.le_refl _) (fun _ _ hh => hh)⟩
  · have hbig' : ¬ (65536 : Int) < S.size := by omega
    go_enter Try.func5, Try.ntmps5
    go_wp2_with (first
      | (go_at_call 7; (with_reducible refine (HLI.out).mono ?_); rintro e w1 ⟨q, rfl, hq, ho1⟩; have HO1 := Lib.hid ho1; clear hq ho1)
      | (go_at_call 8; (with_reducible refine (awake_any _).mono ?_); rintro e w2 ⟨rfl, ho2⟩; have HO2 := Lib.hid (HO1.out.trans ho2); clear ho2)
      )
    rotate_left
    · go_ret
      exact ⟨rfl, HO2.out.below (Nat.le_refl _) (fun _ _ hh => hh)⟩
    · obtain rfl : q = true := by cases q <;> simp_all
      try simp only [Bool.not_true]
      have HT1 := Lib.hid (HTL.out _ HO1.out)
      by_cases e0 : tlE L = 0
      · have HRX : Hid (∀ W, Calls Try.prog 13 #[.string (tlS L)] W fun x w' => ∃ A c, x = .returned (.tuple #[.slice A n c, .int .i64 (tlS L).size, .int .i64 0]) ∧ Ow encM 5 w' 0 28 (.slice A n c) L ∧ Only Nil W w') := Lib.hid (fun W => by
          have := TRead_any (tlS L) W
          rw [rd_tl e0] at this
          rw [HN.out]
          exact this.mono fun x w' ⟨A, c, hx, ho, hn⟩ => ⟨A, c, hx, ho.mono (Nat.zero_le _), hn⟩)
        rw [e0] at HT1
        generalize tlS L = SX at *
        clear e0 HTL
        by_cases hf : (rdO S).2.2 = 0
        · obtain ⟨hb1, hb2, hb3⟩ := rdO_back hf
          obtain ⟨at_, hat⟩ : ∃ at_ : Nat, at_ = (rdO S).2.1 := ⟨_, rfl⟩
          have HRS : Hid (∀ W, Calls Try.prog 13 #[.string S] W fun x w' => ∃ A c, x = .returned (.tuple #[.slice A (rdO S).1.length c, .int .i64 at_, .int .i64 0]) ∧ Ow encM 5 w' W.heap.size 28 (.slice A (rdO S).1.length c) (rdO S).1 ∧ Only Nil W w') := Lib.hid (fun W => by
            have := TRead_any S W
            unfold RPost at this
            rw [hf, ← hat] at this
            exact this)
          have HLM : Hid (∀ W A c, Sq encM 5 W W.heap.size A (rdO S).1 → (rdO S).1.length ≤ c → Calls Try.prog 11 #[.slice A (rdO S).1.length c] W fun x w' => x = .returned (.tuple #[.string S, .int .i64 0]) ∧ Only Nil W w') := Lib.hid (fun W A c h hc => by
            have := TLay_any A c (rdO S).1 W h hc
            rw [hb1, hb2] at this
            exact this)
          clear hf hb1 hb2 hat
          generalize (rdO S).1 = MM at *
          obtain ⟨k, hk⟩ : ∃ k, k = MM.length := ⟨_, rfl⟩
          rw [← hk] at HRS HLM hb3
          clear hk
          go_wp2_with (first
            | (go_at_call 11; (with_reducible refine (HT1.out).mono ?_); rintro e w3 ⟨rfl, ho3⟩; have HO3 := Lib.hid (HO1.out.trans ho3); clear ho3)
            | (go_at_call 13; (with_reducible refine (HRX.out _).mono ?_); rintro e w4 ⟨A4, c4, rfl, hO4, ho4⟩; have HO4 := Lib.hid (HO3.out.trans ho4); have HW4 := Lib.hid hO4; clear hO4 ho4)
            | (go_at_call 15; (with_reducible refine (HSM.out _ HO4.out _ _ HW4.out).mono ?_); rintro e w5 ⟨rfl, ho5⟩; have HO5 := Lib.hid (HO4.out.trans ho5); clear ho5)
            | (go_at_call 13; (with_reducible refine (HRS.out _).mono ?_); rintro e w7 ⟨A7, c7, rfl, hO7, ho7⟩; have HO7 := Lib.hid (HO5.out.trans ho7); have HW7 := Lib.hid hO7; clear hO7 ho7)
            | (go_at_call 11; (with_reducible refine (HLM.out _ _ _ (HW7.out.sqn encM_len) HW7.out.len.2.1).mono ?_); rintro e w8 ⟨rfl, ho8⟩; have HO8 := Lib.hid (HO7.out.trans ho8); clear ho8)
            | (go_at_call 8; (with_reducible refine (awake_any _).mono ?_); rintro e w9 ⟨rfl, ho9⟩; have HO9 := Lib.hid (HO8.out.trans ho9); clear ho9)
            )
          go_ret
          exact ⟨rfl, HO9.out.below (Nat.le_refl _) (fun _ _ hh => hh)⟩
        · obtain ⟨at_, hat⟩ : ∃ at_ : Nat, at_ = (rdO S).2.1 := ⟨_, rfl⟩
          have HRS : Hid (∀ W, Calls Try.prog 13 #[.string S] W fun x w' => ∃ A c, x = .returned (.tuple #[.slice A 0 c, .int .i64 at_, .int .i64 (rdO S).2.2]) ∧ Only Nil W w') := Lib.hid (fun W => by
            have := TRead_any S W
            unfold RPost at this
            rw [rdO_err hf, ← hat] at this
            exact this.mono fun x w' ⟨A, c, hx, _, hn⟩ => ⟨A, c, hx, hn⟩)
          generalize (rdO S).2.2 = EE at *
          have hf2 : (EE != 0) = true := by simpa using hf
          clear hat
          go_wp2_with (first
            | (go_at_call 11; (with_reducible refine (HT1.out).mono ?_); rintro e w3 ⟨rfl, ho3⟩; have HO3 := Lib.hid (HO1.out.trans ho3); clear ho3)
            | (go_at_call 13; (with_reducible refine (HRX.out _).mono ?_); rintro e w4 ⟨A4, c4, rfl, hO4, ho4⟩; have HO4 := Lib.hid (HO3.out.trans ho4); have HW4 := Lib.hid hO4; clear hO4 ho4)
            | (go_at_call 15; (with_reducible refine (HSM.out _ HO4.out _ _ HW4.out).mono ?_); rintro e w5 ⟨rfl, ho5⟩; have HO5 := Lib.hid (HO4.out.trans ho5); clear ho5)
            | (go_at_call 13; (with_reducible refine (HRS.out _).mono ?_); rintro e w7 ⟨A7, c7, rfl, ho7⟩; have HO7 := Lib.hid (HO5.out.trans ho7); clear ho7)
            | (go_at_call 8; (with_reducible refine (awake_any _).mono ?_); rintro e w9 ⟨rfl, ho9⟩; have HO9 := Lib.hid (HO7.out.trans ho9); clear ho9)
            )
          go_ret
          exact ⟨rfl, HO9.out.below (Nat.le_refl _) (fun _ _ hh => hh)⟩
      · have e1 : (tlE L == 0) = false := by simpa using e0
        generalize tlS L = SX at *
        generalize tlE L = E at *
        clear HTL HSM
        by_cases hf : (rdO S).2.2 = 0
        · obtain ⟨hb1, hb2, hb3⟩ := rdO_back hf
          obtain ⟨at_, hat⟩ : ∃ at_ : Nat, at_ = (rdO S).2.1 := ⟨_, rfl⟩
          have HRS : Hid (∀ W, Calls Try.prog 13 #[.string S] W fun x w' => ∃ A c, x = .returned (.tuple #[.slice A (rdO S).1.length c, .int .i64 at_, .int .i64 0]) ∧ Ow encM 5 w' W.heap.size 28 (.slice A (rdO S).1.length c) (rdO S).1 ∧ Only Nil W w') := Lib.hid (fun W => by
            have := TRead_any S W
            unfold RPost at this
            rw [hf, ← hat] at this
            exact this)
          have HLM : Hid (∀ W A c, Sq encM 5 W W.heap.size A (rdO S).1 → (rdO S).1.length ≤ c → Calls Try.prog 11 #[.slice A (rdO S).1.length c] W fun x w' => x = .returned (.tuple #[.string S, .int .i64 0]) ∧ Only Nil W w') := Lib.hid (fun W A c h hc => by
            have := TLay_any A c (rdO S).1 W h hc
            rw [hb1, hb2] at this
            exact this)
          clear hf hb1 hb2 hat
          generalize (rdO S).1 = MM at *
          obtain ⟨k, hk⟩ : ∃ k, k = MM.length := ⟨_, rfl⟩
          rw [← hk] at HRS HLM hb3
          clear hk
          go_wp2_with (first
            | (go_at_call 11; (with_reducible refine (HT1.out).mono ?_); rintro e w3 ⟨rfl, ho3⟩; have HO3 := Lib.hid (HO1.out.trans ho3); clear ho3)
    
    
            | (go_at_call 13; (with_reducible refine (HRS.out _).mono ?_); rintro e w7 ⟨A7, c7, rfl, hO7, ho7⟩; have HO7 := Lib.hid (HO3.out.trans ho7); have HW7 := Lib.hid hO7; clear hO7 ho7)
            | (go_at_call 11; (with_reducible refine (HLM.out _ _ _ (HW7.out.sqn encM_len) HW7.out.len.2.1).mono ?_); rintro e w8 ⟨rfl, ho8⟩; have HO8 := Lib.hid (HO7.out.trans ho8); clear ho8)
            | (go_at_call 8; (with_reducible refine (awake_any _).mono ?_); rintro e w9 ⟨rfl, ho9⟩; have HO9 := Lib.hid (HO8.out.trans ho9); clear ho9)
            )
          go_ret
          exact ⟨rfl, HO9.out.below (Nat.le_refl _) (fun _ _ hh => hh)⟩
        · obtain ⟨at_, hat⟩ : ∃ at_ : Nat, at_ = (rdO S).2.1 := ⟨_, rfl⟩
          have HRS : Hid (∀ W, Calls Try.prog 13 #[.string S] W fun x w' => ∃ A c, x = .returned (.tuple #[.slice A 0 c, .int .i64 at_, .int .i64 (rdO S).2.2]) ∧ Only Nil W w') := Lib.hid (fun W => by
            have := TRead_any S W
            unfold RPost at this
            rw [rdO_err hf, ← hat] at this
            exact this.mono fun x w' ⟨A, c, hx, _, hn⟩ => ⟨A, c, hx, hn⟩)
          generalize (rdO S).2.2 = EE at *
          have hf2 : (EE != 0) = true := by simpa using hf
          clear hat
          go_wp2_with (first
            | (go_at_call 11; (with_reducible refine (HT1.out).mono ?_); rintro e w3 ⟨rfl, ho3⟩; have HO3 := Lib.hid (HO1.out.trans ho3); clear ho3)
    
    
            | (go_at_call 13; (with_reducible refine (HRS.out _).mono ?_); rintro e w7 ⟨A7, c7, rfl, ho7⟩; have HO7 := Lib.hid (HO3.out.trans ho7); clear ho7)
            | (go_at_call 8; (with_reducible refine (awake_any _).mono ?_); rintro e w9 ⟨rfl, ho9⟩; have HO9 := Lib.hid (HO7.out.trans ho9); clear ho9)
            )
          go_ret
          exact ⟨rfl, HO9.out.below (Nat.le_refl _) (fun _ _ hh => hh)⟩
/-! The step from the walk to the statement of TraceBack. -/
namespace frTraceBack
open Go.ChangeShapes Go.WideShapes Go.ChangeAt Go.RowKit
set_option linter.unusedVariables false
theorem own : ownKnob Try.prog.godebug = none := by kernel_rfl
theorem laidOut : laidOutB Try.prog = true := by kernel_rfl
theorem shape0 : Kd.ok Try.prog (.slc (.agg [.int .i64, .int .i64, .int .i64, .str, .bool])) 22 = true := by kernel_rfl
theorem shape1 : Kd.ok Try.prog (.str) 9 = true := by kernel_rfl
set_option maxRecDepth 100000 in
theorem contract (H : Type) (enc : TypeId × Value → H) (W : World) (base : Nat) (args : Array Value) (ds gs : List (DataW H)) (before : List MemPlace)
    (hval : ∀ (j : Nat) t v, Try.f5.params[j]? = some t → args[j]? = some v → Value.okWide Try.prog W .any base t v)
    (hW : DataW.Whole enc Try.prog Try.f5.params.toList Rows.traceBackSpec.vars false W args.toList ds gs before) :
    Calls Try.prog 5 args W fun e W' => ∃ v, e = .returned v ∧ Rows.traceBackSpec.post enc Try.prog Try.f5 false true false false W args v W' := by
  have hW' := hW
  obtain ⟨p, q, hA0, hV, rfl, hfz, hnd⟩ := hW
  have hA : DataW.TrodAll enc Try.prog W 0 (fun _ => true) true Try.f5.params.toList args.toList ds p := hA0
  rw [Try.params5] at hA hval
  obtain ⟨v0, vs0, d0, ds0, p0, q0, hargs, rfl, rfl, h0, r0⟩ := trodAll_cons hA
  obtain ⟨v1, vs1, d1, ds1, p1, q1, rfl, rfl, rfl, h1, r1⟩ := trodAll_cons r0
  obtain ⟨rfl, rfl, rfl⟩ := trodAll_nil r1
  obtain rfl : args = #[v0, v1] := by cases args; simp_all
  obtain ⟨rfl, rfl⟩ := trodVars_none hV
  have k0 := Kd.fit _ shape0 (hval 0 22 v0 rfl rfl) h0
  have lt0 : ∀ x ∈ p0, x.block < W.heap.size := by obtain ⟨m, hm⟩ := h0; exact DataW.trod_lt m _ _ _ hm
  have k1 := Kd.fit _ shape1 (hval 1 9 v1 rfl rfl) h1
  have lt1 : ∀ x ∈ p1, x.block < W.heap.size := by obtain ⟨m, hm⟩ := h1; exact DataW.trod_lt m _ _ _ hm
  refine (traceBack_walk v0 v1 W k0 k1).mono fun e W' ⟨he, bel⟩ => ?_
  subst he
  exact ⟨_, rfl, _, _, _, [], _, [], hW', trodAll_mk1 (shut_bool Try.underlying4 _), (trodAll_cons_mk (Below.trod laidOut (by kernel_rfl) (of_decide_eq_true (by kernel_rfl)) h0 bel lt0) (trodAll_cons_mk (Below.trod laidOut (by kernel_rfl) (of_decide_eq_true (by kernel_rfl)) h1 bel lt1) trodAll_mk0)), rfl, bel.frame _, fun h => by cases h⟩
set_option maxRecDepth 100000 in
theorem lifted (os : Os) (started : os.Started) (H : Type) (enc : TypeId × Value → H) :
    ReturnsInHanded {} Try.checked os 5 .any (Rows.traceBackSpec.pre6 enc Try.prog Try.f5 Rows.traceBackRow.domain false) (Rows.traceBackSpec.post enc Try.prog Try.f5 false true false false) := by
  refine returnsInHanded_of_change (C := Try.checked) own started (by kernel_rfl) Try.func5
    (ChangeSpec.witness6 (enc := enc) (C := Try.checked) false ⟨#[], #[.slice none 0 0, .string ByteArray.empty], []⟩ 8 (by kernel_rfl) (by kernel_rfl) (by kernel_rfl) (by kernel_rfl)) ?_
  intro W base args ds gs before hval hW _ _
  exact contract H enc W base args ds gs before hval hW
theorem over : Rows.traceBackRow.holds Try.pinned (OpenSpec.ofChange Rows.traceBackSpec) :=
  OpenClaim.holds_of_wide 5 Try.f5 rfl rfl rfl rfl rfl rfl rfl ⟨rfl, rfl, rfl, rfl, rfl⟩ rfl rfl rfl rfl rfl (by kernel_rfl) Try.func5 (by kernel_rfl)
    (of_decide_eq_true (by kernel_rfl)) (by unfold Func.isWrapper; first | (rw [if_pos (by decide +kernel)]; kernel_rfl) | (rw [if_neg (by decide +kernel)]; exact ⟨rfl, rfl⟩))
    (fun os started H enc _ => lifted os started H enc)
theorem proved : Rows.TraceBackSaid := over
end frTraceBack
end Go.Proofs.Ytamocachpjljdaa
