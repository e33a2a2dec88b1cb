/- For every list of calls and every number: each call of a drain is answered as the document says, and once it is over it stays so, with the same code (the statement DrainDoes, as it is given). No condition. -/
import Derived.Test.YtmlbbjcgcdkffaaDo20
namespace Go.Proofs.Ytmlbbjcgcdkffaa
open Go.RowKit

set_option maxHeartbeats 2000000 in
theorem awake_any (w : World) : Calls Try.prog 8 #[] w fun e w' => e = .returned (.bool true) ∧ Only Nil w w' := by
  go_enter Try.func8, Try.ntmps8
  go_wp2_with (first
    | (go_at_call 6; (with_reducible refine (New_any _).mono ?_); rintro e w1 ⟨b, rfl, hb, ho1, h1⟩)
    | (go_at_call 12; (with_reducible refine (MayOpen_any b (-1) (-1) (-1) true _ h1 (by decide)).mono ?_); rintro e w2 ⟨rfl, rfl⟩)
    | (go_at_call 17; (with_reducible refine (send_ok b (-1) (-1) (-1) 4 _ h1 (by decide) (by decide) (by decide)).mono ?_); rintro e w3 ⟨rfl, ho3, h3⟩)
    | (go_at_call 12; (with_reducible refine (MayOpen_any b 4 (-1) (-1) false _ h3 (by decide)).mono ?_); rintro e w4 ⟨rfl, rfl⟩)
    | (go_at_call 13; (with_reducible refine (Takes_any b 4 (-1) (-1) 4 true _ h3 (by decide)).mono ?_); rintro e w5 ⟨rfl, rfl⟩)
    | (go_at_call 13; (with_reducible refine (Takes_any b 4 (-1) (-1) 6 false _ h3 (by decide)).mono ?_); rintro e w6 ⟨rfl, rfl⟩)
    | (go_at_call 15; (with_reducible refine (step_no b 4 (-1) (-1) 1 _ h3 (by decide) (by decide)).mono ?_); rintro e w7 ⟨rfl, ho7, h7⟩)
    | (go_at_call 15; (with_reducible refine (step_end b 4 (-1) (-1) 0 _ h7 (by decide) (by decide)).mono ?_); rintro e w8 ⟨rfl, ho8, h8⟩)
    )
  go_ret
  refine ⟨rfl, ?_⟩
  have hx : ∀ i, i < w.heap.size → One b i → Nil i := fun i hi hh => by unfold One at hh; omega
  exact (((ho1.trans_new ho3 hx).trans_new ho7 hx).trans_new ho8 hx)

set_option maxRecDepth 100000 in
set_option maxHeartbeats 16000000 in
theorem drainDoes_walk (v0 v1 : Value) (w : World) (h0 : Kd.Fit w (.slc (.agg [.int .i64, .int .i64, .int .i64])) v0) (h1 : Kd.Fit w (.int .i64) v1) :
    Calls Try.prog 3 #[v0, v1] w fun e w' => e = .returned (.bool true) ∧ Below w.heap.size w w' := by
  obtain ⟨A, len, cap, rfl, hl⟩ := Kd.slc_fit h0
  obtain ⟨i, rfl, hi⟩ := Kd.int_fit h1
  obtain ⟨i1, i2⟩ := i64Ok_of hi
  clear h0 h1 hi
  go_enter Try.func3, Try.ntmps3
  go_wp2_with (first
    | (go_at_call 6; (with_reducible refine (New_any _).mono ?_); rintro e w1 ⟨b, rfl, hb, ho1, h1⟩)
    | (go_at_call 7; (with_reducible refine (RNew_any _).mono ?_); rintro e w2 ⟨c, rfl, hc, ho2, h2⟩; have h1' := h1.kept ho2 (fun hh => hh); have hbc : b < c := by have := h1.lt; omega)
    | (go_at_call 8; (with_reducible refine (awake_any _).mono ?_); rintro e w3 ⟨rfl, ho3⟩; have hD3 := h1'.kept ho3 (fun hh => hh); have hR3 := h2.kept ho3 (fun hh => hh))
    )
  go_loopw [7] (fun ii wr => ∃ (k : Nat) (S G O : Int), k ≤ len ∧ ii = .int .i64 k ∧ drOk S G O ∧ Dr wr b S G O ∧ RDr wr c S G O ∧ Below w.heap.size w wr) (fun ii _ => len - (intOf ii).toNat)
  case atStart => exact ⟨0, -1, -1, -1, Nat.zero_le _, rfl, ⟨⟨by omega, by omega⟩, ⟨by omega, by omega⟩, by omega, by omega⟩, hD3, hR3, ((ho1.trans ho2).trans ho3).below (Nat.le_refl _) (fun _ _ hh => hh)⟩
  case round =>
    obtain ⟨k, S, G, O, hk, rfl, hok, hD, hR, hB⟩ := hrel
    have hmax : len ≤ 9223372036854775807 := Nat.le_trans hl.1 hl.2.1
    by_cases hlt : k < len
    · by_cases h100 : k < 60
      · obtain ⟨b', off, rfl, hb', cs, hcl, hcs, his⟩ := hl.at (by decide) hlt
        obtain ⟨kd, x, t, rfl, _, _, _⟩ := Kd.list_ints3 his
        have hsz := hB.size
        have ga : w.heap.size ≤ b := hb
        have gb : w.heap.size ≤ c := by omega
        have hne : b ≠ c := by omega
        have hover := fun (W : World) (h : Dr W b S G O) => Over_any b S G O W h
        have hcase : (decide (0 ≤ O) = true ∧ max O 0 = O ∧ 0 ≤ O) ∨ (decide (0 ≤ O) = false ∧ max O 0 = 0 ∧ ¬ 0 ≤ O) := by
          by_cases h : 0 ≤ O
          · exact .inl ⟨by simpa using h, by omega, h⟩
          · exact .inr ⟨by simpa using h, by omega, h⟩
        rcases hcase with ⟨e1, e2, e3⟩ | ⟨e1, e2, e3⟩
        all_goals
          rw [e1, e2] at hover
          clear e1 e2
          go_wp2_with (first
            | (go_at_call 9; (with_reducible refine (hover _ hD).mono ?_); rintro e w4 ⟨rfl, ho4⟩; have hD4 := hD.kept ho4 (fun hh => hh); have hR4 := hR.kept ho4 (fun hh => hh); have hB4 := hB.trans (ho4.below hB.size (fun _ _ hh => hh)); have f0 := (hB4.cell (p := ⟨b', off + k * 3, none⟩) hb').trans (hcs 0 (by decide)); have f1 := (hB4.cell (p := ⟨b', off + k * 3 + 1, none⟩) hb').trans (hcs 1 (by decide)); have f2 := (hB4.cell (p := ⟨b', off + k * 3 + 2, none⟩) hb').trans (hcs 2 (by decide)); simp at f0 f1 f2)
            | (go_at_call 10; (with_reducible refine (do_any b c S G O kd x t _ hne hD4 hR4 hok).mono ?_); rintro e w5 ⟨S', G', O', rfl, ho5, hD5, hR5, hok5, hOO⟩)
            )
          clear hover hD hR hD4 hR4 hB hok
          have hB5 := hB4.trans (ho5.below hB4.size (fun i hi h => by unfold Two at h; omega))
          have hover := fun (W : World) (h : Dr W b S' G' O') => Over_any b S' G' O' W h
          have hsent := fun (W : World) (h : Dr W b S' G' O') => Sent_any b S' G' O' W h
          have hmay := fun (W : World) (h : Dr W b S' G' O') => MayOpen_any b S' G' O' _ W h rfl
          have htak := fun (W : World) (h : Dr W b S' G' O') => Takes_any b S' G' O' i _ W h rfl
          have href := fun (W : World) (h : Dr W b S' G' O') => Refused_any b S' G' O' i _ W h rfl
          obtain ⟨⟨s1, s2⟩, ⟨g1, g2⟩, o1, o2⟩ := id hok5
          have cO : (decide (0 ≤ O') = true ∧ max O' 0 = O' ∧ 0 ≤ O') ∨ (decide (0 ≤ O') = false ∧ max O' 0 = 0 ∧ ¬ 0 ≤ O') := by
            by_cases h : 0 ≤ O'
            · exact .inl ⟨by simpa using h, by omega, h⟩
            · exact .inr ⟨by simpa using h, by omega, h⟩
          have cS : (decide (0 ≤ S') = true ∧ max S' 0 = S' ∧ 0 ≤ S') ∨ (decide (0 ≤ S') = false ∧ max S' 0 = 0 ∧ ¬ 0 ≤ S') := by
            by_cases h : 0 ≤ S'
            · exact .inl ⟨by simpa using h, by omega, h⟩
            · exact .inr ⟨by simpa using h, by omega, h⟩
          have cG : (decide (0 ≤ G') = true ∧ max G' 0 = G' ∧ 0 ≤ G') ∨ (decide (0 ≤ G') = false ∧ max G' 0 = 0 ∧ ¬ 0 ≤ G') := by
            by_cases h : 0 ≤ G'
            · exact .inl ⟨by simpa using h, by omega, h⟩
            · exact .inr ⟨by simpa using h, by omega, h⟩
          rcases cO with ⟨q1, q2, q3⟩ | ⟨q1, q2, q3⟩ <;> rcases cS with ⟨q4, q5, q6⟩ | ⟨q4, q5, q6⟩ <;> rcases cG with ⟨q7, q8, q9⟩ | ⟨q7, q8, q9⟩
          all_goals
            try (exfalso; have := hOO e3; omega)
          all_goals
            rw [q1, q2] at hover
            rw [q4, q5] at hsent
            rw [q1, q4, q7] at hmay
            rw [q1, q4, q5] at htak
            rw [q7, q8] at href
            simp only [Bool.not_true, Bool.not_false, Bool.true_and, Bool.false_and, Bool.and_true, Bool.and_false, Bool.true_or, Bool.false_or] at hmay htak href
            clear q2 q5 q8
            go_wp2_with (first
              | (go_at_call 9; (with_reducible refine (hover _ hD5).mono ?_); rintro e w6 ⟨rfl, ho6⟩; have hD6 := hD5.kept ho6 (fun hh => hh); have hR6 := hR5.kept ho6 (fun hh => hh); have hB6 := hB5.trans (ho6.below hB5.size (fun _ _ hh => hh)); obtain ⟨r0, r1, r2, _, _, _⟩ := RDr.facts hR6)
              | (go_at_call 11; (with_reducible refine (hsent _ hD6).mono ?_); rintro e w7 ⟨rfl, ho7⟩; have hD7 := hD6.kept ho7 (fun hh => hh); have hR7 := hR6.kept ho7 (fun hh => hh); have hB7 := hB6.trans (ho7.below hB6.size (fun _ _ hh => hh)); obtain ⟨r0, r1, r2, _, _, _⟩ := RDr.facts hR7)
              )
            go_quiet (first
              | (go_at_call 12; exact Calls.quiet_of_same (hmay _ hD7))
              | (go_at_call 13; exact Calls.quiet_of_same (htak _ hD7))
              | (go_at_call 14; exact Calls.quiet_of_same (href _ hD7)))
            go_wp2
            go_roundw
            case rel => exact ⟨k + 1, S', G', O', by omega, by go_num, hok5, hD7, hR7, ⟨hB7.os, hB7.tape, hB7.output, hB7.size, hB7.block⟩⟩
            case measure => simp [intOf]; omega
      ·
        go_wp2
        go_ret
        exact ⟨rfl, hB⟩
    ·
      go_wp2
      go_ret
      exact ⟨rfl, hB⟩
/-! The step from the walk to the statement of DrainDoes. -/
namespace frDrainDoes
open Go.ChangeShapes Go.WideShapes Go.ChangeAt Go.RowKit
set_option linter.unusedVariables false
theorem own : ownKnob Try.prog.godebug = none := by kernel_rfl
theorem laidOut : laidOutB Try.prog = true := by kernel_rfl
theorem shape0 : Kd.ok Try.prog (.slc (.agg [.int .i64, .int .i64, .int .i64])) 22 = true := by kernel_rfl
theorem shape1 : Kd.ok Try.prog (.int .i64) 3 = true := by kernel_rfl
set_option maxRecDepth 100000 in
theorem contract (H : Type) (enc : TypeId × Value → H) (W : World) (base : Nat) (args : Array Value) (ds gs : List (DataW H)) (before : List MemPlace)
    (hval : ∀ (j : Nat) t v, Try.f3.params[j]? = some t → args[j]? = some v → Value.okWide Try.prog W .any base t v)
    (hW : DataW.Whole enc Try.prog Try.f3.params.toList Rows.drainDoesSpec.vars false W args.toList ds gs before) :
    Calls Try.prog 3 args W fun e W' => ∃ v, e = .returned v ∧ Rows.drainDoesSpec.post enc Try.prog Try.f3 false true false false W args v W' := by
  have hW' := hW
  obtain ⟨p, q, hA0, hV, rfl, hfz, hnd⟩ := hW
  have hA : DataW.TrodAll enc Try.prog W 0 (fun _ => true) true Try.f3.params.toList args.toList ds p := hA0
  rw [Try.params3] at hA hval
  obtain ⟨v0, vs0, d0, ds0, p0, q0, hargs, rfl, rfl, h0, r0⟩ := trodAll_cons hA
  obtain ⟨v1, vs1, d1, ds1, p1, q1, rfl, rfl, rfl, h1, r1⟩ := trodAll_cons r0
  obtain ⟨rfl, rfl, rfl⟩ := trodAll_nil r1
  obtain rfl : args = #[v0, v1] := by cases args; simp_all
  obtain ⟨rfl, rfl⟩ := trodVars_none hV
  have k0 := Kd.fit _ shape0 (hval 0 22 v0 rfl rfl) h0
  have lt0 : ∀ x ∈ p0, x.block < W.heap.size := by obtain ⟨m, hm⟩ := h0; exact DataW.trod_lt m _ _ _ hm
  have k1 := Kd.fit _ shape1 (hval 1 3 v1 rfl rfl) h1
  have lt1 : ∀ x ∈ p1, x.block < W.heap.size := by obtain ⟨m, hm⟩ := h1; exact DataW.trod_lt m _ _ _ hm
  refine (drainDoes_walk v0 v1 W k0 k1).mono fun e W' ⟨he, bel⟩ => ?_
  subst he
  exact ⟨_, rfl, _, _, _, [], _, [], hW', trodAll_mk1 (shut_bool Try.underlying4 _), (trodAll_cons_mk (Below.trod laidOut (by kernel_rfl) (of_decide_eq_true (by kernel_rfl)) h0 bel lt0) (trodAll_cons_mk (Below.trod laidOut (by kernel_rfl) (of_decide_eq_true (by kernel_rfl)) h1 bel lt1) trodAll_mk0)), rfl, bel.frame _, fun h => by cases h⟩
set_option maxRecDepth 100000 in
theorem lifted (os : Os) (started : os.Started) (H : Type) (enc : TypeId × Value → H) :
    ReturnsInHanded {} Try.checked os 3 .any (Rows.drainDoesSpec.pre6 enc Try.prog Try.f3 Rows.drainDoesRow.domain false) (Rows.drainDoesSpec.post enc Try.prog Try.f3 false true false false) := by
  refine returnsInHanded_of_change (C := Try.checked) own started (by kernel_rfl) Try.func3
    (ChangeSpec.witness6 (enc := enc) (C := Try.checked) false ⟨#[], #[.slice none 0 0, .int .i64 0], []⟩ 8 (by kernel_rfl) (by kernel_rfl) (by kernel_rfl) (by kernel_rfl)) ?_
  intro W base args ds gs before hval hW _ _
  exact contract H enc W base args ds gs before hval hW
theorem over : Rows.drainDoesRow.holds Try.pinned (OpenSpec.ofChange Rows.drainDoesSpec) :=
  OpenClaim.holds_of_wide 3 Try.f3 rfl rfl rfl rfl rfl rfl rfl ⟨rfl, rfl, rfl, rfl, rfl⟩ rfl rfl rfl rfl rfl (by kernel_rfl) Try.func3 (by kernel_rfl)
    (of_decide_eq_true (by kernel_rfl)) (by unfold Func.isWrapper; first | (rw [if_pos (by decide +kernel)]; kernel_rfl) | (rw [if_neg (by decide +kernel)]; exact ⟨rfl, rfl⟩))
    (fun os started H enc _ => lifted os started H enc)
theorem proved : Rows.DrainDoesSaid := over
end frDrainDoes
end Go.Proofs.Ytmlbbjcgcdkffaa
