/- For every beginning and every list of calls: each call of a ledger is answered as the document says (the statement CreditDoes, as it is given). No condition. -/
import Derived.Test.YtlnemadkggfmbaaDo07
import Derived.Test.YtlnemadkggfmbaaL07None
namespace Go.Proofs.Ytlnemadkggfmbaa
open Go.RowKit

set_option maxHeartbeats 4000000 in
theorem creditDoes_walk (v0 v1 : Value) (w : World) (h0 : Kd.Fit w (.int .i64) v0) (h1 : Kd.Fit w (.slc (.agg [.int .i64, .int .i64, .int .i64, .int .i64])) v1) :
    Calls Try.prog 3 #[v0, v1] w fun e w' => e = .returned (.bool true) ∧ Below w.heap.size w w' := by
  obtain ⟨n, rfl, hn⟩ := Kd.int_fit h0
  obtain ⟨A, len, cap, rfl, hl⟩ := Kd.slc_fit h1
  clear hn h0 h1
  have HRt := fun W => Right_any n W
  by_cases c1 : 0 ≤ n ∧ n ≤ 2147483647
  · rw [(szB_iff n).2 c1] at HRt
    have hw : winOk n := by unfold winOk; omega
    go_enter Try.func3, Try.ntmps3
    go_wp2_with (first
      | (go_at_call 6; (with_reducible refine (New_any n _ c1).mono ?_); rintro e w1 ⟨b, cb, rfl, hL1, ho1⟩; have hB1 := (ho1.alloc (.cells #[.int .i64 n, .int .i64 0, .slice none 0 0] 32)).below (Nat.le_refl _) (fun _ _ hh => hh); have hx1 := Blk.new w1 32 #[.int .i64 n, .int .i64 0, .slice none 0 0]; have hL1' := hL1.kept ((Only.refl Nil w1).alloc (.cells #[.int .i64 n, .int .i64 0, .slice none 0 0] 32)); have hsz1 := ho1.size)
      | (go_at_call 7; (with_reducible refine (HRt _).mono ?_); rintro e w1' ⟨rfl, rfl⟩)
      | (go_at_call 8; (with_reducible refine (awake_any _).mono ?_); rintro e w2 ⟨rfl, hbA⟩; have hL2 := hL1'.kept (Only.of_below hbA); have hx2 := hx1.below hbA (by simp); have hB2 := hB1.trans (hbA.mono (by simp; omega)))
      )
    go_loopw [8] (fun ii wr => ∃ (k : Nat) (C S : Int) (v vx : Value) (L : List Gn), k ≤ len ∧ k ≤ 60 ∧ ii = .int .i64 k ∧ St wr b cb w1.heap.size w.heap.size (k * 2147483648) C S v vx L ∧ Below w.heap.size w wr) (fun ii _ => len - (intOf ii).toNat)
    case atStart => exact ⟨0, n, 0, _, _, [], Nat.zero_le _, Nat.zero_le _, rfl, ⟨hL2, ⟨hx2, Ow.nil, hsz1⟩, ⟨fun i j x y hx => by simp at hx, by simp, ⟨hw, by simp⟩, ⟨by simp, by simp⟩, by simp⟩⟩, hB2⟩
    case round =>
      obtain ⟨k, C, S, v, vx, L, hk, hk60, rfl, hS, hB⟩ := hrel
      have hmax : len ≤ 9223372036854775807 := Nat.le_trans hl.1 hl.2.1
      by_cases hlt : k < len
      · by_cases h60 : k < 60
        · obtain ⟨b', off, rfl, hb', cs, hcl, hcs, his⟩ := hl.at (by decide) hlt
          obtain ⟨kd, id, m, t, rfl, _, _, hm, ht⟩ := Kd.list_ints4 his
          have F0 := hcs 0 (by decide)
          have F1 := hcs 1 (by decide)
          have F2 := hcs 2 (by decide)
          have F3 := hcs 3 (by decide)
          simp [Kd.cells, Kd.cellsL] at F0 F1 F2 F3
          have f0 := (hB.cell (p := ⟨b', _, none⟩) hb').trans F0
          have f1 := (hB.cell (p := ⟨b', _, none⟩) hb').trans F1
          have f2 := (hB.cell (p := ⟨b', _, none⟩) hb').trans F2
          have f3 := (hB.cell (p := ⟨b', _, none⟩) hb').trans F3
          have HF1 : Hid (∀ W, Below w.heap.size w W → W.cell? ⟨b', off + k * 4 + 1, none⟩ = some (.int .i64 id)) := Lib.hid fun W hW => (hW.cell (p := ⟨b', _, none⟩) hb').trans F1
          clear his hcs hcl F0 F1 F2 F3
          have HD := Lib.hid (do_any kd id m t wr hS (by omega) (i64Ok_of hm) (i64Ok_of ht))
          clear hm ht hS
          go_wp2_with (first
            | (go_at_call 9; (with_reducible refine (HD.out).mono ?_); rintro e w3 ⟨C', S', v', vx', L', rfl, hS3, hB3⟩; have hB13 := hB.trans hB3; have g1 := HF1.out _ hB13; have HS3 := Lib.hid hS3; clear hS3)
            | (go_at_call 10; (with_reducible refine (same_any id _ HS3.out).mono ?_); rintro e w4 ⟨rfl, ho4⟩)
            )
          go_roundw
          case rel => exact ⟨k + 1, C', S', v', vx', L', by omega, by omega, by go_num, (by have q := HS3.out; have e : ((k : Int) * 2147483648 + 2147483648) = ((k + 1 : Nat) : Int) * 2147483648 := (by omega); rw [e] at q; exact ⟨q.lg.kept ho4, q.rl.kept ho4, q.inv⟩), hB13.trans (ho4.below hB13.size (fun _ _ hh => hh))⟩
          case measure => simp [intOf]; omega
        · clear hS
          go_wp2
          go_ret
          exact ⟨rfl, hB⟩
      · clear hS
        go_wp2
        go_ret
        exact ⟨rfl, hB⟩
  · have hs : szB n = false := by
      cases hs : szB n with
      | false => rfl
      | true => exact absurd ((szB_iff n).1 hs) c1
    rw [hs] at HRt
    have HN := fun W => New_bad n W c1
    clear hs c1
    go_enter Try.func3, Try.ntmps3
    go_wp2_with (first
      | (go_at_call 6; (with_reducible refine (HN _).mono ?_); rintro e w1 ⟨rfl, rfl⟩)
      | (go_at_call 7; (with_reducible refine (HRt _).mono ?_); rintro e w1' ⟨rfl, rfl⟩)
      | (go_at_call 8; (with_reducible refine (awake_any _).mono ?_); rintro e w2 ⟨rfl, hbA⟩)
      )
    go_ret
    exact ⟨rfl, hbA⟩
/-! The step from the walk to the statement of CreditDoes. -/
namespace frCreditDoes
open Go.ChangeShapes Go.WideShapes Go.ChangeAt Go.RowKit
set_option linter.unusedVariables false
theorem own : ownKnob Try.prog.godebug = none := by kernel_rfl
theorem laidOut : laidOutB Try.prog = true := by kernel_rfl
theorem shape0 : Kd.ok Try.prog (.int .i64) 3 = true := by kernel_rfl
theorem shape1 : Kd.ok Try.prog (.slc (.agg [.int .i64, .int .i64, .int .i64, .int .i64])) 22 = true := by kernel_rfl
set_option maxRecDepth 100000 in
theorem contract (H : Type) (enc : TypeId × Value → H) (W : World) (base : Nat) (args : Array Value) (ds gs : List (DataW H)) (before : List MemPlace)
    (hval : ∀ (j : Nat) t v, Try.f3.params[j]? = some t → args[j]? = some v → Value.okWide Try.prog W .any base t v)
    (hW : DataW.Whole enc Try.prog Try.f3.params.toList Rows.creditDoesSpec.vars false W args.toList ds gs before) :
    Calls Try.prog 3 args W fun e W' => ∃ v, e = .returned v ∧ Rows.creditDoesSpec.post enc Try.prog Try.f3 false true false false W args v W' := by
  have hW' := hW
  obtain ⟨p, q, hA0, hV, rfl, hfz, hnd⟩ := hW
  have hA : DataW.TrodAll enc Try.prog W 0 (fun _ => true) true Try.f3.params.toList args.toList ds p := hA0
  rw [Try.params3] at hA hval
  obtain ⟨v0, vs0, d0, ds0, p0, q0, hargs, rfl, rfl, h0, r0⟩ := trodAll_cons hA
  obtain ⟨v1, vs1, d1, ds1, p1, q1, rfl, rfl, rfl, h1, r1⟩ := trodAll_cons r0
  obtain ⟨rfl, rfl, rfl⟩ := trodAll_nil r1
  obtain rfl : args = #[v0, v1] := by cases args; simp_all
  obtain ⟨rfl, rfl⟩ := trodVars_none hV
  have k0 := Kd.fit _ shape0 (hval 0 3 v0 rfl rfl) h0
  have lt0 : ∀ x ∈ p0, x.block < W.heap.size := by obtain ⟨m, hm⟩ := h0; exact DataW.trod_lt m _ _ _ hm
  have k1 := Kd.fit _ shape1 (hval 1 22 v1 rfl rfl) h1
  have lt1 : ∀ x ∈ p1, x.block < W.heap.size := by obtain ⟨m, hm⟩ := h1; exact DataW.trod_lt m _ _ _ hm
  refine (creditDoes_walk v0 v1 W k0 k1).mono fun e W' ⟨he, bel⟩ => ?_
  subst he
  exact ⟨_, rfl, _, _, _, [], _, [], hW', trodAll_mk1 (shut_bool Try.underlying4 _), (trodAll_cons_mk (Below.trod laidOut (by kernel_rfl) (of_decide_eq_true (by kernel_rfl)) h0 bel lt0) (trodAll_cons_mk (Below.trod laidOut (by kernel_rfl) (of_decide_eq_true (by kernel_rfl)) h1 bel lt1) trodAll_mk0)), rfl, bel.frame _, fun h => by cases h⟩
set_option maxRecDepth 100000 in
theorem lifted (os : Os) (started : os.Started) (H : Type) (enc : TypeId × Value → H) :
    ReturnsInHanded {} Try.checked os 3 .any (Rows.creditDoesSpec.pre6 enc Try.prog Try.f3 Rows.creditDoesRow.domain false) (Rows.creditDoesSpec.post enc Try.prog Try.f3 false true false false) := by
  refine returnsInHanded_of_change (C := Try.checked) own started (by kernel_rfl) Try.func3
    (ChangeSpec.witness6 (enc := enc) (C := Try.checked) false ⟨#[], #[.int .i64 0, .slice none 0 0], []⟩ 8 (by kernel_rfl) (by kernel_rfl) (by kernel_rfl) (by kernel_rfl)) ?_
  intro W base args ds gs before hval hW _ _
  exact contract H enc W base args ds gs before hval hW
theorem over : Rows.creditDoesRow.holds Try.pinned (OpenSpec.ofChange Rows.creditDoesSpec) :=
  OpenClaim.holds_of_wide 3 Try.f3 rfl rfl rfl rfl rfl rfl rfl ⟨rfl, rfl, rfl, rfl, rfl⟩ rfl rfl rfl rfl rfl (by kernel_rfl) Try.func3 (by kernel_rfl)
    (of_decide_eq_true (by kernel_rfl)) (by unfold Func.isWrapper; first | (rw [if_pos (by decide +kernel)]; kernel_rfl) | (rw [if_neg (by decide +kernel)]; exact ⟨rfl, rfl⟩))
    (fun os started H enc _ => lifted os started H enc)
theorem proved : Rows.CreditDoesSaid := over
end frCreditDoes
end Go.Proofs.Ytlnemadkggfmbaa
