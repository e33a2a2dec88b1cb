/- For every number and every list of calls: each call of a window is answered as the document says, and the window never leaves its limits (the statement WindowDoes, as it is given). No condition. -/
import Derived.Test.YtcokkomfhjdbcaaDo05
import Derived.Test.YtcokkomfhjdbcaaArgs
namespace Go.Proofs.Ytcokkomfhjdbcaa
open Go.RowKit

set_option maxHeartbeats 1000000 in
theorem windowDoes_walk (v0 v1 : Value) (w : World) (h0 : Kd.Fit w (.int .i64) v0) (h1 : Kd.Fit w (.slc (.agg [.int .i64, .int .i64, .int .i64])) v1) :
    Calls Try.prog 3 #[v0, v1] w fun e w' => e = .returned (.bool true) ∧ Below w.heap.size w w' := by
  obtain ⟨n, rfl, hn⟩ := Kd.int_fit h0
  obtain ⟨A, len, cap, rfl, hl⟩ := Kd.slc_fit h1
  have hn' := i64Ok_of hn
  clear hn h0 h1
  by_cases c1 : 0 ≤ n ∧ n ≤ 2147483647
  · obtain ⟨c1, c2⟩ := c1
    go_enter Try.func3, Try.ntmps3
    go_wp2_with (go_at_call 6; refine (new_any _ _ ⟨c1, c2⟩).mono ?_; rintro e w1 ⟨b, rfl, hb, ho1, hW1⟩)
    go_loopw [0, 7] (fun nn i wr => ∃ (k : Nat) (m : Int), k ≤ len ∧ i = .int .i64 k ∧ nn = .int .i64 m ∧ winOk m ∧ Win wr b m ∧ Below w.heap.size w wr) (fun _ i _ => len - (intOf i).toNat)
    case atStart => exact ⟨0, n, Nat.zero_le _, rfl, rfl, ⟨by omega, by omega⟩, hW1, ho1.below (Nat.le_refl _) (fun _ _ => id)⟩
    case round =>
      obtain ⟨k, m, hk, rfl, rfl, hm, hW, hB⟩ := hrel
      have hmax : len ≤ 9223372036854775807 := Nat.le_trans hl.1 hl.2.1
      by_cases hlt : k < len
      · by_cases h100 : k < 100
        · obtain ⟨b', off, rfl, hb', cs, hcl, hcs, his⟩ := hl.at (by decide) hlt
          obtain ⟨kd, x, t, rfl, _, hx, ht⟩ := Kd.list_ints3 his
          have f0 := (hB.cell (p := ⟨b', _, none⟩) hb').trans (hcs 0 (by decide))
          have f1 := (hB.cell (p := ⟨b', _, none⟩) hb').trans (hcs 1 (by decide))
          have f2 := (hB.cell (p := ⟨b', _, none⟩) hb').trans (hcs 2 (by decide))
          simp [Kd.cells, Kd.cellsL] at f0 f1 f2
          clear his hcs
          have hx' := i64Ok_of hx
          have ht' := i64Ok_of ht
          have hd := fun (W : World) (hW : Win W b m) => do_any b m kd x t W hW hm hx' ht'
          have hM := doN_ok (kd := kd) (k := x) (t := t) hm
          generalize doN m kd x t = M at hd hM
          have hM1 := hM.1
          have hM2 := hM.2
          clear hx ht hcl
          by_cases hp : 0 ≤ M
          · have hmx : max M 0 = M := by omega
            go_wp2_with (first
              | (go_at_call 8; refine (hd _ hW).mono ?_; rintro e w2 ⟨rfl, ho2, hW2⟩)
              | (go_at_call 9; refine (Size_any b _ _ hW2).mono ?_; rintro e w3 ⟨rfl, rfl⟩)
              | (go_at_call 10; refine (Free_any b _ _ hW2).mono ?_; rw [hmx]; rintro e w4 ⟨rfl, rfl⟩))
            go_roundw
            case rel => exact ⟨k + 1, M, by omega, by go_num, rfl, hM, hW2, hB.trans (ho2.below hB.size (fun i hi h => by unfold One at h; omega))⟩
            case measure => simp [intOf]; omega
          · have hmx : max M 0 = 0 := by omega
            go_wp2_with (first
              | (go_at_call 8; refine (hd _ hW).mono ?_; rintro e w2 ⟨rfl, ho2, hW2⟩)
              | (go_at_call 9; refine (Size_any b _ _ hW2).mono ?_; rintro e w3 ⟨rfl, rfl⟩)
              | (go_at_call 10; refine (Free_any b _ _ hW2).mono ?_; rw [hmx]; rintro e w4 ⟨rfl, rfl⟩))
            go_roundw
            case rel => exact ⟨k + 1, M, by omega, by go_num, rfl, hM, hW2, hB.trans (ho2.below hB.size (fun i hi h => by unfold One at h; omega))⟩
            case measure => simp [intOf]; omega
        ·
          go_wp2_with (go_at_call 7; refine (awake_any _).mono ?_; rintro e w2 ⟨rfl, ho2⟩)
          go_ret
          exact ⟨rfl, hB.trans (ho2.below hB.size (fun _ _ => id))⟩
      ·
        go_wp2_with (go_at_call 7; refine (awake_any _).mono ?_; rintro e w2 ⟨rfl, ho2⟩)
        go_ret
        exact ⟨rfl, hB.trans (ho2.below hB.size (fun _ _ => id))⟩
  · go_enter Try.func3, Try.ntmps3
    by_cases c2 : n < 0
    all_goals
      go_wp2_with (first
        | (go_at_call 6; refine (new_bad _ _ c1).mono ?_; rintro e w1 ⟨rfl, rfl⟩)
        | (go_at_call 7; refine (awake_any _).mono ?_; rintro e w2 ⟨rfl, ho2⟩))
      go_ret
      exact ⟨rfl, ho2.below (Nat.le_refl _) (fun _ _ => id)⟩
/-! The step from the walk to the statement of WindowDoes. -/
namespace frWindowDoes
open Go.ChangeShapes Go.WideShapes Go.ChangeAt Go.RowKit
set_option linter.unusedVariables false
theorem own : ownKnob Try.prog.godebug = none := by kernel_rfl
theorem laidOut : laidOutB Try.prog = true := by kernel_rfl
theorem shape0 : Kd.ok Try.prog (.int .i64) 3 = true := by kernel_rfl
theorem shape1 : Kd.ok Try.prog (.slc (.agg [.int .i64, .int .i64, .int .i64])) 22 = true := by kernel_rfl
set_option maxRecDepth 100000 in
theorem contract (H : Type) (enc : TypeId × Value → H) (W : World) (base : Nat) (args : Array Value) (ds gs : List (DataW H)) (before : List MemPlace)
    (hval : ∀ (j : Nat) t v, Try.f3.params[j]? = some t → args[j]? = some v → Value.okWide Try.prog W .any base t v)
    (hW : DataW.Whole enc Try.prog Try.f3.params.toList Rows.windowDoesSpec.vars false W args.toList ds gs before) :
    Calls Try.prog 3 args W fun e W' => ∃ v, e = .returned v ∧ Rows.windowDoesSpec.post enc Try.prog Try.f3 false true false false W args v W' := by
  have hW' := hW
  obtain ⟨p, q, hA0, hV, rfl, hfz, hnd⟩ := hW
  have hA : DataW.TrodAll enc Try.prog W 0 (fun _ => true) true Try.f3.params.toList args.toList ds p := hA0
  rw [Try.params3] at hA hval
  obtain ⟨v0, vs0, d0, ds0, p0, q0, hargs, rfl, rfl, h0, r0⟩ := trodAll_cons hA
  obtain ⟨v1, vs1, d1, ds1, p1, q1, rfl, rfl, rfl, h1, r1⟩ := trodAll_cons r0
  obtain ⟨rfl, rfl, rfl⟩ := trodAll_nil r1
  obtain rfl : args = #[v0, v1] := by cases args; simp_all
  obtain ⟨rfl, rfl⟩ := trodVars_none hV
  have k0 := Kd.fit _ shape0 (hval 0 3 v0 rfl rfl) h0
  have lt0 : ∀ x ∈ p0, x.block < W.heap.size := by obtain ⟨m, hm⟩ := h0; exact DataW.trod_lt m _ _ _ hm
  have k1 := Kd.fit _ shape1 (hval 1 22 v1 rfl rfl) h1
  have lt1 : ∀ x ∈ p1, x.block < W.heap.size := by obtain ⟨m, hm⟩ := h1; exact DataW.trod_lt m _ _ _ hm
  refine (windowDoes_walk v0 v1 W k0 k1).mono fun e W' ⟨he, bel⟩ => ?_
  subst he
  exact ⟨_, rfl, _, _, _, [], _, [], hW', trodAll_mk1 (shut_bool Try.underlying4 _), (trodAll_cons_mk (Below.trod laidOut (by kernel_rfl) (of_decide_eq_true (by kernel_rfl)) h0 bel lt0) (trodAll_cons_mk (Below.trod laidOut (by kernel_rfl) (of_decide_eq_true (by kernel_rfl)) h1 bel lt1) trodAll_mk0)), rfl, bel.frame _, fun h => by cases h⟩
set_option maxRecDepth 100000 in
theorem lifted (os : Os) (started : os.Started) (H : Type) (enc : TypeId × Value → H) :
    ReturnsInHanded {} Try.checked os 3 .any (Rows.windowDoesSpec.pre6 enc Try.prog Try.f3 Rows.windowDoesRow.domain false) (Rows.windowDoesSpec.post enc Try.prog Try.f3 false true false false) := by
  refine returnsInHanded_of_change (C := Try.checked) own started (by kernel_rfl) Try.func3
    (ChangeSpec.witness6 (enc := enc) (C := Try.checked) false ⟨#[], #[.int .i64 0, .slice none 0 0], []⟩ 8 (by kernel_rfl) (by kernel_rfl) (by kernel_rfl) (by kernel_rfl)) ?_
  intro W base args ds gs before hval hW _ _
  exact contract H enc W base args ds gs before hval hW
theorem over : Rows.windowDoesRow.holds Try.pinned (OpenSpec.ofChange Rows.windowDoesSpec) :=
  OpenClaim.holds_of_wide 3 Try.f3 rfl rfl rfl rfl rfl rfl rfl ⟨rfl, rfl, rfl, rfl, rfl⟩ rfl rfl rfl rfl rfl (by kernel_rfl) Try.func3 (by kernel_rfl)
    (of_decide_eq_true (by kernel_rfl)) (by unfold Func.isWrapper; first | (rw [if_pos (by decide +kernel)]; kernel_rfl) | (rw [if_neg (by decide +kernel)]; exact ⟨rfl, rfl⟩))
    (fun os started H enc _ => lifted os started H enc)
theorem proved : Rows.WindowDoesSaid := over
end frWindowDoes
end Go.Proofs.Ytcokkomfhjdbcaa
