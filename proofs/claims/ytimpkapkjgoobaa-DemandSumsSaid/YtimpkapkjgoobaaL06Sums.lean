/- For every limit and every list of numbers: added one by one, the count is their sum, or its limit (the statement DemandSums, as it is given). No condition. -/
import Derived.Test.YtimpkapkjgoobaaL06None
namespace Go.Proofs.Ytimpkapkjgoobaa
open Go.RowKit

def isMin (n s K : Int) : Prop := n = min s K

set_option maxRecDepth 100000 in
set_option maxHeartbeats 2000000 in
theorem demandSums_walk (v0 v1 : Value) (w : World) (h0 : Kd.Fit w (.int .u32) v0) (h1 : Kd.Fit w (.slc (.int .u32)) v1) :
    Calls Try.prog 4 #[v0, v1] w fun e w' => e = .returned (.bool true) ∧ Below w.heap.size w w' := by
  obtain ⟨q, rfl, hn⟩ := Kd.int_fit h0
  obtain ⟨A, len, cap, rfl, hl⟩ := Kd.slc_fit h1
  obtain ⟨hq1, hq2⟩ := u32_of hn
  clear hn h0 h1
  have hK1 : 1 ≤ q % 2147483647 + 1 := by omega
  have hK2 : q % 2147483647 + 1 ≤ 2147483647 := by omega
  go_enter Try.func4, Try.ntmps4
  go_wp2_with (first
    | (go_at_call 6; (with_reducible refine (New_any _ _ hK1 hK2).mono ?_); rintro e w1 ⟨b, rfl, hb, ho1, hW1⟩)
    )
  generalize q % 2147483647 + 1 = K at hK1 hK2 hW1
  go_loopw [8, 9] (fun ss i wr => ∃ (k : Nat) (s n : Int), k ≤ len ∧ i = .int .i64 k ∧ ss = .int .i64 s ∧ demOk n K ∧ isMin n s K ∧ 0 ≤ s ∧ s ≤ 4294967296 * (k : Int) ∧ Dem wr b n K ∧ Below w.heap.size w wr) (fun _ i _ => len - (intOf i).toNat)
  case atStart => exact ⟨0, 0, 0, Nat.zero_le _, rfl, rfl, ⟨by omega, by omega, hK2⟩, by unfold isMin; omega, by omega, by omega, hW1, ho1.below (Nat.le_refl _) (fun _ _ => id)⟩
  case round =>
    obtain ⟨k, s, n, hk, rfl, rfl, hn, hmin, hs0, hs1, hW, hB⟩ := hrel
    have hmax : len ≤ 9223372036854775807 := Nat.le_trans hl.1 hl.2.1
    by_cases hlt : k < len
    · by_cases h100 : k < 100
      · obtain ⟨b', off, rfl, hb', cs, hcl, hcs, his⟩ := hl.at (by decide) hlt
        obtain ⟨x, rfl, hx⟩ := his
        have f0 := (hB.cell (p := ⟨b', _, none⟩) hb').trans (hcs 0 (by decide))
        simp [Kd.cells] at f0
        clear hcs
        obtain ⟨hx1, hx2⟩ := u32_of hx
        obtain ⟨hn1, hn2, _⟩ := id hn
        clear hx hcl
        have hd := fun (W : World) (hW : Dem W b n K) => Add_any b n K (x + 1) W hW hn
        have e2 : addE (x + 1) = 0 := by unfold addE; omega
        have hm : n = min s K := hmin
        by_cases hS : s + (x + 1) ≤ K
        · have e1 : n + addK n K (x + 1) = s + (x + 1) := by unfold addK; omega
          rw [e1, e2] at hd
          generalize addK n K (x + 1) = D at hd e1
          clear hmin hm e1 e2
          go_wp2_with (first
            | (go_at_call 8; (with_reducible refine (hd _ hW).mono ?_); rintro e w2 ⟨rfl, ho2, hW2⟩)
            | (go_at_call 12; (with_reducible refine (Left_any b _ _ _ hW2).mono ?_); rintro e w3 ⟨rfl, rfl⟩)
            )
          go_roundw
          case rel => exact ⟨k + 1, s + (x + 1), s + (x + 1), by omega, by go_num, by go_num, ⟨by omega, by omega, by omega⟩, by unfold isMin; omega, by omega, by omega, hW2, hB.trans (ho2.below hB.size (fun i hi h => by unfold One at h; omega))⟩
          case measure => simp [intOf]; omega
        · have e1 : n + addK n K (x + 1) = K := by unfold addK; omega
          rw [e1, e2] at hd
          generalize addK n K (x + 1) = D at hd e1
          clear hmin hm e1 e2
          go_wp2_with (first
            | (go_at_call 8; (with_reducible refine (hd _ hW).mono ?_); rintro e w2 ⟨rfl, ho2, hW2⟩)
            | (go_at_call 12; (with_reducible refine (Left_any b _ _ _ hW2).mono ?_); rintro e w3 ⟨rfl, rfl⟩)
            )
          go_roundw
          case rel => exact ⟨k + 1, s + (x + 1), K, by omega, by go_num, by go_num, ⟨by omega, by omega, by omega⟩, by unfold isMin; omega, by omega, by omega, hW2, hB.trans (ho2.below hB.size (fun i hi h => by unfold One at h; omega))⟩
          case measure => simp [intOf]; omega
      ·
        go_wp2_with (first
          | (go_at_call 7; (with_reducible refine (awake_any _).mono ?_); rintro e w2 ⟨rfl, ho2⟩)
          )
        go_ret
        exact ⟨rfl, hB.trans (ho2.below hB.size (fun _ _ => id))⟩
    ·
      go_wp2_with (first
        | (go_at_call 7; (with_reducible refine (awake_any _).mono ?_); rintro e w2 ⟨rfl, ho2⟩)
        )
      go_ret
      exact ⟨rfl, hB.trans (ho2.below hB.size (fun _ _ => id))⟩
/-! The step from the walk to the statement of DemandSums. -/
namespace frDemandSums
open Go.ChangeShapes Go.WideShapes Go.ChangeAt Go.RowKit
set_option linter.unusedVariables false
theorem own : ownKnob Try.prog.godebug = none := by kernel_rfl
theorem laidOut : laidOutB Try.prog = true := by kernel_rfl
theorem shape0 : Kd.ok Try.prog (.int .u32) 37 = true := by kernel_rfl
theorem shape1 : Kd.ok Try.prog (.slc (.int .u32)) 38 = true := by kernel_rfl
set_option maxRecDepth 100000 in
theorem contract (H : Type) (enc : TypeId × Value → H) (W : World) (base : Nat) (args : Array Value) (ds gs : List (DataW H)) (before : List MemPlace)
    (hval : ∀ (j : Nat) t v, Try.f4.params[j]? = some t → args[j]? = some v → Value.okWide Try.prog W .any base t v)
    (hW : DataW.Whole enc Try.prog Try.f4.params.toList Rows.demandSumsSpec.vars false W args.toList ds gs before) :
    Calls Try.prog 4 args W fun e W' => ∃ v, e = .returned v ∧ Rows.demandSumsSpec.post enc Try.prog Try.f4 false true false false W args v W' := by
  have hW' := hW
  obtain ⟨p, q, hA0, hV, rfl, hfz, hnd⟩ := hW
  have hA : DataW.TrodAll enc Try.prog W 0 (fun _ => true) true Try.f4.params.toList args.toList ds p := hA0
  rw [Try.params4] at hA hval
  obtain ⟨v0, vs0, d0, ds0, p0, q0, hargs, rfl, rfl, h0, r0⟩ := trodAll_cons hA
  obtain ⟨v1, vs1, d1, ds1, p1, q1, rfl, rfl, rfl, h1, r1⟩ := trodAll_cons r0
  obtain ⟨rfl, rfl, rfl⟩ := trodAll_nil r1
  obtain rfl : args = #[v0, v1] := by cases args; simp_all
  obtain ⟨rfl, rfl⟩ := trodVars_none hV
  have k0 := Kd.fit _ shape0 (hval 0 37 v0 rfl rfl) h0
  have lt0 : ∀ x ∈ p0, x.block < W.heap.size := by obtain ⟨m, hm⟩ := h0; exact DataW.trod_lt m _ _ _ hm
  have k1 := Kd.fit _ shape1 (hval 1 38 v1 rfl rfl) h1
  have lt1 : ∀ x ∈ p1, x.block < W.heap.size := by obtain ⟨m, hm⟩ := h1; exact DataW.trod_lt m _ _ _ hm
  refine (demandSums_walk v0 v1 W k0 k1).mono fun e W' ⟨he, bel⟩ => ?_
  subst he
  exact ⟨_, rfl, _, _, _, [], _, [], hW', trodAll_mk1 (shut_bool Try.underlying4 _), (trodAll_cons_mk (Below.trod laidOut (by kernel_rfl) (of_decide_eq_true (by kernel_rfl)) h0 bel lt0) (trodAll_cons_mk (Below.trod laidOut (by kernel_rfl) (of_decide_eq_true (by kernel_rfl)) h1 bel lt1) trodAll_mk0)), rfl, bel.frame _, fun h => by cases h⟩
set_option maxRecDepth 100000 in
theorem lifted (os : Os) (started : os.Started) (H : Type) (enc : TypeId × Value → H) :
    ReturnsInHanded {} Try.checked os 4 .any (Rows.demandSumsSpec.pre6 enc Try.prog Try.f4 Rows.demandSumsRow.domain false) (Rows.demandSumsSpec.post enc Try.prog Try.f4 false true false false) := by
  refine returnsInHanded_of_change (C := Try.checked) own started (by kernel_rfl) Try.func4
    (ChangeSpec.witness6 (enc := enc) (C := Try.checked) false ⟨#[], #[.int .u32 0, .slice none 0 0], []⟩ 8 (by kernel_rfl) (by kernel_rfl) (by kernel_rfl) (by kernel_rfl)) ?_
  intro W base args ds gs before hval hW _ _
  exact contract H enc W base args ds gs before hval hW
theorem over : Rows.demandSumsRow.holds Try.pinned (OpenSpec.ofChange Rows.demandSumsSpec) :=
  OpenClaim.holds_of_wide 4 Try.f4 rfl rfl rfl rfl rfl rfl rfl ⟨rfl, rfl, rfl, rfl, rfl⟩ rfl rfl rfl rfl rfl (by kernel_rfl) Try.func4 (by kernel_rfl)
    (of_decide_eq_true (by kernel_rfl)) (by unfold Func.isWrapper; first | (rw [if_pos (by decide +kernel)]; kernel_rfl) | (rw [if_neg (by decide +kernel)]; exact ⟨rfl, rfl⟩))
    (fun os started H enc _ => lifted os started H enc)
theorem proved : Rows.DemandSumsSaid := over
end frDemandSums
end Go.Proofs.Ytimpkapkjgoobaa
