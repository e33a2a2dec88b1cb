/- For every last stream and every list of counts: behind a goaway it is over just when no streams are left (the statement DrainEnds, as it is given). No condition. -/
import Derived.Test.YtmlbbjcgcdkffaaAwake20
namespace Go.Proofs.Ytmlbbjcgcdkffaa
open Go.RowKit

set_option maxRecDepth 100000 in
set_option maxHeartbeats 8000000 in
theorem drainEnds_walk (v0 v1 v2 : Value) (w : World) (h0 : Kd.Fit w (.int .u8) v0) (h1 : Kd.Fit w .bool v1) (h2 : Kd.Fit w (.slc (.int .u8)) v2) :
    Calls Try.prog 4 #[v0, v1, v2] w fun e w' => e = .returned (.bool true) ∧ Below w.heap.size w w' := by
  obtain ⟨l, rfl, hl0⟩ := Kd.int_fit h0
  obtain ⟨g, rfl⟩ := Kd.bool_fit h1
  obtain ⟨A, len, cap, rfl, hl⟩ := Kd.slc_fit h2
  obtain ⟨l1, l2⟩ := u8_of hl0
  clear h0 h1 h2 hl0
  have hm : mayB l = true := by simp [mayB]; omega
  have hone : ∀ (w0 w1 w2 : World) (b : Nat), w0.heap.size ≤ b → Only Nil w0 w1 → Only (One b) w1 w2 → Only Nil w0 w2 := fun w0 w1 w2 b hb h h' => h.trans_new h' (fun i hi hh => by unfold One at hh; omega)
  cases g
  all_goals
    go_enter Try.func4, Try.ntmps4
    go_wp2_with (first
      | (go_at_call 6; (with_reducible refine (New_any _).mono ?_); rintro e w1 ⟨b, rfl, hb, ho1, h1⟩)
      | (go_at_call 8; (with_reducible refine (awake_any _).mono ?_); rintro e w2 ⟨rfl, ho2⟩; have h2 := h1.kept ho2 (fun hh => hh))
      | (go_at_call 15; (with_reducible refine (step_no b (-1) (-1) (-1) 0 _ h2 (by decide) (by decide)).mono ?_); rintro e w3 ⟨rfl, ho3, h3⟩)
      | (go_at_call 16; (with_reducible refine (got_ok2 b (-1) (-1) (-1) l 0 _ h3 (by decide) hm (by decide) (by decide) (by decide)).mono ?_); rintro e w4 ⟨rfl, ho4, h4⟩)
      | (go_at_call 17; (with_reducible refine (send_ok b (-1) (-1) (-1) l _ h3 (by decide) hm (by decide)).mono ?_); rintro e w4 ⟨rfl, ho4, h4⟩)
      )
    have hD : ∃ S G : Int, (decide (0 ≤ S) || decide (0 ≤ G)) = true ∧ Dr w4 b S G (-1) := by
      first
        | exact ⟨l, -1, by simp; omega, h4⟩
        | exact ⟨-1, l, by simp; omega, h4⟩
    obtain ⟨S, G, hSG, hD4⟩ := hD
    have hO4 : Only Nil w w4 := hone _ _ _ b hb (hone _ _ _ b hb (ho1.trans ho2) ho3) ho4
    clear h4 ho4 h3 ho3 h2 ho2
    have hover := fun (W : World) (h : Dr W b S G (-1)) => Over_any b S G (-1) W h
    have e1 : decide ((0 : Int) ≤ -1) = false := by decide
    have e2 : max (-1 : Int) 0 = 0 := by decide
    rw [e1, e2] at hover
    go_loopw [8] (fun ii wr => ∃ (k : Nat), k ≤ len ∧ ii = .int .i64 k ∧ Dr wr b S G (-1) ∧ Below w.heap.size w wr) (fun ii _ => len - (intOf ii).toNat)
    case atStart => exact ⟨0, Nat.zero_le _, rfl, hD4, hO4.below (Nat.le_refl _) (fun _ _ hh => hh)⟩
    case round =>
      obtain ⟨k, hk, rfl, hD, hB⟩ := hrel
      have hmax : len ≤ 9223372036854775807 := Nat.le_trans hl.1 hl.2.1
      by_cases hlt : k < len
      · by_cases h100 : k < 60
        · obtain ⟨b', off, rfl, hb', cs, hcl, hcs, his⟩ := hl.at (by decide) hlt
          obtain ⟨x, rfl, hx⟩ := his
          obtain ⟨x1, x2⟩ := u8_of hx
          have f0 := (hB.cell (p := ⟨b', off + k * 1, none⟩) hb').trans (hcs 0 (by decide))
          simp at f0
          by_cases hz : (x % 4 == 0) = true
          · have hz0 : x % 4 = 0 := by simpa using hz
            have hst := fun (W : World) (h : Dr W b S G (-1)) => step_end b S G (-1) 0 W h (by decide) (by rw [hSG]; simp)
            clear hx hcl hcs
            go_wp2_with (first
              | (go_at_call 15; (with_reducible refine (hst _ hD).mono ?_); rintro e w5 ⟨rfl, ho5, h5⟩; have f1 := ((hB.trans (ho5.below hB.size (fun i hi h => by unfold One at h; omega))).cell (p := ⟨b', off + k, none⟩) hb').trans ((hB.cell (p := ⟨b', off + k, none⟩) hb').symm.trans f0))
              | (go_at_call 12; (with_reducible refine (MayOpen_any b S G 0 false _ h5 (by simp)).mono ?_); rintro e w6 ⟨rfl, rfl⟩)
              | (go_at_call 13; (with_reducible refine (Takes_any b S G 0 1 false _ h5 (by simp)).mono ?_); rintro e w6 ⟨rfl, rfl⟩)
              | (go_at_call 17; (with_reducible refine (send_closed b S G 0 3 _ h5 (by decide)).mono ?_); rintro e w7 ⟨rfl, ho7, h7⟩)
              )
            go_ret
            have hB5 := hB.trans (ho5.below hB.size (fun i hi h => by unfold One at h; omega))
            exact ⟨rfl, hB5.trans (ho7.below hB5.size (fun i hi h => by unfold One at h; omega))⟩
          · have hz1 : (x % 4 == 0) = false := by simpa using hz
            have hz0 : ¬ x % 4 = 0 := by simpa using hz
            have hst := fun (W : World) (h : Dr W b S G (-1)) => step_no b S G (-1) (x % 4) W h (by decide) (by rw [hSG]; simp; omega)
            clear hx hcl hcs hz
            go_wp2_with (first
              | (go_at_call 15; (with_reducible refine (hst _ hD).mono ?_); rintro e w5 ⟨rfl, ho5, h5⟩; have f1 := ((hB.trans (ho5.below hB.size (fun i hi h => by unfold One at h; omega))).cell (p := ⟨b', off + k, none⟩) hb').trans ((hB.cell (p := ⟨b', off + k, none⟩) hb').symm.trans f0))
              )
            go_roundw
            case rel => exact ⟨k + 1, by omega, by go_num, h5, hB.trans (ho5.below hB.size (fun i hi h => by unfold One at h; omega))⟩
            case measure => simp [intOf]; omega
        ·
          go_wp2_with (first
            | (go_at_call 9; (with_reducible refine (hover _ hD).mono ?_); rintro e w4 ⟨rfl, ho4⟩)
            )
          go_ret
          exact ⟨rfl, hB.trans (ho4.below hB.size (fun _ _ hh => hh))⟩
      ·
        go_wp2_with (first
          | (go_at_call 9; (with_reducible refine (hover _ hD).mono ?_); rintro e w4 ⟨rfl, ho4⟩)
          )
        go_ret
        exact ⟨rfl, hB.trans (ho4.below hB.size (fun _ _ hh => hh))⟩
/-! The step from the walk to the statement of DrainEnds. -/
namespace frDrainEnds
open Go.ChangeShapes Go.WideShapes Go.ChangeAt Go.RowKit
set_option linter.unusedVariables false
theorem own : ownKnob Try.prog.godebug = none := by kernel_rfl
theorem laidOut : laidOutB Try.prog = true := by kernel_rfl
theorem shape0 : Kd.ok Try.prog (.int .u8) 5 = true := by kernel_rfl
theorem shape1 : Kd.ok Try.prog (.bool) 4 = true := by kernel_rfl
theorem shape2 : Kd.ok Try.prog (.slc (.int .u8)) 39 = true := by kernel_rfl
set_option maxRecDepth 100000 in
theorem contract (H : Type) (enc : TypeId × Value → H) (W : World) (base : Nat) (args : Array Value) (ds gs : List (DataW H)) (before : List MemPlace)
    (hval : ∀ (j : Nat) t v, Try.f4.params[j]? = some t → args[j]? = some v → Value.okWide Try.prog W .any base t v)
    (hW : DataW.Whole enc Try.prog Try.f4.params.toList Rows.drainEndsSpec.vars false W args.toList ds gs before) :
    Calls Try.prog 4 args W fun e W' => ∃ v, e = .returned v ∧ Rows.drainEndsSpec.post enc Try.prog Try.f4 false true false false W args v W' := by
  have hW' := hW
  obtain ⟨p, q, hA0, hV, rfl, hfz, hnd⟩ := hW
  have hA : DataW.TrodAll enc Try.prog W 0 (fun _ => true) true Try.f4.params.toList args.toList ds p := hA0
  rw [Try.params4] at hA hval
  obtain ⟨v0, vs0, d0, ds0, p0, q0, hargs, rfl, rfl, h0, r0⟩ := trodAll_cons hA
  obtain ⟨v1, vs1, d1, ds1, p1, q1, rfl, rfl, rfl, h1, r1⟩ := trodAll_cons r0
  obtain ⟨v2, vs2, d2, ds2, p2, q2, rfl, rfl, rfl, h2, r2⟩ := trodAll_cons r1
  obtain ⟨rfl, rfl, rfl⟩ := trodAll_nil r2
  obtain rfl : args = #[v0, v1, v2] := by cases args; simp_all
  obtain ⟨rfl, rfl⟩ := trodVars_none hV
  have k0 := Kd.fit _ shape0 (hval 0 5 v0 rfl rfl) h0
  have lt0 : ∀ x ∈ p0, x.block < W.heap.size := by obtain ⟨m, hm⟩ := h0; exact DataW.trod_lt m _ _ _ hm
  have k1 := Kd.fit _ shape1 (hval 1 4 v1 rfl rfl) h1
  have lt1 : ∀ x ∈ p1, x.block < W.heap.size := by obtain ⟨m, hm⟩ := h1; exact DataW.trod_lt m _ _ _ hm
  have k2 := Kd.fit _ shape2 (hval 2 39 v2 rfl rfl) h2
  have lt2 : ∀ x ∈ p2, x.block < W.heap.size := by obtain ⟨m, hm⟩ := h2; exact DataW.trod_lt m _ _ _ hm
  refine (drainEnds_walk v0 v1 v2 W k0 k1 k2).mono fun e W' ⟨he, bel⟩ => ?_
  subst he
  exact ⟨_, rfl, _, _, _, [], _, [], hW', trodAll_mk1 (shut_bool Try.underlying4 _), (trodAll_cons_mk (Below.trod laidOut (by kernel_rfl) (of_decide_eq_true (by kernel_rfl)) h0 bel lt0) (trodAll_cons_mk (Below.trod laidOut (by kernel_rfl) (of_decide_eq_true (by kernel_rfl)) h1 bel lt1) (trodAll_cons_mk (Below.trod laidOut (by kernel_rfl) (of_decide_eq_true (by kernel_rfl)) h2 bel lt2) trodAll_mk0))), rfl, bel.frame _, fun h => by cases h⟩
set_option maxRecDepth 100000 in
theorem lifted (os : Os) (started : os.Started) (H : Type) (enc : TypeId × Value → H) :
    ReturnsInHanded {} Try.checked os 4 .any (Rows.drainEndsSpec.pre6 enc Try.prog Try.f4 Rows.drainEndsRow.domain false) (Rows.drainEndsSpec.post enc Try.prog Try.f4 false true false false) := by
  refine returnsInHanded_of_change (C := Try.checked) own started (by kernel_rfl) Try.func4
    (ChangeSpec.witness6 (enc := enc) (C := Try.checked) false ⟨#[], #[.int .u8 0, .bool false, .slice none 0 0], []⟩ 8 (by kernel_rfl) (by kernel_rfl) (by kernel_rfl) (by kernel_rfl)) ?_
  intro W base args ds gs before hval hW _ _
  exact contract H enc W base args ds gs before hval hW
theorem over : Rows.drainEndsRow.holds Try.pinned (OpenSpec.ofChange Rows.drainEndsSpec) :=
  OpenClaim.holds_of_wide 4 Try.f4 rfl rfl rfl rfl rfl rfl rfl ⟨rfl, rfl, rfl, rfl, rfl⟩ rfl rfl rfl rfl rfl (by kernel_rfl) Try.func4 (by kernel_rfl)
    (of_decide_eq_true (by kernel_rfl)) (by unfold Func.isWrapper; first | (rw [if_pos (by decide +kernel)]; kernel_rfl) | (rw [if_neg (by decide +kernel)]; exact ⟨rfl, rfl⟩))
    (fun os started H enc _ => lifted os started H enc)
theorem proved : Rows.DrainEndsSaid := over
end frDrainEnds
end Go.Proofs.Ytmlbbjcgcdkffaa
