/- Any moves' bytes, or that they may not stand (the statement TraceLays). No condition. -/
import Derived.Test.YtamocachpjljdaaTrace5
namespace Go.Proofs.Ytamocachpjljdaa
open Go.RowKit

set_option maxRecDepth 100000 in
set_option maxHeartbeats 4000000 in
theorem traceLays_walk (v0 : Value) (w : World) (h0 : Kd.Fit w (.slc (.agg [.int .i64, .int .i64, .int .i64, .str, .bool])) v0) : Calls Try.prog 3 #[v0] w fun e w' => e = .returned (.bool true) ∧ Below w.heap.size w w' := by
  obtain ⟨L, A, cap, rfl, hc, hm, hok, hS⟩ := Kd.moves h0
  have HLI := Lib.hid (light_any A cap L w hS hc)
  have HTL := Lib.hid (fun W (h : Only Nil w W) => TLay_any A cap L W (hS.go h) hc)
  have HAL := Lib.hid (fun W (h : Only Nil w W) (hr : ∀ m ∈ L, rightM m = true) (h3 : L.length ≤ 1000) => All_any A cap L W (hS.go h) hc hr h3)
  unfold LtPost at HLI
  unfold maxLen at hm
  obtain ⟨n, hn⟩ : ∃ n, n = L.length := ⟨_, rfl⟩
  have HN := Lib.hid hn
  have HS := Lib.hid hS
  rw [← hn] at hc HLI HTL HAL ⊢
  clear h0 hok hS hn
  go_enter Try.func3, Try.ntmps3
  go_wp2_with (first
    | (go_at_call 7; (with_reducible refine (HLI.out).mono ?_); rintro e w1 ⟨q, rfl, hq, ho1⟩; have HQ := Lib.hid hq; have HO1 := Lib.hid ho1; clear hq ho1)
    | (go_at_call 8; (with_reducible refine (awake_any _).mono ?_); rintro e w2 ⟨rfl, ho2⟩; have HO2 := Lib.hid (HO1.out.trans ho2); clear ho2)
    )
  · go_ret
    exact ⟨rfl, HO2.out.below (Nat.le_refl _) (fun _ _ hh => hh)⟩
  obtain rfl : q = true := by cases q <;> simp_all
  try simp only [Bool.not_true]
  go_loopw [3, 4] (fun ee ii wr => ∃ (k : Nat) (E : Int), k ≤ n ∧ ii = .int .i64 k ∧ ee = .int .i64 E ∧ Hid ((E = 0 ∧ ∀ m ∈ L.take k, rightM m = true) ∨ (E = 2 ∧ ¬ ∀ m ∈ L.take k, rightM m = true)) ∧ Only Nil w wr) (fun _ ii _ => n - (intOf ii).toNat)
  case atStart => exact ⟨0, 0, Nat.zero_le _, rfl, rfl, Lib.hid (.inl ⟨rfl, fun m hm => by simp at hm⟩), HO1.out⟩
  case round =>
    obtain ⟨k, E, hk, rfl, rfl, hE, ho⟩ := hrel
    by_cases hlt : k < n
    · have hlt' : (k : Int) < n := by omega
      obtain ⟨b, o, x, rfl, hb, hx, f0, f1, f2, f3, f4⟩ := mv_at (HS.out.go ho) (k := k) (by rw [← HN.out]; exact hlt)
      have HCh := Lib.hid (fun W => Check_any x W)
      have HRt := Lib.hid (fun W => RRight_any x W)
      have HX := Lib.hid hx
      have HO := Lib.hid ho
      clear hx ho
      cases hr : rightM x
      · have e3 : chkM x = 2 := by unfold chkM; rw [hr]; rfl
        have HE2 : Hid (¬ ∀ m ∈ L.take (k + 1), rightM m = true) := Lib.hid (fun hh => by
          have := hh x (by rw [List.take_add_one, HX.out]; simp)
          rw [hr] at this
          cases this)
        rw [e3] at HCh
        rw [hr] at HRt
        obtain ⟨wh, en, st, nn, s⟩ := x
        simp only at f0 f1 f2 f3 f4
        clear e3 hr hE
        go_wp2_with (first
          | (go_at_call 9; (with_reducible refine (HCh.out _).mono ?_); rintro e w3 ⟨rfl, ho3⟩; have HO3 := Lib.hid (HO.out.trans ho3); obtain ⟨hb', q0, q1, q2, q3, q4⟩ := mv_known (HS.out.go HO3.out) HX.out)
          | (go_at_call 10; (with_reducible refine (HRt.out _).mono ?_); rintro e w4 ⟨rfl, ho4⟩)
          )
        go_roundw
        case rel => exact ⟨k + 1, 2, by omega, by go_num, rfl, Lib.hid (.inr ⟨rfl, HE2.out⟩), HO3.out.trans ho4⟩
        case measure => simp [intOf]; omega
      · have e3 : chkM x = 0 := by unfold chkM; rw [hr]; rfl
        have HE2 : Hid ((E = 0 ∧ ∀ m ∈ L.take (k + 1), rightM m = true) ∨ (E = 2 ∧ ¬ ∀ m ∈ L.take (k + 1), rightM m = true)) := Lib.hid (by
          rcases hE.out with ⟨h1, h2⟩ | ⟨h1, h2⟩
          · refine .inl ⟨h1, fun m hm => ?_⟩
            rw [List.take_add_one, HX.out] at hm
            rcases List.mem_append.1 hm with hm | hm
            · exact h2 m hm
            · simp at hm; subst hm; exact hr
          · exact .inr ⟨h1, fun hh => h2 fun m hm => hh m (by rw [List.take_add_one]; exact List.mem_append_left _ hm)⟩)
        rw [e3] at HCh
        rw [hr] at HRt
        obtain ⟨wh, en, st, nn, s⟩ := x
        simp only at f0 f1 f2 f3 f4
        clear e3 hr hE
        go_wp2_with (first
          | (go_at_call 9; (with_reducible refine (HCh.out _).mono ?_); rintro e w3 ⟨rfl, ho3⟩; have HO3 := Lib.hid (HO.out.trans ho3); obtain ⟨hb', q0, q1, q2, q3, q4⟩ := mv_known (HS.out.go HO3.out) HX.out)
          | (go_at_call 10; (with_reducible refine (HRt.out _).mono ?_); rintro e w4 ⟨rfl, ho4⟩)
          )
        go_roundw
        case rel => exact ⟨k + 1, E, by omega, by go_num, rfl, HE2, HO3.out.trans ho4⟩
        case measure => simp [intOf]; omega
    · obtain rfl : k = n := by omega
      have hlt' : ¬ (k : Int) < k := by omega
      have hT : L.take k = L := List.take_of_length_le (by rw [← HN.out]; exact Nat.le_refl _)
      rw [hT] at hE
      have HO := Lib.hid ho
      have HE := hE
      have HT1 := Lib.hid (HTL.out _ ho)
      clear hE ho hT
      by_cases h256 : 256 < k
      · have h256' : (256 : Int) < k := by omega
        have e1 : tlE L = 4 := by unfold tlE; rw [if_pos (by rw [← HN.out]; exact h256)]
        have e2 : tlS L = noS := by unfold tlS; rw [e1]; rfl
        rw [e1, e2] at HT1
        clear e1 e2
        go_wp2_with (first
          | (go_at_call 11; (with_reducible refine (HT1.out).mono ?_); rintro e w3 ⟨rfl, ho3⟩; have HO3 := Lib.hid (HO.out.trans ho3); clear ho3)
          | (go_at_call 8; (with_reducible refine (awake_any _).mono ?_); rintro e w4 ⟨rfl, ho4⟩)
          )
        go_ret
        exact ⟨rfl, (HO3.out.trans ho4).below (Nat.le_refl _) (fun _ _ hh => hh)⟩
      · have h256' : ¬ (256 : Int) < k := by omega
        have h300 : k ≤ 1000 := by omega
        by_cases hall : ∀ m ∈ L, rightM m = true
        · have e0 : E = 0 := by
            rcases HE.out with ⟨h1, _⟩ | ⟨_, h2⟩
            · exact h1
            · exact absurd hall h2
          subst e0
          have e1 : tlE L = 0 := by unfold tlE; rw [if_neg (by rw [← HN.out]; exact h256), if_pos hall]
          have e2 : tlS L = strOf (allM L) := by unfold tlS; rw [e1]; rfl
          rw [e1, e2] at HT1
          have HA2 := Lib.hid (fun W (h : Only Nil w W) => HAL.out W h hall h300)
          clear e1 e2 hall h300
          generalize strOf (allM L) = SX at *
          go_wp2_with (first
            | (go_at_call 11; (with_reducible refine (HT1.out).mono ?_); rintro e w3 ⟨rfl, ho3⟩; have HO3 := Lib.hid (HO.out.trans ho3); clear ho3)
            | (go_at_call 8; (with_reducible refine (awake_any _).mono ?_); rintro e w4 ⟨rfl, ho4⟩; have HO4 := Lib.hid (HO3.out.trans ho4); clear ho4)
            | (go_at_call 12; (with_reducible refine (HA2.out _ HO4.out).mono ?_); rintro e w5 ⟨rfl, ho5⟩)
            )
          go_ret
          exact ⟨rfl, (HO4.out.trans ho5).below (Nat.le_refl _) (fun _ _ hh => hh)⟩
        · have e0 : E = 2 := by
            rcases HE.out with ⟨_, h1⟩ | ⟨h2, _⟩
            · exact absurd h1 hall
            · exact h2
          subst e0
          have e1 : tlE L = 2 := by unfold tlE; rw [if_neg (by rw [← HN.out]; exact h256), if_neg hall]
          have e2 : tlS L = noS := by unfold tlS; rw [e1]; rfl
          rw [e1, e2] at HT1
          clear e1 e2 hall h300
          go_wp2_with (first
            | (go_at_call 11; (with_reducible refine (HT1.out).mono ?_); rintro e w3 ⟨rfl, ho3⟩; have HO3 := Lib.hid (HO.out.trans ho3); clear ho3)
            | (go_at_call 8; (with_reducible refine (awake_any _).mono ?_); rintro e w4 ⟨rfl, ho4⟩)
            )
          go_ret
          exact ⟨rfl, (HO3.out.trans ho4).below (Nat.le_refl _) (fun _ _ hh => hh)⟩
/-! The step from the walk to the statement of TraceLays. -/
namespace frTraceLays
open Go.ChangeShapes Go.WideShapes Go.ChangeAt Go.RowKit
set_option linter.unusedVariables false
theorem own : ownKnob Try.prog.godebug = none := by kernel_rfl
theorem laidOut : laidOutB Try.prog = true := by kernel_rfl
theorem shape0 : Kd.ok Try.prog (.slc (.agg [.int .i64, .int .i64, .int .i64, .str, .bool])) 22 = true := by kernel_rfl
set_option maxRecDepth 100000 in
theorem contract (H : Type) (enc : TypeId × Value → H) (W : World) (base : Nat) (args : Array Value) (ds gs : List (DataW H)) (before : List MemPlace)
    (hval : ∀ (j : Nat) t v, Try.f3.params[j]? = some t → args[j]? = some v → Value.okWide Try.prog W .any base t v)
    (hW : DataW.Whole enc Try.prog Try.f3.params.toList Rows.traceLaysSpec.vars false W args.toList ds gs before) :
    Calls Try.prog 3 args W fun e W' => ∃ v, e = .returned v ∧ Rows.traceLaysSpec.post enc Try.prog Try.f3 false true false false W args v W' := by
  have hW' := hW
  obtain ⟨p, q, hA0, hV, rfl, hfz, hnd⟩ := hW
  have hA : DataW.TrodAll enc Try.prog W 0 (fun _ => true) true Try.f3.params.toList args.toList ds p := hA0
  rw [Try.params3] at hA hval
  obtain ⟨v0, vs0, d0, ds0, p0, q0, hargs, rfl, rfl, h0, r0⟩ := trodAll_cons hA
  obtain ⟨rfl, rfl, rfl⟩ := trodAll_nil r0
  obtain rfl : args = #[v0] := by cases args; simp_all
  obtain ⟨rfl, rfl⟩ := trodVars_none hV
  have k0 := Kd.fit _ shape0 (hval 0 22 v0 rfl rfl) h0
  have lt0 : ∀ x ∈ p0, x.block < W.heap.size := by obtain ⟨m, hm⟩ := h0; exact DataW.trod_lt m _ _ _ hm
  refine (traceLays_walk v0 W k0).mono fun e W' ⟨he, bel⟩ => ?_
  subst he
  exact ⟨_, rfl, _, _, _, [], _, [], hW', trodAll_mk1 (shut_bool Try.underlying4 _), (trodAll_cons_mk (Below.trod laidOut (by kernel_rfl) (of_decide_eq_true (by kernel_rfl)) h0 bel lt0) trodAll_mk0), rfl, bel.frame _, fun h => by cases h⟩
set_option maxRecDepth 100000 in
theorem lifted (os : Os) (started : os.Started) (H : Type) (enc : TypeId × Value → H) :
    ReturnsInHanded {} Try.checked os 3 .any (Rows.traceLaysSpec.pre6 enc Try.prog Try.f3 Rows.traceLaysRow.domain false) (Rows.traceLaysSpec.post enc Try.prog Try.f3 false true false false) := by
  refine returnsInHanded_of_change (C := Try.checked) own started (by kernel_rfl) Try.func3
    (ChangeSpec.witness6 (enc := enc) (C := Try.checked) false ⟨#[], #[.slice none 0 0], []⟩ 8 (by kernel_rfl) (by kernel_rfl) (by kernel_rfl) (by kernel_rfl)) ?_
  intro W base args ds gs before hval hW _ _
  exact contract H enc W base args ds gs before hval hW
theorem over : Rows.traceLaysRow.holds Try.pinned (OpenSpec.ofChange Rows.traceLaysSpec) :=
  OpenClaim.holds_of_wide 3 Try.f3 rfl rfl rfl rfl rfl rfl rfl ⟨rfl, rfl, rfl, rfl, rfl⟩ rfl rfl rfl rfl rfl (by kernel_rfl) Try.func3 (by kernel_rfl)
    (of_decide_eq_true (by kernel_rfl)) (by unfold Func.isWrapper; first | (rw [if_pos (by decide +kernel)]; kernel_rfl) | (rw [if_neg (by decide +kernel)]; exact ⟨rfl, rfl⟩))
    (fun os started H enc _ => lifted os started H enc)
theorem proved : Rows.TraceLaysSaid := over
end frTraceLays
end Go.Proofs.Ytamocachpjljdaa
