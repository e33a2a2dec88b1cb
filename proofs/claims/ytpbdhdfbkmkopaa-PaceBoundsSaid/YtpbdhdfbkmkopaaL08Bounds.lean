/- For every capacity and every list of calls: what is open is never above the capacity, and what is kept never above the greatest one (the statement PaceBounds, as it is given). No condition. -/
import Derived.Test.YtpbdhdfbkmkopaaSame08
namespace Go.Proofs.Ytpbdhdfbkmkopaa
open Go.RowKit

set_option maxHeartbeats 1000000 in
theorem Kept_q (b : Nat) (C M G T U : Int) (w : World) (hP : Pa w b C M G T U) (hs : smallK C G T U) : Calls Try.prog 13 #[.pointer (some ⟨b, 0, none⟩)] w fun x w' => x = .returned (.int .i64 (T - U)) ∧ ∃ n, w' = w.drewN n := by
  obtain ⟨c0, c1, c2, c3, c4⟩ := hP.facts
  obtain ⟨⟨_, _⟩, ⟨_, _⟩, ⟨_, _⟩, _, _⟩ := hs
  go_enter Try.func13, Try.ntmps13
  go_wp2
  go_quiet (fail)
  go_wp2
  go_ret
  exact ⟨rfl, _, rfl⟩
theorem Most_q (b : Nat) (C M G T U : Int) (w : World) (hP : Pa w b C M G T U) : Calls Try.prog 14 #[.pointer (some ⟨b, 0, none⟩)] w fun x w' => x = .returned (.int .i64 M) ∧ w' = w :=
  (Most_any b C M G T U w hP).mono fun _ _ h => ⟨h.1, h.2.symm⟩

set_option maxRecDepth 100000 in
set_option maxHeartbeats 8000000 in
theorem paceBounds_walk (v0 v1 : Value) (w : World) (h0 : Kd.Fit w (.int .u32) v0) (h1 : Kd.Fit w (.slc (.agg [.int .i64, .int .i64])) v1) :
    Calls Try.prog 4 #[v0, v1] w fun e w' => e = .returned (.bool true) ∧ Below w.heap.size w w' := by
  obtain ⟨n, rfl, hn⟩ := Kd.int_fit h0
  obtain ⟨A, len, cap, rfl, hl⟩ := Kd.slc_fit h1
  obtain ⟨hn1, hn2⟩ := u32_of hn
  clear hn h0 h1
  have hc1 : 0 ≤ n % 2147483648 := by omega
  have hc2 : n % 2147483648 ≤ 2147483647 := by omega
  go_enter Try.func4, Try.ntmps4
  go_wp2_with (first
    | (go_at_call 7; (with_reducible refine (New_any _ _ hc1 hc2).mono ?_); rintro e w1 ⟨b, rfl, hb, ho1, h1⟩)
    | (go_at_call 9; (with_reducible refine (RNew_any _ _).mono ?_); rintro e w2 ⟨c, rfl, hc, ho2, h2⟩; have h1' := h1.kept ho2 (fun hh => hh); have hbc : b < c := by have := h1.lt; omega)
    | (go_at_call 8; (with_reducible refine (awake_any _).mono ?_); rintro e w3 ⟨rfl, ho3⟩; have hP3 := h1'.kept ho3 (fun hh => hh); have hR3 := Blk.kept h2 ho3 (fun hh => hh))
    )
  go_loopw [9] (fun ii wr => ∃ (k : Nat) (C M G T U : Int), k ≤ len ∧ k ≤ 100 ∧ ii = .int .i64 k ∧ paOk k C M G T U ∧ Pa wr b C M G T U ∧ RPa wr c C M G T U ∧ Below w.heap.size w wr) (fun ii _ => len - (intOf ii).toNat)
  case atStart => exact ⟨0, _, _, _, _, _, Nat.zero_le _, by omega, rfl, by unfold paOk; omega, hP3, hR3, ((ho1.trans ho2).trans ho3).below (Nat.le_refl _) (fun _ _ hh => hh)⟩
  case round =>
    obtain ⟨k, C, M, G, T, U, hk, hk100, rfl, hok, hP, hR, hB⟩ := hrel
    have hmax : len ≤ 9223372036854775807 := Nat.le_trans hl.1 hl.2.1
    have hsz := hB.size
    have ga : w.heap.size ≤ b := hb
    have gb : w.heap.size ≤ c := by omega
    have hne : b ≠ c := by omega
    by_cases hlt : k < len
    · by_cases h100 : k < 100
      · obtain ⟨b', off, rfl, hb', cs, hcl, hcs, his⟩ := hl.at (by decide) hlt
        obtain ⟨kd, x, rfl, _, _⟩ := Kd.list_ints2 his
        have f0 := (hB.cell (p := ⟨b', _, none⟩) hb').trans (hcs 0 (by decide))
        have f1 := (hB.cell (p := ⟨b', _, none⟩) hb').trans (hcs 1 (by decide))
        simp [Kd.cells, Kd.cellsL] at f0 f1
        clear his hcs hcl
        go_wp2_with (first
          | (go_at_call 10; (with_reducible refine (do_any k b c C M G T U kd x _ h100 hne hP hR hok).mono ?_); rintro e w4 ⟨C', M', G', T', U', hok', rfl, ho4, hP4, hR4⟩)
          )
        have hB4 := hB.trans (ho4.below hB.size (fun i hi h => by unfold Two at h; omega))
        have hs' := hok'.small (by omega)
        clear hP hR hok hB ho4
        obtain ⟨⟨p1, p2, p3⟩, ⟨p4, p5⟩, ⟨p6, p7⟩, p8, p9⟩ := id hok'
        obtain ⟨⟨_, _⟩, ⟨_, _⟩, ⟨_, _⟩, _, _⟩ := id hs'
        obtain ⟨c0, c1, c2, c3, c4⟩ := RPa.facts hR4
        have q1 : decide (C' < G' - U') = false := by simp; omega
        have q2 : decide (M' < T' - U') = false := by simp; omega
        have q3 : decide (T' - U' < 0) = false := by simp; omega
        go_wp2
        go_quiet (first
          | (go_at_call 12; exact Calls.quiet_of (Open_any b C' M' G' T' U' _ (Blk.drewN hP4 _) hs'))
          | (go_at_call 13; exact Calls.quiet_of (Kept_q b C' M' G' T' U' _ (Blk.drewN hP4 _) hs'))
          | (go_at_call 14; exact Calls.quiet_of_same (Most_q b C' M' G' T' U' _ (Blk.drewN hP4 _))))
        go_wp2
        go_roundw
        case rel => exact ⟨k + 1, C', M', G', T', U', by omega, by omega, by go_num, hok', hP4, hR4, ⟨hB4.os, hB4.tape, hB4.output, hB4.size, hB4.block⟩⟩
        case measure => simp [intOf]; omega
      · go_wp2
        go_ret
        exact ⟨rfl, hB⟩
    · go_wp2
      go_ret
      exact ⟨rfl, hB⟩
/-! The step from the walk to the statement of PaceBounds. -/
namespace frPaceBounds
open Go.ChangeShapes Go.WideShapes Go.ChangeAt Go.RowKit
set_option linter.unusedVariables false
theorem own : ownKnob Try.prog.godebug = none := by kernel_rfl
theorem laidOut : laidOutB Try.prog = true := by kernel_rfl
theorem shape0 : Kd.ok Try.prog (.int .u32) 35 = true := by kernel_rfl
theorem shape1 : Kd.ok Try.prog (.slc (.agg [.int .i64, .int .i64])) 22 = true := by kernel_rfl
set_option maxRecDepth 100000 in
theorem contract (H : Type) (enc : TypeId × Value → H) (W : World) (base : Nat) (args : Array Value) (ds gs : List (DataW H)) (before : List MemPlace)
    (hval : ∀ (j : Nat) t v, Try.f4.params[j]? = some t → args[j]? = some v → Value.okWide Try.prog W .any base t v)
    (hW : DataW.Whole enc Try.prog Try.f4.params.toList Rows.paceBoundsSpec.vars false W args.toList ds gs before) :
    Calls Try.prog 4 args W fun e W' => ∃ v, e = .returned v ∧ Rows.paceBoundsSpec.post enc Try.prog Try.f4 false true false false W args v W' := by
  have hW' := hW
  obtain ⟨p, q, hA0, hV, rfl, hfz, hnd⟩ := hW
  have hA : DataW.TrodAll enc Try.prog W 0 (fun _ => true) true Try.f4.params.toList args.toList ds p := hA0
  rw [Try.params4] at hA hval
  obtain ⟨v0, vs0, d0, ds0, p0, q0, hargs, rfl, rfl, h0, r0⟩ := trodAll_cons hA
  obtain ⟨v1, vs1, d1, ds1, p1, q1, rfl, rfl, rfl, h1, r1⟩ := trodAll_cons r0
  obtain ⟨rfl, rfl, rfl⟩ := trodAll_nil r1
  obtain rfl : args = #[v0, v1] := by cases args; simp_all
  obtain ⟨rfl, rfl⟩ := trodVars_none hV
  have k0 := Kd.fit _ shape0 (hval 0 35 v0 rfl rfl) h0
  have lt0 : ∀ x ∈ p0, x.block < W.heap.size := by obtain ⟨m, hm⟩ := h0; exact DataW.trod_lt m _ _ _ hm
  have k1 := Kd.fit _ shape1 (hval 1 22 v1 rfl rfl) h1
  have lt1 : ∀ x ∈ p1, x.block < W.heap.size := by obtain ⟨m, hm⟩ := h1; exact DataW.trod_lt m _ _ _ hm
  refine (paceBounds_walk v0 v1 W k0 k1).mono fun e W' ⟨he, bel⟩ => ?_
  subst he
  exact ⟨_, rfl, _, _, _, [], _, [], hW', trodAll_mk1 (shut_bool Try.underlying4 _), (trodAll_cons_mk (Below.trod laidOut (by kernel_rfl) (of_decide_eq_true (by kernel_rfl)) h0 bel lt0) (trodAll_cons_mk (Below.trod laidOut (by kernel_rfl) (of_decide_eq_true (by kernel_rfl)) h1 bel lt1) trodAll_mk0)), rfl, bel.frame _, fun h => by cases h⟩
set_option maxRecDepth 100000 in
theorem lifted (os : Os) (started : os.Started) (H : Type) (enc : TypeId × Value → H) :
    ReturnsInHanded {} Try.checked os 4 .any (Rows.paceBoundsSpec.pre6 enc Try.prog Try.f4 Rows.paceBoundsRow.domain false) (Rows.paceBoundsSpec.post enc Try.prog Try.f4 false true false false) := by
  refine returnsInHanded_of_change (C := Try.checked) own started (by kernel_rfl) Try.func4
    (ChangeSpec.witness6 (enc := enc) (C := Try.checked) false ⟨#[], #[.int .u32 0, .slice none 0 0], []⟩ 8 (by kernel_rfl) (by kernel_rfl) (by kernel_rfl) (by kernel_rfl)) ?_
  intro W base args ds gs before hval hW _ _
  exact contract H enc W base args ds gs before hval hW
theorem over : Rows.paceBoundsRow.holds Try.pinned (OpenSpec.ofChange Rows.paceBoundsSpec) :=
  OpenClaim.holds_of_wide 4 Try.f4 rfl rfl rfl rfl rfl rfl rfl ⟨rfl, rfl, rfl, rfl, rfl⟩ rfl rfl rfl rfl rfl (by kernel_rfl) Try.func4 (by kernel_rfl)
    (of_decide_eq_true (by kernel_rfl)) (by unfold Func.isWrapper; first | (rw [if_pos (by decide +kernel)]; kernel_rfl) | (rw [if_neg (by decide +kernel)]; exact ⟨rfl, rfl⟩))
    (fun os started H enc _ => lifted os started H enc)
theorem proved : Rows.PaceBoundsSaid := over
end frPaceBounds
end Go.Proofs.Ytpbdhdfbkmkopaa
