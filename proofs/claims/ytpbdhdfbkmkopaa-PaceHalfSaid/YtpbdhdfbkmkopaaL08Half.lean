/- For every capacity and every list of calls: when all that is kept is used, half of the capacity is free again (the statement PaceHalf, as it is given). No condition. -/
import Derived.Test.YtpbdhdfbkmkopaaSame08
namespace Go.Proofs.Ytpbdhdfbkmkopaa
open Go.RowKit

set_option maxRecDepth 100000 in
set_option maxHeartbeats 8000000 in
theorem paceHalf_walk (v0 v1 : Value) (w : World) (h0 : Kd.Fit w (.int .u32) v0) (h1 : Kd.Fit w (.slc (.agg [.int .i64, .int .i64])) v1) :
    Calls Try.prog 5 #[v0, v1] w fun e w' => e = .returned (.bool true) ∧ Below w.heap.size w w' := by
  obtain ⟨n, rfl, hn⟩ := Kd.int_fit h0
  obtain ⟨A, len, cap, rfl, hl⟩ := Kd.slc_fit h1
  obtain ⟨hn1, hn2⟩ := u32_of hn
  clear hn h0 h1
  have hc1 : 0 ≤ n % 2147483648 := by omega
  have hc2 : n % 2147483648 ≤ 2147483647 := by omega
  go_enter Try.func5, Try.ntmps5
  go_wp2_with (first
    | (go_at_call 7; (with_reducible refine (New_any _ _ hc1 hc2).mono ?_); rintro e w1 ⟨b, rfl, hb, ho1, h1⟩)
    | (go_at_call 9; (with_reducible refine (RNew_any _ _).mono ?_); rintro e w2 ⟨c, rfl, hc, ho2, h2⟩; have h1' := h1.kept ho2 (fun hh => hh); have hbc : b < c := by have := h1.lt; omega)
    | (go_at_call 8; (with_reducible refine (awake_any _).mono ?_); rintro e w3 ⟨rfl, ho3⟩; have hP3 := h1'.kept ho3 (fun hh => hh); have hR3 := Blk.kept h2 ho3 (fun hh => hh))
    )
  go_loopw [9] (fun ii wr => ∃ (k : Nat) (C M G T U : Int), k ≤ len ∧ k ≤ 100 ∧ ii = .int .i64 k ∧ paOk k C M G T U ∧ Pa wr b C M G T U ∧ RPa wr c C M G T U ∧ Below w.heap.size w wr) (fun ii _ => len - (intOf ii).toNat)
  case atStart => exact ⟨0, _, _, _, _, _, Nat.zero_le _, by omega, rfl, by unfold paOk; omega, hP3, hR3, ((ho1.trans ho2).trans ho3).below (Nat.le_refl _) (fun _ _ hh => hh)⟩
  case round =>
    obtain ⟨k, C, M, G, T, U, hk, hk100, rfl, hok, hP, hR, hB⟩ := hrel
    have hmax : len ≤ 9223372036854775807 := Nat.le_trans hl.1 hl.2.1
    have hsz := hB.size
    have ga : w.heap.size ≤ b := hb
    have gb : w.heap.size ≤ c := by omega
    have hne : b ≠ c := by omega
    by_cases hlt : k < len
    · by_cases h100 : k < 100
      · obtain ⟨b', off, rfl, hb', cs, hcl, hcs, his⟩ := hl.at (by decide) hlt
        obtain ⟨kd, x, rfl, _, _⟩ := Kd.list_ints2 his
        have f0 := (hB.cell (p := ⟨b', _, none⟩) hb').trans (hcs 0 (by decide))
        have f1 := (hB.cell (p := ⟨b', _, none⟩) hb').trans (hcs 1 (by decide))
        simp [Kd.cells, Kd.cellsL] at f0 f1
        clear his hcs hcl
        go_wp2_with (first
          | (go_at_call 10; (with_reducible refine (do_any k b c C M G T U kd x _ h100 hne hP hR hok).mono ?_); rintro e w4 ⟨C', M', G', T', U', hok', rfl, ho4, hP4, hR4⟩)
          )
        have hB4 := hB.trans (ho4.below hB.size (fun i hi h => by unfold Two at h; omega))
        have hs' := hok'.small (by omega)
        clear hP hR hok hB ho4
        go_roundw
        case rel => exact ⟨k + 1, C', M', G', T', U', by omega, by omega, by go_num, hok', hP4, hR4, hB4⟩
        case measure => simp [intOf]; omega
      ·
        have hs := hok.small hk100
        obtain ⟨⟨p1, p2, p3⟩, ⟨p4, p5⟩, ⟨p6, p7⟩, p8, p9⟩ := id hok
        have hs2 : smallK C G T (U + (T - U)) := by unfold smallK at *; omega
        have hg := fun (W : World) (h : Pa W b C M G T (U + (T - U))) => Grant_any b C M G T (U + (T - U)) W h hs2
        have hd : (C + 1) / 2 ≤ G + dueF C G (U + (T - U)) - T := by unfold dueF; split <;> omega
        have hs3 : smallK C (G + dueF C G (U + (T - U))) T (U + (T - U)) := by unfold smallK at *; unfold dueF; split <;> omega
        generalize dueF C G (U + (T - U)) = D at hg hd hs3
        by_cases hz : C = 0
        · subst hz
          go_wp2_with (first
            | (go_at_call 13; (with_reducible refine (Kept_any b 0 M G T U _ hP hs).mono ?_); rintro e w4 ⟨rfl, ho4⟩; have hP4 := hP.kept ho4 (fun hh => hh); have hR4 := Blk.kept hR ho4 (fun hh => hh))
            | (go_at_call 15; (with_reducible refine (use_ok b 0 M G T U (T - U) _ hP4 hs (by omega) (by omega)).mono ?_); rintro e w5 ⟨rfl, ho5, hP5⟩; have hR5 := Blk.kept hR4 ho5 (fun h => hne h.symm))
            | (go_at_call 16; (with_reducible refine (hg _ hP5).mono ?_); rintro e w6 ⟨rfl, ho6, hP6⟩; have hR6 := Blk.kept hR5 ho6 (fun h => hne h.symm); obtain ⟨c0, c1, c2, c3, c4⟩ := RPa.facts hR6)
            | (go_at_call 17; (with_reducible refine (got_zero b 0 M (G + D) T (U + (T - U)) _ hP6 hs3).mono ?_); rintro e w7 ⟨rfl, ho7, hP7⟩)
            | (go_at_call 13; (with_reducible refine (Kept_any b 0 M (G + D) T (U + (T - U)) _ hP7 hs3).mono ?_); rintro e w8 ⟨rfl, ho8⟩)
            )
          go_ret
          refine ⟨by first | rfl | (simp; omega), ?_⟩
          have z4 := ho4.size
          have z5 := ho5.size
          have z6 := ho6.size
          have z7 := ho7.size
          have b4 := hB.trans (ho4.below hB.size (fun _ _ hh => hh))
          have b5 := b4.trans (ho5.below b4.size (fun i hi h => by unfold One at h; omega))
          have b6 := b5.trans (ho6.below b5.size (fun i hi h => by unfold One at h; omega))
          have b7 := b6.trans (ho7.below b6.size (fun i hi h => by unfold One at h; omega))
          exact b7.trans (ho8.below b7.size (fun _ _ hh => hh))
        · have hs4 : smallK C (G + D) (T + (C + 1) / 2) (U + (T - U)) := by unfold smallK at *; omega
          go_wp2_with (first
            | (go_at_call 13; (with_reducible refine (Kept_any b C M G T U _ hP hs).mono ?_); rintro e w4 ⟨rfl, ho4⟩; have hP4 := hP.kept ho4 (fun hh => hh); have hR4 := Blk.kept hR ho4 (fun hh => hh))
            | (go_at_call 15; (with_reducible refine (use_ok b C M G T U (T - U) _ hP4 hs (by omega) (by omega)).mono ?_); rintro e w5 ⟨rfl, ho5, hP5⟩; have hR5 := Blk.kept hR4 ho5 (fun h => hne h.symm))
            | (go_at_call 16; (with_reducible refine (hg _ hP5).mono ?_); rintro e w6 ⟨rfl, ho6, hP6⟩; have hR6 := Blk.kept hR5 ho6 (fun h => hne h.symm); obtain ⟨c0, c1, c2, c3, c4⟩ := RPa.facts hR6)
            | (go_at_call 17; (with_reducible refine (got_ok b C M (G + D) T (U + (T - U)) ((C + 1) / 2) _ hP6 hs3 (by omega) (by omega)).mono ?_); rintro e w7 ⟨rfl, ho7, hP7⟩)
            | (go_at_call 13; (with_reducible refine (Kept_any b C M (G + D) (T + (C + 1) / 2) (U + (T - U)) _ hP7 hs4).mono ?_); rintro e w8 ⟨rfl, ho8⟩)
            )
          go_ret
          refine ⟨by first | rfl | (simp; omega), ?_⟩
          have z4 := ho4.size
          have z5 := ho5.size
          have z6 := ho6.size
          have z7 := ho7.size
          have b4 := hB.trans (ho4.below hB.size (fun _ _ hh => hh))
          have b5 := b4.trans (ho5.below b4.size (fun i hi h => by unfold One at h; omega))
          have b6 := b5.trans (ho6.below b5.size (fun i hi h => by unfold One at h; omega))
          have b7 := b6.trans (ho7.below b6.size (fun i hi h => by unfold One at h; omega))
          exact b7.trans (ho8.below b7.size (fun _ _ hh => hh))
    ·
      have hs := hok.small hk100
      obtain ⟨⟨p1, p2, p3⟩, ⟨p4, p5⟩, ⟨p6, p7⟩, p8, p9⟩ := id hok
      have hs2 : smallK C G T (U + (T - U)) := by unfold smallK at *; omega
      have hg := fun (W : World) (h : Pa W b C M G T (U + (T - U))) => Grant_any b C M G T (U + (T - U)) W h hs2
      have hd : (C + 1) / 2 ≤ G + dueF C G (U + (T - U)) - T := by unfold dueF; split <;> omega
      have hs3 : smallK C (G + dueF C G (U + (T - U))) T (U + (T - U)) := by unfold smallK at *; unfold dueF; split <;> omega
      generalize dueF C G (U + (T - U)) = D at hg hd hs3
      by_cases hz : C = 0
      · subst hz
        go_wp2_with (first
          | (go_at_call 13; (with_reducible refine (Kept_any b 0 M G T U _ hP hs).mono ?_); rintro e w4 ⟨rfl, ho4⟩; have hP4 := hP.kept ho4 (fun hh => hh); have hR4 := Blk.kept hR ho4 (fun hh => hh))
          | (go_at_call 15; (with_reducible refine (use_ok b 0 M G T U (T - U) _ hP4 hs (by omega) (by omega)).mono ?_); rintro e w5 ⟨rfl, ho5, hP5⟩; have hR5 := Blk.kept hR4 ho5 (fun h => hne h.symm))
          | (go_at_call 16; (with_reducible refine (hg _ hP5).mono ?_); rintro e w6 ⟨rfl, ho6, hP6⟩; have hR6 := Blk.kept hR5 ho6 (fun h => hne h.symm); obtain ⟨c0, c1, c2, c3, c4⟩ := RPa.facts hR6)
          | (go_at_call 17; (with_reducible refine (got_zero b 0 M (G + D) T (U + (T - U)) _ hP6 hs3).mono ?_); rintro e w7 ⟨rfl, ho7, hP7⟩)
          | (go_at_call 13; (with_reducible refine (Kept_any b 0 M (G + D) T (U + (T - U)) _ hP7 hs3).mono ?_); rintro e w8 ⟨rfl, ho8⟩)
          )
        go_ret
        refine ⟨by first | rfl | (simp; omega), ?_⟩
        have z4 := ho4.size
        have z5 := ho5.size
        have z6 := ho6.size
        have z7 := ho7.size
        have b4 := hB.trans (ho4.below hB.size (fun _ _ hh => hh))
        have b5 := b4.trans (ho5.below b4.size (fun i hi h => by unfold One at h; omega))
        have b6 := b5.trans (ho6.below b5.size (fun i hi h => by unfold One at h; omega))
        have b7 := b6.trans (ho7.below b6.size (fun i hi h => by unfold One at h; omega))
        exact b7.trans (ho8.below b7.size (fun _ _ hh => hh))
      · have hs4 : smallK C (G + D) (T + (C + 1) / 2) (U + (T - U)) := by unfold smallK at *; omega
        go_wp2_with (first
          | (go_at_call 13; (with_reducible refine (Kept_any b C M G T U _ hP hs).mono ?_); rintro e w4 ⟨rfl, ho4⟩; have hP4 := hP.kept ho4 (fun hh => hh); have hR4 := Blk.kept hR ho4 (fun hh => hh))
          | (go_at_call 15; (with_reducible refine (use_ok b C M G T U (T - U) _ hP4 hs (by omega) (by omega)).mono ?_); rintro e w5 ⟨rfl, ho5, hP5⟩; have hR5 := Blk.kept hR4 ho5 (fun h => hne h.symm))
          | (go_at_call 16; (with_reducible refine (hg _ hP5).mono ?_); rintro e w6 ⟨rfl, ho6, hP6⟩; have hR6 := Blk.kept hR5 ho6 (fun h => hne h.symm); obtain ⟨c0, c1, c2, c3, c4⟩ := RPa.facts hR6)
          | (go_at_call 17; (with_reducible refine (got_ok b C M (G + D) T (U + (T - U)) ((C + 1) / 2) _ hP6 hs3 (by omega) (by omega)).mono ?_); rintro e w7 ⟨rfl, ho7, hP7⟩)
          | (go_at_call 13; (with_reducible refine (Kept_any b C M (G + D) (T + (C + 1) / 2) (U + (T - U)) _ hP7 hs4).mono ?_); rintro e w8 ⟨rfl, ho8⟩)
          )
        go_ret
        refine ⟨by first | rfl | (simp; omega), ?_⟩
        have z4 := ho4.size
        have z5 := ho5.size
        have z6 := ho6.size
        have z7 := ho7.size
        have b4 := hB.trans (ho4.below hB.size (fun _ _ hh => hh))
        have b5 := b4.trans (ho5.below b4.size (fun i hi h => by unfold One at h; omega))
        have b6 := b5.trans (ho6.below b5.size (fun i hi h => by unfold One at h; omega))
        have b7 := b6.trans (ho7.below b6.size (fun i hi h => by unfold One at h; omega))
        exact b7.trans (ho8.below b7.size (fun _ _ hh => hh))
/-! The step from the walk to the statement of PaceHalf. -/
namespace frPaceHalf
open Go.ChangeShapes Go.WideShapes Go.ChangeAt Go.RowKit
set_option linter.unusedVariables false
theorem own : ownKnob Try.prog.godebug = none := by kernel_rfl
theorem laidOut : laidOutB Try.prog = true := by kernel_rfl
theorem shape0 : Kd.ok Try.prog (.int .u32) 35 = true := by kernel_rfl
theorem shape1 : Kd.ok Try.prog (.slc (.agg [.int .i64, .int .i64])) 22 = true := by kernel_rfl
set_option maxRecDepth 100000 in
theorem contract (H : Type) (enc : TypeId × Value → H) (W : World) (base : Nat) (args : Array Value) (ds gs : List (DataW H)) (before : List MemPlace)
    (hval : ∀ (j : Nat) t v, Try.f5.params[j]? = some t → args[j]? = some v → Value.okWide Try.prog W .any base t v)
    (hW : DataW.Whole enc Try.prog Try.f5.params.toList Rows.paceHalfSpec.vars false W args.toList ds gs before) :
    Calls Try.prog 5 args W fun e W' => ∃ v, e = .returned v ∧ Rows.paceHalfSpec.post enc Try.prog Try.f5 false true false false W args v W' := by
  have hW' := hW
  obtain ⟨p, q, hA0, hV, rfl, hfz, hnd⟩ := hW
  have hA : DataW.TrodAll enc Try.prog W 0 (fun _ => true) true Try.f5.params.toList args.toList ds p := hA0
  rw [Try.params5] at hA hval
  obtain ⟨v0, vs0, d0, ds0, p0, q0, hargs, rfl, rfl, h0, r0⟩ := trodAll_cons hA
  obtain ⟨v1, vs1, d1, ds1, p1, q1, rfl, rfl, rfl, h1, r1⟩ := trodAll_cons r0
  obtain ⟨rfl, rfl, rfl⟩ := trodAll_nil r1
  obtain rfl : args = #[v0, v1] := by cases args; simp_all
  obtain ⟨rfl, rfl⟩ := trodVars_none hV
  have k0 := Kd.fit _ shape0 (hval 0 35 v0 rfl rfl) h0
  have lt0 : ∀ x ∈ p0, x.block < W.heap.size := by obtain ⟨m, hm⟩ := h0; exact DataW.trod_lt m _ _ _ hm
  have k1 := Kd.fit _ shape1 (hval 1 22 v1 rfl rfl) h1
  have lt1 : ∀ x ∈ p1, x.block < W.heap.size := by obtain ⟨m, hm⟩ := h1; exact DataW.trod_lt m _ _ _ hm
  refine (paceHalf_walk v0 v1 W k0 k1).mono fun e W' ⟨he, bel⟩ => ?_
  subst he
  exact ⟨_, rfl, _, _, _, [], _, [], hW', trodAll_mk1 (shut_bool Try.underlying4 _), (trodAll_cons_mk (Below.trod laidOut (by kernel_rfl) (of_decide_eq_true (by kernel_rfl)) h0 bel lt0) (trodAll_cons_mk (Below.trod laidOut (by kernel_rfl) (of_decide_eq_true (by kernel_rfl)) h1 bel lt1) trodAll_mk0)), rfl, bel.frame _, fun h => by cases h⟩
set_option maxRecDepth 100000 in
theorem lifted (os : Os) (started : os.Started) (H : Type) (enc : TypeId × Value → H) :
    ReturnsInHanded {} Try.checked os 5 .any (Rows.paceHalfSpec.pre6 enc Try.prog Try.f5 Rows.paceHalfRow.domain false) (Rows.paceHalfSpec.post enc Try.prog Try.f5 false true false false) := by
  refine returnsInHanded_of_change (C := Try.checked) own started (by kernel_rfl) Try.func5
    (ChangeSpec.witness6 (enc := enc) (C := Try.checked) false ⟨#[], #[.int .u32 0, .slice none 0 0], []⟩ 8 (by kernel_rfl) (by kernel_rfl) (by kernel_rfl) (by kernel_rfl)) ?_
  intro W base args ds gs before hval hW _ _
  exact contract H enc W base args ds gs before hval hW
theorem over : Rows.paceHalfRow.holds Try.pinned (OpenSpec.ofChange Rows.paceHalfSpec) :=
  OpenClaim.holds_of_wide 5 Try.f5 rfl rfl rfl rfl rfl rfl rfl ⟨rfl, rfl, rfl, rfl, rfl⟩ rfl rfl rfl rfl rfl (by kernel_rfl) Try.func5 (by kernel_rfl)
    (of_decide_eq_true (by kernel_rfl)) (by unfold Func.isWrapper; first | (rw [if_pos (by decide +kernel)]; kernel_rfl) | (rw [if_neg (by decide +kernel)]; exact ⟨rfl, rfl⟩))
    (fun os started H enc _ => lifted os started H enc)
theorem proved : Rows.PaceHalfSaid := over
end frPaceHalf
end Go.Proofs.Ytpbdhdfbkmkopaa
