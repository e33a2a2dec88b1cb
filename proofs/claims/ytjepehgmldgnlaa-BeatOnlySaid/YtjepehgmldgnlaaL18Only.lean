/- For all ticks and steps: a beat is lost only if no answer came for as long as is waited, and then at the first step at or behind that tick (the statement BeatOnly, as it is given). No condition. -/
import Derived.Test.YtjepehgmldgnlaaBeat2
namespace Go.Proofs.Ytjepehgmldgnlaa
open Go.RowKit

structure BInv (ans : Bool) (n q heard since count : Int) (out : Bool) (k : Nat) : Prop where
  n0 : 0 ≤ n
  n1 : n ≤ 255 * (k : Int)
  h0 : 0 ≤ heard
  h1 : heard ≤ n
  s0 : 0 ≤ since
  s1 : since ≤ n
  c0 : 0 ≤ count
  c1 : count ≤ k
  o1 : out = true → q = since ∧ ans = false
  o0 : out = false → q = -1
set_option maxRecDepth 100000 in
set_option maxHeartbeats 8000000 in
theorem beatOnly_walk (v0 : Value) (w : World) (h0 : Kd.Fit w (.agg [.int .u8, .int .u8, .slc (.int .u8), .bool]) v0) :
    Calls Try.prog 3 #[v0] w fun e w' => e = .returned (.bool true) ∧ Below w.heap.size w w' := by
  obtain ⟨cs, rfl, hc⟩ := h0
  obtain ⟨v0, c0, rfl, i0, hc⟩ := Kd.headL rfl hc
  obtain ⟨v1, c1, rfl, i1, hc⟩ := Kd.headL rfl hc
  obtain ⟨v2, c2, rfl, i2, hc⟩ := Kd.headL rfl hc
  obtain ⟨v3, c3, rfl, i3, hc⟩ := Kd.headL rfl hc
  obtain rfl := Kd.end_ hc
  obtain ⟨ev, rfl, he⟩ := Kd.int_is i0
  obtain ⟨wt, rfl, hw⟩ := Kd.int_is i1
  obtain ⟨A, len, cap, rfl, hl⟩ := Kd.slc_is i2
  obtain ⟨ans, rfl⟩ := Kd.bool_is i3
  obtain ⟨e0, e1⟩ := u8_of he
  obtain ⟨t0, t1⟩ := u8_of hw
  clear i0 i1 i2 i3 hc he hw
  have hlt0 : w.heap.size ≤ w.heap.size := Nat.le_refl _
  go_enter Try.func3, Try.ntmps3
  go_wp2
  go_quiet (fail)
  go_wp2_with (first
    | (go_at_call 5; (with_reducible refine (New_any _ _ _ (by omega) (by omega) (by omega) (by omega)).mono ?_); rintro e w1 ⟨b, rfl, hb, ho1, hB1⟩)
    | (go_at_call 6; (with_reducible refine (awake_any _).mono ?_); rintro e w2 ⟨rfl, ho2⟩; have hB2 := hB1.kept ho2 (fun hh => hh))
    )
  have hb0 : w.heap.size ≤ b := by simp at hb; omega
  go_loopw [9, 10, 11] (fun nn qq ii wr => ∃ (k : Nat) (n q hd sn ct : Int) (out : Bool), k ≤ len ∧ ii = .int .i64 k ∧ nn = .int .i64 n ∧ qq = .int .i64 q ∧ k ≤ 150 ∧ BInv ans n q hd sn ct out k ∧ Bt wr b ⟨ev + 1, wt + 1, n, hd, out, false, sn, ct⟩ ∧ Below w.heap.size w wr) (fun _ _ ii _ => len - (intOf ii).toNat)
  case atStart => exact ⟨0, 0, -1, 0, 0, 0, false, Nat.zero_le _, rfl, rfl, rfl, by omega, ⟨by omega, by omega, by omega, by omega, by omega, by omega, by omega, by omega, (fun h => by cases h), fun _ => rfl⟩, hB2, (((Only.refl _ _).alloc _).drewN _ |>.trans ho1 |>.trans ho2).below (Nat.le_refl _) (fun _ _ hh => hh)⟩
  case round =>
    obtain ⟨k, n, q, hd, sn, ct, out, hk, rfl, rfl, rfl, hk5, hI, hB, hBe⟩ := hrel
    have hmax : len ≤ 9223372036854775807 := Nat.le_trans hl.1 hl.2.1
    obtain ⟨g1, g2, g3, g4, g5, g6, g7, g8, o1, o0⟩ := hI
    by_cases hlt : k < len
    · by_cases h150 : k < 150
      · obtain ⟨b', off, rfl, hb', cs, hcl, hcs, his⟩ := hl.at (by decide) hlt
        obtain ⟨z, rfl, hz⟩ := his
        obtain ⟨z0, z255⟩ := u8_of hz
        have hc0 := hcs 0 (by decide)
        simp [Kd.cells] at hc0
        have f0 := (hBe.cell (p := ⟨b', off + k, none⟩) hb').trans hc0
        clear hz hcl hcs hc0 hl
        cases out
        · obtain rfl := o0 rfl
          clear o0 o1
          by_cases hp : ev + 1 ≤ n + z - hd
          · have hstep := fun (W : World) (h : Bt W b ⟨ev + 1, wt + 1, n, hd, false, false, sn, ct⟩) => Step_ping b (n + z) (ev + 1) (wt + 1) n hd sn ct W h (by omega) (by omega) (by omega) (by omega) (by omega) (by omega) hp (by omega) (by omega)
            have hpong := fun (W : World) (h : Bt W b ⟨ev + 1, wt + 1, n + z, hd, true, false, n + z, ct + 1⟩) => Pong_yes b (n + z) (ev + 1) (wt + 1) (n + z) hd (n + z) (ct + 1) W h (by omega) (by omega) (by omega)
            generalize dataB (ct + 1) = S at hstep hpong
            have HS := Lib.hid hstep
            have HP := Lib.hid hpong
            clear hstep hpong hp
            cases ans
            · go_wp2_with (first
                | (go_at_call 7; (with_reducible refine (HS.out _ hB).mono ?_); rintro e w5 ⟨rfl, ho5, hB5⟩)
                )
              go_roundw
              case rel => exact ⟨k + 1, n + z, n + z, hd, n + z, ct + 1, true, by omega, by go_num, rfl, rfl, by omega, ⟨by omega, by omega, by omega, by omega, by omega, by omega, by omega, by omega, (fun _ => ⟨rfl, rfl⟩), (fun h => by cases h)⟩, hB5, hBe.trans (ho5.below hBe.size (fun i hi hh => by unfold One at hh; omega))⟩
              case measure => simp [intOf]; omega
            · go_wp2_with (first
                | (go_at_call 7; (with_reducible refine (HS.out _ hB).mono ?_); rintro e w5 ⟨rfl, ho5, hB5⟩)
                | (go_at_call 8; (with_reducible refine (HP.out _ hB5).mono ?_); rintro e w6 ⟨rfl, ho6, hB6⟩)
                | (go_at_call 9; (with_reducible refine (Out_any b _ _ hB6).mono ?_); rintro e w7 ⟨rfl, rfl⟩)
                )
              go_roundw
              case rel => exact ⟨k + 1, n + z, -1, n + z, n + z, ct + 1, false, by omega, by go_num, rfl, rfl, by omega, ⟨by omega, by omega, by omega, by omega, by omega, by omega, by omega, by omega, (fun h => by cases h), fun _ => rfl⟩, hB6, hBe.trans ((ho5.trans ho6).below hBe.size (fun i hi hh => by unfold One at hh; omega))⟩
              case measure => simp [intOf]; omega
          · have hstep := fun (W : World) (h : Bt W b ⟨ev + 1, wt + 1, n, hd, false, false, sn, ct⟩) => Step_none b (n + z) (ev + 1) (wt + 1) n hd sn ct W h (by omega) (by omega) (by omega) (by omega) (by omega) (by omega) (by omega)
            have HS := Lib.hid hstep
            clear hstep hp
            go_wp2_with (first
              | (go_at_call 7; (with_reducible refine (HS.out _ hB).mono ?_); rintro e w5 ⟨rfl, ho5, hB5⟩)
              )
            go_roundw
            case rel => exact ⟨k + 1, n + z, -1, hd, sn, ct, false, by omega, by go_num, rfl, rfl, by omega, ⟨by omega, by omega, by omega, by omega, by omega, by omega, by omega, by omega, (fun h => by cases h), fun _ => rfl⟩, hB5, hBe.trans (ho5.below hBe.size (fun i hi hh => by unfold One at hh; omega))⟩
            case measure => simp [intOf]; omega
        · obtain ⟨rfl, rfl⟩ := o1 rfl
          clear o0 o1
          by_cases hd2 : wt + 1 ≤ n + z - q
          · have hstep := fun (W : World) (h : Bt W b ⟨ev + 1, wt + 1, n, hd, true, false, q, ct⟩) => Step_wait b (n + z) (ev + 1) (wt + 1) n hd q ct true W h (by omega) (by omega) (by omega) (by omega) (by omega) (by omega) (by simp; omega) 2 (Lib.hid rfl)
            have HS := Lib.hid hstep
            clear hstep
            go_wp2_with (first
              | (go_at_call 7; (with_reducible refine (HS.out _ hB).mono ?_); rintro e w5 ⟨rfl, ho5, hB5⟩)
              )
            go_ret
            exact ⟨rfl, hBe.trans (ho5.below hBe.size (fun i hi hh => by unfold One at hh; omega))⟩
          · have hstep := fun (W : World) (h : Bt W b ⟨ev + 1, wt + 1, n, hd, true, false, q, ct⟩) => Step_wait b (n + z) (ev + 1) (wt + 1) n hd q ct false W h (by omega) (by omega) (by omega) (by omega) (by omega) (by omega) (by simp; omega) 0 (Lib.hid rfl)
            have HS := Lib.hid hstep
            clear hstep
            go_wp2_with (first
              | (go_at_call 7; (with_reducible refine (HS.out _ hB).mono ?_); rintro e w5 ⟨rfl, ho5, hB5⟩)
              )
            go_roundw
            case rel => exact ⟨k + 1, n + z, q, hd, q, ct, true, by omega, by go_num, rfl, rfl, by omega, ⟨by omega, by omega, by omega, by omega, by omega, by omega, by omega, by omega, (fun _ => ⟨rfl, rfl⟩), (fun h => by cases h)⟩, hB5, hBe.trans (ho5.below hBe.size (fun i hi hh => by unfold One at hh; omega))⟩
            case measure => simp [intOf]; omega
      · clear hl o0 o1
        go_wp2
        go_ret
        exact ⟨rfl, hBe⟩
    · clear hl o0 o1
      go_wp2
      go_ret
      exact ⟨rfl, hBe⟩
/-! The step from the walk to the statement of BeatOnly. -/
namespace frBeatOnly
open Go.ChangeShapes Go.WideShapes Go.ChangeAt Go.RowKit
set_option linter.unusedVariables false
theorem own : ownKnob Try.prog.godebug = none := by kernel_rfl
theorem laidOut : laidOutB Try.prog = true := by kernel_rfl
theorem shape0 : Kd.ok Try.prog (.agg [.int .u8, .int .u8, .slc (.int .u8), .bool]) 24 = true := by kernel_rfl
set_option maxRecDepth 100000 in
theorem contract (H : Type) (enc : TypeId × Value → H) (W : World) (base : Nat) (args : Array Value) (ds gs : List (DataW H)) (before : List MemPlace)
    (hval : ∀ (j : Nat) t v, Try.f3.params[j]? = some t → args[j]? = some v → Value.okWide Try.prog W .any base t v)
    (hW : DataW.Whole enc Try.prog Try.f3.params.toList Rows.beatOnlySpec.vars false W args.toList ds gs before) :
    Calls Try.prog 3 args W fun e W' => ∃ v, e = .returned v ∧ Rows.beatOnlySpec.post enc Try.prog Try.f3 false true false false W args v W' := by
  have hW' := hW
  obtain ⟨p, q, hA0, hV, rfl, hfz, hnd⟩ := hW
  have hA : DataW.TrodAll enc Try.prog W 0 (fun _ => true) true Try.f3.params.toList args.toList ds p := hA0
  rw [Try.params3] at hA hval
  obtain ⟨v0, vs0, d0, ds0, p0, q0, hargs, rfl, rfl, h0, r0⟩ := trodAll_cons hA
  obtain ⟨rfl, rfl, rfl⟩ := trodAll_nil r0
  obtain rfl : args = #[v0] := by cases args; simp_all
  obtain ⟨rfl, rfl⟩ := trodVars_none hV
  have k0 := Kd.fit _ shape0 (hval 0 24 v0 rfl rfl) h0
  have lt0 : ∀ x ∈ p0, x.block < W.heap.size := by obtain ⟨m, hm⟩ := h0; exact DataW.trod_lt m _ _ _ hm
  refine (beatOnly_walk v0 W k0).mono fun e W' ⟨he, bel⟩ => ?_
  subst he
  exact ⟨_, rfl, _, _, _, [], _, [], hW', trodAll_mk1 (shut_bool Try.underlying4 _), (trodAll_cons_mk (Below.trod laidOut (by kernel_rfl) (of_decide_eq_true (by kernel_rfl)) h0 bel lt0) trodAll_mk0), rfl, bel.frame _, fun h => by cases h⟩
set_option maxRecDepth 100000 in
theorem lifted (os : Os) (started : os.Started) (H : Type) (enc : TypeId × Value → H) :
    ReturnsInHanded {} Try.checked os 3 .any (Rows.beatOnlySpec.pre6 enc Try.prog Try.f3 Rows.beatOnlyRow.domain false) (Rows.beatOnlySpec.post enc Try.prog Try.f3 false true false false) := by
  refine returnsInHanded_of_change (C := Try.checked) own started (by kernel_rfl) Try.func3
    (ChangeSpec.witness6 (enc := enc) (C := Try.checked) false ⟨#[], #[.agg #[.int .u8 0, .int .u8 0, .slice none 0 0, .bool false]], []⟩ 8 (by kernel_rfl) (by kernel_rfl) (by kernel_rfl) (by kernel_rfl)) ?_
  intro W base args ds gs before hval hW _ _
  exact contract H enc W base args ds gs before hval hW
theorem over : Rows.beatOnlyRow.holds Try.pinned (OpenSpec.ofChange Rows.beatOnlySpec) :=
  OpenClaim.holds_of_wide 3 Try.f3 rfl rfl rfl rfl rfl rfl rfl ⟨rfl, rfl, rfl, rfl, rfl⟩ rfl rfl rfl rfl rfl (by kernel_rfl) Try.func3 (by kernel_rfl)
    (of_decide_eq_true (by kernel_rfl)) (by unfold Func.isWrapper; first | (rw [if_pos (by decide +kernel)]; kernel_rfl) | (rw [if_neg (by decide +kernel)]; exact ⟨rfl, rfl⟩))
    (fun os started H enc _ => lifted os started H enc)
theorem proved : Rows.BeatOnlySaid := over
end frBeatOnly
end Go.Proofs.Ytjepehgmldgnlaa
