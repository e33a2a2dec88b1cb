/- Whoever does not get all that it wants gets no less than one of the same weight, or less, less one (the statement ShareFair). No condition. -/
import Derived.Test.YtfmeidnpcbfloaaL38All
import Derived.Test.YtfmeidnpcbfloaaShareF
namespace Go.Proofs.Ytfmeidnpcbfloaa
open Go.RowKit

theorem Weight_any (a : Int) (w : World) : Calls Try.prog 14 #[.int .i64 a] w fun x w' => x = .returned (.int .i64 (wghtC a)) ∧ w = w' := by
  have h1 := fun W => High_any a 1 W
  have h2 := fun W => Low_any (if (1 : Int) < a then a else 1) 256 W
  have e : (if (if (1 : Int) < a then a else 1) < 256 then (if (1 : Int) < a then a else 1) else 256) = wghtC a := by
    unfold wghtC
    split <;> split <;> split <;> (try split) <;> omega
  rw [e] at h2
  have H1 := Lib.hid h1
  have H2 := Lib.hid h2
  generalize (if (1 : Int) < a then a else 1) = q at *
  generalize wghtC a = r at *
  clear h1 h2 e
  go_enter Try.func14, Try.ntmps14
  go_wp2_with (first
    | (go_at_call 19; (with_reducible refine (H1.out _).mono ?_); rintro e w1 ⟨rfl, rfl⟩)
    | (go_at_call 17; (with_reducible refine (H2.out _).mono ?_); rintro e w1 ⟨rfl, rfl⟩)
    )
  go_ret
  exact ⟨rfl, rfl⟩
theorem claim_known {w : World} {b off : Nat} {L : List Cm} {x : Cm} (h : Sq encC 2 w w.heap.size (some ⟨b, off, none⟩) L) {k : Nat} (hx : L[k]? = some x) : b < w.heap.size ∧ w.cell? ⟨b, off + k * 2, none⟩ = some (.int .i64 x.wt) ∧ w.cell? ⟨b, off + k * 2 + 1, none⟩ = some (.int .i64 x.wg) := by
  obtain ⟨b', o', y, e, hb, hy, q⟩ := claim_at h (List.getElem?_eq_some_iff.1 hx).1
  injection e with e
  injection e with e1 e2
  subst e1 e2
  rw [hx] at hy
  injection hy with hy
  subst hy
  exact ⟨hb, q⟩
theorem ints_known {w : World} {b off : Nat} {L : List Int} {x : Int} (h : Sq encZ 1 w w.heap.size (some ⟨b, off, none⟩) L) {k : Nat} (hx : L[k]? = some x) : b < w.heap.size ∧ w.cell? ⟨b, off + k, none⟩ = some (.int .i64 x) := by
  obtain ⟨b', o', y, e, hb, hy, q⟩ := ints_at h (List.getElem?_eq_some_iff.1 hx).1
  injection e with e
  injection e with e1 e2
  subst e1 e2
  rw [hx] at hy
  injection hy with hy
  subst hy
  exact ⟨hb, q⟩
set_option maxRecDepth 100000 in
set_option maxHeartbeats 4000000 in
theorem shareFair_walk (v0 v1 : Value) (w : World) (h0 : Kd.Fit w (.int .u32) v0) (h1 : Kd.Fit w (.slc (.agg [.int .i64, .int .i64])) v1) : Calls Try.prog 5 #[v0, v1] w fun e w' => e = .returned (.bool true) ∧ Below w.heap.size w w' := by
  obtain ⟨z, rfl, hz⟩ := Kd.int_is (w := w) h0
  obtain ⟨LL, A, cap, rfl, hc, hm, hS⟩ := Kd.claims h1
  have hz0 : 0 ≤ z := by
    have : 0 ≤ z ∧ z ≤ 4294967295 := by simpa [Lit.wf, IntKind.min, IntKind.max, IntKind.signed, IntKind.bits] using hz
    exact this.1
  unfold maxLen at hm
  have HC := Lib.hid (fun W => cut_any A cap LL W hc)
  have hS2 := hS.take 40
  have hc2 : (LL.take 40).length ≤ cap := by rw [List.length_take]; omega
  have h40 : (LL.take 40).length ≤ 40 := by rw [List.length_take]; omega
  generalize LL.take 40 = L at *
  obtain ⟨whole, hwh, hw0, hw1⟩ : ∃ whole : Int, z % 2147483648 = whole ∧ 0 ≤ whole ∧ whole ≤ 2147483647 := ⟨_, rfl, by omega, by omega⟩
  have HSh := Lib.hid (fun W (h : Only Nil w W) => Share_any (cap := cap) W (hS2.go h) hc2 hw0 hw1 (by omega))
  have hfr := shOut_fair whole L hw0 hw1 (by omega)
  obtain ⟨g1, -, -⟩ := shOut_all whole L hw0 hw1 (by omega)
  have hGl := (shOut_ok whole L hw0 hw1 (by omega)).2.1
  obtain ⟨G, hG⟩ : ∃ G, G = (shOut whole L).2 := ⟨_, rfl⟩
  rw [← hG] at HSh g1 hGl hfr
  have HW := Lib.hid (fun (i : Nat) x (hx : L[i]? = some x) => wts_at hx)
  have HV := Lib.hid (fun (i : Nat) x (hx : L[i]? = some x) => wgs_at hx)
  have HS := Lib.hid hS2
  obtain ⟨n, hn⟩ : ∃ n, n = L.length := ⟨_, rfl⟩
  have HN := Lib.hid hn
  rw [← hn] at HC HSh g1 hc2 h40 hfr
  have HG1 := Lib.hid g1
  have HFR := Lib.hid hfr
  have hGn : (G.take n).length = n := by rw [List.length_take]; omega
  have HGN := Lib.hid hGn
  have HGK : Hid (∀ k, k < n → (G.take n)[k]? = some (G.getD k 0)) := Lib.hid (fun k hk => by
    rw [List.getElem?_take_of_lt hk, List.getD_eq_getElem?_getD, List.getElem?_eq_getElem (by omega)]
    rfl)
  have HLK : Hid (∀ k, k < n → ∃ x, L[k]? = some x) := Lib.hid (fun k hk => ⟨_, List.getElem?_eq_getElem (by rw [← hn]; exact hk)⟩)
  generalize wts L = P at *
  generalize wgs L = V at *
  clear h0 h1 hz hS hS2 g1 hG hn hc hGn hGl hfr
  go_enter Try.func5, Try.ntmps5
  go_wp2_with (first
    | (go_at_call 12; (with_reducible refine (HC.out _).mono ?_); rintro e w0 ⟨rfl, rfl⟩)
    | (go_at_call 8; (with_reducible refine (HSh.out _ (Only.refl _ _)).mono ?_); rintro e w1 ⟨A1, c1, rfl, hO1, ho1⟩; have HO1 := Lib.hid ho1; have HQ1 := Lib.hid (hO1.sqn (fun _ _ => rfl)); have hc1 := hO1.len.2.1; have hc1m := hO1.len.2.2; clear hO1 ho1)
    | (go_at_call 7; (with_reducible refine (awake_any _).mono ?_); rintro e w2 ⟨rfl, ho2⟩; have HO2 := Lib.hid (HO1.out.trans ho2); have HQ2 := Lib.hid (HQ1.out.go ho2); clear ho2)
    )
  go_loopw [8] (fun ii wr => ∃ k : Nat, k ≤ n ∧ ii = .int .i64 k ∧ Only Nil w2 wr) (fun ii _ => n - (intOf ii).toNat)
  case atStart => exact ⟨0, Nat.zero_le _, rfl, Only.refl _ _⟩
  case round =>
    obtain ⟨k, hk, rfl, ho⟩ := hrel
    by_cases hlt : k < n
    · have hlt' : (k : Int) < n := by omega
      obtain ⟨x, hx⟩ := HLK.out k hlt
      obtain ⟨b, off, _, rfl, -⟩ := claim_at (HS.out.go (HO2.out.trans ho)) (k := k) (by rw [← HN.out]; exact hlt)
      obtain ⟨b2, off2, _, rfl, -⟩ := ints_at (HQ2.out.go ho) (k := k) (by rw [HGN.out]; exact hlt)
      obtain ⟨hb, p0, p1⟩ := claim_known (HS.out.go (HO2.out.trans ho)) hx
      obtain ⟨hb2, r0⟩ := ints_known (HQ2.out.go ho) (HGK.out k hlt)
      have hxw := HW.out k x hx
      have hxv := HV.out k x hx
      have hg := HG1.out k hlt
      rw [hxw] at hg
      have HWT := Lib.hid (fun W => Want_any x.wt W)
      have HO := Lib.hid ho
      have HX := Lib.hid hx
      obtain ⟨wt, wg⟩ := x
      simp only at p0 p1 hg HWT hxw hxv
      obtain ⟨y, hy⟩ : ∃ y, G.getD k 0 = y := ⟨_, rfl⟩
      rw [hy] at r0 hg
      generalize wantC wt = t at *
      have HY := Lib.hid hy
      have HXW := Lib.hid hxw
      have HXV := Lib.hid hxv
      clear hx hxw hxv hy ho
      by_cases hyt : y = t
      · subst hyt
        go_wp2
        go_quiet ((go_at_call 13; exact Calls.quiet_of_same ((HWT.out _).mono fun _ _ hh => ⟨hh.1, hh.2.symm⟩)))
        go_wp2
        go_roundw
        case rel => exact ⟨k + 1, by omega, by go_num, HO.out.drewN _⟩
        case measure => simp [intOf]; omega
      · have hyt2 : (y == t) = false := by rw [beq_eq_false_iff_ne]; exact hyt
        have hlt2 : y < t := by omega
        go_wp2
        go_quiet ((go_at_call 13; exact Calls.quiet_of_same ((HWT.out _).mono fun _ _ hh => ⟨hh.1, hh.2.symm⟩)))
        go_wp2
        have HOn := fun N => HO.out.drewN N
        go_loopw [9] (fun ii wq => ∃ j : Nat, j ≤ n ∧ ii = .int .i64 j ∧ Only Nil w2 wq) (fun ii _ => n - (intOf ii).toNat)
        case atStart => exact ⟨0, Nat.zero_le _, rfl, HOn _⟩
        case round =>
          clear p0 p1 r0 hb hb2
          obtain ⟨j, hj, rfl, hoj⟩ := hrel
          by_cases hjl : j < n
          · have hjl' : (j : Int) < n := by omega
            obtain ⟨u, hu⟩ := HLK.out j hjl
            obtain ⟨hb, p0, p1⟩ := claim_known (HS.out.go (HO2.out.trans hoj)) HX.out
            obtain ⟨hb2, r0⟩ := ints_known (HQ2.out.go hoj) (HGK.out k hlt)
            obtain ⟨-, p2, p3⟩ := claim_known (HS.out.go (HO2.out.trans hoj)) hu
            obtain ⟨-, r1⟩ := ints_known (HQ2.out.go hoj) (HGK.out j hjl)
            rw [HY.out] at r0
            have huv := HV.out j u hu
            have hgj := HG1.out j hjl
            have hfj := HFR.out k j hlt hjl (by rw [HY.out, HXW.out]; exact hlt2)
            rw [HXV.out, huv, HY.out] at hfj
            obtain ⟨ut, ug⟩ := u
            simp only at p2 p3 hfj huv p0 p1
            have HW1 := Lib.hid (fun W => Weight_any wg W)
            have HW2 := Lib.hid (fun W => Weight_any ug W)
            have hwb := wantC_bd ut
            have huw := HW.out j _ hu
            simp only at huw
            rw [huw] at hgj
            generalize G.getD j 0 = gj at *
            generalize wghtC wg = a at *
            generalize wghtC ug = c at *
            generalize wantC ut = tj at *
            have HOJ := Lib.hid hoj
            clear hu huv huw hoj
            have ew : IntKind.i64.wrap (gj - 1) = gj - 1 := IntWalk.i64_in _ (by omega)
            by_cases hac : c ≤ a
            · have hn1 : ¬ y < gj - 1 := by have := hfj hac; omega
              clear hfj
              go_wp2
              go_quiet ((first | (go_at_call 14; exact Calls.quiet_of_same ((HW2.out _).mono fun _ _ hh => ⟨hh.1, hh.2.symm⟩)) | (go_at_call 14; exact Calls.quiet_of_same ((HW1.out _).mono fun _ _ hh => ⟨hh.1, hh.2.symm⟩))))
              go_wp2
              go_roundw
              case rel => exact ⟨j + 1, by omega, by go_num, HOJ.out.drewN _⟩
              case measure => simp [intOf]; omega
            · have hac2 : decide (c ≤ a) = false := decide_eq_false hac
              clear hfj
              go_wp2
              go_quiet ((first | (go_at_call 14; exact Calls.quiet_of_same ((HW2.out _).mono fun _ _ hh => ⟨hh.1, hh.2.symm⟩)) | (go_at_call 14; exact Calls.quiet_of_same ((HW1.out _).mono fun _ _ hh => ⟨hh.1, hh.2.symm⟩))))
              go_wp2
              go_roundw
              case rel => exact ⟨j + 1, by omega, by go_num, HOJ.out.drewN _⟩
              case measure => simp [intOf]; omega
          · obtain rfl : j = n := by omega
            have hjl' : ¬ (j : Int) < j := by omega
            go_wp2
            go_roundw
            case rel => exact ⟨k + 1, by omega, by go_num, hoj⟩
            case measure => simp [intOf]; omega
    · obtain rfl : k = n := by omega
      have hlt' : ¬ (k : Int) < k := by omega
      go_wp2
      go_ret
      exact ⟨rfl, (HO2.out.trans ho).below (Nat.le_refl _) (fun _ _ hh => hh)⟩
/-! The step from the walk to the statement of ShareFair. -/
namespace frShareFair
open Go.ChangeShapes Go.WideShapes Go.ChangeAt Go.RowKit
set_option linter.unusedVariables false
theorem own : ownKnob Try.prog.godebug = none := by kernel_rfl
theorem laidOut : laidOutB Try.prog = true := by kernel_rfl
theorem shape0 : Kd.ok Try.prog (.int .u32) 32 = true := by kernel_rfl
theorem shape1 : Kd.ok Try.prog (.slc (.agg [.int .i64, .int .i64])) 22 = true := by kernel_rfl
set_option maxRecDepth 100000 in
theorem contract (H : Type) (enc : TypeId × Value → H) (W : World) (base : Nat) (args : Array Value) (ds gs : List (DataW H)) (before : List MemPlace)
    (hval : ∀ (j : Nat) t v, Try.f5.params[j]? = some t → args[j]? = some v → Value.okWide Try.prog W .any base t v)
    (hW : DataW.Whole enc Try.prog Try.f5.params.toList Rows.shareFairSpec.vars false W args.toList ds gs before) :
    Calls Try.prog 5 args W fun e W' => ∃ v, e = .returned v ∧ Rows.shareFairSpec.post enc Try.prog Try.f5 false true false false W args v W' := by
  have hW' := hW
  obtain ⟨p, q, hA0, hV, rfl, hfz, hnd⟩ := hW
  have hA : DataW.TrodAll enc Try.prog W 0 (fun _ => true) true Try.f5.params.toList args.toList ds p := hA0
  rw [Try.params5] at hA hval
  obtain ⟨v0, vs0, d0, ds0, p0, q0, hargs, rfl, rfl, h0, r0⟩ := trodAll_cons hA
  obtain ⟨v1, vs1, d1, ds1, p1, q1, rfl, rfl, rfl, h1, r1⟩ := trodAll_cons r0
  obtain ⟨rfl, rfl, rfl⟩ := trodAll_nil r1
  obtain rfl : args = #[v0, v1] := by cases args; simp_all
  obtain ⟨rfl, rfl⟩ := trodVars_none hV
  have k0 := Kd.fit _ shape0 (hval 0 32 v0 rfl rfl) h0
  have lt0 : ∀ x ∈ p0, x.block < W.heap.size := by obtain ⟨m, hm⟩ := h0; exact DataW.trod_lt m _ _ _ hm
  have k1 := Kd.fit _ shape1 (hval 1 22 v1 rfl rfl) h1
  have lt1 : ∀ x ∈ p1, x.block < W.heap.size := by obtain ⟨m, hm⟩ := h1; exact DataW.trod_lt m _ _ _ hm
  refine (shareFair_walk v0 v1 W k0 k1).mono fun e W' ⟨he, bel⟩ => ?_
  subst he
  exact ⟨_, rfl, _, _, _, [], _, [], hW', trodAll_mk1 (shut_bool Try.underlying4 _), (trodAll_cons_mk (Below.trod laidOut (by kernel_rfl) (of_decide_eq_true (by kernel_rfl)) h0 bel lt0) (trodAll_cons_mk (Below.trod laidOut (by kernel_rfl) (of_decide_eq_true (by kernel_rfl)) h1 bel lt1) trodAll_mk0)), rfl, bel.frame _, fun h => by cases h⟩
set_option maxRecDepth 100000 in
theorem lifted (os : Os) (started : os.Started) (H : Type) (enc : TypeId × Value → H) :
    ReturnsInHanded {} Try.checked os 5 .any (Rows.shareFairSpec.pre6 enc Try.prog Try.f5 Rows.shareFairRow.domain false) (Rows.shareFairSpec.post enc Try.prog Try.f5 false true false false) := by
  refine returnsInHanded_of_change (C := Try.checked) own started (by kernel_rfl) Try.func5
    (ChangeSpec.witness6 (enc := enc) (C := Try.checked) false ⟨#[], #[.int .u32 0, .slice none 0 0], []⟩ 8 (by kernel_rfl) (by kernel_rfl) (by kernel_rfl) (by kernel_rfl)) ?_
  intro W base args ds gs before hval hW _ _
  exact contract H enc W base args ds gs before hval hW
theorem over : Rows.shareFairRow.holds Try.pinned (OpenSpec.ofChange Rows.shareFairSpec) :=
  OpenClaim.holds_of_wide 5 Try.f5 rfl rfl rfl rfl rfl rfl rfl ⟨rfl, rfl, rfl, rfl, rfl⟩ rfl rfl rfl rfl rfl (by kernel_rfl) Try.func5 (by kernel_rfl)
    (of_decide_eq_true (by kernel_rfl)) (by unfold Func.isWrapper; first | (rw [if_pos (by decide +kernel)]; kernel_rfl) | (rw [if_neg (by decide +kernel)]; exact ⟨rfl, rfl⟩))
    (fun os started H enc _ => lifted os started H enc)
theorem proved : Rows.ShareFairSaid := over
end frShareFair
end Go.Proofs.Ytfmeidnpcbfloaa
