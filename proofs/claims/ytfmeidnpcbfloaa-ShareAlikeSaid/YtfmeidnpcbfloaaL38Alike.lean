/- Of equal weights, and wants that are never met, no two get numbers that are more than one apart (the statement ShareAlike). No condition. -/
import Derived.Test.YtfmeidnpcbfloaaL38All
import Derived.Test.YtfmeidnpcbfloaaShareF
namespace Go.Proofs.Ytfmeidnpcbfloaa
open Go.RowKit

theorem cl_info : (Try.prog.info? 36).map (fun i => (i.zero, i.size, i.bytes)) = some (some (.agg #[.int .i64 0, .int .i64 0]), 2, 16) := by kernel_rfl
theorem encC_one : ∀ x, ∀ u ∈ encC x, u.oneCell' = true := fun x u hu => by
  simp only [encC, List.mem_cons, List.not_mem_nil, or_false] at hu
  rcases hu with rfl | rfl <;> rfl
theorem ints_kn {w : World} {b off : Nat} {L : List Int} {x : Int} (h : Sq encZ 1 w w.heap.size (some ⟨b, off, none⟩) L) {k : Nat} (hx : L[k]? = some x) : b < w.heap.size ∧ w.cell? ⟨b, off + k, none⟩ = some (.int .i64 x) := by
  obtain ⟨b', o', y, e, hb, hy, q⟩ := ints_at h (List.getElem?_eq_some_iff.1 hx).1
  injection e with e
  injection e with e1 e2
  subst e1 e2
  rw [hx] at hy
  injection hy with hy
  subst hy
  exact ⟨hb, q⟩
theorem rep_wts (n : Nat) (wg : Int) {i : Nat} (hi : i < n) : (wts (List.replicate n ⟨2147483647, wg⟩)).getD i 0 = 2147483647 := by
  rw [wts_at (x := ⟨2147483647, wg⟩) (by rw [List.getElem?_replicate, if_pos hi])]
  show wantC 2147483647 = 2147483647
  decide
theorem rep_wgs (n : Nat) (wg : Int) {i : Nat} (hi : i < n) : (wgs (List.replicate n ⟨2147483647, wg⟩)).getD i 0 = wghtC wg := by
  rw [wgs_at (x := ⟨2147483647, wg⟩) (by rw [List.getElem?_replicate, if_pos hi])]
theorem alike (whole wg : Int) (n : Nat) (h0 : 0 ≤ whole) (h1 : whole ≤ 2147483647) (hn : n ≤ 256) : ∀ i k, i < n → k < n → (shOut whole (List.replicate n ⟨2147483647, wg⟩)).2.getD k 0 ≤ (shOut whole (List.replicate n ⟨2147483647, wg⟩)).2.getD i 0 + 1 := fun i k hi hk => by
  have hl : (List.replicate n (⟨2147483647, wg⟩ : Cm)).length = n := List.length_replicate
  have hf := shOut_fair whole (List.replicate n ⟨2147483647, wg⟩) h0 h1 (by omega) i k (by omega) (by omega)
  have hg := (shOut_all whole (List.replicate n ⟨2147483647, wg⟩) h0 h1 (by omega)).1
  have gi := hg i (by omega)
  have gk := hg k (by omega)
  rw [rep_wts n wg hi] at gi hf
  rw [rep_wts n wg hk] at gk
  rw [rep_wgs n wg hi, rep_wgs n wg hk] at hf
  by_cases h : (shOut whole (List.replicate n ⟨2147483647, wg⟩)).2.getD i 0 < 2147483647
  · exact hf h (Int.le_refl _)
  · omega
set_option maxRecDepth 100000 in
set_option maxHeartbeats 4000000 in
theorem shareAlike_walk (v0 v1 v2 : Value) (w : World) (h0 : Kd.Fit w (.int .u32) v0) (h1 : Kd.Fit w (.int .u8) v1) (h2 : Kd.Fit w (.int .i64) v2) : Calls Try.prog 6 #[v0, v1, v2] w fun e w' => e = .returned (.bool true) ∧ Below w.heap.size w w' := by
  obtain ⟨z, rfl, hz⟩ := Kd.int_is (w := w) h0
  obtain ⟨many, rfl, hmy⟩ := Kd.int_is (w := w) h1
  obtain ⟨wg, rfl, -⟩ := Kd.int_is (w := w) h2
  have hz0 : 0 ≤ z := by
    have : 0 ≤ z ∧ z ≤ 4294967295 := by simpa [Lit.wf, IntKind.min, IntKind.max, IntKind.signed, IntKind.bits] using hz
    exact this.1
  have hm0 := (u8_of hmy).1
  obtain ⟨mm, hmm, hm39⟩ : ∃ mm : Nat, many % 40 = (mm : Int) ∧ mm ≤ 39 := ⟨(many % 40).toNat, by omega, by omega⟩
  have ewm : IntKind.i64.wrap ((mm : Int) + 2) = mm + 2 := IntWalk.i64_in _ (by omega)
  obtain ⟨whole, hwh, hw0, hw1⟩ : ∃ whole : Int, z % 2147483648 = whole ∧ 0 ≤ whole ∧ whole ≤ 2147483647 := ⟨_, rfl, by omega, by omega⟩
  clear h0 h1 h2 hz hmy
  go_enter Try.func6, Try.ntmps6
  go_wp2
  try simp only [hwh]
  go_loopw [8, 9] (fun ll ii wr => ∃ (k : Nat) (AO : Option Addr) (cO : Nat), k ≤ mm + 2 ∧ ii = .int .i64 k ∧ ll = .slice AO k cO ∧ Ow encC 2 wr w.heap.size 36 (.slice AO k cO) (List.replicate k ⟨2147483647, wg⟩) ∧ Only Nil w wr) (fun _ ii _ => mm + 2 - (intOf ii).toNat)
  case atStart => exact ⟨0, none, 0, Nat.zero_le _, rfl, rfl, Ow.nil, Only.refl _ _⟩
  case round =>
    obtain ⟨k, AO, cO, hk, rfl, rfl, hO, ho⟩ := hrel
    by_cases hlt : k < mm + 2
    · have hlt' : (k : Int) < mm + 2 := by omega
      have HR : Hid (List.replicate k (⟨2147483647, wg⟩ : Cm) ++ [⟨2147483647, wg⟩] = List.replicate (k + 1) ⟨2147483647, wg⟩) := Lib.hid (by rw [List.replicate_succ'])
      have HL1 : Hid ((List.replicate k (⟨2147483647, wg⟩ : Cm)).length + [(⟨2147483647, wg⟩ : Cm)].length = k + 1) := Lib.hid (by simp)
      have HBD : Hid ((List.replicate k (⟨2147483647, wg⟩ : Cm)).length + [(⟨2147483647, wg⟩ : Cm)].length ≤ 1000000000) := Lib.hid (by rw [HL1.out]; omega)
      have hO4 := Lib.hid (hO.alloc (.cells #[.int .i64 2147483647, .int .i64 wg] 36))
      have HO4 := Lib.hid (ho.alloc (.cells #[.int .i64 2147483647, .int .i64 wg] 36))
      have T14 := Lib.hid (Src.one (P := Try.prog) (enc := encC) (sz := 2) (tx := 22) Try.underlying22 ⟨2147483647, wg⟩ 1 rfl (Blk.new wr 36 #[.int .i64 2147483647, .int .i64 wg]) rfl (encC_one _))
      clear hO ho
      go_wp2_with (first
        | (at_builtin
           refine wpList_app2 rfl (.tmp 26) (.tmp 29) _ _ rfl w.heap.size 36 Try.underlying22 cl_info rfl _ (List.replicate k (⟨2147483647, wg⟩ : Cm)) rfl hO4.out _ ([⟨2147483647, wg⟩] : List Cm) rfl T14.out HBD.out (by decide) HO4.out.size (k + 1) HL1.out _ HR.out ?_
           intro A6 c6 w6 hown6 ho6 hg6
           have HO6 := Lib.hid (HO4.out.own_nil hO4.out ho6)
           clear ho6 hg6)
        )
      go_roundw
      case rel => exact ⟨k + 1, A6, c6, by omega, by go_num, rfl, hown6, HO6.out⟩
      case measure => simp [intOf]; omega
    · obtain rfl : k = mm + 2 := by omega
      have hlt' : ¬ ((mm + 2 : Nat) : Int) < mm + 2 := by omega
      obtain ⟨n, hn⟩ : ∃ n, n = mm + 2 := ⟨_, rfl⟩
      have hsq := hO.sqn (fun _ _ => rfl)
      have hcO := hO.len.2.1
      have hcm := hO.len.2.2
      have hl : (List.replicate (mm + 2) (⟨2147483647, wg⟩ : Cm)).length = mm + 2 := List.length_replicate
      have hSh := Share_any (cap := cO) (A := AO) (whole := whole) wr hsq (by omega) hw0 hw1 (by omega)
      have hal := alike whole wg (mm + 2) hw0 hw1 (by omega)
      have hgl := (shOut_ok whole (List.replicate (mm + 2) ⟨2147483647, wg⟩) hw0 hw1 (by omega)).2.1
      have hga : ∀ i, i < mm + 2 → 0 ≤ (shOut whole (List.replicate (mm + 2) ⟨2147483647, wg⟩)).2.getD i 0 ∧ (shOut whole (List.replicate (mm + 2) ⟨2147483647, wg⟩)).2.getD i 0 ≤ 2147483647 := fun i hi => by
        have := (shOut_all whole (List.replicate (mm + 2) ⟨2147483647, wg⟩) hw0 hw1 (by omega)).1 i (by omega)
        rwa [rep_wts (mm + 2) wg hi] at this
      rw [hl] at hSh
      generalize (shOut whole (List.replicate (mm + 2) ⟨2147483647, wg⟩)).2 = G at *
      have HSh := Lib.hid hSh
      have HAL := Lib.hid hal
      have hGn : (G.take (mm + 2)).length = mm + 2 := by rw [List.length_take]; omega
      have HGN := Lib.hid hGn
      have HGK : Hid (∀ k, k < mm + 2 → (G.take (mm + 2))[k]? = some (G.getD k 0)) := Lib.hid (fun k hk => by
        rw [List.getElem?_take_of_lt hk, List.getD_eq_getElem?_getD, List.getElem?_eq_getElem (by omega)]
        rfl)
      have HGA := Lib.hid hga
      have HO := Lib.hid ho
      clear hO ho hsq hl hSh hal hgl hga hGn
      rw [← hn] at HSh HAL HGN HGK HGA hcO hlt' ⊢
      have hn2 : 2 ≤ n := by omega
      have hn0 : (0 : Int) < n := by omega
      have hn41 : n ≤ 41 := by omega
      clear hn
      go_wp2_with (first
        | (go_at_call 8; (with_reducible refine (HSh.out).mono ?_); rintro e w1 ⟨A1, c1, rfl, hO1, ho1⟩; have HO1 := Lib.hid (HO.out.trans ho1); have HQ1 := Lib.hid (hO1.sqn (fun _ _ => rfl)); have hc1 := hO1.len.2.1; have hc1m := hO1.len.2.2; clear hO1 ho1)
        | (go_at_call 7; (with_reducible refine (awake_any _).mono ?_); rintro e w2 ⟨rfl, ho2⟩; have HO2 := Lib.hid (HO1.out.trans ho2); have HQ2 := Lib.hid (HQ1.out.go ho2); clear ho2)
        )
      obtain ⟨b2, off2, _, rfl, -⟩ := ints_at HQ2.out (k := 0) (by rw [HGN.out]; omega)
      obtain ⟨hb2, r0⟩ := ints_kn HQ2.out (HGK.out 0 (by omega))
      simp only [Nat.add_zero] at r0
      go_quiet (fail)
      go_wp2
      go_loopw [12, 13, 14] (fun aa bb ii wr => ∃ (k i1 k1 : Nat), k ≤ n ∧ ii = .int .i64 k ∧ i1 < n ∧ k1 < n ∧ aa = .int .i64 (G.getD i1 0) ∧ bb = .int .i64 (G.getD k1 0) ∧ Only Nil w2 wr) (fun _ _ ii _ => n - (intOf ii).toNat)
      case atStart => exact ⟨0, 0, 0, Nat.zero_le _, rfl, by omega, by omega, rfl, rfl, (Only.refl _ _).drewN _⟩
      case round =>
        clear r0 hb2
        obtain ⟨k, i1, k1, hk, rfl, hi1, hk1, rfl, rfl, ho⟩ := hrel
        by_cases hkl : k < n
        · have hkl' : (k : Int) < n := by omega
          obtain ⟨hb2, r0⟩ := ints_kn (HQ2.out.go ho) (HGK.out k hkl)
          have HO3 := Lib.hid ho
          clear ho
          by_cases c1 : G.getD k 0 < G.getD i1 0 <;> by_cases c2 : G.getD k1 0 < G.getD k 0
          · obtain ⟨y, hy⟩ : ∃ y, y = G.getD k 0 := ⟨_, rfl⟩
            have HY := Lib.hid hy
            rw [← hy] at r0 c1 c2
            generalize G.getD i1 0 = a at *
            generalize G.getD k1 0 = c at *
            clear hy
            go_wp2
            go_roundw
            case rel => exact ⟨k + 1, k, k, by omega, by go_num, hkl, hkl, by rw [HY.out], by rw [HY.out], HO3.out⟩
            case measure => simp [intOf]; omega
          · obtain ⟨y, hy⟩ : ∃ y, y = G.getD k 0 := ⟨_, rfl⟩
            obtain ⟨c, hcc⟩ : ∃ c, c = G.getD k1 0 := ⟨_, rfl⟩
            have HY := Lib.hid hy
            have HCC := Lib.hid hcc
            rw [← hy] at r0 c1 c2
            rw [← hcc] at c2 ⊢
            generalize G.getD i1 0 = a at *
            clear hy hcc
            go_wp2
            go_roundw
            case rel => exact ⟨k + 1, k, k1, by omega, by go_num, hkl, hk1, by rw [HY.out], by rw [HCC.out], HO3.out⟩
            case measure => simp [intOf]; omega
          · obtain ⟨y, hy⟩ : ∃ y, y = G.getD k 0 := ⟨_, rfl⟩
            obtain ⟨a, haa⟩ : ∃ a, a = G.getD i1 0 := ⟨_, rfl⟩
            have HY := Lib.hid hy
            have HAA := Lib.hid haa
            rw [← hy] at r0 c1 c2
            rw [← haa] at c1 ⊢
            generalize G.getD k1 0 = c at *
            clear hy haa
            go_wp2
            go_roundw
            case rel => exact ⟨k + 1, i1, k, by omega, by go_num, hi1, hkl, by rw [HAA.out], by rw [HY.out], HO3.out⟩
            case measure => simp [intOf]; omega
          · obtain ⟨y, hy⟩ : ∃ y, y = G.getD k 0 := ⟨_, rfl⟩
            obtain ⟨a, haa⟩ : ∃ a, a = G.getD i1 0 := ⟨_, rfl⟩
            obtain ⟨c, hcc⟩ : ∃ c, c = G.getD k1 0 := ⟨_, rfl⟩
            have HAA := Lib.hid haa
            have HCC := Lib.hid hcc
            rw [← hy] at r0 c1 c2
            rw [← haa] at c1 ⊢
            rw [← hcc] at c2 ⊢
            clear hy haa hcc
            go_wp2
            go_roundw
            case rel => exact ⟨k + 1, i1, k1, by omega, by go_num, hi1, hk1, by rw [HAA.out], by rw [HCC.out], HO3.out⟩
            case measure => simp [intOf]; omega
        · obtain rfl : k = n := by omega
          have hkl' : ¬ (k : Int) < k := by omega
          have h1 := HAL.out i1 k1 hi1 hk1
          have h2 := HGA.out i1 hi1
          have h3 := HGA.out k1 hk1
          have HO3 := Lib.hid (HO2.out.trans ho)
          generalize G.getD i1 0 = a at *
          generalize G.getD k1 0 = c at *
          have h4 : c - a ≤ 1 := by omega
          have ew : IntKind.i64.wrap (c - a) = c - a := IntWalk.i64_in _ (by omega)
          clear ho
          go_wp2
          go_ret
          exact ⟨rfl, HO3.out.below (Nat.le_refl _) (fun _ _ hh => hh)⟩
/-! The step from the walk to the statement of ShareAlike. -/
namespace frShareAlike
open Go.ChangeShapes Go.WideShapes Go.ChangeAt Go.RowKit
set_option linter.unusedVariables false
theorem own : ownKnob Try.prog.godebug = none := by kernel_rfl
theorem laidOut : laidOutB Try.prog = true := by kernel_rfl
theorem shape0 : Kd.ok Try.prog (.int .u32) 32 = true := by kernel_rfl
theorem shape1 : Kd.ok Try.prog (.int .u8) 5 = true := by kernel_rfl
theorem shape2 : Kd.ok Try.prog (.int .i64) 3 = true := by kernel_rfl
set_option maxRecDepth 100000 in
theorem contract (H : Type) (enc : TypeId × Value → H) (W : World) (base : Nat) (args : Array Value) (ds gs : List (DataW H)) (before : List MemPlace)
    (hval : ∀ (j : Nat) t v, Try.f6.params[j]? = some t → args[j]? = some v → Value.okWide Try.prog W .any base t v)
    (hW : DataW.Whole enc Try.prog Try.f6.params.toList Rows.shareAlikeSpec.vars false W args.toList ds gs before) :
    Calls Try.prog 6 args W fun e W' => ∃ v, e = .returned v ∧ Rows.shareAlikeSpec.post enc Try.prog Try.f6 false true false false W args v W' := by
  have hW' := hW
  obtain ⟨p, q, hA0, hV, rfl, hfz, hnd⟩ := hW
  have hA : DataW.TrodAll enc Try.prog W 0 (fun _ => true) true Try.f6.params.toList args.toList ds p := hA0
  rw [Try.params6] at hA hval
  obtain ⟨v0, vs0, d0, ds0, p0, q0, hargs, rfl, rfl, h0, r0⟩ := trodAll_cons hA
  obtain ⟨v1, vs1, d1, ds1, p1, q1, rfl, rfl, rfl, h1, r1⟩ := trodAll_cons r0
  obtain ⟨v2, vs2, d2, ds2, p2, q2, rfl, rfl, rfl, h2, r2⟩ := trodAll_cons r1
  obtain ⟨rfl, rfl, rfl⟩ := trodAll_nil r2
  obtain rfl : args = #[v0, v1, v2] := by cases args; simp_all
  obtain ⟨rfl, rfl⟩ := trodVars_none hV
  have k0 := Kd.fit _ shape0 (hval 0 32 v0 rfl rfl) h0
  have lt0 : ∀ x ∈ p0, x.block < W.heap.size := by obtain ⟨m, hm⟩ := h0; exact DataW.trod_lt m _ _ _ hm
  have k1 := Kd.fit _ shape1 (hval 1 5 v1 rfl rfl) h1
  have lt1 : ∀ x ∈ p1, x.block < W.heap.size := by obtain ⟨m, hm⟩ := h1; exact DataW.trod_lt m _ _ _ hm
  have k2 := Kd.fit _ shape2 (hval 2 3 v2 rfl rfl) h2
  have lt2 : ∀ x ∈ p2, x.block < W.heap.size := by obtain ⟨m, hm⟩ := h2; exact DataW.trod_lt m _ _ _ hm
  refine (shareAlike_walk v0 v1 v2 W k0 k1 k2).mono fun e W' ⟨he, bel⟩ => ?_
  subst he
  exact ⟨_, rfl, _, _, _, [], _, [], hW', trodAll_mk1 (shut_bool Try.underlying4 _), (trodAll_cons_mk (Below.trod laidOut (by kernel_rfl) (of_decide_eq_true (by kernel_rfl)) h0 bel lt0) (trodAll_cons_mk (Below.trod laidOut (by kernel_rfl) (of_decide_eq_true (by kernel_rfl)) h1 bel lt1) (trodAll_cons_mk (Below.trod laidOut (by kernel_rfl) (of_decide_eq_true (by kernel_rfl)) h2 bel lt2) trodAll_mk0))), rfl, bel.frame _, fun h => by cases h⟩
set_option maxRecDepth 100000 in
theorem lifted (os : Os) (started : os.Started) (H : Type) (enc : TypeId × Value → H) :
    ReturnsInHanded {} Try.checked os 6 .any (Rows.shareAlikeSpec.pre6 enc Try.prog Try.f6 Rows.shareAlikeRow.domain false) (Rows.shareAlikeSpec.post enc Try.prog Try.f6 false true false false) := by
  refine returnsInHanded_of_change (C := Try.checked) own started (by kernel_rfl) Try.func6
    (ChangeSpec.witness6 (enc := enc) (C := Try.checked) false ⟨#[], #[.int .u32 0, .int .u8 0, .int .i64 0], []⟩ 8 (by kernel_rfl) (by kernel_rfl) (by kernel_rfl) (by kernel_rfl)) ?_
  intro W base args ds gs before hval hW _ _
  exact contract H enc W base args ds gs before hval hW
theorem over : Rows.shareAlikeRow.holds Try.pinned (OpenSpec.ofChange Rows.shareAlikeSpec) :=
  OpenClaim.holds_of_wide 6 Try.f6 rfl rfl rfl rfl rfl rfl rfl ⟨rfl, rfl, rfl, rfl, rfl⟩ rfl rfl rfl rfl rfl (by kernel_rfl) Try.func6 (by kernel_rfl)
    (of_decide_eq_true (by kernel_rfl)) (by unfold Func.isWrapper; first | (rw [if_pos (by decide +kernel)]; kernel_rfl) | (rw [if_neg (by decide +kernel)]; exact ⟨rfl, rfl⟩))
    (fun os started H enc _ => lifted os started H enc)
theorem proved : Rows.ShareAlikeSaid := over
end frShareAlike
end Go.Proofs.Ytfmeidnpcbfloaa
