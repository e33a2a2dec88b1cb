/- All together get the whole, or all that they want, if that is less; nobody more than is wanted (the statement ShareAll). No condition. -/
import Derived.Test.YtfmeidnpcbfloaaShareQ
namespace Go.Proofs.Ytfmeidnpcbfloaa
open Go.RowKit

theorem Kd.claims {w : World} {v : Value} (h : Kd.Fit w (.slc (.agg [.int .i64, .int .i64])) v) : ∃ (l : List Cm) (A : Option Addr) (cap : Nat), v = .slice A l.length cap ∧ l.length ≤ cap ∧ cap ≤ maxLen ∧ Sq encC 2 w w.heap.size A l := by
  obtain ⟨A, len, cap, rfl, hsl⟩ := Kd.slc_fit h
  obtain ⟨l, hl, -, hS⟩ := hsl.list (by decide) encC (fun _ => True) (fun cs hcs hi => by
    obtain ⟨a, b, rfl, -, -⟩ := Kd.list_ints2 hi
    exact ⟨⟨a, b⟩, rfl, trivial⟩)
  subst hl
  exact ⟨l, A, cap, rfl, hsl.1, hsl.2.1, hS⟩
theorem High_any (a b : Int) (w : World) : Calls Try.prog 19 #[.int .i64 a, .int .i64 b] w fun x w' => x = .returned (.int .i64 (if b < a then a else b)) ∧ w = w' := by
  by_cases h : b < a
  · rw [if_pos h]
    go_enter Try.func19, Try.ntmps19
    go_wp2
    go_ret
    exact ⟨rfl, rfl⟩
  · rw [if_neg h]
    go_enter Try.func19, Try.ntmps19
    go_wp2
    go_ret
    exact ⟨rfl, rfl⟩
theorem Low_any (a b : Int) (w : World) : Calls Try.prog 17 #[.int .i64 a, .int .i64 b] w fun x w' => x = .returned (.int .i64 (if a < b then a else b)) ∧ w = w' := by
  by_cases h : a < b
  · rw [if_pos h]
    go_enter Try.func17, Try.ntmps17
    go_wp2
    go_ret
    exact ⟨rfl, rfl⟩
  · rw [if_neg h]
    go_enter Try.func17, Try.ntmps17
    go_wp2
    go_ret
    exact ⟨rfl, rfl⟩
theorem Want_any (a : Int) (w : World) : Calls Try.prog 13 #[.int .i64 a] w fun x w' => x = .returned (.int .i64 (wantC a)) ∧ w = w' := by
  have h1 := fun W => High_any a 0 W
  have h2 := fun W => Low_any (if (0 : Int) < a then a else 0) 2147483647 W
  have e : (if (if (0 : Int) < a then a else 0) < 2147483647 then (if (0 : Int) < a then a else 0) else 2147483647) = wantC a := by
    unfold wantC
    split <;> split <;> split <;> (try split) <;> omega
  rw [e] at h2
  have H1 := Lib.hid h1
  have H2 := Lib.hid h2
  generalize (if (0 : Int) < a then a else 0) = q at *
  generalize wantC a = r at *
  clear h1 h2 e
  go_enter Try.func13, Try.ntmps13
  go_wp2_with (first
    | (go_at_call 19; (with_reducible refine (H1.out _).mono ?_); rintro e w1 ⟨rfl, rfl⟩)
    | (go_at_call 17; (with_reducible refine (H2.out _).mono ?_); rintro e w1 ⟨rfl, rfl⟩)
    )
  go_ret
  exact ⟨rfl, rfl⟩
theorem cut_any (A : Option Addr) (cap : Nat) (L : List Cm) (w : World) (hc : L.length ≤ cap) : Calls Try.prog 12 #[.slice A L.length cap] w fun x w' => x = .returned (.slice A (L.take 40).length cap) ∧ w = w' := by
  obtain ⟨n, hn⟩ : ∃ n, n = L.length := ⟨_, rfl⟩
  rw [List.length_take, ← hn]
  rw [← hn] at hc
  by_cases h : 40 < n
  · have h' : (40 : Int) < n := by omega
    have hc' : (40 : Int) ≤ cap := by omega
    rw [Nat.min_eq_left (by omega)]
    clear hn
    go_enter Try.func12, Try.ntmps12
    go_wp2
    go_ret
    exact ⟨rfl, rfl⟩
  · have h' : ¬ (40 : Int) < n := by omega
    rw [Nat.min_eq_right (by omega)]
    clear hn
    go_enter Try.func12, Try.ntmps12
    go_wp2
    go_ret
    exact ⟨rfl, rfl⟩
theorem claim_at {w : World} {A : Option Addr} {L : List Cm} (h : Sq encC 2 w w.heap.size A L) {k : Nat} (hk : k < L.length) : ∃ b off x, A = some ⟨b, off, none⟩ ∧ b < w.heap.size ∧ L[k]? = some x ∧ w.cell? ⟨b, off + k * 2, none⟩ = some (.int .i64 x.wt) ∧ w.cell? ⟨b, off + k * 2 + 1, none⟩ = some (.int .i64 x.wg) := by
  obtain ⟨b, off, x, rfl, hb, hx, _, hc⟩ := h.at_ hk
  exact ⟨b, off, x, rfl, hb, hx, hc 0 (by decide), hc 1 (by decide)⟩
set_option maxRecDepth 100000 in
set_option maxHeartbeats 4000000 in
theorem shareAll_walk (v0 v1 : Value) (w : World) (h0 : Kd.Fit w (.int .u32) v0) (h1 : Kd.Fit w (.slc (.agg [.int .i64, .int .i64])) v1) : Calls Try.prog 4 #[v0, v1] w fun e w' => e = .returned (.bool true) ∧ Below w.heap.size w w' := by
  obtain ⟨z, rfl, hz⟩ := Kd.int_is (w := w) h0
  obtain ⟨LL, A, cap, rfl, hc, hm, hS⟩ := Kd.claims h1
  have hz0 : 0 ≤ z := by
    have : 0 ≤ z ∧ z ≤ 4294967295 := by simpa [Lit.wf, IntKind.min, IntKind.max, IntKind.signed, IntKind.bits] using hz
    exact this.1
  unfold maxLen at hm
  have HC := Lib.hid (fun W => cut_any A cap LL W hc)
  have hS2 := hS.take 40
  have hc2 : (LL.take 40).length ≤ cap := by rw [List.length_take]; omega
  have h40 : (LL.take 40).length ≤ 40 := by rw [List.length_take]; omega
  generalize LL.take 40 = L at *
  obtain ⟨whole, hwh, hw0, hw1⟩ : ∃ whole : Int, z % 2147483648 = whole ∧ 0 ≤ whole ∧ whole ≤ 2147483647 := ⟨_, rfl, by omega, by omega⟩
  have HSh := Lib.hid (fun W (h : Only Nil w W) => Share_any (cap := cap) W (hS2.go h) hc2 hw0 hw1 (by omega))
  have HLf := Lib.hid (fun W (h : Only Nil w W) => Left_any (cap := cap) W (hS2.go h) hc2 hw0 hw1 (by omega))
  obtain ⟨g1, g2, g3⟩ := shOut_all whole L hw0 hw1 (by omega)
  have hGl := (shOut_ok whole L hw0 hw1 (by omega)).2.1
  rw [g2] at HLf
  obtain ⟨G, hG⟩ : ∃ G, G = (shOut whole L).2 := ⟨_, rfl⟩
  rw [← hG] at HSh HLf g1 g3 hGl
  have HW := Lib.hid (fun (i : Nat) x (hx : L[i]? = some x) => wts_at hx)
  have HS := Lib.hid hS2
  obtain ⟨n, hn⟩ : ∃ n, n = L.length := ⟨_, rfl⟩
  have HN := Lib.hid hn
  rw [← hn] at HC HSh HLf g1 g3 hc2 h40
  have HG1 := Lib.hid g1
  have HG3 := Lib.hid g3
  have hGn : (G.take n).length = n := by rw [List.length_take]; omega
  have HGN := Lib.hid hGn
  have HGL := Lib.hid hGl
  generalize wts L = P at *
  clear h0 h1 hz hS hS2 g1 g2 g3 hG hn hc hGn hGl
  go_enter Try.func4, Try.ntmps4
  go_wp2_with (first
    | (go_at_call 12; (with_reducible refine (HC.out _).mono ?_); rintro e w0 ⟨rfl, rfl⟩)
    | (go_at_call 8; (with_reducible refine (HSh.out _ (Only.refl _ _)).mono ?_); rintro e w1 ⟨A1, c1, rfl, hO1, ho1⟩; have HO1 := Lib.hid ho1; have HQ1 := Lib.hid (hO1.sqn (fun _ _ => rfl)); have hc1 := hO1.len.2.1; have hc1m := hO1.len.2.2; clear hO1 ho1)
    | (go_at_call 7; (with_reducible refine (awake_any _).mono ?_); rintro e w2 ⟨rfl, ho2⟩; have HO2 := Lib.hid (HO1.out.trans ho2); have HQ2 := Lib.hid (HQ1.out.go ho2); clear ho2)
    )
  go_loopw [8, 9, 10] (fun ss ww ii wr => ∃ (k : Nat) (s q : Int), k ≤ n ∧ ss = .int .i64 s ∧ ww = .int .i64 q ∧ ii = .int .i64 k ∧ Hid (s = sumK G k) ∧ Hid (q = sumK P k) ∧ 0 ≤ s ∧ s ≤ k * 2147483647 ∧ 0 ≤ q ∧ q ≤ k * 2147483647 ∧ Only Nil w2 wr) (fun _ _ ii _ => n - (intOf ii).toNat)
  case atStart => exact ⟨0, 0, 0, Nat.zero_le _, rfl, rfl, rfl, Lib.hid rfl, Lib.hid rfl, by omega, by omega, by omega, by omega, Only.refl _ _⟩
  case round =>
    obtain ⟨k, s, q, hk, rfl, rfl, rfl, hs, hq, s0, s1, q0, q1, ho⟩ := hrel
    have ho2 := HO2.out.trans ho
    by_cases hlt : k < n
    · have hlt' : (k : Int) < n := by omega
      obtain ⟨b, off, x, rfl, hb, hx, p0, p1⟩ := claim_at (HS.out.go ho2) (k := k) (by rw [← HN.out]; exact hlt)
      obtain ⟨b2, off2, y, rfl, hb2, hy, r0⟩ := ints_at (HQ2.out.go ho) (k := k) (by rw [HGN.out]; exact hlt)
      have hyg : G.getD k 0 = y := by
        rw [List.getElem?_take_of_lt hlt] at hy
        rw [List.getD_eq_getElem?_getD, hy]
        rfl
      have hxw := HW.out k x hx
      have hg := HG1.out k hlt
      have hwb := wantC_bd x.wt
      rw [hxw, hyg] at hg
      have HS2 : Hid (s + y = sumK G (k + 1)) := Lib.hid (by rw [sumK, hyg, hs.out])
      have HP2 : Hid (q + wantC x.wt = sumK P (k + 1)) := Lib.hid (by rw [sumK, hxw, hq.out])
      have HWT := Lib.hid (fun W => Want_any x.wt W)
      obtain ⟨wt, wg⟩ := x
      simp only at p0 p1 hg hwb HP2 HWT
      generalize wantC wt = t at *
      have HO := Lib.hid ho
      have e1 : ¬ y < 0 := by omega
      have e2 : ¬ t < y := by omega
      clear hx hy hyg hxw hs hq ho
      go_wp2_with (first
        | (go_at_call 13; (with_reducible refine (HWT.out _).mono ?_); rintro e w3 ⟨rfl, rfl⟩)
        )
      go_roundw
      case rel => exact ⟨k + 1, s + y, q + t, by omega, by go_num, by go_num, by go_num, HS2, HP2, by omega, by push_cast; omega, by omega, by push_cast; omega, HO.out⟩
      case measure => simp [intOf]; omega
    · obtain rfl : k = n := by omega
      have hlt' : ¬ (k : Int) < k := by omega
      have hfin := HG3.out
      rw [← hs.out, ← hq.out] at hfin
      have HL2 := Lib.hid (HLf.out _ ho2)
      rw [← hs.out] at HL2
      have HO2' := Lib.hid ho2
      clear hs hq ho ho2 HLf
      by_cases hqw : q < whole
      · rw [if_pos hqw] at hfin
        subst hfin
        go_wp2_with (first
          | (go_at_call 9; (with_reducible refine (HL2.out).mono ?_); rintro e w3 ⟨rfl, ho3⟩)
          )
        go_ret
        exact ⟨rfl, (HO2'.out.trans ho3).below (Nat.le_refl _) (fun _ _ hh => hh)⟩
      · rw [if_neg hqw] at hfin
        subst hfin
        go_wp2_with (first
          | (go_at_call 9; (with_reducible refine (HL2.out).mono ?_); rintro e w3 ⟨rfl, ho3⟩)
          )
        go_ret
        exact ⟨rfl, (HO2'.out.trans ho3).below (Nat.le_refl _) (fun _ _ hh => hh)⟩
/-! The step from the walk to the statement of ShareAll. -/
namespace frShareAll
open Go.ChangeShapes Go.WideShapes Go.ChangeAt Go.RowKit
set_option linter.unusedVariables false
theorem own : ownKnob Try.prog.godebug = none := by kernel_rfl
theorem laidOut : laidOutB Try.prog = true := by kernel_rfl
theorem shape0 : Kd.ok Try.prog (.int .u32) 32 = true := by kernel_rfl
theorem shape1 : Kd.ok Try.prog (.slc (.agg [.int .i64, .int .i64])) 22 = true := by kernel_rfl
set_option maxRecDepth 100000 in
theorem contract (H : Type) (enc : TypeId × Value → H) (W : World) (base : Nat) (args : Array Value) (ds gs : List (DataW H)) (before : List MemPlace)
    (hval : ∀ (j : Nat) t v, Try.f4.params[j]? = some t → args[j]? = some v → Value.okWide Try.prog W .any base t v)
    (hW : DataW.Whole enc Try.prog Try.f4.params.toList Rows.shareAllSpec.vars false W args.toList ds gs before) :
    Calls Try.prog 4 args W fun e W' => ∃ v, e = .returned v ∧ Rows.shareAllSpec.post enc Try.prog Try.f4 false true false false W args v W' := by
  have hW' := hW
  obtain ⟨p, q, hA0, hV, rfl, hfz, hnd⟩ := hW
  have hA : DataW.TrodAll enc Try.prog W 0 (fun _ => true) true Try.f4.params.toList args.toList ds p := hA0
  rw [Try.params4] at hA hval
  obtain ⟨v0, vs0, d0, ds0, p0, q0, hargs, rfl, rfl, h0, r0⟩ := trodAll_cons hA
  obtain ⟨v1, vs1, d1, ds1, p1, q1, rfl, rfl, rfl, h1, r1⟩ := trodAll_cons r0
  obtain ⟨rfl, rfl, rfl⟩ := trodAll_nil r1
  obtain rfl : args = #[v0, v1] := by cases args; simp_all
  obtain ⟨rfl, rfl⟩ := trodVars_none hV
  have k0 := Kd.fit _ shape0 (hval 0 32 v0 rfl rfl) h0
  have lt0 : ∀ x ∈ p0, x.block < W.heap.size := by obtain ⟨m, hm⟩ := h0; exact DataW.trod_lt m _ _ _ hm
  have k1 := Kd.fit _ shape1 (hval 1 22 v1 rfl rfl) h1
  have lt1 : ∀ x ∈ p1, x.block < W.heap.size := by obtain ⟨m, hm⟩ := h1; exact DataW.trod_lt m _ _ _ hm
  refine (shareAll_walk v0 v1 W k0 k1).mono fun e W' ⟨he, bel⟩ => ?_
  subst he
  exact ⟨_, rfl, _, _, _, [], _, [], hW', trodAll_mk1 (shut_bool Try.underlying4 _), (trodAll_cons_mk (Below.trod laidOut (by kernel_rfl) (of_decide_eq_true (by kernel_rfl)) h0 bel lt0) (trodAll_cons_mk (Below.trod laidOut (by kernel_rfl) (of_decide_eq_true (by kernel_rfl)) h1 bel lt1) trodAll_mk0)), rfl, bel.frame _, fun h => by cases h⟩
set_option maxRecDepth 100000 in
theorem lifted (os : Os) (started : os.Started) (H : Type) (enc : TypeId × Value → H) :
    ReturnsInHanded {} Try.checked os 4 .any (Rows.shareAllSpec.pre6 enc Try.prog Try.f4 Rows.shareAllRow.domain false) (Rows.shareAllSpec.post enc Try.prog Try.f4 false true false false) := by
  refine returnsInHanded_of_change (C := Try.checked) own started (by kernel_rfl) Try.func4
    (ChangeSpec.witness6 (enc := enc) (C := Try.checked) false ⟨#[], #[.int .u32 0, .slice none 0 0], []⟩ 8 (by kernel_rfl) (by kernel_rfl) (by kernel_rfl) (by kernel_rfl)) ?_
  intro W base args ds gs before hval hW _ _
  exact contract H enc W base args ds gs before hval hW
theorem over : Rows.shareAllRow.holds Try.pinned (OpenSpec.ofChange Rows.shareAllSpec) :=
  OpenClaim.holds_of_wide 4 Try.f4 rfl rfl rfl rfl rfl rfl rfl ⟨rfl, rfl, rfl, rfl, rfl⟩ rfl rfl rfl rfl rfl (by kernel_rfl) Try.func4 (by kernel_rfl)
    (of_decide_eq_true (by kernel_rfl)) (by unfold Func.isWrapper; first | (rw [if_pos (by decide +kernel)]; kernel_rfl) | (rw [if_neg (by decide +kernel)]; exact ⟨rfl, rfl⟩))
    (fun os started H enc _ => lifted os started H enc)
theorem proved : Rows.ShareAllSaid := over
end frShareAll
end Go.Proofs.Ytfmeidnpcbfloaa
