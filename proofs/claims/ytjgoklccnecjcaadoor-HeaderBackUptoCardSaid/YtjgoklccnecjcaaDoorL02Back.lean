/- For every header and every two texts: what was put is got as it was, whatever stands behind it; what is got is put as the very bytes (the statement HeaderBack, as its card is given, where what it reads is of bulk at most 1048576). -/
import Derived.Test.YtjgoklccnecjcaaDoorCards
import Derived.Test.YtjgoklccnecjcaaDoorTie
import Derived.Test.YtjgoklccnecjcaaDoorAwake02
import Derived.Test.YtjgoklccnecjcaaDoorHeadBack
import Derived.Deep.DeepHandedRow
namespace Go.Proofs.YtjgoklccnecjcaaDoor
open Go.RowKit

theorem Kd.ints4' {w : World} {k0 k1 k2 k3 : IntKind} {v : Value} (h : Kd.Fit w (.agg [.int k0, .int k1, .int k2, .int k3]) v) :
    ∃ a b c d, v = .agg #[.int k0 a, .int k1 b, .int k2 c, .int k3 d] ∧ (Lit.int k0 a).wf = true ∧ (Lit.int k1 b).wf = true ∧ (Lit.int k2 c).wf = true ∧ (Lit.int k3 d).wf = true := by
  obtain ⟨cs, rfl, hc⟩ := h
  obtain ⟨v0, c0, rfl, i0, h0⟩ := Kd.headL rfl hc
  obtain ⟨a, rfl, wa⟩ := Kd.int_is i0
  obtain ⟨b, c, d, rfl, wb, wc, wd⟩ := Kd.list_ints3 h0
  exact ⟨a, b, c, d, rfl, wa, wb, wc, wd⟩
theorem bulk_of3 {H : Type} {enc : TypeId × Value → H} {W : World} {base : Nat} {sp : Nat → Bool} {hd : Bool} {t0 t1 : TypeId} {v0 v1 v2 : Value} {d0 d1 d2 : DataW H} {p0 p1 p2 : List MemPlace}
    (_h0 : DataW.Trod enc Tryd.prog W base sp hd t0 v0 d0 p0) (_h1 : DataW.Trod enc Tryd.prog W base sp hd t1 v1 d1 p1) (h2 : DataW.Trod enc Tryd.prog W base sp hd 9 v2 d2 p2) {g : List (DataW H)} (hb : Rows.uptoBulkAll ([d0, d1, d2] ++ g) ≤ 1048576) : ∀ S, v2 = .string S → S.size ≤ 1048576 := by
  intro S hS
  obtain ⟨fuel, hf⟩ := h2
  subst hS
  obtain ⟨s, hc, hx, _⟩ := DataW.trod_string Tryd.underlying9 hf
  have e : S = s := by simpa [Value.cells] using hc
  injection hx with h2 h3
  subst h2
  subst e
  simp [Rows.uptoBulkAll, Rows.uptoBulk] at hb
  omega
/-- what is got: nothing, or a header that may be laid -/
theorem getR_cases (S : ByteArray) : (∃ Y g, getR S = getV Y g ∧ g ≠ 0) ∨ (∃ Y : Hd, getR S = getV Y 0 ∧ Y.ok ∧ rightH Y = true ∧ 9 ≤ S.size ∧ layR Y = S.extract 0 9) := by
  unfold getR
  by_cases h9 : S.size < 9
  · rw [if_pos h9]
    exact .inl ⟨_, _, rfl, by decide⟩
  · rw [if_neg h9]
    by_cases hs : 2147483647 < (hdOf S).s
    · rw [if_pos hs]
      exact .inl ⟨_, _, rfl, by decide⟩
    · rw [if_neg hs]
      obtain ⟨hr, hl⟩ := lay_hdOf S (by omega) (by omega)
      refine .inr ⟨_, rfl, ?_, hr, by omega, hl⟩
      generalize hdOf S = Y at *
      unfold rightH at hr
      simp only [Bool.and_eq_true, decide_eq_true_eq] at hr
      obtain ⟨⟨⟨⟨⟨⟨⟨l0, l1⟩, t0⟩, t1⟩, f0⟩, f1⟩, s0⟩, s1⟩ := hr
      refine ⟨?_, ?_, ?_, ?_⟩ <;> unfold i64Ok <;> omega
set_option maxRecDepth 100000 in
set_option maxHeartbeats 8000000 in
theorem headerBack_walk (v0 v1 v2 : Value) (w : World) (h0 : Kd.Fit w (.agg [.int .i64, .int .i64, .int .i64, .int .i64]) v0) (h1 : Kd.Fit w .str v1) (h2 : Kd.Fit w .str v2) (hT : Tab w 0 tab_header_needs) (hk : ∀ S, v2 = .string S → S.size ≤ 1048576) :
    Calls Tryd.prog 5 #[v0, v1, v2] w fun e w' => e = .returned (.bool true) ∧ Below w.heap.size w w' := by
  obtain ⟨l, t, f, s, rfl, q0, q1, q2, q3⟩ := Kd.ints4' h0
  obtain ⟨S, rfl, _⟩ := Kd.str_fit h1
  obtain ⟨B, rfl, _⟩ := Kd.str_fit h2
  have hB := hk B rfl
  have hok : Hd.ok ⟨l, t, f, s⟩ := ⟨i64Ok_of q0, i64Ok_of q1, i64Ok_of q2, i64Ok_of q3⟩
  clear h0 h1 h2 q0 q1 q2 q3 hk
  have hP := fun W => Put_any ⟨l, t, f, s⟩ W hok
  have hG := fun W => Get_any S W
  cases hr : rightH ⟨l, t, f, s⟩
  · obtain ⟨e1, e2⟩ := S_wrong hr
    rw [e1, e2] at hP
    have HP := Lib.hid hP
    have HB : Hid True := Lib.hid trivial
    clear hP e1 e2 hr hok
    rcases getR_cases S with ⟨⟨yl, yt, yf, ys⟩, g, hg, hg0⟩ | ⟨⟨yl, yt, yf, ys⟩, hg, hyok, hyr, h9, hlay⟩
    · rw [hg] at hG
      unfold getV at hG
      have HG := Lib.hid hG
      have hg1 : (g == 0) = false := by simpa using hg0
      have hg2 : (g != 0) = true := by simpa using hg0
      have HY : Hid True := Lib.hid trivial
      clear hG hg hg0 HY
      have hb0 : Blk (w.alloc (.cells #[.int .i64 l, .int .i64 t, .int .i64 f, .int .i64 s] 23)) w.heap.size 23 #[.int .i64 l, .int .i64 t, .int .i64 f, .int .i64 s] := Blk.new _ _ _
      have hx0 := (Only.refl Nil w).alloc (.cells #[.int .i64 l, .int .i64 t, .int .i64 f, .int .i64 s] 23)
      go_enter Tryd.func5, Tryd.ntmps5
      go_wp2_with (first
        | (go_at_call 6; (with_reducible refine (HP.out _).mono ?_); rintro e w1 ⟨rfl, ho1⟩; have hb1 := hb0.kept ho1 (fun hh => hh); have hx1 := hx0.trans ho1)
        | (go_at_call 7; (with_reducible refine (HB.out _).mono ?_); rintro e w2 ⟨rfl, ho2⟩; have hb2 := hb1.kept ho2 (fun hh => hh); have c0 := hb2.cell 0; have c1 := hb2.cell 1; have c2 := hb2.cell 2; have c3 := hb2.cell 3; have z2 := hb2.lt; have hx1 := (hx1.trans ho2).alloc (.cells #[.int .i64 l, .int .i64 t, .int .i64 f, .int .i64 s] 23))
        | (go_at_call 7; (with_reducible refine (HG.out _).mono ?_); rintro e w3 ⟨rfl, ho3⟩; have hx3 := (hx1.trans ho3).alloc (.cells #[.int .i64 yl, .int .i64 yt, .int .i64 yf, .int .i64 ys] 23); have hT3 := hT.kept hx3 (fun hh => hh))
        | (go_at_call 6; (with_reducible refine (HY.out _).mono ?_); rintro e w4 ⟨rfl, ho4⟩; have hT3 := hT3.kept ho4 (fun hh => hh); have hx3 := hx3.trans ho4)
        | (go_at_call 10; (with_reducible refine (awake_any _ hT3).mono ?_); rintro e w5 ⟨rfl, ho5⟩; have hx5 := hx3.trans ho5)
        )
      go_ret
      exact ⟨rfl, hx5.below (Nat.le_refl _) (fun _ _ hh => hh)⟩
    · rw [hg] at hG
      unfold getV at hG
      have HG := Lib.hid hG
      have hY := fun W => Put_any ⟨yl, yt, yf, ys⟩ W hyok
      obtain ⟨e3, e4⟩ := S_right hyr
      rw [e3, e4, hlay] at hY
      have HY := Lib.hid hY
      have h9' : (9 : Int) ≤ (S.size : Int) := by omega
      clear hG hg hY e3 e4 hlay hyok hyr
      have hb0 : Blk (w.alloc (.cells #[.int .i64 l, .int .i64 t, .int .i64 f, .int .i64 s] 23)) w.heap.size 23 #[.int .i64 l, .int .i64 t, .int .i64 f, .int .i64 s] := Blk.new _ _ _
      have hx0 := (Only.refl Nil w).alloc (.cells #[.int .i64 l, .int .i64 t, .int .i64 f, .int .i64 s] 23)
      go_enter Tryd.func5, Tryd.ntmps5
      go_wp2_with (first
        | (go_at_call 6; (with_reducible refine (HP.out _).mono ?_); rintro e w1 ⟨rfl, ho1⟩; have hb1 := hb0.kept ho1 (fun hh => hh); have hx1 := hx0.trans ho1)
        | (go_at_call 7; (with_reducible refine (HB.out _).mono ?_); rintro e w2 ⟨rfl, ho2⟩; have hb2 := hb1.kept ho2 (fun hh => hh); have c0 := hb2.cell 0; have c1 := hb2.cell 1; have c2 := hb2.cell 2; have c3 := hb2.cell 3; have z2 := hb2.lt; have hx1 := (hx1.trans ho2).alloc (.cells #[.int .i64 l, .int .i64 t, .int .i64 f, .int .i64 s] 23))
        | (go_at_call 7; (with_reducible refine (HG.out _).mono ?_); rintro e w3 ⟨rfl, ho3⟩; have hx3 := (hx1.trans ho3).alloc (.cells #[.int .i64 yl, .int .i64 yt, .int .i64 yf, .int .i64 ys] 23); have hT3 := hT.kept hx3 (fun hh => hh))
        | (go_at_call 6; (with_reducible refine (HY.out _).mono ?_); rintro e w4 ⟨rfl, ho4⟩; have hT3 := hT3.kept ho4 (fun hh => hh); have hx3 := hx3.trans ho4)
        | (go_at_call 10; (with_reducible refine (awake_any _ hT3).mono ?_); rintro e w5 ⟨rfl, ho5⟩; have hx5 := hx3.trans ho5)
        )
      go_ret
      exact ⟨rfl, hx5.below (Nat.le_refl _) (fun _ _ hh => hh)⟩
  · obtain ⟨e1, e2⟩ := S_right hr
    have hBk := fun W => Get_any (layR ⟨l, t, f, s⟩ ++ B) W
    rw [getR_lay _ _ hr] at hBk
    unfold getV at hBk
    have hXs : (layR ⟨l, t, f, s⟩).size ≤ 9 := by unfold layR; rw [strOf_size]; simp [numB_length]
    rw [e1, e2] at hP
    generalize layR ⟨l, t, f, s⟩ = X at hP hBk hXs
    have y1 : X.size + B.size ≤ 9223372036854775807 := by omega
    have HP := Lib.hid hP
    have HB := Lib.hid hBk
    clear hP hBk e1 e2 hr hok hXs
    rcases getR_cases S with ⟨⟨yl, yt, yf, ys⟩, g, hg, hg0⟩ | ⟨⟨yl, yt, yf, ys⟩, hg, hyok, hyr, h9, hlay⟩
    · rw [hg] at hG
      unfold getV at hG
      have HG := Lib.hid hG
      have hg1 : (g == 0) = false := by simpa using hg0
      have hg2 : (g != 0) = true := by simpa using hg0
      have HY : Hid True := Lib.hid trivial
      clear hG hg hg0 HY
      have hb0 : Blk (w.alloc (.cells #[.int .i64 l, .int .i64 t, .int .i64 f, .int .i64 s] 23)) w.heap.size 23 #[.int .i64 l, .int .i64 t, .int .i64 f, .int .i64 s] := Blk.new _ _ _
      have hx0 := (Only.refl Nil w).alloc (.cells #[.int .i64 l, .int .i64 t, .int .i64 f, .int .i64 s] 23)
      go_enter Tryd.func5, Tryd.ntmps5
      go_wp2_with (first
        | (go_at_call 6; (with_reducible refine (HP.out _).mono ?_); rintro e w1 ⟨rfl, ho1⟩; have hb1 := hb0.kept ho1 (fun hh => hh); have hx1 := hx0.trans ho1)
        | (go_at_call 7; (with_reducible refine (HB.out _).mono ?_); rintro e w2 ⟨rfl, ho2⟩; have hb2 := hb1.kept ho2 (fun hh => hh); have c0 := hb2.cell 0; have c1 := hb2.cell 1; have c2 := hb2.cell 2; have c3 := hb2.cell 3; have z2 := hb2.lt; have hx1 := (hx1.trans ho2).alloc (.cells #[.int .i64 l, .int .i64 t, .int .i64 f, .int .i64 s] 23))
        | (go_at_call 7; (with_reducible refine (HG.out _).mono ?_); rintro e w3 ⟨rfl, ho3⟩; have hx3 := (hx1.trans ho3).alloc (.cells #[.int .i64 yl, .int .i64 yt, .int .i64 yf, .int .i64 ys] 23); have hT3 := hT.kept hx3 (fun hh => hh))
        | (go_at_call 6; (with_reducible refine (HY.out _).mono ?_); rintro e w4 ⟨rfl, ho4⟩; have hT3 := hT3.kept ho4 (fun hh => hh); have hx3 := hx3.trans ho4)
        | (go_at_call 10; (with_reducible refine (awake_any _ hT3).mono ?_); rintro e w5 ⟨rfl, ho5⟩; have hx5 := hx3.trans ho5)
        )
      go_ret
      exact ⟨rfl, hx5.below (Nat.le_refl _) (fun _ _ hh => hh)⟩
    · rw [hg] at hG
      unfold getV at hG
      have HG := Lib.hid hG
      have hY := fun W => Put_any ⟨yl, yt, yf, ys⟩ W hyok
      obtain ⟨e3, e4⟩ := S_right hyr
      rw [e3, e4, hlay] at hY
      have HY := Lib.hid hY
      have h9' : (9 : Int) ≤ (S.size : Int) := by omega
      clear hG hg hY e3 e4 hlay hyok hyr
      have hb0 : Blk (w.alloc (.cells #[.int .i64 l, .int .i64 t, .int .i64 f, .int .i64 s] 23)) w.heap.size 23 #[.int .i64 l, .int .i64 t, .int .i64 f, .int .i64 s] := Blk.new _ _ _
      have hx0 := (Only.refl Nil w).alloc (.cells #[.int .i64 l, .int .i64 t, .int .i64 f, .int .i64 s] 23)
      go_enter Tryd.func5, Tryd.ntmps5
      go_wp2_with (first
        | (go_at_call 6; (with_reducible refine (HP.out _).mono ?_); rintro e w1 ⟨rfl, ho1⟩; have hb1 := hb0.kept ho1 (fun hh => hh); have hx1 := hx0.trans ho1)
        | (go_at_call 7; (with_reducible refine (HB.out _).mono ?_); rintro e w2 ⟨rfl, ho2⟩; have hb2 := hb1.kept ho2 (fun hh => hh); have c0 := hb2.cell 0; have c1 := hb2.cell 1; have c2 := hb2.cell 2; have c3 := hb2.cell 3; have z2 := hb2.lt; have hx1 := (hx1.trans ho2).alloc (.cells #[.int .i64 l, .int .i64 t, .int .i64 f, .int .i64 s] 23))
        | (go_at_call 7; (with_reducible refine (HG.out _).mono ?_); rintro e w3 ⟨rfl, ho3⟩; have hx3 := (hx1.trans ho3).alloc (.cells #[.int .i64 yl, .int .i64 yt, .int .i64 yf, .int .i64 ys] 23); have hT3 := hT.kept hx3 (fun hh => hh))
        | (go_at_call 6; (with_reducible refine (HY.out _).mono ?_); rintro e w4 ⟨rfl, ho4⟩; have hT3 := hT3.kept ho4 (fun hh => hh); have hx3 := hx3.trans ho4)
        | (go_at_call 10; (with_reducible refine (awake_any _ hT3).mono ?_); rintro e w5 ⟨rfl, ho5⟩; have hx5 := hx3.trans ho5)
        )
      go_ret
      exact ⟨rfl, hx5.below (Nat.le_refl _) (fun _ _ hh => hh)⟩
/-! The step from the walk to the statement of HeaderBack. -/
namespace frHeaderBack
open Go.ChangeShapes Go.WideShapes Go.ChangeAt Go.RowKit
set_option linter.unusedVariables false
theorem own : ownKnob Tryd.prog.godebug = none := by kernel_rfl
theorem laidOut : laidOutB Tryd.prog = true := by kernel_rfl
theorem shape0 : Kd.ok Tryd.prog (.agg [.int .i64, .int .i64, .int .i64, .int .i64]) 23 = true := by kernel_rfl
theorem shape1 : Kd.ok Tryd.prog (.str) 9 = true := by kernel_rfl
theorem shape2 : Kd.ok Tryd.prog (.str) 9 = true := by kernel_rfl
theorem tabs {W : World} (h : laidMetH Tryd.prog Rows.headerBackUptoRow.laid W) : Tab W 0 tab_header_needs := by
  have h0 : laidMet Tryd.prog [("paternoster/header.needs", Rows.laid_paternoster_header_needs)] W := h
  obtain ⟨t0, h1⟩ := Tab.of_var tab_header_needs_g tab_header_needs_ty tab_header_needs_ok tab_header_needs_vals (by decide) h0
  exact t0
set_option maxRecDepth 100000 in
theorem contract (H : Type) (enc : TypeId × Value → H) (W : World) (base : Nat) (args : Array Value) (ds gs : List (DataW H)) (before : List MemPlace)
    (hval : ∀ (j : Nat) t v, Tryd.f5.params[j]? = some t → args[j]? = some v → Value.okWide Tryd.prog W .any base t v)
    (hW : DataW.Whole enc Tryd.prog Tryd.f5.params.toList Rows.headerBackSpec.vars false W args.toList ds gs before) (hL : laidMetH Tryd.prog Rows.headerBackUptoRow.laid W) (hk : Rows.uptoSmall H (ds ++ gs) = true) :
    Calls Tryd.prog 5 args W fun e W' => ∃ v, e = .returned v ∧ Rows.headerBackSpec.post enc Tryd.prog Tryd.f5 false true false false W args v W' := by
  have hT := tabs hL
  have hW' := hW
  obtain ⟨p, q, hA0, hV, rfl, hfz, hnd⟩ := hW
  have hA : DataW.TrodAll enc Tryd.prog W 0 (fun _ => true) true Tryd.f5.params.toList args.toList ds p := hA0
  rw [Tryd.params5] at hA hval
  obtain ⟨v0, vs0, d0, ds0, p0, q0, hargs, rfl, rfl, h0, r0⟩ := trodAll_cons hA
  obtain ⟨v1, vs1, d1, ds1, p1, q1, rfl, rfl, rfl, h1, r1⟩ := trodAll_cons r0
  obtain ⟨v2, vs2, d2, ds2, p2, q2, rfl, rfl, rfl, h2, r2⟩ := trodAll_cons r1
  obtain ⟨rfl, rfl, rfl⟩ := trodAll_nil r2
  obtain rfl : args = #[v0, v1, v2] := by cases args; simp_all
  obtain ⟨rfl, rfl⟩ := trodVars_none hV
  have k0 := Kd.fit _ shape0 (hval 0 23 v0 rfl rfl) h0
  have lt0 : ∀ x ∈ p0, x.block < W.heap.size := by obtain ⟨m, hm⟩ := h0; exact DataW.trod_lt m _ _ _ hm
  have k1 := Kd.fit _ shape1 (hval 1 9 v1 rfl rfl) h1
  have lt1 : ∀ x ∈ p1, x.block < W.heap.size := by obtain ⟨m, hm⟩ := h1; exact DataW.trod_lt m _ _ _ hm
  have k2 := Kd.fit _ shape2 (hval 2 9 v2 rfl rfl) h2
  have lt2 : ∀ x ∈ p2, x.block < W.heap.size := by obtain ⟨m, hm⟩ := h2; exact DataW.trod_lt m _ _ _ hm
  have hb := of_decide_eq_true hk
  refine (headerBack_walk v0 v1 v2 W k0 k1 k2 hT (bulk_of3 h0 h1 h2 hb)).mono fun e W' ⟨he, bel⟩ => ?_
  subst he
  exact ⟨_, rfl, _, _, _, [], _, [], hW', trodAll_mk1 (shut_bool Tryd.underlying4 _), (trodAll_cons_mk (Below.trod laidOut (by kernel_rfl) (of_decide_eq_true (by kernel_rfl)) h0 bel lt0) (trodAll_cons_mk (Below.trod laidOut (by kernel_rfl) (of_decide_eq_true (by kernel_rfl)) h1 bel lt1) (trodAll_cons_mk (Below.trod laidOut (by kernel_rfl) (of_decide_eq_true (by kernel_rfl)) h2 bel lt2) trodAll_mk0))), rfl, bel.frame _, fun h => by cases h⟩
noncomputable def laidWorld (os : Os) : World := { World.holding Tryd.prog os ⟨#[], #[], []⟩ with heap := ((World.holding Tryd.prog os ⟨#[], #[], []⟩).heap.modify 0 fun | .cells _ t frozen => .cells tab_header_needs t frozen | o => o) }
theorem laid_met (os : Os) : laidMet Tryd.prog Rows.headerBackUptoRow.laid ((laidWorld os).forCall (fun _ _ => 0) ⟨#[], #[.agg #[.int .i64 0, .int .i64 0, .int .i64 0, .int .i64 0], .string ByteArray.empty, .string ByteArray.empty], []⟩).memory :=
  laidMet_of_run' 8 (by kernel_rfl) (by kernel_rfl)
theorem reads (os : Os) {H : Type} (enc : TypeId × Value → H) : ∃ places, DataW.whole enc Tryd.prog ((laidWorld os).forCall (fun _ _ => 0) ⟨#[], #[.agg #[.int .i64 0, .int .i64 0, .int .i64 0, .int .i64 0], .string ByteArray.empty, .string ByteArray.empty], []⟩).memory Tryd.f5.params.toList Rows.headerBackSpec.vars false (#[.agg #[.int .i64 0, .int .i64 0, .int .i64 0, .int .i64 0], .string ByteArray.empty, .string ByteArray.empty] : Array Value).toList 8 = some ([.agg [.lit (.int .i64 0), .lit (.int .i64 0), .lit (.int .i64 0), .lit (.int .i64 0)], .lit (.string []), .lit (.string [])], [], places) :=
  ⟨[], by kernel_rfl⟩
set_option maxRecDepth 100000 in
theorem lifted (os : Os) (started : os.Started) (H : Type) (enc : TypeId × Value → H) (F : Stop.Interp) :
    ReturnsInHanded {} Tryd.checked os 5 .any ((Rows.OpenSpec.upto Rows.headerBackSpec).preRow enc Tryd.prog Tryd.f5 Rows.headerBackUptoRow.domain false Rows.headerBackUptoRow.laid) (((Rows.OpenSpec.upto Rows.headerBackSpec).at F).post enc Tryd.prog Tryd.f5 false true false false) := by
  obtain ⟨places, hx⟩ := reads os enc
  refine returnsInHanded_of_row (C := Tryd.checked) (s := (Rows.OpenSpec.upto Rows.headerBackSpec)) own started (by kernel_rfl) Tryd.func5
    (witness_row_at (enc := enc) (C := Tryd.checked) false (laidWorld os) #[.agg #[.int .i64 0, .int .i64 0, .int .i64 0, .int .i64 0], .string ByteArray.empty, .string ByteArray.empty] rfl (by kernel_rfl) (by kernel_rfl) (by kernel_rfl)
      (OpenSpec.preRow_of_cond 8 hx (by kernel_rfl) (fun k hk => by cases hk; kernel_rfl) (by kernel_rfl) (laid_met os))) ?_
  intro W base args ds gs before hval hW _ hcond _ hL _ _
  exact contract H enc W base args ds gs before hval hW hL (hcond _ rfl)
theorem said : Rows.HeaderBackUptoSaid :=
  OpenClaim.holds_of_cond 5 Tryd.f5 rfl rfl rfl rfl rfl rfl rfl ⟨rfl, rfl, rfl, rfl, rfl⟩ rfl rfl rfl rfl rfl (by kernel_rfl) Tryd.func5 (by kernel_rfl)
    (of_decide_eq_true (by kernel_rfl)) (by unfold Func.isWrapper; first | (rw [if_pos (by decide +kernel)]; kernel_rfl) | (rw [if_neg (by decide +kernel)]; exact ⟨rfl, rfl⟩))
    (fun os started H enc _ F => by rw [OpenClaim.pre_eq_preRow]; exact lifted os started H enc F)
theorem plain (f : FuncId) (fn : Func) (hf : Tryd.pinned.checked.prog.funcNamed "paternoster/paternosterlaw02.HeaderBack" = some f) (hfn : Tryd.pinned.checked.prog.funcs[f]? = some fn) :
    false = Tryd.pinned.checked.prog.looks [] ∧ ∀ (j : Nat) t, fn.params[j]? = some t → Tryd.pinned.checked.prog.wantsStandIn t = false := by
  obtain rfl : f = 5 := Option.some.inj ((show Tryd.prog.funcNamed "paternoster/paternosterlaw02.HeaderBack" = some 5 by kernel_rfl).symm.trans hf) |>.symm
  obtain rfl : fn = Tryd.f5 := (Option.some.inj (Tryd.func5.symm.trans hfn)).symm
  refine ⟨by kernel_rfl, fun j t ht => ?_⟩
  rw [Tryd.params5] at ht
  have hm : t ∈ [23, 9, 9] := by simpa using Array.mem_of_getElem? ht
  simp only [List.mem_cons, List.not_mem_nil, or_false] at hm
  rcases hm with rfl | rfl | rfl
  · exact (show Tryd.prog.wantsStandIn 23 = false by kernel_rfl)
  · exact (show Tryd.prog.wantsStandIn 9 = false by kernel_rfl)
  · exact (show Tryd.prog.wantsStandIn 9 = false by kernel_rfl)
theorem proved : Rows.HeaderBackUptoCardSaid :=
  Claim7.holds_tied_plain_at .later [] _ _ _ _ said (fun _ h => by cases h) (by kernel_rfl) (fun _ h => by cases h) headerBackUpto_row_tie rfl ⟨rfl, rfl⟩ (by kernel_rfl) rfl plain (by kernel_rfl)
end frHeaderBack
end Go.Proofs.YtjgoklccnecjcaaDoor
