/- For every limit and every list of calls: a stall fires only if it was blocked at each step for as many ticks, and no credit came meanwhile; and then at the first step at or behind that tick (the statement StallOnly, as it is given). No condition. -/
import Derived.Test.YtigcgdkfhlpkpaaStall
namespace Go.Proofs.Ytigcgdkfhlpkpaa
open Go.RowKit

def NewSta (w : World) (l : Int) (x : Ending) (w' : World) : Prop :=
  ∃ b, x = .returned (.tuple #[.pointer (some ⟨b, 0, none⟩), .int .i64 0]) ∧ w.heap.size ≤ b ∧ Only Nil w w' ∧ Sta w' b l 0 0 false false
theorem New_any (l : Int) (w : World) (h0 : 0 ≤ l) (h1 : l ≤ 1048576) : Calls Try.prog 5 #[.int .i64 l] w (NewSta w l) := by
  go_enter Try.func5, Try.ntmps5
  go_wp2
  go_ret2
  exact ⟨w.heap.size, rfl, Nat.le_refl _, (Only.refl _ _).alloc _, Blk.new _ _ _⟩
theorem Fired_any (b : Nat) (l n s : Int) (st f : Bool) (w : World) (h : Sta w b l n s st f) : Calls Try.prog 10 #[.pointer (some ⟨b, 0, none⟩)] w fun e w' => e = .returned (.bool f) ∧ w = w' := by
  obtain ⟨c0, c1, c2, c3, c4⟩ := h.facts
  go_enter Try.func10, Try.ntmps10
  go_wp2
  go_ret
  exact ⟨rfl, rfl⟩
theorem Fired_nil (w : World) : Calls Try.prog 10 #[.pointer none] w fun e w' => e = .returned (.bool false) ∧ w = w' := by
  go_enter Try.func10, Try.ntmps10
  go_wp2
  go_ret
  exact ⟨rfl, rfl⟩
theorem Since_nil (w : World) : Calls Try.prog 9 #[.pointer none] w fun e w' => e = .returned (.tuple #[.int .i64 0, .bool false]) ∧ w = w' := by
  go_enter Try.func9, Try.ntmps9
  go_wp2
  go_ret2
  exact ⟨rfl, rfl⟩
theorem Step_nil (t : Int) (bl : Bool) (w : World) : Calls Try.prog 8 #[.pointer none, .int .i64 t, .bool bl] w fun e w' => e = .returned (.bool false) ∧ w = w' := by
  go_enter Try.func8, Try.ntmps8
  go_wp2
  go_ret
  exact ⟨rfl, rfl⟩
theorem Step_off (b : Nat) (n s t : Int) (st f bl : Bool) (w : World) (h : Sta w b 0 n s st f) : Calls Try.prog 8 #[.pointer (some ⟨b, 0, none⟩), .int .i64 t, .bool bl] w fun e w' => e = .returned (.bool false) ∧ w = w' := by
  obtain ⟨c0, c1, c2, c3, c4⟩ := h.facts
  go_enter Try.func8, Try.ntmps8
  go_wp2
  go_ret
  exact ⟨rfl, rfl⟩
theorem Step_fired (b : Nat) (l n s t : Int) (st bl : Bool) (w : World) (h : Sta w b l n s st true) (hl : 1 ≤ l) : Calls Try.prog 8 #[.pointer (some ⟨b, 0, none⟩), .int .i64 t, .bool bl] w fun e w' => e = .returned (.bool true) ∧ w = w' := by
  obtain ⟨c0, c1, c2, c3, c4⟩ := h.facts
  go_enter Try.func8, Try.ntmps8
  go_wp2
  go_ret
  exact ⟨rfl, rfl⟩
/-- a step that is blocked and fires, or does not -/
theorem Step_at (b : Nat) (l n s t : Int) (r : Bool) (w : World) (h : Sta w b l n s true false) (hn : n ≤ t) (hl : 1 ≤ l) (h1 : 0 ≤ t) (h2 : t ≤ 1000000) (h3 : 0 ≤ s) (h4 : s ≤ 1000000) (hr : decide (l ≤ t - s) = r) :
    Calls Try.prog 8 #[.pointer (some ⟨b, 0, none⟩), .int .i64 t, .bool true] w (StepPost w b r l t s true r) := by
  rw [← hr]
  exact Step_blocked b l n s t w h hn hl h1 h2 h3 h4

set_option maxHeartbeats 1000000 in
theorem awake_any (w : World) : Calls Try.prog 6 #[] w fun e w' => e = .returned (.bool true) ∧ Only Nil w w' := by
  go_enter Try.func6, Try.ntmps6
  go_wp2_with (first
    | (go_at_call 5; (with_reducible refine (New_any 3 _ (by omega) (by omega)).mono ?_); rintro e w1 ⟨b, rfl, hb, ho1, h1⟩)
    | (go_at_call 8; (with_reducible refine (Step_first b 3 0 0 1 _ h1 (by omega) (by omega) (by omega) (by omega)).mono ?_); rintro e w2 ⟨rfl, ho2, h2⟩)
    | (go_at_call 8; (with_reducible refine (Step_at b 3 1 1 3 false _ h2 (by omega) (by omega) (by omega) (by omega) (by omega) (by omega) (by decide)).mono ?_); rintro e w3 ⟨rfl, ho3, h3⟩)
    | (go_at_call 8; (with_reducible refine (Step_at b 3 3 1 4 true _ h3 (by omega) (by omega) (by omega) (by omega) (by omega) (by omega) (by decide)).mono ?_); rintro e w4 ⟨rfl, ho4, h4⟩)
    | (go_at_call 10; (with_reducible refine (Fired_any b _ _ _ _ _ _ h4).mono ?_); rintro e w5 ⟨rfl, rfl⟩)
    | (go_at_call 8; (with_reducible refine (Step_fired b _ _ _ _ _ _ _ h4 (by omega)).mono ?_); rintro e w6 ⟨rfl, rfl⟩)
    )
  go_ret
  refine ⟨rfl, ?_⟩
  have hx : ∀ i, i < w.heap.size → One b i → Nil i := fun i hi hh => by unfold One at hh; omega
  exact ((ho1.trans_new ho2 hx).trans_new ho3 hx).trans_new ho4 hx

def stRel (st : Bool) (q S now : Int) : Prop := if st then q = S ∧ 0 ≤ q ∧ q ≤ now else q = -1

set_option maxRecDepth 100000 in
set_option maxHeartbeats 8000000 in
theorem stallOnly_walk (v0 v1 : Value) (w : World) (h0 : Kd.Fit w (.int .u8) v0) (h1 : Kd.Fit w (.slc (.agg [.bool, .bool, .int .i64])) v1) :
    Calls Try.prog 3 #[v0, v1] w fun e w' => e = .returned (.bool true) ∧ Below w.heap.size w w' := by
  obtain ⟨l, rfl, hn⟩ := Kd.int_fit h0
  obtain ⟨A, len, cap, rfl, hl⟩ := Kd.slc_fit h1
  obtain ⟨l1, l2⟩ := u8_of hn
  clear hn h0 h1
  go_enter Try.func3, Try.ntmps3
  go_wp2_with (first
    | (go_at_call 5; (with_reducible refine (New_any _ _ (by omega) (by omega)).mono ?_); rintro e w1 ⟨b, rfl, hb, ho1, hW1⟩)
    | (go_at_call 6; (with_reducible refine (awake_any _).mono ?_); rintro e w1' ⟨rfl, ho1'⟩; have hW1' := hW1.kept ho1' (fun hh => hh))
    )
  go_loopw [8, 9, 10] (fun nn qq i wr => ∃ (k : Nat) (n q S : Int) (st : Bool), k ≤ len ∧ i = .int .i64 k ∧ nn = .int .i64 n ∧ qq = .int .i64 q ∧ stRel st q S n ∧ 0 ≤ n ∧ n ≤ 39 * (k : Int) ∧ Sta wr b (l + 1) n S st false ∧ Below w.heap.size w wr) (fun _ _ i _ => len - (intOf i).toNat)
  case atStart => exact ⟨0, 0, -1, 0, false, Nat.zero_le _, rfl, rfl, rfl, by simp [stRel], by omega, by omega, hW1', (ho1.trans ho1').below (Nat.le_refl _) (fun _ _ hh => hh)⟩
  case round =>
    obtain ⟨k, n, q, S, st, hk, rfl, rfl, rfl, hst, hn0, hn1, hW, hB⟩ := hrel
    have hmax : len ≤ 9223372036854775807 := Nat.le_trans hl.1 hl.2.1
    by_cases hlt : k < len
    · by_cases h100 : k < 150
      · obtain ⟨b', off, rfl, hb', cs, hcl, hcs, his⟩ := hl.at (by decide) hlt
        obtain ⟨v0, c0, rfl, i0, his1⟩ := Kd.headL rfl his
        obtain ⟨v1, c1, rfl, i1, his2⟩ := Kd.headL rfl his1
        obtain ⟨v2, c2, rfl, i2, his3⟩ := Kd.headL rfl his2
        obtain ⟨cr, rfl⟩ := Kd.bool_is i0
        obtain ⟨bl, rfl⟩ := Kd.bool_is i1
        obtain ⟨z, rfl, hz⟩ := Kd.int_is i2
        have hend := Kd.end_ his3
        subst hend
        have f0 := (hB.cell (p := ⟨b', _, none⟩) hb').trans (hcs 0 (by decide))
        have f1 := (hB.cell (p := ⟨b', _, none⟩) hb').trans (hcs 1 (by decide))
        have f2 := (hB.cell (p := ⟨b', _, none⟩) hb').trans (hcs 2 (by decide))
        simp [Kd.cells, Kd.cellsL] at f0 f1 f2
        clear his his1 his2 his3 hcs
        have hu : 0 ≤ IntKind.u64.wrap z := by unfold IntKind.wrap; simp [IntKind.signed, IntKind.bits]; omega
        have t1 : n ≤ n + IntKind.u64.wrap z % 40 := by omega
        have t2 : n + IntKind.u64.wrap z % 40 ≤ 39 * (k : Int) + 39 := by omega
        clear hz
        cases cr
        · cases bl
          · have hd := fun (W : World) (h : Sta W b (l + 1) n S st false) => Step_free b (l + 1) n S (n + IntKind.u64.wrap z % 40) st W h t1 (by omega)
            clear hst
            go_wp2_with (first
              | (go_at_call 8; (with_reducible refine (hd _ (hW.alloc _)).mono ?_); rintro e w2 ⟨rfl, ho2, hW2⟩; have hA := (Blk.new wr 29 #[.bool false, .bool false, .int .i64 z]).kept ho2 (by have := hW.lt; unfold One; omega); have g1 : w2.cell? ⟨wr.heap.size, 1, none⟩ = some (.bool false) := hA.cell 1; clear hA)
              )
            go_roundw
            case rel => exact ⟨k + 1, n + IntKind.u64.wrap z % 40, -1, S, false, by omega, by go_num, by go_num, by go_num, by simp [stRel] <;> omega, by omega, by omega, hW2, (hB.alloc hB.size _).trans (ho2.below (by have := hB.size; simp; omega) (fun i hi h => by unfold One at h; omega))⟩
            case measure => simp [intOf]; omega
          · cases st
            · have hq : q = -1 := by simpa [stRel] using hst
              subst hq
              clear hst
              have hd := fun (W : World) (h : Sta W b (l + 1) n S false false) => Step_first b (l + 1) n S (n + IntKind.u64.wrap z % 40) W h t1 (by omega) (by omega) (by omega)
              go_wp2_with (first
                | (go_at_call 8; (with_reducible refine (hd _ (hW.alloc _)).mono ?_); rintro e w2 ⟨rfl, ho2, hW2⟩; have hA := (Blk.new wr 29 #[.bool false, .bool true, .int .i64 z]).kept ho2 (by have := hW.lt; unfold One; omega); have g1 : w2.cell? ⟨wr.heap.size, 1, none⟩ = some (.bool true) := hA.cell 1; clear hA)
                )
              go_roundw
              case rel => exact ⟨k + 1, n + IntKind.u64.wrap z % 40, n + IntKind.u64.wrap z % 40, n + IntKind.u64.wrap z % 40, true, by omega, by go_num, by go_num, by go_num, by simp [stRel] <;> omega, by omega, by omega, hW2, (hB.alloc hB.size _).trans (ho2.below (by have := hB.size; simp; omega) (fun i hi h => by unfold One at h; omega))⟩
              case measure => simp [intOf]; omega
            · have hq : q = S ∧ 0 ≤ q ∧ q ≤ n := by simpa [stRel] using hst
              obtain ⟨rfl, hq1, hq2⟩ := hq
              clear hst
              by_cases hf : l + 1 ≤ n + IntKind.u64.wrap z % 40 - q
              · have hd := fun (W : World) (h : Sta W b (l + 1) n q true false) => Step_at b (l + 1) n q (n + IntKind.u64.wrap z % 40) true W h t1 (by omega) (by omega) (by omega) hq1 (by omega) (by simpa using hf)
                go_wp2_with (first
                  | (go_at_call 8; (with_reducible refine (hd _ (hW.alloc _)).mono ?_); rintro e w2 ⟨rfl, ho2, hW2⟩; have hA := (Blk.new wr 29 #[.bool false, .bool true, .int .i64 z]).kept ho2 (by have := hW.lt; unfold One; omega); have g1 : w2.cell? ⟨wr.heap.size, 1, none⟩ = some (.bool true) := hA.cell 1; clear hA)
                  )
                go_ret
                exact ⟨rfl, (hB.alloc hB.size _).trans (ho2.below (by have := hB.size; simp; omega) (fun i hi h => by unfold One at h; omega))⟩
              · have hd := fun (W : World) (h : Sta W b (l + 1) n q true false) => Step_at b (l + 1) n q (n + IntKind.u64.wrap z % 40) false W h t1 (by omega) (by omega) (by omega) hq1 (by omega) (by simpa using hf)
                go_wp2_with (first
                  | (go_at_call 8; (with_reducible refine (hd _ (hW.alloc _)).mono ?_); rintro e w2 ⟨rfl, ho2, hW2⟩; have hA := (Blk.new wr 29 #[.bool false, .bool true, .int .i64 z]).kept ho2 (by have := hW.lt; unfold One; omega); have g1 : w2.cell? ⟨wr.heap.size, 1, none⟩ = some (.bool true) := hA.cell 1; clear hA)
                  )
                go_roundw
                case rel => exact ⟨k + 1, n + IntKind.u64.wrap z % 40, q, q, true, by omega, by go_num, by go_num, by go_num, by simp [stRel] <;> omega, by omega, by omega, hW2, (hB.alloc hB.size _).trans (ho2.below (by have := hB.size; simp; omega) (fun i hi h => by unfold One at h; omega))⟩
                case measure => simp [intOf]; omega
        · cases st
          · have hq : q = -1 := by simpa [stRel] using hst
            subst hq
            clear hst
            have hd := fun (W : World) (h : Sta W b (l + 1) n S false false) => Credit_any b (l + 1) n S (n + IntKind.u64.wrap z % 40) false W h t1
            go_wp2_with (first
              | (go_at_call 7; (with_reducible refine (hd _ (hW.alloc _)).mono ?_); rintro e w2 ⟨rfl, ho2, hW2⟩; have hA := (Blk.new wr 29 #[.bool true, .bool bl, .int .i64 z]).kept ho2 (by have := hW.lt; unfold One; omega); have g1 : w2.cell? ⟨wr.heap.size, 1, none⟩ = some (.bool bl) := hA.cell 1; clear hA)
              )
            go_roundw
            case rel => exact ⟨k + 1, n + IntKind.u64.wrap z % 40, -1, S, false, by omega, by go_num, by go_num, by go_num, by simp [stRel] <;> omega, by omega, by omega, hW2, (hB.alloc hB.size _).trans (ho2.below (by have := hB.size; simp; omega) (fun i hi h => by unfold One at h; omega))⟩
            case measure => simp [intOf]; omega
          · have hq : q = S ∧ 0 ≤ q ∧ q ≤ n := by simpa [stRel] using hst
            obtain ⟨rfl, hq1, hq2⟩ := hq
            clear hst
            have hd := fun (W : World) (h : Sta W b (l + 1) n q true false) => Credit_any b (l + 1) n q (n + IntKind.u64.wrap z % 40) true W h t1
            go_wp2_with (first
              | (go_at_call 7; (with_reducible refine (hd _ (hW.alloc _)).mono ?_); rintro e w2 ⟨rfl, ho2, hW2⟩; have hA := (Blk.new wr 29 #[.bool true, .bool bl, .int .i64 z]).kept ho2 (by have := hW.lt; unfold One; omega); have g1 : w2.cell? ⟨wr.heap.size, 1, none⟩ = some (.bool bl) := hA.cell 1; clear hA)
              )
            go_roundw
            case rel => exact ⟨k + 1, n + IntKind.u64.wrap z % 40, n + IntKind.u64.wrap z % 40, n + IntKind.u64.wrap z % 40, true, by omega, by go_num, by go_num, by go_num, by simp [stRel] <;> omega, by omega, by omega, hW2, (hB.alloc hB.size _).trans (ho2.below (by have := hB.size; simp; omega) (fun i hi h => by unfold One at h; omega))⟩
            case measure => simp [intOf]; omega
      · go_wp2
        go_ret
        exact ⟨rfl, hB⟩
    · go_wp2
      go_ret
      exact ⟨rfl, hB⟩
/-! The step from the walk to the statement of StallOnly. -/
namespace frStallOnly
open Go.ChangeShapes Go.WideShapes Go.ChangeAt Go.RowKit
set_option linter.unusedVariables false
theorem own : ownKnob Try.prog.godebug = none := by kernel_rfl
theorem laidOut : laidOutB Try.prog = true := by kernel_rfl
theorem shape0 : Kd.ok Try.prog (.int .u8) 5 = true := by kernel_rfl
theorem shape1 : Kd.ok Try.prog (.slc (.agg [.bool, .bool, .int .i64])) 22 = true := by kernel_rfl
set_option maxRecDepth 100000 in
theorem contract (H : Type) (enc : TypeId × Value → H) (W : World) (base : Nat) (args : Array Value) (ds gs : List (DataW H)) (before : List MemPlace)
    (hval : ∀ (j : Nat) t v, Try.f3.params[j]? = some t → args[j]? = some v → Value.okWide Try.prog W .any base t v)
    (hW : DataW.Whole enc Try.prog Try.f3.params.toList Rows.stallOnlySpec.vars false W args.toList ds gs before) :
    Calls Try.prog 3 args W fun e W' => ∃ v, e = .returned v ∧ Rows.stallOnlySpec.post enc Try.prog Try.f3 false true false false W args v W' := by
  have hW' := hW
  obtain ⟨p, q, hA0, hV, rfl, hfz, hnd⟩ := hW
  have hA : DataW.TrodAll enc Try.prog W 0 (fun _ => true) true Try.f3.params.toList args.toList ds p := hA0
  rw [Try.params3] at hA hval
  obtain ⟨v0, vs0, d0, ds0, p0, q0, hargs, rfl, rfl, h0, r0⟩ := trodAll_cons hA
  obtain ⟨v1, vs1, d1, ds1, p1, q1, rfl, rfl, rfl, h1, r1⟩ := trodAll_cons r0
  obtain ⟨rfl, rfl, rfl⟩ := trodAll_nil r1
  obtain rfl : args = #[v0, v1] := by cases args; simp_all
  obtain ⟨rfl, rfl⟩ := trodVars_none hV
  have k0 := Kd.fit _ shape0 (hval 0 5 v0 rfl rfl) h0
  have lt0 : ∀ x ∈ p0, x.block < W.heap.size := by obtain ⟨m, hm⟩ := h0; exact DataW.trod_lt m _ _ _ hm
  have k1 := Kd.fit _ shape1 (hval 1 22 v1 rfl rfl) h1
  have lt1 : ∀ x ∈ p1, x.block < W.heap.size := by obtain ⟨m, hm⟩ := h1; exact DataW.trod_lt m _ _ _ hm
  refine (stallOnly_walk v0 v1 W k0 k1).mono fun e W' ⟨he, bel⟩ => ?_
  subst he
  exact ⟨_, rfl, _, _, _, [], _, [], hW', trodAll_mk1 (shut_bool Try.underlying4 _), (trodAll_cons_mk (Below.trod laidOut (by kernel_rfl) (of_decide_eq_true (by kernel_rfl)) h0 bel lt0) (trodAll_cons_mk (Below.trod laidOut (by kernel_rfl) (of_decide_eq_true (by kernel_rfl)) h1 bel lt1) trodAll_mk0)), rfl, bel.frame _, fun h => by cases h⟩
set_option maxRecDepth 100000 in
theorem lifted (os : Os) (started : os.Started) (H : Type) (enc : TypeId × Value → H) :
    ReturnsInHanded {} Try.checked os 3 .any (Rows.stallOnlySpec.pre6 enc Try.prog Try.f3 Rows.stallOnlyRow.domain false) (Rows.stallOnlySpec.post enc Try.prog Try.f3 false true false false) := by
  refine returnsInHanded_of_change (C := Try.checked) own started (by kernel_rfl) Try.func3
    (ChangeSpec.witness6 (enc := enc) (C := Try.checked) false ⟨#[], #[.int .u8 0, .slice none 0 0], []⟩ 8 (by kernel_rfl) (by kernel_rfl) (by kernel_rfl) (by kernel_rfl)) ?_
  intro W base args ds gs before hval hW _ _
  exact contract H enc W base args ds gs before hval hW
theorem over : Rows.stallOnlyRow.holds Try.pinned (OpenSpec.ofChange Rows.stallOnlySpec) :=
  OpenClaim.holds_of_wide 3 Try.f3 rfl rfl rfl rfl rfl rfl rfl ⟨rfl, rfl, rfl, rfl, rfl⟩ rfl rfl rfl rfl rfl (by kernel_rfl) Try.func3 (by kernel_rfl)
    (of_decide_eq_true (by kernel_rfl)) (by unfold Func.isWrapper; first | (rw [if_pos (by decide +kernel)]; kernel_rfl) | (rw [if_neg (by decide +kernel)]; exact ⟨rfl, rfl⟩))
    (fun os started H enc _ => lifted os started H enc)
theorem proved : Rows.StallOnlySaid := over
end frStallOnly
end Go.Proofs.Ytigcgdkfhlpkpaa
