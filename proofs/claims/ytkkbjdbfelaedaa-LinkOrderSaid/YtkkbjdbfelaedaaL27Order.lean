/- For every list of calls: what is pulled is what was pushed, in order, in whatever pieces (the statement LinkOrder, as it is given). No condition. -/
import Derived.Test.YtkkbjdbfelaedaaAwake27
namespace Go.Proofs.Ytkkbjdbfelaedaa
open Go.RowKit

set_option maxRecDepth 100000 in
set_option maxHeartbeats 16000000 in
theorem linkOrder_walk (v0 : Value) (w : World) (h0 : Kd.Fit w (.slc (.agg [.int .i64, .int .i64, .str])) v0) :
    Calls Try.prog 4 #[v0] w fun e w' => e = .returned (.bool true) ∧ Below w.heap.size w w' := by
  obtain ⟨A, len, cap, rfl, hl⟩ := Kd.slc_fit h0
  clear h0
  go_enter Try.func4, Try.ntmps4
  go_wp2_with (first
    | (go_at_call 6; (with_reducible refine (New_any 1048576 _ (by decide) (by decide) w.heap.size (Nat.le_refl _)).mono ?_); rintro e w1 ⟨b, rfl, ho1, hK1⟩)
    | (go_at_call 7; (with_reducible refine (awake_any _).mono ?_); rintro e w2 ⟨rfl, ho2⟩; have hK2 := hK1.kept ho2)
    )
  go_loopw [5, 6, 7] (fun xx yy ii wr => ∃ (k : Nat) (X Y : ByteArray) (I O L : List UInt8) (v : Value) (came took : Int), k ≤ len ∧ ii = .int .i64 k ∧ xx = .string X ∧ yy = .string Y ∧ Hid (X = strOf I) ∧ Hid (Y = strOf O) ∧ Hid (I = O ++ L) ∧ k ≤ 80 ∧ O.length + L.length ≤ 2000 * k ∧ 0 ≤ came ∧ came ≤ 2000 * (k : Int) ∧ 0 ≤ took ∧ took ≤ (O.length : Int) ∧ Lk wr b w.heap.size v L 1048576 came took ∧ Below w.heap.size w wr) (fun _ _ ii _ => len - (intOf ii).toNat)
  case atStart => exact ⟨0, _, _, [], [], [], _, 0, 0, Nat.zero_le _, rfl, rfl, rfl, Lib.hid rfl, Lib.hid rfl, Lib.hid rfl, by omega, by simp, by omega, by omega, by omega, by simp, hK2, (ho1.trans ho2).below (Nat.le_refl _) (fun _ _ hh => hh)⟩
  case round =>
    obtain ⟨k, X, Y, I, O, L, v, came, took, hk, rfl, rfl, rfl, hX, hY, hIO, hk8, hlen, hc0, hc1, ht0, ht1, hK, hBe⟩ := hrel
    have hmax : len ≤ 9223372036854775807 := Nat.le_trans hl.1 hl.2.1
    by_cases hlt : k < len
    · by_cases h80 : k < 80
      · obtain ⟨b', off, rfl, hb', cs, hcl, hcs, his⟩ := hl.at (by decide) hlt
        obtain ⟨v0, c0, rfl, i0, his⟩ := Kd.headL rfl (by unfold Kd.Is at his; exact his)
        obtain ⟨v1, c1, rfl, i1, his⟩ := Kd.headL rfl his
        obtain ⟨v2, c2, rfl, i2, his⟩ := Kd.headL rfl his
        obtain rfl := Kd.end_ his
        obtain ⟨kd, rfl, _⟩ := Kd.int_is i0
        obtain ⟨n, rfl, _⟩ := Kd.int_is i1
        obtain ⟨S, rfl, _⟩ := Kd.str_is i2
        have q0 := hcs 0 (by decide)
        have q1 := hcs 1 (by decide)
        have q2 := hcs 2 (by decide)
        simp [Kd.cells, Kd.cellsL] at q0 q1 q2
        have f0 := (hBe.cell (p := ⟨b', _, none⟩) hb').trans q0
        have f1 := (hBe.cell (p := ⟨b', _, none⟩) hb').trans q1
        have f2 := (hBe.cell (p := ⟨b', _, none⟩) hb').trans q2
        clear q0 q1 q2 hcs hcl i0 i1 i2 hl
        have hSl : S.data.toList.length = S.size := by simp
        by_cases hS : 2000 < S.size
        · clear hSl
          go_wp2
          go_roundw
          case rel => exact ⟨k + 1, X, Y, I, O, L, v, came, took, by omega, by go_num, rfl, rfl, hX, hY, hIO, by omega, by omega, by omega, by omega, by omega, by omega, hK, hBe⟩
          case measure => simp [intOf]; omega
        · by_cases hkd : kd < 3
          · have hp := fun (W : World) (h : Lk W b w.heap.size v L 1048576 came took) => Push_ok S W h (by decide) (by decide) (by omega) hc0 (by omega)
            have hs1 : X.size + S.size ≤ 9223372036854775807 := by rw [hX.out, strOf_size, hIO.out, List.length_append]; omega
            have hXS := Lib.hid (show X ++ S = strOf (I ++ S.data.toList) by rw [hX.out, str_add])
            have hIO2 := Lib.hid (show I ++ S.data.toList = O ++ (L ++ S.data.toList) by rw [hIO.out, List.append_assoc])
            have hlen2 : O.length + (L ++ S.data.toList).length ≤ 2000 * (k + 1) := by rw [List.length_append]; omega
            have hSl' := Lib.hid hSl
            clear hSl
            have HP := Lib.hid hp
            clear hp
            go_wp2_with (first
              | (go_at_call 11; (with_reducible refine (HP.out _ hK).mono ?_); rintro e w5 ⟨v5, rfl, hK5, hB5⟩; have g2 := (hB5.cell (p := ⟨b', _, none⟩) hb').trans f2)
              )
            go_roundw
            case rel => exact ⟨k + 1, X ++ S, Y, I ++ S.data.toList, O, L ++ S.data.toList, v5, came + S.size, took, by omega, by go_num, rfl, rfl, hXS, hY, hIO2, by omega, hlen2, by omega, by omega, by omega, by omega, hK5, hBe.trans hB5⟩
            case measure => simp [intOf]; omega
          · clear hSl
            by_cases hc : cnt n L.length = 0
            · have hp := fun (W : World) (h : Lk W b w.heap.size v L 1048576 came took) => Pull_none n W h (by omega) hc
              have hYS := Lib.hid (show Y ++ noS = strOf O by rw [hY.out, str_add]; simp)
              have hs1 : Y.size + noS.size ≤ 9223372036854775807 := by rw [hY.out, strOf_size]; show O.length + 0 ≤ _; omega
              have HP := Lib.hid hp
              clear hp hc
              go_wp2_with (first
                | (go_at_call 9; (with_reducible refine (HP.out _ hK).mono ?_); rintro e w5 ⟨v5, rfl, hK5, hB5⟩)
                )
              go_roundw
              case rel => exact ⟨k + 1, X, Y ++ noS, I, O, L, v5, came, took, by omega, by go_num, rfl, rfl, hX, hYS, hIO, by omega, by omega, by omega, by omega, by omega, by omega, hK5, hBe.trans hB5⟩
              case measure => simp [intOf]; omega
            · obtain ⟨m, hm⟩ : ∃ m, cnt n L.length = m := ⟨_, rfl⟩
              have hmL : m ≤ L.length := by rw [← hm]; unfold cnt; split; omega; split <;> omega
              have hp := fun (W : World) (h : Lk W b w.heap.size v L 1048576 came took) => Pull_some n m W h (by omega) hm (by omega) hmL ht0 (by omega)
              have hYS := Lib.hid (show Y ++ strOf (L.take m) = strOf (O ++ L.take m) by rw [hY.out, str_add]; rfl)
              have hIO2 := Lib.hid (show I = (O ++ L.take m) ++ L.drop m by rw [hIO.out, List.append_assoc, List.take_append_drop])
              have hs1 : Y.size + (strOf (L.take m)).size ≤ 9223372036854775807 := by rw [hY.out, strOf_size, strOf_size, List.length_take]; omega
              have hlen2 : (O ++ L.take m).length + (L.drop m).length ≤ 2000 * (k + 1) := by rw [List.length_append, List.length_take, List.length_drop]; omega
              have hlen3 : took + (m : Int) ≤ ((O ++ L.take m).length : Int) := by rw [List.length_append, List.length_take]; omega
              have HP := Lib.hid hp
              clear hp hc hm
              generalize strOf (L.take m) = Z at HP hYS hs1
              go_wp2_with (first
                | (go_at_call 9; (with_reducible refine (HP.out _ hK).mono ?_); rintro e w5 ⟨v5, rfl, hK5, hB5⟩)
                )
              go_roundw
              case rel => exact ⟨k + 1, X, Y ++ Z, I, O ++ L.take m, L.drop m, v5, came, took + m, by omega, by go_num, rfl, rfl, hX, hYS, hIO2, by omega, hlen2, by omega, by omega, by omega, hlen3, hK5, hBe.trans hB5⟩
              case measure => simp [intOf]; omega
      ·
        clear hl
        have HX := hIO
        by_cases hL0 : L = []
        · subst hL0
          have hp := fun (W : World) (h : Lk W b w.heap.size v [] 1048576 came took) => Pull_none 1048576 W h (by decide) (by decide)
          have hq : ((Y ++ noS).toList == X.toList) = true := by rw [hY.out, hX.out, str_add, hIO.out]; simp
          have hs1 : (Y ++ noS).size ≤ 9223372036854775807 := by rw [hY.out, str_add, strOf_size]; simp; omega
          have hs2 : Y.size + noS.size ≤ 9223372036854775807 := by rw [hY.out, strOf_size]; show O.length + 0 ≤ _; omega
          have HP := Lib.hid hp
          clear hp HX hY hX hIO
          go_wp2_with (first
            | (go_at_call 9; (with_reducible refine (HP.out _ hK).mono ?_); rintro e w5 ⟨v5, rfl, hK5, hB5⟩)
            )
          go_ret
          exact ⟨rfl, hBe.trans hB5⟩
        · have hLp : 1 ≤ L.length := List.length_pos_iff.2 hL0
          have hp : ∀ (W : World), Lk W b w.heap.size v L 1048576 came took → Calls Try.prog 9 #[.pointer (some ⟨b, 0, none⟩), .int .i64 1048576] W (LkPost W b w.heap.size (.string (strOf L)) (L.drop L.length) 1048576 came (took + L.length)) := fun W h => by
            have := Pull_some 1048576 L.length W h (by omega) (by unfold cnt; rw [if_neg (by decide)]; split <;> omega) hLp (Nat.le_refl _) ht0 (by omega)
            rw [List.take_length] at this
            exact this
          have hq : ((Y ++ strOf L).toList == X.toList) = true := by rw [hY.out, hX.out, str_add, strOf_toList, hIO.out]; simp
          have hs1 : (Y ++ strOf L).size ≤ 9223372036854775807 := by rw [hY.out, str_add, strOf_size, strOf_toList]; simp; omega
          have hs2 : Y.size + (strOf L).size ≤ 9223372036854775807 := by rw [hY.out, strOf_size, strOf_size]; omega
          have HP := Lib.hid hp
          clear hp HX hY hX hIO
          generalize strOf L = Z at *
          go_wp2_with (first
            | (go_at_call 9; (with_reducible refine (HP.out _ hK).mono ?_); rintro e w5 ⟨v5, rfl, hK5, hB5⟩)
            )
          go_ret
          exact ⟨rfl, hBe.trans hB5⟩
    ·
      clear hl
      have HX := hIO
      by_cases hL0 : L = []
      · subst hL0
        have hp := fun (W : World) (h : Lk W b w.heap.size v [] 1048576 came took) => Pull_none 1048576 W h (by decide) (by decide)
        have hq : ((Y ++ noS).toList == X.toList) = true := by rw [hY.out, hX.out, str_add, hIO.out]; simp
        have hs1 : (Y ++ noS).size ≤ 9223372036854775807 := by rw [hY.out, str_add, strOf_size]; simp; omega
        have hs2 : Y.size + noS.size ≤ 9223372036854775807 := by rw [hY.out, strOf_size]; show O.length + 0 ≤ _; omega
        have HP := Lib.hid hp
        clear hp HX hY hX hIO
        go_wp2_with (first
          | (go_at_call 9; (with_reducible refine (HP.out _ hK).mono ?_); rintro e w5 ⟨v5, rfl, hK5, hB5⟩)
          )
        go_ret
        exact ⟨rfl, hBe.trans hB5⟩
      · have hLp : 1 ≤ L.length := List.length_pos_iff.2 hL0
        have hp : ∀ (W : World), Lk W b w.heap.size v L 1048576 came took → Calls Try.prog 9 #[.pointer (some ⟨b, 0, none⟩), .int .i64 1048576] W (LkPost W b w.heap.size (.string (strOf L)) (L.drop L.length) 1048576 came (took + L.length)) := fun W h => by
          have := Pull_some 1048576 L.length W h (by omega) (by unfold cnt; rw [if_neg (by decide)]; split <;> omega) hLp (Nat.le_refl _) ht0 (by omega)
          rw [List.take_length] at this
          exact this
        have hq : ((Y ++ strOf L).toList == X.toList) = true := by rw [hY.out, hX.out, str_add, strOf_toList, hIO.out]; simp
        have hs1 : (Y ++ strOf L).size ≤ 9223372036854775807 := by rw [hY.out, str_add, strOf_size, strOf_toList]; simp; omega
        have hs2 : Y.size + (strOf L).size ≤ 9223372036854775807 := by rw [hY.out, strOf_size, strOf_size]; omega
        have HP := Lib.hid hp
        clear hp HX hY hX hIO
        generalize strOf L = Z at *
        go_wp2_with (first
          | (go_at_call 9; (with_reducible refine (HP.out _ hK).mono ?_); rintro e w5 ⟨v5, rfl, hK5, hB5⟩)
          )
        go_ret
        exact ⟨rfl, hBe.trans hB5⟩
/-! The step from the walk to the statement of LinkOrder. -/
namespace frLinkOrder
open Go.ChangeShapes Go.WideShapes Go.ChangeAt Go.RowKit
set_option linter.unusedVariables false
theorem own : ownKnob Try.prog.godebug = none := by kernel_rfl
theorem laidOut : laidOutB Try.prog = true := by kernel_rfl
theorem shape0 : Kd.ok Try.prog (.slc (.agg [.int .i64, .int .i64, .str])) 22 = true := by kernel_rfl
set_option maxRecDepth 100000 in
theorem contract (H : Type) (enc : TypeId × Value → H) (W : World) (base : Nat) (args : Array Value) (ds gs : List (DataW H)) (before : List MemPlace)
    (hval : ∀ (j : Nat) t v, Try.f4.params[j]? = some t → args[j]? = some v → Value.okWide Try.prog W .any base t v)
    (hW : DataW.Whole enc Try.prog Try.f4.params.toList Rows.linkOrderSpec.vars false W args.toList ds gs before) :
    Calls Try.prog 4 args W fun e W' => ∃ v, e = .returned v ∧ Rows.linkOrderSpec.post enc Try.prog Try.f4 false true false false W args v W' := by
  have hW' := hW
  obtain ⟨p, q, hA0, hV, rfl, hfz, hnd⟩ := hW
  have hA : DataW.TrodAll enc Try.prog W 0 (fun _ => true) true Try.f4.params.toList args.toList ds p := hA0
  rw [Try.params4] at hA hval
  obtain ⟨v0, vs0, d0, ds0, p0, q0, hargs, rfl, rfl, h0, r0⟩ := trodAll_cons hA
  obtain ⟨rfl, rfl, rfl⟩ := trodAll_nil r0
  obtain rfl : args = #[v0] := by cases args; simp_all
  obtain ⟨rfl, rfl⟩ := trodVars_none hV
  have k0 := Kd.fit _ shape0 (hval 0 22 v0 rfl rfl) h0
  have lt0 : ∀ x ∈ p0, x.block < W.heap.size := by obtain ⟨m, hm⟩ := h0; exact DataW.trod_lt m _ _ _ hm
  refine (linkOrder_walk v0 W k0).mono fun e W' ⟨he, bel⟩ => ?_
  subst he
  exact ⟨_, rfl, _, _, _, [], _, [], hW', trodAll_mk1 (shut_bool Try.underlying4 _), (trodAll_cons_mk (Below.trod laidOut (by kernel_rfl) (of_decide_eq_true (by kernel_rfl)) h0 bel lt0) trodAll_mk0), rfl, bel.frame _, fun h => by cases h⟩
set_option maxRecDepth 100000 in
theorem lifted (os : Os) (started : os.Started) (H : Type) (enc : TypeId × Value → H) :
    ReturnsInHanded {} Try.checked os 4 .any (Rows.linkOrderSpec.pre6 enc Try.prog Try.f4 Rows.linkOrderRow.domain false) (Rows.linkOrderSpec.post enc Try.prog Try.f4 false true false false) := by
  refine returnsInHanded_of_change (C := Try.checked) own started (by kernel_rfl) Try.func4
    (ChangeSpec.witness6 (enc := enc) (C := Try.checked) false ⟨#[], #[.slice none 0 0], []⟩ 8 (by kernel_rfl) (by kernel_rfl) (by kernel_rfl) (by kernel_rfl)) ?_
  intro W base args ds gs before hval hW _ _
  exact contract H enc W base args ds gs before hval hW
theorem over : Rows.linkOrderRow.holds Try.pinned (OpenSpec.ofChange Rows.linkOrderSpec) :=
  OpenClaim.holds_of_wide 4 Try.f4 rfl rfl rfl rfl rfl rfl rfl ⟨rfl, rfl, rfl, rfl, rfl⟩ rfl rfl rfl rfl rfl (by kernel_rfl) Try.func4 (by kernel_rfl)
    (of_decide_eq_true (by kernel_rfl)) (by unfold Func.isWrapper; first | (rw [if_pos (by decide +kernel)]; kernel_rfl) | (rw [if_neg (by decide +kernel)]; exact ⟨rfl, rfl⟩))
    (fun os started H enc _ => lifted os started H enc)
theorem proved : Rows.LinkOrderSaid := over
end frLinkOrder
end Go.Proofs.Ytkkbjdbfelaedaa
