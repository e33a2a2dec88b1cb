/- Every call of a ring of any capacity is answered as the document says (the statement RingDoes, as it is given). No condition. -/
import Derived.Test.YtgchiofpnbofdaaAwake09
namespace Go.Proofs.Ytgchiofpnbofdaa
open Go.RowKit

theorem Rg.below {w w' : World} {r g base c F : Nat} {row L : List UInt8} (h : Rg w r g base c F row L) (ho : Only (RTwo r g) w w') : Below base w w' :=
  ho.below (by have := h.gb; omega) fun i hi hh => by
    have := h.gb
    have := h.hb
    rcases hh with hh | hh <;> omega
theorem cnt_all {m c : Nat} (h : m ≤ c) : cnt c m = m := by unfold cnt; omega
theorem aft_le (c : Nat) (kd n : Int) (S : ByteArray) (L : List UInt8) (h : L.length ≤ c) : (aft c kd n S L).length ≤ c := by
  unfold aft
  split
  · simp; omega
  · split
    · exact h
    · split
      · simp
      · simp; omega
set_option maxHeartbeats 4000000 in
theorem ringDoes_walk (v0 v1 : Value) (w : World) (h0 : Kd.Fit w (.int .i64) v0) (h1 : Kd.Fit w (.slc (.agg [.int .i64, .int .i64, .str])) v1) :
    Calls Try.prog 3 #[v0, v1] w fun e w' => e = .returned (.bool true) ∧ Below w.heap.size w w' := by
  obtain ⟨cp, rfl, -⟩ := Kd.int_fit h0
  obtain ⟨A, len, cap, rfl, hl⟩ := Kd.slc_fit h1
  clear h0 h1
  by_cases a1 : cp < 0
  · have hn := Lib.hid (fun (W : World) => New_out cp W (.inl a1))
    clear hl
    go_enter Try.func3, Try.ntmps3
    go_wp2_with (first
      | (go_at_call 6; (with_reducible refine (hn.out _).mono ?_); rintro e w1 ⟨rfl, rfl⟩)
      | (go_at_call 7; (with_reducible refine (awake_any _).mono ?_); rintro e w2 ⟨rfl, ho2⟩)
      )
    go_ret
    exact ⟨rfl, ho2.below (Nat.le_refl _) (fun _ _ hh => hh)⟩
  by_cases a2 : 65536 < cp
  · have hn := Lib.hid (fun (W : World) => New_out cp W (.inr a2))
    clear hl
    go_enter Try.func3, Try.ntmps3
    go_wp2_with (first
      | (go_at_call 6; (with_reducible refine (hn.out _).mono ?_); rintro e w1 ⟨rfl, rfl⟩)
      | (go_at_call 7; (with_reducible refine (awake_any _).mono ?_); rintro e w2 ⟨rfl, ho2⟩)
      )
    go_ret
    exact ⟨rfl, ho2.below (Nat.le_refl _) (fun _ _ hh => hh)⟩
  obtain ⟨c, rfl⟩ : ∃ c : Nat, cp = c := ⟨cp.toNat, by omega⟩
  have hc : c ≤ 65536 := by omega
  have hN := Lib.hid (New_in c w hc)
  go_enter Try.func3, Try.ntmps3
  go_wp2_with (first
    | (go_at_call 6; (with_reducible refine (hN.out).mono ?_); rintro e w1 ⟨r, g, row, rfl, hR1, ho1⟩)
    | (go_at_call 7; (with_reducible refine (awake_any _).mono ?_); rintro e w2 ⟨rfl, ho2⟩)
    )
  have hR2 := hR1.go ho2
  have hBe2 := (ho1.trans ho2).below (Nat.le_refl _) (fun _ _ hh => hh)
  clear hR1 ho1 ho2 a1 a2 hN
  go_loopw [7, 8] (fun ss ii wr => ∃ (k F : Nat) (row L : List UInt8), k ≤ len ∧ ss = .string (strOf L) ∧ ii = .int .i64 k ∧ k ≤ 60 ∧ Rg wr r g w.heap.size c F row L ∧ Below w.heap.size w wr) (fun _ ii _ => len - (intOf ii).toNat)
  case atStart => exact ⟨0, 0, row, [], Nat.zero_le _, rfl, rfl, by omega, hR2, hBe2⟩
  case round =>
    clear hR2 hBe2
    obtain ⟨k, F, row', L, hk, rfl, rfl, hk1, hR, hBe⟩ := hrel
    have hmax : len ≤ 9223372036854775807 := Nat.le_trans hl.1 hl.2.1
    by_cases hlt : k < len ∧ k < 60
    · obtain ⟨hlt, h60⟩ := hlt
      obtain ⟨b', off, rfl, hb', cs, hcl, hcs, his⟩ := hl.at (by decide) hlt
      obtain ⟨u0, e0, rfl, i0, his⟩ := Kd.headL rfl (by unfold Kd.Is at his; exact his)
      obtain ⟨u1, e1, rfl, i1, his⟩ := Kd.headL rfl his
      obtain ⟨u2, e2, rfl, i2, his⟩ := Kd.headL rfl his
      obtain rfl := Kd.end_ his
      obtain ⟨kd, rfl, -⟩ := Kd.int_is i0
      obtain ⟨n, rfl, -⟩ := Kd.int_is i1
      obtain ⟨S, rfl, -⟩ := Kd.str_is i2
      have q0 := hcs 0 (by decide)
      have q1 := hcs 1 (by decide)
      have q2 := hcs 2 (by decide)
      simp [Kd.cells, Kd.cellsL] at q0 q1 q2
      have f0 := (hBe.cell (p := ⟨b', _, none⟩) hb').trans q0
      have f1 := (hBe.cell (p := ⟨b', _, none⟩) hb').trans q1
      have f2 := (hBe.cell (p := ⟨b', _, none⟩) hb').trans q2
      clear q0 q1 q2 hcs hcl hl i0 i1 i2
      have hD := Lib.hid (do_any kd n S wr hR)
      have hL5 := aft_le c kd n S L hR.le
      generalize aft c kd n S L = L5 at *
      have hs5 := strOf_size L5
      have hLen := Lib.hid (fun W F' row' (h : Rg W r g w.heap.size c F' row' L5) => Len_any W h)
      have hRoom := Lib.hid (fun W F' row' (h : Rg W r g w.heap.size c F' row' L5) => Room_any W h)
      have hCap := Lib.hid (fun W F' row' (h : Rg W r g w.heap.size c F' row' L5) => Cap_any W h)
      rw [← hs5] at hLen hRoom hL5
      unfold DoPost at hD
      obtain ⟨X5, hX5⟩ : ∃ X5, X5 = strOf L5 := ⟨_, rfl⟩
      obtain ⟨X, hX⟩ : ∃ X, X = strOf L := ⟨_, rfl⟩
      rw [← hX5] at hLen hRoom hD hL5
      rw [← hX] at hD ⊢
      have HX5 := Lib.hid hX5
      have hki : (k : Int) < len := by omega
      have hk6 : (k : Int) < 60 := by omega
      clear hX hX5 hs5
      go_wp2_with (first
        | (go_at_call 8; (with_reducible refine (hD.out).mono ?_); rintro e w5 ⟨F5, row5, rfl, hR5, ho5⟩)
        | (go_at_call 9; (with_reducible refine (hLen.out _ _ _ hR5).mono ?_); rintro e w6 ⟨rfl, rfl⟩)
        | (go_at_call 10; (with_reducible refine (hRoom.out _ _ _ hR5).mono ?_); rintro e w6 ⟨rfl, rfl⟩)
        | (go_at_call 11; (with_reducible refine (hCap.out _ _ _ hR5).mono ?_); rintro e w6 ⟨rfl, rfl⟩)
        )
      go_roundw
      case rel => exact ⟨k + 1, F5, row5, L5, by omega, by rw [HX5.out], by go_num, by omega, hR5, hBe.trans (hR.below ho5)⟩
      case measure => simp [intOf]; omega
    · have hP := Peek_any c wr hR
      rw [cnt_all hR.le, List.take_length] at hP
      have HP := Lib.hid hP
      have ht : (decide ((k : Int) < len) && decide ((k : Int) < 60)) = false := by simp; omega
      by_cases hlt2 : k < len
      · have hki : (k : Int) < len := by omega
        have hk6 : ¬ (k : Int) < 60 := by omega
        generalize strOf L = X at *
        clear hP hl
        go_wp2_with (first
          | (go_at_call 12; (with_reducible refine (HP.out).mono ?_); rintro e w5 ⟨rfl, ho5⟩)
          )
        go_ret
        exact ⟨rfl, hBe.trans (ho5.below (Below.size hBe) (fun _ _ hh => hh))⟩
      · have hki : ¬ (k : Int) < len := by omega
        generalize strOf L = X at *
        clear hP hl
        go_wp2_with (first
          | (go_at_call 12; (with_reducible refine (HP.out).mono ?_); rintro e w5 ⟨rfl, ho5⟩)
          )
        go_ret
        exact ⟨rfl, hBe.trans (ho5.below (Below.size hBe) (fun _ _ hh => hh))⟩
/-! The step from the walk to the statement of RingDoes. -/
namespace frRingDoes
open Go.ChangeShapes Go.WideShapes Go.ChangeAt Go.RowKit
set_option linter.unusedVariables false
theorem own : ownKnob Try.prog.godebug = none := by kernel_rfl
theorem laidOut : laidOutB Try.prog = true := by kernel_rfl
theorem shape0 : Kd.ok Try.prog (.int .i64) 3 = true := by kernel_rfl
theorem shape1 : Kd.ok Try.prog (.slc (.agg [.int .i64, .int .i64, .str])) 22 = true := by kernel_rfl
set_option maxRecDepth 100000 in
theorem contract (H : Type) (enc : TypeId × Value → H) (W : World) (base : Nat) (args : Array Value) (ds gs : List (DataW H)) (before : List MemPlace)
    (hval : ∀ (j : Nat) t v, Try.f3.params[j]? = some t → args[j]? = some v → Value.okWide Try.prog W .any base t v)
    (hW : DataW.Whole enc Try.prog Try.f3.params.toList Rows.ringDoesSpec.vars false W args.toList ds gs before) :
    Calls Try.prog 3 args W fun e W' => ∃ v, e = .returned v ∧ Rows.ringDoesSpec.post enc Try.prog Try.f3 false true false false W args v W' := by
  have hW' := hW
  obtain ⟨p, q, hA0, hV, rfl, hfz, hnd⟩ := hW
  have hA : DataW.TrodAll enc Try.prog W 0 (fun _ => true) true Try.f3.params.toList args.toList ds p := hA0
  rw [Try.params3] at hA hval
  obtain ⟨v0, vs0, d0, ds0, p0, q0, hargs, rfl, rfl, h0, r0⟩ := trodAll_cons hA
  obtain ⟨v1, vs1, d1, ds1, p1, q1, rfl, rfl, rfl, h1, r1⟩ := trodAll_cons r0
  obtain ⟨rfl, rfl, rfl⟩ := trodAll_nil r1
  obtain rfl : args = #[v0, v1] := by cases args; simp_all
  obtain ⟨rfl, rfl⟩ := trodVars_none hV
  have k0 := Kd.fit _ shape0 (hval 0 3 v0 rfl rfl) h0
  have lt0 : ∀ x ∈ p0, x.block < W.heap.size := by obtain ⟨m, hm⟩ := h0; exact DataW.trod_lt m _ _ _ hm
  have k1 := Kd.fit _ shape1 (hval 1 22 v1 rfl rfl) h1
  have lt1 : ∀ x ∈ p1, x.block < W.heap.size := by obtain ⟨m, hm⟩ := h1; exact DataW.trod_lt m _ _ _ hm
  refine (ringDoes_walk v0 v1 W k0 k1).mono fun e W' ⟨he, bel⟩ => ?_
  subst he
  exact ⟨_, rfl, _, _, _, [], _, [], hW', trodAll_mk1 (shut_bool Try.underlying4 _), (trodAll_cons_mk (Below.trod laidOut (by kernel_rfl) (of_decide_eq_true (by kernel_rfl)) h0 bel lt0) (trodAll_cons_mk (Below.trod laidOut (by kernel_rfl) (of_decide_eq_true (by kernel_rfl)) h1 bel lt1) trodAll_mk0)), rfl, bel.frame _, fun h => by cases h⟩
set_option maxRecDepth 100000 in
theorem lifted (os : Os) (started : os.Started) (H : Type) (enc : TypeId × Value → H) :
    ReturnsInHanded {} Try.checked os 3 .any (Rows.ringDoesSpec.pre6 enc Try.prog Try.f3 Rows.ringDoesRow.domain false) (Rows.ringDoesSpec.post enc Try.prog Try.f3 false true false false) := by
  refine returnsInHanded_of_change (C := Try.checked) own started (by kernel_rfl) Try.func3
    (ChangeSpec.witness6 (enc := enc) (C := Try.checked) false ⟨#[], #[.int .i64 0, .slice none 0 0], []⟩ 8 (by kernel_rfl) (by kernel_rfl) (by kernel_rfl) (by kernel_rfl)) ?_
  intro W base args ds gs before hval hW _ _
  exact contract H enc W base args ds gs before hval hW
theorem over : Rows.ringDoesRow.holds Try.pinned (OpenSpec.ofChange Rows.ringDoesSpec) :=
  OpenClaim.holds_of_wide 3 Try.f3 rfl rfl rfl rfl rfl rfl rfl ⟨rfl, rfl, rfl, rfl, rfl⟩ rfl rfl rfl rfl rfl (by kernel_rfl) Try.func3 (by kernel_rfl)
    (of_decide_eq_true (by kernel_rfl)) (by unfold Func.isWrapper; first | (rw [if_pos (by decide +kernel)]; kernel_rfl) | (rw [if_neg (by decide +kernel)]; exact ⟨rfl, rfl⟩))
    (fun os started H enc _ => lifted os started H enc)
theorem proved : Rows.RingDoesSaid := over
end frRingDoes
end Go.Proofs.Ytgchiofpnbofdaa
