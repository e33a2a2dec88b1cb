/- A text of any length goes through a ring, piece by piece, as it is (the statement RingStream, as it is given). No condition. -/
import Derived.Test.YtgchiofpnbofdaaL09Apart
namespace Go.Proofs.Ytgchiofpnbofdaa
open Go.RowKit

theorem toList_strOf (l : List UInt8) : (strOf l).toList = l := by rw [ByteArray.toList_eq]; rfl
set_option maxRecDepth 100000 in
set_option maxHeartbeats 8000000 in
theorem ringStream_walk (v0 v1 v2 : Value) (w : World) (h0 : Kd.Fit w (.int .u8) v0) (h1 : Kd.Fit w .str v1) (h2 : Kd.Fit w (.slc (.int .u8)) v2) :
    Calls Try.prog 4 #[v0, v1, v2] w fun e w' => e = .returned (.bool true) ∧ Below w.heap.size w w' := by
  obtain ⟨a, rfl, wa⟩ := Kd.int_fit h0
  obtain ⟨S, rfl, -⟩ := Kd.str_fit h1
  obtain ⟨A, len, cap, rfl, hl⟩ := Kd.slc_fit h2
  clear h0 h1 h2
  obtain ⟨p0, p1⟩ := u8_of wa
  obtain ⟨c, hca⟩ : ∃ c : Nat, a + 1 = c := ⟨(a + 1).toNat, by omega⟩
  have hc : c ≤ 256 := by omega
  have hc1 : 1 ≤ c := by omega
  have hN := Lib.hid (New_in c w (by omega))
  clear wa
  by_cases hS : 3000 < S.size
  · have hSi : (3000 : Int) < S.size := by omega
    obtain ⟨T, hT⟩ : ∃ T, T = S.data.toList.take 3000 := ⟨_, rfl⟩
    have hTl : T.length ≤ 3000 := by rw [hT]; simp; omega
    have hXT : S.extract 0 3000 = strOf T := by rw [hT]; exact strOf_take S.data.toList 3000
    obtain ⟨X, hX⟩ : ∃ X, S.extract 0 3000 = X := ⟨_, rfl⟩
    have HX : Hid (X = strOf T) := Lib.hid (hX.symm.trans hXT)
    have hXs : X.size = T.length := by rw [HX.out, strOf_size]
    clear hT hXT
    go_enter Try.func4, Try.ntmps4
    go_wp2_with (first
      | (go_at_call 6; (with_reducible refine (hN.out).mono ?_); rintro e w1 ⟨r, g, row, rfl, hR1, ho1⟩)
      | (go_at_call 7; (with_reducible refine (awake_any _).mono ?_); rintro e w2 ⟨rfl, ho2⟩)
      )
    have hR2 := hR1.go ho2
    have hBe2 := (ho1.trans ho2).below (Nat.le_refl _) (fun _ _ hh => hh)
    clear hR1 ho1 ho2 hN
    go_loopw [10, 11, 12] (fun oo ss ii wr => ∃ (k F : Nat) (row O L R : List UInt8), k ≤ O.length ∧ oo = .string (strOf O) ∧ ss = .string (strOf R) ∧ ii = .int .i64 k ∧ O ++ (L ++ R) = T ∧ Rg wr r g w.heap.size c F row L ∧ Below w.heap.size w wr) (fun _ _ ii _ => T.length + 1 - (intOf ii).toNat)
    case atStart => exact ⟨0, 0, row, [], [], T, Nat.zero_le _, rfl, by rw [HX.out], rfl, rfl, hR2, hBe2⟩
    case round =>
      clear hR2 hBe2
      obtain ⟨k, F, row', O, L, R, hk, rfl, rfl, rfl, hall, hR, hBe⟩ := hrel
      have hsum : O.length + (L.length + R.length) = T.length := by rw [← hall]; simp
      have hki : (k : Int) < 2 * (X.size : Int) + 2 := by omega
      have hrs := strOf_size R
      have hos := strOf_size O
      by_cases hR0 : R = []
      · have ht0 : (strOf R).toList = [] := by rw [hR0]; exact toList_strOf []
        by_cases hL0 : L = []
        · subst hR0 hL0
          have hLen := Lib.hid (show Calls Try.prog 9 #[.pointer (some ⟨r, 0, none⟩)] wr (fun x w' => x = .returned (.int .i64 0) ∧ wr = w') from Len_any wr hR)
          have hOT : strOf O = X := by rw [HX.out, ← hall]; simp
          rw [hOT]
          generalize strOf [] = XR at *
          clear hl hR hOT
          go_wp2_with (first
            | (go_at_call 9; (with_reducible refine (hLen.out).mono ?_); rintro e w5 ⟨rfl, rfl⟩)
            )
          go_ret
          exact ⟨rfl, hBe⟩
        · have hLp : 0 < L.length := List.length_pos_iff.2 hL0
          have hLen := Lib.hid (Len_any wr hR)
          have hLi : (0 : Int) < L.length := by omega
          have hW := Write_any (strOf R) wr hR
          have hcl := hR.le
          obtain ⟨m, hm⟩ : ∃ m, m = min (strOf R).size (c - L.length) := ⟨_, rfl⟩
          rw [← hm] at hW
          have hmR : m ≤ (strOf R).size := by omega
          have hE : (strOf R).extract m (strOf R).size = strOf (R.drop m) := strOf_drop R m
          have e1 : (strOf R).data.toList = R := rfl
          rw [e1] at hW
          have hLL : 0 < (L ++ R.take m).length := by simp; omega
          have hLb : (L ++ R.take m).length ≤ c := by simp; omega
          have HW := Lib.hid hW
          have hBel := Lib.hid (fun W (ho : Only (RTwo r g) wr W) => hR.below ho)
          have hgb := hR.gb
          have hrb := hR.hb
          have hBel2 := Lib.hid (fun W W' (hs : w.heap.size ≤ W.heap.size) (ho : Only (One r) W W') => (ho.below (B := w.heap.size) hs (fun i hi hh => by simp [One] at hh; omega)))
          clear hW e1
          by_cases hp : k < len
          · obtain ⟨b', off, rfl, hb', cs, hcl2, hcs, his⟩ := hl.at (by decide) hp
            obtain ⟨p, rfl, wp⟩ := (by unfold Kd.Is at his; exact his : ∃ z, cs = [Value.int IntKind.u8 z] ∧ (Lit.int IntKind.u8 z).wf = true)
            obtain ⟨q0, q1⟩ := u8_of wp
            have q2 := hcs 0 (by decide)
            simp [Kd.cells] at q2
            have f0 := (hBe.cell (p := ⟨b', _, none⟩) hb').trans q2
            have hpi : (k : Int) < len := by omega
            have hmax : len ≤ 9223372036854775807 := Nat.le_trans hl.1 hl.2.1
            have hq1 : 1 ≤ p % 9 + 1 := by omega
            have hq9 : p % 9 + 1 ≤ 9 := by omega
            clear q2 hcs hcl2 wp hl
            have hRd := Lib.hid (fun W row' (h : Rg W r g w.heap.size c F row' (L ++ R.take m)) => Read_any (p % 9 + 1) W h)
            have hcb : cnt (p % 9 + 1) (L ++ R.take m).length ≤ (L ++ R.take m).length := by unfold cnt; omega
            have hcp : 1 ≤ cnt (p % 9 + 1) (L ++ R.take m).length := by unfold cnt; omega
            generalize hjj : cnt (p % 9 + 1) (L ++ R.take m).length = j at *
            have hys : (strOf ((L ++ R.take m).take j)).size = j := by rw [strOf_size, List.length_take]; omega
            have hap : Hid (strOf (O ++ (L ++ R.take m).take j) = strOf O ++ strOf ((L ++ R.take m).take j)) := Lib.hid rfl
            have hnew : Hid ((O ++ (L ++ R.take m).take j) ++ ((L ++ R.take m).drop j ++ R.drop m) = T) := Lib.hid (by
              rw [← hall, List.append_assoc, ← List.append_assoc ((L ++ R.take m).take j), List.take_append_drop, List.append_assoc, List.take_append_drop])
            have hlenO : Hid (k + 1 ≤ (O ++ (L ++ R.take m).take j).length) := Lib.hid (by rw [List.length_append, List.length_take]; omega)
            have hmeas : Hid (k < T.length) := Lib.hid (by omega)
            have hz : (strOf O).size + (strOf ((L ++ R.take m).take j)).size ≤ 9223372036854775807 := by omega
            have HE := Lib.hid hE
            generalize strOf ((L ++ R.take m).take j) = YR at *
            generalize strOf R = XR at *
            generalize strOf O = XO at *
            have hmi : (m : Int) ≤ XR.size := by omega
            clear hR hE hjj hall hrs hm hos hR0 hys hLL hLb hcl
            go_wp2_with (first
              | (go_at_call 9; (with_reducible refine (hLen.out).mono ?_); rintro e w5 ⟨rfl, rfl⟩)
              | (go_at_call 13; (with_reducible refine (HW.out).mono ?_); rintro e w5 ⟨row5, rfl, hR5, ho5⟩; have f5 := ((hBel.out _ ho5).cell (p := ⟨b', _, none⟩) hb').trans f0)
              | (go_at_call 14; (with_reducible refine (hRd.out _ _ hR5).mono ?_); rintro e w6 ⟨F6, rfl, hR6, ho6⟩)
              )
            go_roundw
            case rel => exact ⟨k + 1, F6, row5, _, _, _, hlenO.out, by rw [hap.out], by rw [HE.out], by go_num, hnew.out, hR6, (hBe.trans (hBel.out _ ho5)).trans (hBel2.out _ _ (by have := ho5.size; have := Below.size hBe; omega) ho6)⟩
            case measure => have := hmeas.out; simp [intOf]; omega
          · have hpi : ¬ (k : Int) < len := by omega
            have hq1 : (1 : Int) ≤ 1 := by omega
            clear hl
            have hRd := Lib.hid (fun W row' (h : Rg W r g w.heap.size c F row' (L ++ R.take m)) => Read_any (1) W h)
            have hcb : cnt (1) (L ++ R.take m).length ≤ (L ++ R.take m).length := by unfold cnt; omega
            have hcp : 1 ≤ cnt (1) (L ++ R.take m).length := by unfold cnt; omega
            generalize hjj : cnt (1) (L ++ R.take m).length = j at *
            have hys : (strOf ((L ++ R.take m).take j)).size = j := by rw [strOf_size, List.length_take]; omega
            have hap : Hid (strOf (O ++ (L ++ R.take m).take j) = strOf O ++ strOf ((L ++ R.take m).take j)) := Lib.hid rfl
            have hnew : Hid ((O ++ (L ++ R.take m).take j) ++ ((L ++ R.take m).drop j ++ R.drop m) = T) := Lib.hid (by
              rw [← hall, List.append_assoc, ← List.append_assoc ((L ++ R.take m).take j), List.take_append_drop, List.append_assoc, List.take_append_drop])
            have hlenO : Hid (k + 1 ≤ (O ++ (L ++ R.take m).take j).length) := Lib.hid (by rw [List.length_append, List.length_take]; omega)
            have hmeas : Hid (k < T.length) := Lib.hid (by omega)
            have hz : (strOf O).size + (strOf ((L ++ R.take m).take j)).size ≤ 9223372036854775807 := by omega
            have HE := Lib.hid hE
            generalize strOf ((L ++ R.take m).take j) = YR at *
            generalize strOf R = XR at *
            generalize strOf O = XO at *
            have hmi : (m : Int) ≤ XR.size := by omega
            clear hR hE hjj hall hrs hm hos hR0 hys hLL hLb hcl
            go_wp2_with (first
              | (go_at_call 9; (with_reducible refine (hLen.out).mono ?_); rintro e w5 ⟨rfl, rfl⟩)
              | (go_at_call 13; (with_reducible refine (HW.out).mono ?_); rintro e w5 ⟨row5, rfl, hR5, ho5⟩; have f5 := hpi)
              | (go_at_call 14; (with_reducible refine (hRd.out _ _ hR5).mono ?_); rintro e w6 ⟨F6, rfl, hR6, ho6⟩)
              )
            go_roundw
            case rel => exact ⟨k + 1, F6, row5, _, _, _, hlenO.out, by rw [hap.out], by rw [HE.out], by go_num, hnew.out, hR6, (hBe.trans (hBel.out _ ho5)).trans (hBel2.out _ _ (by have := ho5.size; have := Below.size hBe; omega) ho6)⟩
            case measure => have := hmeas.out; simp [intOf]; omega
      · have ht0 : ¬ (strOf R).toList = [] := by rw [toList_strOf]; exact hR0
        have hRp : 0 < R.length := List.length_pos_iff.2 hR0
        have hLen := Lib.hid (Len_any wr hR)
        have hW := Write_any (strOf R) wr hR
        have hcl := hR.le
        obtain ⟨m, hm⟩ : ∃ m, m = min (strOf R).size (c - L.length) := ⟨_, rfl⟩
        rw [← hm] at hW
        have hmR : m ≤ (strOf R).size := by omega
        have hE : (strOf R).extract m (strOf R).size = strOf (R.drop m) := strOf_drop R m
        have e1 : (strOf R).data.toList = R := rfl
        rw [e1] at hW
        have hLL : 0 < (L ++ R.take m).length := by simp; omega
        have hLb : (L ++ R.take m).length ≤ c := by simp; omega
        have HW := Lib.hid hW
        have hBel := Lib.hid (fun W (ho : Only (RTwo r g) wr W) => hR.below ho)
        have hgb := hR.gb
        have hrb := hR.hb
        have hBel2 := Lib.hid (fun W W' (hs : w.heap.size ≤ W.heap.size) (ho : Only (One r) W W') => (ho.below (B := w.heap.size) hs (fun i hi hh => by simp [One] at hh; omega)))
        clear hW e1
        by_cases hp : k < len
        · obtain ⟨b', off, rfl, hb', cs, hcl2, hcs, his⟩ := hl.at (by decide) hp
          obtain ⟨p, rfl, wp⟩ := (by unfold Kd.Is at his; exact his : ∃ z, cs = [Value.int IntKind.u8 z] ∧ (Lit.int IntKind.u8 z).wf = true)
          obtain ⟨q0, q1⟩ := u8_of wp
          have q2 := hcs 0 (by decide)
          simp [Kd.cells] at q2
          have f0 := (hBe.cell (p := ⟨b', _, none⟩) hb').trans q2
          have hpi : (k : Int) < len := by omega
          have hmax : len ≤ 9223372036854775807 := Nat.le_trans hl.1 hl.2.1
          have hq1 : 1 ≤ p % 9 + 1 := by omega
          have hq9 : p % 9 + 1 ≤ 9 := by omega
          clear q2 hcs hcl2 wp hl
          have hRd := Lib.hid (fun W row' (h : Rg W r g w.heap.size c F row' (L ++ R.take m)) => Read_any (p % 9 + 1) W h)
          have hcb : cnt (p % 9 + 1) (L ++ R.take m).length ≤ (L ++ R.take m).length := by unfold cnt; omega
          have hcp : 1 ≤ cnt (p % 9 + 1) (L ++ R.take m).length := by unfold cnt; omega
          generalize hjj : cnt (p % 9 + 1) (L ++ R.take m).length = j at *
          have hys : (strOf ((L ++ R.take m).take j)).size = j := by rw [strOf_size, List.length_take]; omega
          have hap : Hid (strOf (O ++ (L ++ R.take m).take j) = strOf O ++ strOf ((L ++ R.take m).take j)) := Lib.hid rfl
          have hnew : Hid ((O ++ (L ++ R.take m).take j) ++ ((L ++ R.take m).drop j ++ R.drop m) = T) := Lib.hid (by
            rw [← hall, List.append_assoc, ← List.append_assoc ((L ++ R.take m).take j), List.take_append_drop, List.append_assoc, List.take_append_drop])
          have hlenO : Hid (k + 1 ≤ (O ++ (L ++ R.take m).take j).length) := Lib.hid (by rw [List.length_append, List.length_take]; omega)
          have hmeas : Hid (k < T.length) := Lib.hid (by omega)
          have hz : (strOf O).size + (strOf ((L ++ R.take m).take j)).size ≤ 9223372036854775807 := by omega
          have HE := Lib.hid hE
          generalize strOf ((L ++ R.take m).take j) = YR at *
          generalize strOf R = XR at *
          generalize strOf O = XO at *
          have hmi : (m : Int) ≤ XR.size := by omega
          clear hR hE hjj hall hrs hm hos hR0 hys hLL hLb hcl
          go_wp2_with (first
            | (go_at_call 9; (with_reducible refine (hLen.out).mono ?_); rintro e w5 ⟨rfl, rfl⟩)
            | (go_at_call 13; (with_reducible refine (HW.out).mono ?_); rintro e w5 ⟨row5, rfl, hR5, ho5⟩; have f5 := ((hBel.out _ ho5).cell (p := ⟨b', _, none⟩) hb').trans f0)
            | (go_at_call 14; (with_reducible refine (hRd.out _ _ hR5).mono ?_); rintro e w6 ⟨F6, rfl, hR6, ho6⟩)
            )
          go_roundw
          case rel => exact ⟨k + 1, F6, row5, _, _, _, hlenO.out, by rw [hap.out], by rw [HE.out], by go_num, hnew.out, hR6, (hBe.trans (hBel.out _ ho5)).trans (hBel2.out _ _ (by have := ho5.size; have := Below.size hBe; omega) ho6)⟩
          case measure => have := hmeas.out; simp [intOf]; omega
        · have hpi : ¬ (k : Int) < len := by omega
          have hq1 : (1 : Int) ≤ 1 := by omega
          clear hl
          have hRd := Lib.hid (fun W row' (h : Rg W r g w.heap.size c F row' (L ++ R.take m)) => Read_any (1) W h)
          have hcb : cnt (1) (L ++ R.take m).length ≤ (L ++ R.take m).length := by unfold cnt; omega
          have hcp : 1 ≤ cnt (1) (L ++ R.take m).length := by unfold cnt; omega
          generalize hjj : cnt (1) (L ++ R.take m).length = j at *
          have hys : (strOf ((L ++ R.take m).take j)).size = j := by rw [strOf_size, List.length_take]; omega
          have hap : Hid (strOf (O ++ (L ++ R.take m).take j) = strOf O ++ strOf ((L ++ R.take m).take j)) := Lib.hid rfl
          have hnew : Hid ((O ++ (L ++ R.take m).take j) ++ ((L ++ R.take m).drop j ++ R.drop m) = T) := Lib.hid (by
            rw [← hall, List.append_assoc, ← List.append_assoc ((L ++ R.take m).take j), List.take_append_drop, List.append_assoc, List.take_append_drop])
          have hlenO : Hid (k + 1 ≤ (O ++ (L ++ R.take m).take j).length) := Lib.hid (by rw [List.length_append, List.length_take]; omega)
          have hmeas : Hid (k < T.length) := Lib.hid (by omega)
          have hz : (strOf O).size + (strOf ((L ++ R.take m).take j)).size ≤ 9223372036854775807 := by omega
          have HE := Lib.hid hE
          generalize strOf ((L ++ R.take m).take j) = YR at *
          generalize strOf R = XR at *
          generalize strOf O = XO at *
          have hmi : (m : Int) ≤ XR.size := by omega
          clear hR hE hjj hall hrs hm hos hR0 hys hLL hLb hcl
          go_wp2_with (first
            | (go_at_call 9; (with_reducible refine (hLen.out).mono ?_); rintro e w5 ⟨rfl, rfl⟩)
            | (go_at_call 13; (with_reducible refine (HW.out).mono ?_); rintro e w5 ⟨row5, rfl, hR5, ho5⟩; have f5 := hpi)
            | (go_at_call 14; (with_reducible refine (hRd.out _ _ hR5).mono ?_); rintro e w6 ⟨F6, rfl, hR6, ho6⟩)
            )
          go_roundw
          case rel => exact ⟨k + 1, F6, row5, _, _, _, hlenO.out, by rw [hap.out], by rw [HE.out], by go_num, hnew.out, hR6, (hBe.trans (hBel.out _ ho5)).trans (hBel2.out _ _ (by have := ho5.size; have := Below.size hBe; omega) ho6)⟩
          case measure => have := hmeas.out; simp [intOf]; omega
  · have hSi : ¬ (3000 : Int) < S.size := by omega
    obtain ⟨T, hT⟩ : ∃ T, T = S.data.toList := ⟨_, rfl⟩
    obtain ⟨X, rfl⟩ : ∃ X, X = S := ⟨_, rfl⟩
    have hTl : T.length ≤ 3000 := by rw [hT]; simp; omega
    have HX : Hid (X = strOf T) := Lib.hid (by rw [hT]; rfl)
    have hXs : X.size = T.length := by rw [hT]; simp
    clear hT
    go_enter Try.func4, Try.ntmps4
    go_wp2_with (first
      | (go_at_call 6; (with_reducible refine (hN.out).mono ?_); rintro e w1 ⟨r, g, row, rfl, hR1, ho1⟩)
      | (go_at_call 7; (with_reducible refine (awake_any _).mono ?_); rintro e w2 ⟨rfl, ho2⟩)
      )
    have hR2 := hR1.go ho2
    have hBe2 := (ho1.trans ho2).below (Nat.le_refl _) (fun _ _ hh => hh)
    clear hR1 ho1 ho2 hN
    go_loopw [10, 11, 12] (fun oo ss ii wr => ∃ (k F : Nat) (row O L R : List UInt8), k ≤ O.length ∧ oo = .string (strOf O) ∧ ss = .string (strOf R) ∧ ii = .int .i64 k ∧ O ++ (L ++ R) = T ∧ Rg wr r g w.heap.size c F row L ∧ Below w.heap.size w wr) (fun _ _ ii _ => T.length + 1 - (intOf ii).toNat)
    case atStart => exact ⟨0, 0, row, [], [], T, Nat.zero_le _, rfl, by rw [HX.out], rfl, rfl, hR2, hBe2⟩
    case round =>
      clear hR2 hBe2
      obtain ⟨k, F, row', O, L, R, hk, rfl, rfl, rfl, hall, hR, hBe⟩ := hrel
      have hsum : O.length + (L.length + R.length) = T.length := by rw [← hall]; simp
      have hki : (k : Int) < 2 * (X.size : Int) + 2 := by omega
      have hrs := strOf_size R
      have hos := strOf_size O
      by_cases hR0 : R = []
      · have ht0 : (strOf R).toList = [] := by rw [hR0]; exact toList_strOf []
        by_cases hL0 : L = []
        · subst hR0 hL0
          have hLen := Lib.hid (show Calls Try.prog 9 #[.pointer (some ⟨r, 0, none⟩)] wr (fun x w' => x = .returned (.int .i64 0) ∧ wr = w') from Len_any wr hR)
          have hOT : strOf O = X := by rw [HX.out, ← hall]; simp
          rw [hOT]
          generalize strOf [] = XR at *
          clear hl hR hOT
          go_wp2_with (first
            | (go_at_call 9; (with_reducible refine (hLen.out).mono ?_); rintro e w5 ⟨rfl, rfl⟩)
            )
          go_ret
          exact ⟨rfl, hBe⟩
        · have hLp : 0 < L.length := List.length_pos_iff.2 hL0
          have hLen := Lib.hid (Len_any wr hR)
          have hLi : (0 : Int) < L.length := by omega
          have hW := Write_any (strOf R) wr hR
          have hcl := hR.le
          obtain ⟨m, hm⟩ : ∃ m, m = min (strOf R).size (c - L.length) := ⟨_, rfl⟩
          rw [← hm] at hW
          have hmR : m ≤ (strOf R).size := by omega
          have hE : (strOf R).extract m (strOf R).size = strOf (R.drop m) := strOf_drop R m
          have e1 : (strOf R).data.toList = R := rfl
          rw [e1] at hW
          have hLL : 0 < (L ++ R.take m).length := by simp; omega
          have hLb : (L ++ R.take m).length ≤ c := by simp; omega
          have HW := Lib.hid hW
          have hBel := Lib.hid (fun W (ho : Only (RTwo r g) wr W) => hR.below ho)
          have hgb := hR.gb
          have hrb := hR.hb
          have hBel2 := Lib.hid (fun W W' (hs : w.heap.size ≤ W.heap.size) (ho : Only (One r) W W') => (ho.below (B := w.heap.size) hs (fun i hi hh => by simp [One] at hh; omega)))
          clear hW e1
          by_cases hp : k < len
          · obtain ⟨b', off, rfl, hb', cs, hcl2, hcs, his⟩ := hl.at (by decide) hp
            obtain ⟨p, rfl, wp⟩ := (by unfold Kd.Is at his; exact his : ∃ z, cs = [Value.int IntKind.u8 z] ∧ (Lit.int IntKind.u8 z).wf = true)
            obtain ⟨q0, q1⟩ := u8_of wp
            have q2 := hcs 0 (by decide)
            simp [Kd.cells] at q2
            have f0 := (hBe.cell (p := ⟨b', _, none⟩) hb').trans q2
            have hpi : (k : Int) < len := by omega
            have hmax : len ≤ 9223372036854775807 := Nat.le_trans hl.1 hl.2.1
            have hq1 : 1 ≤ p % 9 + 1 := by omega
            have hq9 : p % 9 + 1 ≤ 9 := by omega
            clear q2 hcs hcl2 wp hl
            have hRd := Lib.hid (fun W row' (h : Rg W r g w.heap.size c F row' (L ++ R.take m)) => Read_any (p % 9 + 1) W h)
            have hcb : cnt (p % 9 + 1) (L ++ R.take m).length ≤ (L ++ R.take m).length := by unfold cnt; omega
            have hcp : 1 ≤ cnt (p % 9 + 1) (L ++ R.take m).length := by unfold cnt; omega
            generalize hjj : cnt (p % 9 + 1) (L ++ R.take m).length = j at *
            have hys : (strOf ((L ++ R.take m).take j)).size = j := by rw [strOf_size, List.length_take]; omega
            have hap : Hid (strOf (O ++ (L ++ R.take m).take j) = strOf O ++ strOf ((L ++ R.take m).take j)) := Lib.hid rfl
            have hnew : Hid ((O ++ (L ++ R.take m).take j) ++ ((L ++ R.take m).drop j ++ R.drop m) = T) := Lib.hid (by
              rw [← hall, List.append_assoc, ← List.append_assoc ((L ++ R.take m).take j), List.take_append_drop, List.append_assoc, List.take_append_drop])
            have hlenO : Hid (k + 1 ≤ (O ++ (L ++ R.take m).take j).length) := Lib.hid (by rw [List.length_append, List.length_take]; omega)
            have hmeas : Hid (k < T.length) := Lib.hid (by omega)
            have hz : (strOf O).size + (strOf ((L ++ R.take m).take j)).size ≤ 9223372036854775807 := by omega
            have HE := Lib.hid hE
            generalize strOf ((L ++ R.take m).take j) = YR at *
            generalize strOf R = XR at *
            generalize strOf O = XO at *
            have hmi : (m : Int) ≤ XR.size := by omega
            clear hR hE hjj hall hrs hm hos hR0 hys hLL hLb hcl
            go_wp2_with (first
              | (go_at_call 9; (with_reducible refine (hLen.out).mono ?_); rintro e w5 ⟨rfl, rfl⟩)
              | (go_at_call 13; (with_reducible refine (HW.out).mono ?_); rintro e w5 ⟨row5, rfl, hR5, ho5⟩; have f5 := ((hBel.out _ ho5).cell (p := ⟨b', _, none⟩) hb').trans f0)
              | (go_at_call 14; (with_reducible refine (hRd.out _ _ hR5).mono ?_); rintro e w6 ⟨F6, rfl, hR6, ho6⟩)
              )
            go_roundw
            case rel => exact ⟨k + 1, F6, row5, _, _, _, hlenO.out, by rw [hap.out], by rw [HE.out], by go_num, hnew.out, hR6, (hBe.trans (hBel.out _ ho5)).trans (hBel2.out _ _ (by have := ho5.size; have := Below.size hBe; omega) ho6)⟩
            case measure => have := hmeas.out; simp [intOf]; omega
          · have hpi : ¬ (k : Int) < len := by omega
            have hq1 : (1 : Int) ≤ 1 := by omega
            clear hl
            have hRd := Lib.hid (fun W row' (h : Rg W r g w.heap.size c F row' (L ++ R.take m)) => Read_any (1) W h)
            have hcb : cnt (1) (L ++ R.take m).length ≤ (L ++ R.take m).length := by unfold cnt; omega
            have hcp : 1 ≤ cnt (1) (L ++ R.take m).length := by unfold cnt; omega
            generalize hjj : cnt (1) (L ++ R.take m).length = j at *
            have hys : (strOf ((L ++ R.take m).take j)).size = j := by rw [strOf_size, List.length_take]; omega
            have hap : Hid (strOf (O ++ (L ++ R.take m).take j) = strOf O ++ strOf ((L ++ R.take m).take j)) := Lib.hid rfl
            have hnew : Hid ((O ++ (L ++ R.take m).take j) ++ ((L ++ R.take m).drop j ++ R.drop m) = T) := Lib.hid (by
              rw [← hall, List.append_assoc, ← List.append_assoc ((L ++ R.take m).take j), List.take_append_drop, List.append_assoc, List.take_append_drop])
            have hlenO : Hid (k + 1 ≤ (O ++ (L ++ R.take m).take j).length) := Lib.hid (by rw [List.length_append, List.length_take]; omega)
            have hmeas : Hid (k < T.length) := Lib.hid (by omega)
            have hz : (strOf O).size + (strOf ((L ++ R.take m).take j)).size ≤ 9223372036854775807 := by omega
            have HE := Lib.hid hE
            generalize strOf ((L ++ R.take m).take j) = YR at *
            generalize strOf R = XR at *
            generalize strOf O = XO at *
            have hmi : (m : Int) ≤ XR.size := by omega
            clear hR hE hjj hall hrs hm hos hR0 hys hLL hLb hcl
            go_wp2_with (first
              | (go_at_call 9; (with_reducible refine (hLen.out).mono ?_); rintro e w5 ⟨rfl, rfl⟩)
              | (go_at_call 13; (with_reducible refine (HW.out).mono ?_); rintro e w5 ⟨row5, rfl, hR5, ho5⟩; have f5 := hpi)
              | (go_at_call 14; (with_reducible refine (hRd.out _ _ hR5).mono ?_); rintro e w6 ⟨F6, rfl, hR6, ho6⟩)
              )
            go_roundw
            case rel => exact ⟨k + 1, F6, row5, _, _, _, hlenO.out, by rw [hap.out], by rw [HE.out], by go_num, hnew.out, hR6, (hBe.trans (hBel.out _ ho5)).trans (hBel2.out _ _ (by have := ho5.size; have := Below.size hBe; omega) ho6)⟩
            case measure => have := hmeas.out; simp [intOf]; omega
      · have ht0 : ¬ (strOf R).toList = [] := by rw [toList_strOf]; exact hR0
        have hRp : 0 < R.length := List.length_pos_iff.2 hR0
        have hLen := Lib.hid (Len_any wr hR)
        have hW := Write_any (strOf R) wr hR
        have hcl := hR.le
        obtain ⟨m, hm⟩ : ∃ m, m = min (strOf R).size (c - L.length) := ⟨_, rfl⟩
        rw [← hm] at hW
        have hmR : m ≤ (strOf R).size := by omega
        have hE : (strOf R).extract m (strOf R).size = strOf (R.drop m) := strOf_drop R m
        have e1 : (strOf R).data.toList = R := rfl
        rw [e1] at hW
        have hLL : 0 < (L ++ R.take m).length := by simp; omega
        have hLb : (L ++ R.take m).length ≤ c := by simp; omega
        have HW := Lib.hid hW
        have hBel := Lib.hid (fun W (ho : Only (RTwo r g) wr W) => hR.below ho)
        have hgb := hR.gb
        have hrb := hR.hb
        have hBel2 := Lib.hid (fun W W' (hs : w.heap.size ≤ W.heap.size) (ho : Only (One r) W W') => (ho.below (B := w.heap.size) hs (fun i hi hh => by simp [One] at hh; omega)))
        clear hW e1
        by_cases hp : k < len
        · obtain ⟨b', off, rfl, hb', cs, hcl2, hcs, his⟩ := hl.at (by decide) hp
          obtain ⟨p, rfl, wp⟩ := (by unfold Kd.Is at his; exact his : ∃ z, cs = [Value.int IntKind.u8 z] ∧ (Lit.int IntKind.u8 z).wf = true)
          obtain ⟨q0, q1⟩ := u8_of wp
          have q2 := hcs 0 (by decide)
          simp [Kd.cells] at q2
          have f0 := (hBe.cell (p := ⟨b', _, none⟩) hb').trans q2
          have hpi : (k : Int) < len := by omega
          have hmax : len ≤ 9223372036854775807 := Nat.le_trans hl.1 hl.2.1
          have hq1 : 1 ≤ p % 9 + 1 := by omega
          have hq9 : p % 9 + 1 ≤ 9 := by omega
          clear q2 hcs hcl2 wp hl
          have hRd := Lib.hid (fun W row' (h : Rg W r g w.heap.size c F row' (L ++ R.take m)) => Read_any (p % 9 + 1) W h)
          have hcb : cnt (p % 9 + 1) (L ++ R.take m).length ≤ (L ++ R.take m).length := by unfold cnt; omega
          have hcp : 1 ≤ cnt (p % 9 + 1) (L ++ R.take m).length := by unfold cnt; omega
          generalize hjj : cnt (p % 9 + 1) (L ++ R.take m).length = j at *
          have hys : (strOf ((L ++ R.take m).take j)).size = j := by rw [strOf_size, List.length_take]; omega
          have hap : Hid (strOf (O ++ (L ++ R.take m).take j) = strOf O ++ strOf ((L ++ R.take m).take j)) := Lib.hid rfl
          have hnew : Hid ((O ++ (L ++ R.take m).take j) ++ ((L ++ R.take m).drop j ++ R.drop m) = T) := Lib.hid (by
            rw [← hall, List.append_assoc, ← List.append_assoc ((L ++ R.take m).take j), List.take_append_drop, List.append_assoc, List.take_append_drop])
          have hlenO : Hid (k + 1 ≤ (O ++ (L ++ R.take m).take j).length) := Lib.hid (by rw [List.length_append, List.length_take]; omega)
          have hmeas : Hid (k < T.length) := Lib.hid (by omega)
          have hz : (strOf O).size + (strOf ((L ++ R.take m).take j)).size ≤ 9223372036854775807 := by omega
          have HE := Lib.hid hE
          generalize strOf ((L ++ R.take m).take j) = YR at *
          generalize strOf R = XR at *
          generalize strOf O = XO at *
          have hmi : (m : Int) ≤ XR.size := by omega
          clear hR hE hjj hall hrs hm hos hR0 hys hLL hLb hcl
          go_wp2_with (first
            | (go_at_call 9; (with_reducible refine (hLen.out).mono ?_); rintro e w5 ⟨rfl, rfl⟩)
            | (go_at_call 13; (with_reducible refine (HW.out).mono ?_); rintro e w5 ⟨row5, rfl, hR5, ho5⟩; have f5 := ((hBel.out _ ho5).cell (p := ⟨b', _, none⟩) hb').trans f0)
            | (go_at_call 14; (with_reducible refine (hRd.out _ _ hR5).mono ?_); rintro e w6 ⟨F6, rfl, hR6, ho6⟩)
            )
          go_roundw
          case rel => exact ⟨k + 1, F6, row5, _, _, _, hlenO.out, by rw [hap.out], by rw [HE.out], by go_num, hnew.out, hR6, (hBe.trans (hBel.out _ ho5)).trans (hBel2.out _ _ (by have := ho5.size; have := Below.size hBe; omega) ho6)⟩
          case measure => have := hmeas.out; simp [intOf]; omega
        · have hpi : ¬ (k : Int) < len := by omega
          have hq1 : (1 : Int) ≤ 1 := by omega
          clear hl
          have hRd := Lib.hid (fun W row' (h : Rg W r g w.heap.size c F row' (L ++ R.take m)) => Read_any (1) W h)
          have hcb : cnt (1) (L ++ R.take m).length ≤ (L ++ R.take m).length := by unfold cnt; omega
          have hcp : 1 ≤ cnt (1) (L ++ R.take m).length := by unfold cnt; omega
          generalize hjj : cnt (1) (L ++ R.take m).length = j at *
          have hys : (strOf ((L ++ R.take m).take j)).size = j := by rw [strOf_size, List.length_take]; omega
          have hap : Hid (strOf (O ++ (L ++ R.take m).take j) = strOf O ++ strOf ((L ++ R.take m).take j)) := Lib.hid rfl
          have hnew : Hid ((O ++ (L ++ R.take m).take j) ++ ((L ++ R.take m).drop j ++ R.drop m) = T) := Lib.hid (by
            rw [← hall, List.append_assoc, ← List.append_assoc ((L ++ R.take m).take j), List.take_append_drop, List.append_assoc, List.take_append_drop])
          have hlenO : Hid (k + 1 ≤ (O ++ (L ++ R.take m).take j).length) := Lib.hid (by rw [List.length_append, List.length_take]; omega)
          have hmeas : Hid (k < T.length) := Lib.hid (by omega)
          have hz : (strOf O).size + (strOf ((L ++ R.take m).take j)).size ≤ 9223372036854775807 := by omega
          have HE := Lib.hid hE
          generalize strOf ((L ++ R.take m).take j) = YR at *
          generalize strOf R = XR at *
          generalize strOf O = XO at *
          have hmi : (m : Int) ≤ XR.size := by omega
          clear hR hE hjj hall hrs hm hos hR0 hys hLL hLb hcl
          go_wp2_with (first
            | (go_at_call 9; (with_reducible refine (hLen.out).mono ?_); rintro e w5 ⟨rfl, rfl⟩)
            | (go_at_call 13; (with_reducible refine (HW.out).mono ?_); rintro e w5 ⟨row5, rfl, hR5, ho5⟩; have f5 := hpi)
            | (go_at_call 14; (with_reducible refine (hRd.out _ _ hR5).mono ?_); rintro e w6 ⟨F6, rfl, hR6, ho6⟩)
            )
          go_roundw
          case rel => exact ⟨k + 1, F6, row5, _, _, _, hlenO.out, by rw [hap.out], by rw [HE.out], by go_num, hnew.out, hR6, (hBe.trans (hBel.out _ ho5)).trans (hBel2.out _ _ (by have := ho5.size; have := Below.size hBe; omega) ho6)⟩
          case measure => have := hmeas.out; simp [intOf]; omega
/-! The step from the walk to the statement of RingStream. -/
namespace frRingStream
open Go.ChangeShapes Go.WideShapes Go.ChangeAt Go.RowKit
set_option linter.unusedVariables false
theorem own : ownKnob Try.prog.godebug = none := by kernel_rfl
theorem laidOut : laidOutB Try.prog = true := by kernel_rfl
theorem shape0 : Kd.ok Try.prog (.int .u8) 5 = true := by kernel_rfl
theorem shape1 : Kd.ok Try.prog (.str) 9 = true := by kernel_rfl
theorem shape2 : Kd.ok Try.prog (.slc (.int .u8)) 35 = true := by kernel_rfl
set_option maxRecDepth 100000 in
theorem contract (H : Type) (enc : TypeId × Value → H) (W : World) (base : Nat) (args : Array Value) (ds gs : List (DataW H)) (before : List MemPlace)
    (hval : ∀ (j : Nat) t v, Try.f4.params[j]? = some t → args[j]? = some v → Value.okWide Try.prog W .any base t v)
    (hW : DataW.Whole enc Try.prog Try.f4.params.toList Rows.ringStreamSpec.vars false W args.toList ds gs before) :
    Calls Try.prog 4 args W fun e W' => ∃ v, e = .returned v ∧ Rows.ringStreamSpec.post enc Try.prog Try.f4 false true false false W args v W' := by
  have hW' := hW
  obtain ⟨p, q, hA0, hV, rfl, hfz, hnd⟩ := hW
  have hA : DataW.TrodAll enc Try.prog W 0 (fun _ => true) true Try.f4.params.toList args.toList ds p := hA0
  rw [Try.params4] at hA hval
  obtain ⟨v0, vs0, d0, ds0, p0, q0, hargs, rfl, rfl, h0, r0⟩ := trodAll_cons hA
  obtain ⟨v1, vs1, d1, ds1, p1, q1, rfl, rfl, rfl, h1, r1⟩ := trodAll_cons r0
  obtain ⟨v2, vs2, d2, ds2, p2, q2, rfl, rfl, rfl, h2, r2⟩ := trodAll_cons r1
  obtain ⟨rfl, rfl, rfl⟩ := trodAll_nil r2
  obtain rfl : args = #[v0, v1, v2] := by cases args; simp_all
  obtain ⟨rfl, rfl⟩ := trodVars_none hV
  have k0 := Kd.fit _ shape0 (hval 0 5 v0 rfl rfl) h0
  have lt0 : ∀ x ∈ p0, x.block < W.heap.size := by obtain ⟨m, hm⟩ := h0; exact DataW.trod_lt m _ _ _ hm
  have k1 := Kd.fit _ shape1 (hval 1 9 v1 rfl rfl) h1
  have lt1 : ∀ x ∈ p1, x.block < W.heap.size := by obtain ⟨m, hm⟩ := h1; exact DataW.trod_lt m _ _ _ hm
  have k2 := Kd.fit _ shape2 (hval 2 35 v2 rfl rfl) h2
  have lt2 : ∀ x ∈ p2, x.block < W.heap.size := by obtain ⟨m, hm⟩ := h2; exact DataW.trod_lt m _ _ _ hm
  refine (ringStream_walk v0 v1 v2 W k0 k1 k2).mono fun e W' ⟨he, bel⟩ => ?_
  subst he
  exact ⟨_, rfl, _, _, _, [], _, [], hW', trodAll_mk1 (shut_bool Try.underlying4 _), (trodAll_cons_mk (Below.trod laidOut (by kernel_rfl) (of_decide_eq_true (by kernel_rfl)) h0 bel lt0) (trodAll_cons_mk (Below.trod laidOut (by kernel_rfl) (of_decide_eq_true (by kernel_rfl)) h1 bel lt1) (trodAll_cons_mk (Below.trod laidOut (by kernel_rfl) (of_decide_eq_true (by kernel_rfl)) h2 bel lt2) trodAll_mk0))), rfl, bel.frame _, fun h => by cases h⟩
set_option maxRecDepth 100000 in
theorem lifted (os : Os) (started : os.Started) (H : Type) (enc : TypeId × Value → H) :
    ReturnsInHanded {} Try.checked os 4 .any (Rows.ringStreamSpec.pre6 enc Try.prog Try.f4 Rows.ringStreamRow.domain false) (Rows.ringStreamSpec.post enc Try.prog Try.f4 false true false false) := by
  refine returnsInHanded_of_change (C := Try.checked) own started (by kernel_rfl) Try.func4
    (ChangeSpec.witness6 (enc := enc) (C := Try.checked) false ⟨#[], #[.int .u8 0, .string ByteArray.empty, .slice none 0 0], []⟩ 8 (by kernel_rfl) (by kernel_rfl) (by kernel_rfl) (by kernel_rfl)) ?_
  intro W base args ds gs before hval hW _ _
  exact contract H enc W base args ds gs before hval hW
theorem over : Rows.ringStreamRow.holds Try.pinned (OpenSpec.ofChange Rows.ringStreamSpec) :=
  OpenClaim.holds_of_wide 4 Try.f4 rfl rfl rfl rfl rfl rfl rfl ⟨rfl, rfl, rfl, rfl, rfl⟩ rfl rfl rfl rfl rfl (by kernel_rfl) Try.func4 (by kernel_rfl)
    (of_decide_eq_true (by kernel_rfl)) (by unfold Func.isWrapper; first | (rw [if_pos (by decide +kernel)]; kernel_rfl) | (rw [if_neg (by decide +kernel)]; exact ⟨rfl, rfl⟩))
    (fun os started H enc _ => lifted os started H enc)
theorem proved : Rows.RingStreamSaid := over
end frRingStream
end Go.Proofs.Ytgchiofpnbofdaa
