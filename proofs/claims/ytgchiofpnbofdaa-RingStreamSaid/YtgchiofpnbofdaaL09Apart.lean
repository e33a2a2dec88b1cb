/- A copy of a ring goes its own way; a nil ring has nothing (the statement RingApart, as it is given). No condition. -/
import Derived.Test.YtgchiofpnbofdaaL09Does
namespace Go.Proofs.Ytgchiofpnbofdaa
open Go.RowKit

theorem nsns : (noS ++ noS).toList = [] := by
  have e : noS ++ noS = noS := by
    apply ByteArray.ext
    simp
  rw [e]
  unfold ByteArray.toList ByteArray.toList.loop
  simp [ByteArray.size]
set_option maxRecDepth 100000 in
set_option maxHeartbeats 8000000 in
theorem ringApart_walk (v0 v1 v2 : Value) (w : World) (h0 : Kd.Fit w (.int .u8) v0) (h1 : Kd.Fit w (.slc (.agg [.int .i64, .int .i64, .str])) v1) (h2 : Kd.Fit w (.slc (.agg [.int .i64, .int .i64, .str])) v2) :
    Calls Try.prog 5 #[v0, v1, v2] w fun e w' => e = .returned (.bool true) ∧ Below w.heap.size w w' := by
  obtain ⟨a, rfl, wa⟩ := Kd.int_fit h0
  obtain ⟨A, len, cap, rfl, hl⟩ := Kd.slc_fit h1
  obtain ⟨A2, len2, cap2, rfl, hl2⟩ := Kd.slc_fit h2
  clear h0 h1 h2
  obtain ⟨p0, p1⟩ := u8_of wa
  obtain ⟨c, rfl⟩ : ∃ c : Nat, a = c := ⟨a.toNat, by omega⟩
  have hc : c ≤ 255 := by omega
  have hN := Lib.hid (New_in c w (by omega))
  clear wa p0
  go_enter Try.func5, Try.ntmps5
  go_wp2_with (first
    | (go_at_call 6; (with_reducible refine (hN.out).mono ?_); rintro e w1 ⟨r, g, row, rfl, hR1, ho1⟩)
    | (go_at_call 7; (with_reducible refine (awake_any _).mono ?_); rintro e w2 ⟨rfl, ho2⟩)
    )
  have hR2 := hR1.go ho2
  have hBe2 := (ho1.trans ho2).below (Nat.le_refl _) (fun _ _ hh => hh)
  clear hR1 ho1 ho2 hN
  go_loopw [10, 11] (fun ss ii wr => ∃ (k F : Nat) (row L : List UInt8), k ≤ len ∧ ss = .string (strOf L) ∧ ii = .int .i64 k ∧ k ≤ 30 ∧ Rg wr r g w.heap.size c F row L ∧ Below w.heap.size w wr) (fun _ ii _ => len - (intOf ii).toNat)
  case atStart => exact ⟨0, 0, row, [], Nat.zero_le _, rfl, rfl, by omega, hR2, hBe2⟩
  case round =>
    clear hR2 hBe2
    obtain ⟨k, F, row', L, hk, rfl, rfl, hk1, hR, hBe⟩ := hrel
    have hmax : len ≤ 9223372036854775807 := Nat.le_trans hl.1 hl.2.1
    by_cases hlt : k < len ∧ k < 30
    · obtain ⟨hlt, h30⟩ := hlt
      obtain ⟨b', off, rfl, hb', cs, hcl, hcs, his⟩ := (hl).at (by decide) hlt
      obtain ⟨u0, e0, rfl, i0, his⟩ := Kd.headL rfl (by unfold Kd.Is at his; exact his)
      obtain ⟨u1, e1, rfl, i1, his⟩ := Kd.headL rfl his
      obtain ⟨u2, e2, rfl, i2, his⟩ := Kd.headL rfl his
      obtain rfl := Kd.end_ his
      obtain ⟨kd, rfl, -⟩ := Kd.int_is i0
      obtain ⟨n, rfl, -⟩ := Kd.int_is i1
      obtain ⟨S, rfl, -⟩ := Kd.str_is i2
      have q0 := hcs 0 (by decide)
      have q1 := hcs 1 (by decide)
      have q2 := hcs 2 (by decide)
      simp [Kd.cells, Kd.cellsL] at q0 q1 q2
      have f0 := (hBe.cell (p := ⟨b', _, none⟩) hb').trans q0
      have f1 := (hBe.cell (p := ⟨b', _, none⟩) hb').trans q1
      have f2 := (hBe.cell (p := ⟨b', _, none⟩) hb').trans q2
      clear q0 q1 q2 hcs hcl i0 i1 i2
      clear hl
      have hD := Lib.hid (do_any kd n S wr hR)
      generalize aft c kd n S L = L5 at *
      unfold DoPost at hD
      obtain ⟨X5, hX5⟩ : ∃ X5, X5 = strOf L5 := ⟨_, rfl⟩
      obtain ⟨X, hX⟩ : ∃ X, X = strOf L := ⟨_, rfl⟩
      rw [← hX5] at hD
      rw [← hX] at hD ⊢
      have HX5 := Lib.hid hX5
      have hki : (k : Int) < len := by omega
      have hk3 : (k : Int) < 30 := by omega
      clear hX hX5
      go_wp2_with (first
        | (go_at_call 8; (with_reducible refine (hD.out).mono ?_); rintro e w5 ⟨F5, row5, rfl, hR5, ho5⟩)
        )
      go_roundw
      case rel => exact ⟨k + 1, F5, row5, L5, by omega, by rw [HX5.out], by go_num, by omega, hR5, hBe.trans (hR.below ho5)⟩
      case measure => simp [intOf]; omega
    · clear hl hmax
      have hCp := Lib.hid (Copy_any wr hR)
      have hgt : (len : Int) ≤ k ∨ (30 : Int) ≤ k := by omega
      have hwz : wr.heap.size = wr.heap.size := rfl
      by_cases hlt2 : k < len
      · have hki : (k : Int) < len := by omega
        have hk3 : ¬ (k : Int) < 30 := by omega
        clear hlt hgt
        go_wp2_with (first
          | (go_at_call 15; (with_reducible refine (hCp.out).mono ?_); rintro e w3 ⟨r2, g2, rfl, hQ3, ho3⟩)
          )
        have hR3 := hR.go ho3
        have hBe3 := hBe.trans (ho3.below (Below.size hBe) (fun _ _ hh => hh))
        have hrB : r < wr.heap.size := hR.blk.lt
        have hgB : g < wr.heap.size := hR.gb.2
        have hB2 : w.heap.size ≤ wr.heap.size := Below.size hBe
        clear hR hBe hCp ho3
        generalize wr.heap.size = B2 at *
        go_loopw [10, 13, 14] (fun ss tt ii wx => ∃ (k F1 F2 : Nat) (row1 row2 L1 L2 : List UInt8), k ≤ len2 ∧ ss = .string (strOf L1) ∧ tt = .string (strOf L2) ∧ ii = .int .i64 k ∧ k ≤ 30 ∧ Rg wx r g w.heap.size c F1 row1 L1 ∧ Rg wx r2 g2 B2 c F2 row2 L2 ∧ Below w.heap.size w wx) (fun _ _ ii _ => len2 - (intOf ii).toNat)
        case atStart => exact ⟨0, F, F, row', row', L, L, Nat.zero_le _, rfl, rfl, rfl, by omega, hR3, hQ3, hBe3⟩
        case round =>
          clear hR3 hQ3 hBe3
          obtain ⟨k, F1, F2, row1, row2, L1, L2, hk, rfl, rfl, rfl, hk1, hR, hQ, hBe⟩ := hrel
          have hmax : len2 ≤ 9223372036854775807 := Nat.le_trans hl2.1 hl2.2.1
          have hr2 := hQ.hb
          have hg2 := hQ.gb.1
          by_cases hlt : k < len2 ∧ k < 30
          · obtain ⟨hlt, h30⟩ := hlt
            obtain ⟨b', off, rfl, hb', cs, hcl, hcs, his⟩ := (hl2).at (by decide) hlt
            obtain ⟨u0, e0, rfl, i0, his⟩ := Kd.headL rfl (by unfold Kd.Is at his; exact his)
            obtain ⟨u1, e1, rfl, i1, his⟩ := Kd.headL rfl his
            obtain ⟨u2, e2, rfl, i2, his⟩ := Kd.headL rfl his
            obtain rfl := Kd.end_ his
            obtain ⟨kd, rfl, -⟩ := Kd.int_is i0
            obtain ⟨n, rfl, -⟩ := Kd.int_is i1
            obtain ⟨S, rfl, -⟩ := Kd.str_is i2
            have q0 := hcs 0 (by decide)
            have q1 := hcs 1 (by decide)
            have q2 := hcs 2 (by decide)
            simp [Kd.cells, Kd.cellsL] at q0 q1 q2
            have f0 := (hBe.cell (p := ⟨b', _, none⟩) hb').trans q0
            have f1 := (hBe.cell (p := ⟨b', _, none⟩) hb').trans q1
            have f2 := (hBe.cell (p := ⟨b', _, none⟩) hb').trans q2
            clear q0 q1 q2 hcs hcl i0 i1 i2
            clear hl2
            by_cases hev : k % 2 = 0
            · have hevI : ((k : Int) % 2 == 0) = true := by simp; omega
              clear hev
              have hD := Lib.hid (do_any kd n S wr hR)
              generalize aft c kd n S L1 = L5 at *
              unfold DoPost at hD
              obtain ⟨X5, hX5⟩ : ∃ X5, X5 = strOf L5 := ⟨_, rfl⟩
              obtain ⟨X, hX⟩ : ∃ X, X = strOf L1 := ⟨_, rfl⟩
              rw [← hX5] at hD
              rw [← hX] at hD ⊢
              have HX5 := Lib.hid hX5
              have hki : (k : Int) < len2 := by omega
              have hk3 : (k : Int) < 30 := by omega
              clear hX hX5
              go_wp2_with (first
                | (go_at_call 8; (with_reducible refine (hD.out).mono ?_); rintro e w5 ⟨F5, row5, rfl, hR5, ho5⟩)
                )
              go_roundw
              case rel => exact ⟨k + 1, F5, F2, row5, row2, L5, L2, by omega, by rw [HX5.out], rfl, by go_num, by omega, hR5, hQ.kept ho5 (fun hh => by rcases hh with hh | hh <;> omega) (fun hh => by rcases hh with hh | hh <;> omega), hBe.trans (hR.below ho5)⟩
              case measure => simp [intOf]; omega
            · have hevI : ((k : Int) % 2 == 0) = false := by simp; omega
              clear hev
              have hD := Lib.hid (do_any kd n S wr hQ)
              generalize aft c kd n S L2 = L5 at *
              unfold DoPost at hD
              obtain ⟨X5, hX5⟩ : ∃ X5, X5 = strOf L5 := ⟨_, rfl⟩
              obtain ⟨X, hX⟩ : ∃ X, X = strOf L2 := ⟨_, rfl⟩
              rw [← hX5] at hD
              rw [← hX] at hD ⊢
              have HX5 := Lib.hid hX5
              have hki : (k : Int) < len2 := by omega
              have hk3 : (k : Int) < 30 := by omega
              clear hX hX5
              go_wp2_with (first
                | (go_at_call 8; (with_reducible refine (hD.out).mono ?_); rintro e w5 ⟨F5, row5, rfl, hQ5, ho5⟩)
                )
              go_roundw
              case rel => exact ⟨k + 1, F1, F5, row1, row5, L1, L5, by omega, rfl, by rw [HX5.out], by go_num, by omega, hR.kept ho5 (fun hh => by rcases hh with hh | hh <;> omega) (fun hh => by rcases hh with hh | hh <;> omega), hQ5, hBe.trans ((hQ.below ho5).mono hB2)⟩
              case measure => simp [intOf]; omega
          · clear hl2 hmax
            have hP := Peek_any c wr hR
            rw [cnt_all hR.le, List.take_length] at hP
            have HP := Lib.hid hP
            have hP2 := fun W (ho : Only Nil wr W) => Peek_any c W (hQ.go ho)
            rw [cnt_all hQ.le, List.take_length] at hP2
            have HP2 := Lib.hid hP2
            clear hP hP2 hR hQ
            generalize strOf L1 = X1 at *
            generalize strOf L2 = X2 at *
            by_cases hlt3 : k < len2
            ·
              have hki : (k : Int) < len2 := by omega
              have hns : (noS ++ noS).toList = [] := nsns
              have hk3 : (k : Int) < len2 → ¬ (k : Int) < 30 := by omega
              clear hlt
              go_wp2_with (first
                | (go_at_call 12; (with_reducible refine (HP.out).mono ?_); rintro e w5 ⟨rfl, ho5⟩)
                | (go_at_call 12; (with_reducible refine (HP2.out _ ho5).mono ?_); rintro e w6 ⟨rfl, ho6⟩)
                | (go_at_call 13; (with_reducible refine (Write_nil _ _).mono ?_); rintro e w7 ⟨rfl, rfl⟩)
                | (go_at_call 9; (with_reducible refine (Len_nil _).mono ?_); rintro e w7 ⟨rfl, rfl⟩)
                | (go_at_call 11; (with_reducible refine (Cap_nil _).mono ?_); rintro e w7 ⟨rfl, rfl⟩)
                | (go_at_call 10; (with_reducible refine (Room_nil _).mono ?_); rintro e w7 ⟨rfl, rfl⟩)
                | (go_at_call 16; (with_reducible refine (Clear_nil _).mono ?_); rintro e w7 ⟨rfl, rfl⟩)
                | (go_at_call 17; (with_reducible refine (Drop_nil _ _).mono ?_); rintro e w7 ⟨rfl, rfl⟩)
                | (go_at_call 14; (with_reducible refine (Read_nil _ _).mono ?_); rintro e w7 ⟨rfl, rfl⟩)
                | (go_at_call 12; (with_reducible refine (Peek_nil _ _).mono ?_); rintro e w7 ⟨rfl, rfl⟩)
                | (go_at_call 15; (with_reducible refine (Copy_nil _).mono ?_); rintro e w7 ⟨rfl, rfl⟩)
                )
              go_ret
              exact ⟨rfl, hBe.trans ((ho5.trans ho6).below (Below.size hBe) (fun _ _ hh => hh))⟩
            ·
              have hki : ¬ (k : Int) < len2 := by omega
              have hns : (noS ++ noS).toList = [] := nsns
              have hk3 : (k : Int) < len2 → ¬ (k : Int) < 30 := by omega
              clear hlt
              go_wp2_with (first
                | (go_at_call 12; (with_reducible refine (HP.out).mono ?_); rintro e w5 ⟨rfl, ho5⟩)
                | (go_at_call 12; (with_reducible refine (HP2.out _ ho5).mono ?_); rintro e w6 ⟨rfl, ho6⟩)
                | (go_at_call 13; (with_reducible refine (Write_nil _ _).mono ?_); rintro e w7 ⟨rfl, rfl⟩)
                | (go_at_call 9; (with_reducible refine (Len_nil _).mono ?_); rintro e w7 ⟨rfl, rfl⟩)
                | (go_at_call 11; (with_reducible refine (Cap_nil _).mono ?_); rintro e w7 ⟨rfl, rfl⟩)
                | (go_at_call 10; (with_reducible refine (Room_nil _).mono ?_); rintro e w7 ⟨rfl, rfl⟩)
                | (go_at_call 16; (with_reducible refine (Clear_nil _).mono ?_); rintro e w7 ⟨rfl, rfl⟩)
                | (go_at_call 17; (with_reducible refine (Drop_nil _ _).mono ?_); rintro e w7 ⟨rfl, rfl⟩)
                | (go_at_call 14; (with_reducible refine (Read_nil _ _).mono ?_); rintro e w7 ⟨rfl, rfl⟩)
                | (go_at_call 12; (with_reducible refine (Peek_nil _ _).mono ?_); rintro e w7 ⟨rfl, rfl⟩)
                | (go_at_call 15; (with_reducible refine (Copy_nil _).mono ?_); rintro e w7 ⟨rfl, rfl⟩)
                )
              go_ret
              exact ⟨rfl, hBe.trans ((ho5.trans ho6).below (Below.size hBe) (fun _ _ hh => hh))⟩
      · have hki : ¬ (k : Int) < len := by omega
        clear hlt hgt
        go_wp2_with (first
          | (go_at_call 15; (with_reducible refine (hCp.out).mono ?_); rintro e w3 ⟨r2, g2, rfl, hQ3, ho3⟩)
          )
        have hR3 := hR.go ho3
        have hBe3 := hBe.trans (ho3.below (Below.size hBe) (fun _ _ hh => hh))
        have hrB : r < wr.heap.size := hR.blk.lt
        have hgB : g < wr.heap.size := hR.gb.2
        have hB2 : w.heap.size ≤ wr.heap.size := Below.size hBe
        clear hR hBe hCp ho3
        generalize wr.heap.size = B2 at *
        go_loopw [10, 13, 14] (fun ss tt ii wx => ∃ (k F1 F2 : Nat) (row1 row2 L1 L2 : List UInt8), k ≤ len2 ∧ ss = .string (strOf L1) ∧ tt = .string (strOf L2) ∧ ii = .int .i64 k ∧ k ≤ 30 ∧ Rg wx r g w.heap.size c F1 row1 L1 ∧ Rg wx r2 g2 B2 c F2 row2 L2 ∧ Below w.heap.size w wx) (fun _ _ ii _ => len2 - (intOf ii).toNat)
        case atStart => exact ⟨0, F, F, row', row', L, L, Nat.zero_le _, rfl, rfl, rfl, by omega, hR3, hQ3, hBe3⟩
        case round =>
          clear hR3 hQ3 hBe3
          obtain ⟨k, F1, F2, row1, row2, L1, L2, hk, rfl, rfl, rfl, hk1, hR, hQ, hBe⟩ := hrel
          have hmax : len2 ≤ 9223372036854775807 := Nat.le_trans hl2.1 hl2.2.1
          have hr2 := hQ.hb
          have hg2 := hQ.gb.1
          by_cases hlt : k < len2 ∧ k < 30
          · obtain ⟨hlt, h30⟩ := hlt
            obtain ⟨b', off, rfl, hb', cs, hcl, hcs, his⟩ := (hl2).at (by decide) hlt
            obtain ⟨u0, e0, rfl, i0, his⟩ := Kd.headL rfl (by unfold Kd.Is at his; exact his)
            obtain ⟨u1, e1, rfl, i1, his⟩ := Kd.headL rfl his
            obtain ⟨u2, e2, rfl, i2, his⟩ := Kd.headL rfl his
            obtain rfl := Kd.end_ his
            obtain ⟨kd, rfl, -⟩ := Kd.int_is i0
            obtain ⟨n, rfl, -⟩ := Kd.int_is i1
            obtain ⟨S, rfl, -⟩ := Kd.str_is i2
            have q0 := hcs 0 (by decide)
            have q1 := hcs 1 (by decide)
            have q2 := hcs 2 (by decide)
            simp [Kd.cells, Kd.cellsL] at q0 q1 q2
            have f0 := (hBe.cell (p := ⟨b', _, none⟩) hb').trans q0
            have f1 := (hBe.cell (p := ⟨b', _, none⟩) hb').trans q1
            have f2 := (hBe.cell (p := ⟨b', _, none⟩) hb').trans q2
            clear q0 q1 q2 hcs hcl i0 i1 i2
            clear hl2
            by_cases hev : k % 2 = 0
            · have hevI : ((k : Int) % 2 == 0) = true := by simp; omega
              clear hev
              have hD := Lib.hid (do_any kd n S wr hR)
              generalize aft c kd n S L1 = L5 at *
              unfold DoPost at hD
              obtain ⟨X5, hX5⟩ : ∃ X5, X5 = strOf L5 := ⟨_, rfl⟩
              obtain ⟨X, hX⟩ : ∃ X, X = strOf L1 := ⟨_, rfl⟩
              rw [← hX5] at hD
              rw [← hX] at hD ⊢
              have HX5 := Lib.hid hX5
              have hki : (k : Int) < len2 := by omega
              have hk3 : (k : Int) < 30 := by omega
              clear hX hX5
              go_wp2_with (first
                | (go_at_call 8; (with_reducible refine (hD.out).mono ?_); rintro e w5 ⟨F5, row5, rfl, hR5, ho5⟩)
                )
              go_roundw
              case rel => exact ⟨k + 1, F5, F2, row5, row2, L5, L2, by omega, by rw [HX5.out], rfl, by go_num, by omega, hR5, hQ.kept ho5 (fun hh => by rcases hh with hh | hh <;> omega) (fun hh => by rcases hh with hh | hh <;> omega), hBe.trans (hR.below ho5)⟩
              case measure => simp [intOf]; omega
            · have hevI : ((k : Int) % 2 == 0) = false := by simp; omega
              clear hev
              have hD := Lib.hid (do_any kd n S wr hQ)
              generalize aft c kd n S L2 = L5 at *
              unfold DoPost at hD
              obtain ⟨X5, hX5⟩ : ∃ X5, X5 = strOf L5 := ⟨_, rfl⟩
              obtain ⟨X, hX⟩ : ∃ X, X = strOf L2 := ⟨_, rfl⟩
              rw [← hX5] at hD
              rw [← hX] at hD ⊢
              have HX5 := Lib.hid hX5
              have hki : (k : Int) < len2 := by omega
              have hk3 : (k : Int) < 30 := by omega
              clear hX hX5
              go_wp2_with (first
                | (go_at_call 8; (with_reducible refine (hD.out).mono ?_); rintro e w5 ⟨F5, row5, rfl, hQ5, ho5⟩)
                )
              go_roundw
              case rel => exact ⟨k + 1, F1, F5, row1, row5, L1, L5, by omega, rfl, by rw [HX5.out], by go_num, by omega, hR.kept ho5 (fun hh => by rcases hh with hh | hh <;> omega) (fun hh => by rcases hh with hh | hh <;> omega), hQ5, hBe.trans ((hQ.below ho5).mono hB2)⟩
              case measure => simp [intOf]; omega
          · clear hl2 hmax
            have hP := Peek_any c wr hR
            rw [cnt_all hR.le, List.take_length] at hP
            have HP := Lib.hid hP
            have hP2 := fun W (ho : Only Nil wr W) => Peek_any c W (hQ.go ho)
            rw [cnt_all hQ.le, List.take_length] at hP2
            have HP2 := Lib.hid hP2
            clear hP hP2 hR hQ
            generalize strOf L1 = X1 at *
            generalize strOf L2 = X2 at *
            by_cases hlt3 : k < len2
            ·
              have hki : (k : Int) < len2 := by omega
              have hns : (noS ++ noS).toList = [] := nsns
              have hk3 : (k : Int) < len2 → ¬ (k : Int) < 30 := by omega
              clear hlt
              go_wp2_with (first
                | (go_at_call 12; (with_reducible refine (HP.out).mono ?_); rintro e w5 ⟨rfl, ho5⟩)
                | (go_at_call 12; (with_reducible refine (HP2.out _ ho5).mono ?_); rintro e w6 ⟨rfl, ho6⟩)
                | (go_at_call 13; (with_reducible refine (Write_nil _ _).mono ?_); rintro e w7 ⟨rfl, rfl⟩)
                | (go_at_call 9; (with_reducible refine (Len_nil _).mono ?_); rintro e w7 ⟨rfl, rfl⟩)
                | (go_at_call 11; (with_reducible refine (Cap_nil _).mono ?_); rintro e w7 ⟨rfl, rfl⟩)
                | (go_at_call 10; (with_reducible refine (Room_nil _).mono ?_); rintro e w7 ⟨rfl, rfl⟩)
                | (go_at_call 16; (with_reducible refine (Clear_nil _).mono ?_); rintro e w7 ⟨rfl, rfl⟩)
                | (go_at_call 17; (with_reducible refine (Drop_nil _ _).mono ?_); rintro e w7 ⟨rfl, rfl⟩)
                | (go_at_call 14; (with_reducible refine (Read_nil _ _).mono ?_); rintro e w7 ⟨rfl, rfl⟩)
                | (go_at_call 12; (with_reducible refine (Peek_nil _ _).mono ?_); rintro e w7 ⟨rfl, rfl⟩)
                | (go_at_call 15; (with_reducible refine (Copy_nil _).mono ?_); rintro e w7 ⟨rfl, rfl⟩)
                )
              go_ret
              exact ⟨rfl, hBe.trans ((ho5.trans ho6).below (Below.size hBe) (fun _ _ hh => hh))⟩
            ·
              have hki : ¬ (k : Int) < len2 := by omega
              have hns : (noS ++ noS).toList = [] := nsns
              have hk3 : (k : Int) < len2 → ¬ (k : Int) < 30 := by omega
              clear hlt
              go_wp2_with (first
                | (go_at_call 12; (with_reducible refine (HP.out).mono ?_); rintro e w5 ⟨rfl, ho5⟩)
                | (go_at_call 12; (with_reducible refine (HP2.out _ ho5).mono ?_); rintro e w6 ⟨rfl, ho6⟩)
                | (go_at_call 13; (with_reducible refine (Write_nil _ _).mono ?_); rintro e w7 ⟨rfl, rfl⟩)
                | (go_at_call 9; (with_reducible refine (Len_nil _).mono ?_); rintro e w7 ⟨rfl, rfl⟩)
                | (go_at_call 11; (with_reducible refine (Cap_nil _).mono ?_); rintro e w7 ⟨rfl, rfl⟩)
                | (go_at_call 10; (with_reducible refine (Room_nil _).mono ?_); rintro e w7 ⟨rfl, rfl⟩)
                | (go_at_call 16; (with_reducible refine (Clear_nil _).mono ?_); rintro e w7 ⟨rfl, rfl⟩)
                | (go_at_call 17; (with_reducible refine (Drop_nil _ _).mono ?_); rintro e w7 ⟨rfl, rfl⟩)
                | (go_at_call 14; (with_reducible refine (Read_nil _ _).mono ?_); rintro e w7 ⟨rfl, rfl⟩)
                | (go_at_call 12; (with_reducible refine (Peek_nil _ _).mono ?_); rintro e w7 ⟨rfl, rfl⟩)
                | (go_at_call 15; (with_reducible refine (Copy_nil _).mono ?_); rintro e w7 ⟨rfl, rfl⟩)
                )
              go_ret
              exact ⟨rfl, hBe.trans ((ho5.trans ho6).below (Below.size hBe) (fun _ _ hh => hh))⟩
/-! The step from the walk to the statement of RingApart. -/
namespace frRingApart
open Go.ChangeShapes Go.WideShapes Go.ChangeAt Go.RowKit
set_option linter.unusedVariables false
theorem own : ownKnob Try.prog.godebug = none := by kernel_rfl
theorem laidOut : laidOutB Try.prog = true := by kernel_rfl
theorem shape0 : Kd.ok Try.prog (.int .u8) 5 = true := by kernel_rfl
theorem shape1 : Kd.ok Try.prog (.slc (.agg [.int .i64, .int .i64, .str])) 22 = true := by kernel_rfl
theorem shape2 : Kd.ok Try.prog (.slc (.agg [.int .i64, .int .i64, .str])) 22 = true := by kernel_rfl
set_option maxRecDepth 100000 in
theorem contract (H : Type) (enc : TypeId × Value → H) (W : World) (base : Nat) (args : Array Value) (ds gs : List (DataW H)) (before : List MemPlace)
    (hval : ∀ (j : Nat) t v, Try.f5.params[j]? = some t → args[j]? = some v → Value.okWide Try.prog W .any base t v)
    (hW : DataW.Whole enc Try.prog Try.f5.params.toList Rows.ringApartSpec.vars false W args.toList ds gs before) :
    Calls Try.prog 5 args W fun e W' => ∃ v, e = .returned v ∧ Rows.ringApartSpec.post enc Try.prog Try.f5 false true false false W args v W' := by
  have hW' := hW
  obtain ⟨p, q, hA0, hV, rfl, hfz, hnd⟩ := hW
  have hA : DataW.TrodAll enc Try.prog W 0 (fun _ => true) true Try.f5.params.toList args.toList ds p := hA0
  rw [Try.params5] at hA hval
  obtain ⟨v0, vs0, d0, ds0, p0, q0, hargs, rfl, rfl, h0, r0⟩ := trodAll_cons hA
  obtain ⟨v1, vs1, d1, ds1, p1, q1, rfl, rfl, rfl, h1, r1⟩ := trodAll_cons r0
  obtain ⟨v2, vs2, d2, ds2, p2, q2, rfl, rfl, rfl, h2, r2⟩ := trodAll_cons r1
  obtain ⟨rfl, rfl, rfl⟩ := trodAll_nil r2
  obtain rfl : args = #[v0, v1, v2] := by cases args; simp_all
  obtain ⟨rfl, rfl⟩ := trodVars_none hV
  have k0 := Kd.fit _ shape0 (hval 0 5 v0 rfl rfl) h0
  have lt0 : ∀ x ∈ p0, x.block < W.heap.size := by obtain ⟨m, hm⟩ := h0; exact DataW.trod_lt m _ _ _ hm
  have k1 := Kd.fit _ shape1 (hval 1 22 v1 rfl rfl) h1
  have lt1 : ∀ x ∈ p1, x.block < W.heap.size := by obtain ⟨m, hm⟩ := h1; exact DataW.trod_lt m _ _ _ hm
  have k2 := Kd.fit _ shape2 (hval 2 22 v2 rfl rfl) h2
  have lt2 : ∀ x ∈ p2, x.block < W.heap.size := by obtain ⟨m, hm⟩ := h2; exact DataW.trod_lt m _ _ _ hm
  refine (ringApart_walk v0 v1 v2 W k0 k1 k2).mono fun e W' ⟨he, bel⟩ => ?_
  subst he
  exact ⟨_, rfl, _, _, _, [], _, [], hW', trodAll_mk1 (shut_bool Try.underlying4 _), (trodAll_cons_mk (Below.trod laidOut (by kernel_rfl) (of_decide_eq_true (by kernel_rfl)) h0 bel lt0) (trodAll_cons_mk (Below.trod laidOut (by kernel_rfl) (of_decide_eq_true (by kernel_rfl)) h1 bel lt1) (trodAll_cons_mk (Below.trod laidOut (by kernel_rfl) (of_decide_eq_true (by kernel_rfl)) h2 bel lt2) trodAll_mk0))), rfl, bel.frame _, fun h => by cases h⟩
set_option maxRecDepth 100000 in
theorem lifted (os : Os) (started : os.Started) (H : Type) (enc : TypeId × Value → H) :
    ReturnsInHanded {} Try.checked os 5 .any (Rows.ringApartSpec.pre6 enc Try.prog Try.f5 Rows.ringApartRow.domain false) (Rows.ringApartSpec.post enc Try.prog Try.f5 false true false false) := by
  refine returnsInHanded_of_change (C := Try.checked) own started (by kernel_rfl) Try.func5
    (ChangeSpec.witness6 (enc := enc) (C := Try.checked) false ⟨#[], #[.int .u8 0, .slice none 0 0, .slice none 0 0], []⟩ 8 (by kernel_rfl) (by kernel_rfl) (by kernel_rfl) (by kernel_rfl)) ?_
  intro W base args ds gs before hval hW _ _
  exact contract H enc W base args ds gs before hval hW
theorem over : Rows.ringApartRow.holds Try.pinned (OpenSpec.ofChange Rows.ringApartSpec) :=
  OpenClaim.holds_of_wide 5 Try.f5 rfl rfl rfl rfl rfl rfl rfl ⟨rfl, rfl, rfl, rfl, rfl⟩ rfl rfl rfl rfl rfl (by kernel_rfl) Try.func5 (by kernel_rfl)
    (of_decide_eq_true (by kernel_rfl)) (by unfold Func.isWrapper; first | (rw [if_pos (by decide +kernel)]; kernel_rfl) | (rw [if_neg (by decide +kernel)]; exact ⟨rfl, rfl⟩))
    (fun os started H enc _ => lifted os started H enc)
theorem proved : Rows.RingApartSaid := over
end frRingApart
end Go.Proofs.Ytgchiofpnbofdaa
