/- For every text and every list of parts: what is read is what the text holds there (the statement OctetScans, as it is given). No condition. -/
import Derived.Test.YtfkemfmklmmkjaaAwake01
namespace Go.Proofs.Ytfkemfmklmmkjaa
open Go.RowKit

theorem ext_size (S : ByteArray) (a : Nat) : (S.extract a S.size).size = S.size - a := by rw [ext_drop, strOf_size, List.length_drop]; simp
theorem ext_mid (S : ByteArray) (a n : Nat) : S.extract a (a + n) = strOf ((S.data.toList.drop a).take n) := by
  apply ByteArray.ext
  apply Array.toList_inj.1
  simp [strOf]
theorem ext_cut (S : ByteArray) (a n : Nat) : (S.extract a S.size).extract 0 n = S.extract a (a + n) := by rw [ext_take, ext_drop, strOf_toList, ext_mid]
theorem ext_rest (S : ByteArray) (a n : Nat) : (S.extract a S.size).extract n (S.extract a S.size).size = S.extract (a + n) S.size := by rw [ext_drop, ext_drop S a, strOf_toList, List.drop_drop, ext_drop]
theorem Left_mid (b : Nat) (S : ByteArray) (a : Nat) (bad : Bool) (w : World) (h : Sc w b (S.extract a S.size) bad) (ha : a ≤ S.size) : Calls Try.prog 13 #[.pointer (some ⟨b, 0, none⟩)] w fun x w' => x = .returned (.int .i64 (S.size - a)) ∧ w = w' := by
  have := Left_any b _ bad w h
  rw [ext_size, show ((S.size - a : Nat) : Int) = S.size - a by omega] at this
  exact this
theorem Take_mid (b : Nat) (S : ByteArray) (a n : Nat) (w : World) (h : Sc w b (S.extract a S.size) false) (hn : a + n ≤ S.size) : Calls Try.prog 11 #[.pointer (some ⟨b, 0, none⟩), .int .i64 n] w (TkPost w b (.string (S.extract a (a + n))) (S.extract (a + n) S.size) false) := by
  have := Take_in b _ n w h (by rw [ext_size]; omega)
  rw [ext_cut, ext_rest] at this
  exact this
theorem SU_mid (b : Nat) (S : ByteArray) (a n : Nat) (w : World) (h : Sc w b (S.extract a S.size) false) (h1 : 1 ≤ n) (h4 : n ≤ 4) (hn : a + n ≤ S.size) : Calls Try.prog 9 #[.pointer (some ⟨b, 0, none⟩), .int .i64 n] w (TkPost w b (.int .i64 (decN ((S.data.toList.drop a).take n))) (S.extract (a + n) S.size) false) := by
  have := SU_in b _ n w h h1 h4 (by rw [ext_size]; omega)
  rw [ext_rest, ext_drop S a, strOf_toList] at this
  exact this
theorem decN_snoc2 (X : ByteArray) (k : Nat) (h : k < X.size) : decN (X.data.toList.take (k + 1)) = decN (X.data.toList.take k) * 256 + (X[k].toNat : Int) := decN_snoc X k h
set_option maxHeartbeats 2000000 in
theorem RN_any (X : ByteArray) (w : World) (h4 : X.size ≤ 4) : Calls Try.prog 10 #[.string X] w fun x w' => x = .returned (.int .i64 (decN X.data.toList)) ∧ w = w' := by
  go_enter Try.func10, Try.ntmps10
  go_wp2
  go_loop [3, 4] (fun nn kk => ∃ k : Nat, k ≤ X.size ∧ kk = .int .i64 k ∧ nn = .int .i64 (decN (X.data.toList.take k))) (fun _ kk => X.size - (intOf kk).toNat)
  case atStart => exact ⟨0, Nat.zero_le _, rfl, rfl⟩
  case round =>
    obtain ⟨k, hk, rfl, rfl⟩ := hrel
    by_cases hlt : k < X.size
    · have hd := Lib.hid (decN_snoc X k hlt)
      have hb := decN_bd X k (by omega)
      generalize decN (X.data.toList.take k) = D at hd hb
      obtain ⟨hb0, hb1⟩ := hb
      go_wp2
      go_round
      case rel => exact ⟨k + 1, by omega, by go_num, by rw [hd.out]; have := X[k].toNat_lt; congr 1; simp only [wrap64]; omega⟩
      case measure => simp [intOf]; omega
    · have hfin : Hid (decN (X.data.toList.take k) = decN X.data.toList) := Lib.hid (by rw [List.take_of_length_le (by simp; omega)])
      generalize decN (X.data.toList.take k) = D at *
      go_wp2
      go_ret
      exact ⟨by rw [hfin.out]; rfl, rfl⟩

set_option maxRecDepth 100000 in
set_option maxHeartbeats 16000000 in
theorem octetScans_walk (v0 v1 : Value) (w : World) (h0 : Kd.Fit w .str v0) (h1 : Kd.Fit w (.slc (.agg [.int .i64, .bool, .bool])) v1) :
    Calls Try.prog 3 #[v0, v1] w fun e w' => e = .returned (.bool true) ∧ Below w.heap.size w w' := by
  obtain ⟨S, rfl, hS63⟩ := Kd.str_fit h0
  obtain ⟨A, len, cap, rfl, hl⟩ := Kd.slc_fit h1
  clear h0 h1
  unfold maxLen at hS63
  have hE0 : Hid (S.extract 0 S.size = S) := Lib.hid (by rw [ext_take, List.take_of_length_le (by simp), strOf_data])
  go_enter Try.func3, Try.ntmps3
  go_wp2_with (first
    | (go_at_call 7; (with_reducible refine (Over_any S _).mono ?_); rintro e w1 ⟨b, rfl, hb, ho1, hS1⟩)
    )
  go_loopw [6, 7, 8] (fun aa bb ii wr => ∃ (k a : Nat) (bad : Bool), k ≤ len ∧ ii = .int .i64 k ∧ aa = .int .i64 a ∧ bb = .bool bad ∧ a ≤ S.size ∧ k ≤ 60 ∧ Sc wr b (S.extract a S.size) bad ∧ Below w.heap.size w wr) (fun _ _ ii _ => len - (intOf ii).toNat)
  case atStart => exact ⟨0, 0, false, Nat.zero_le _, rfl, rfl, rfl, Nat.zero_le _, by omega, by rw [hE0.out]; exact hS1, ho1.below (Nat.le_refl _) (fun _ _ hh => hh)⟩
  case round =>
    obtain ⟨k, a, bad, hk, rfl, rfl, rfl, ha, hk6, hS, hBe⟩ := hrel
    have hmax : len ≤ 9223372036854775807 := Nat.le_trans hl.1 hl.2.1
    by_cases hlt : k < len
    · by_cases h60 : k < 60
      · obtain ⟨b', off, rfl, hb', cs, hcl, hcs, his⟩ := hl.at (by decide) hlt
        obtain ⟨v0, c0, rfl, i0, his⟩ := Kd.headL rfl (by unfold Kd.Is at his; exact his)
        obtain ⟨v1, c1, rfl, i1, his⟩ := Kd.headL rfl his
        obtain ⟨v2, c2, rfl, i2, his⟩ := Kd.headL rfl his
        obtain rfl := Kd.end_ his
        obtain ⟨n, rfl, hn⟩ := Kd.int_is i0
        obtain ⟨num, rfl⟩ := Kd.bool_is i1
        obtain ⟨all, rfl⟩ := Kd.bool_is i2
        obtain ⟨n1, n2⟩ := i64Ok_of hn
        have q0 := hcs 0 (by decide)
        have q1 := hcs 1 (by decide)
        have q2 := hcs 2 (by decide)
        simp [Kd.cells, Kd.cellsL] at q0 q1 q2
        have f0 := (hBe.cell (p := ⟨b', _, none⟩) hb').trans q0
        have f1 := (hBe.cell (p := ⟨b', _, none⟩) hb').trans q1
        have f2 := (hBe.cell (p := ⟨b', _, none⟩) hb').trans q2
        clear q0 q1 q2 hcs hcl hn i0 i1 i2 hl
        have hrn : True := trivial
        cases all
        · cases num
          · cases bad
            · by_cases hin : n < 0 ∨ (S.size : Int) - a < n
              · have htk := fun (W : World) (h : Sc W b (S.extract a S.size) false) => Take_out b _ n W h (by rw [ext_size]; omega)
                have HT := Lib.hid htk
                clear htk
                by_cases hn0 : n < 0
                · clear hin
                  go_wp2_with (first
                    | (go_at_call 11; (with_reducible refine (HT.out _ hS).mono ?_); rintro e w5 ⟨rfl, ho5, hS5⟩)
                    | (go_at_call 10; (with_reducible refine (hrn _).mono ?_); rintro e w6 ⟨rfl, rfl⟩)
                    | (go_at_call 12; (with_reducible refine (Bad_any b _ _ _ hS5).mono ?_); rintro e w7 ⟨rfl, rfl⟩)
                    | (go_at_call 13; (with_reducible refine (Left_mid b S (a) _ _ hS5 (by omega)).mono ?_); rintro e w8 ⟨rfl, rfl⟩)
                    )
                  go_roundw
                  case rel => exact ⟨k + 1, a, true, by omega, by go_num, by go_num, rfl, by omega, by omega, hS5, hBe.trans (ho5.below hBe.size (fun i hi hh => by unfold One at hh; omega))⟩
                  case measure => simp [intOf]; omega
                · have hn3 : (S.size : Int) - a < n := by omega
                  clear hin
                  go_wp2_with (first
                    | (go_at_call 11; (with_reducible refine (HT.out _ hS).mono ?_); rintro e w5 ⟨rfl, ho5, hS5⟩)
                    | (go_at_call 10; (with_reducible refine (hrn _).mono ?_); rintro e w6 ⟨rfl, rfl⟩)
                    | (go_at_call 12; (with_reducible refine (Bad_any b _ _ _ hS5).mono ?_); rintro e w7 ⟨rfl, rfl⟩)
                    | (go_at_call 13; (with_reducible refine (Left_mid b S (a) _ _ hS5 (by omega)).mono ?_); rintro e w8 ⟨rfl, rfl⟩)
                    )
                  go_roundw
                  case rel => exact ⟨k + 1, a, true, by omega, by go_num, by go_num, rfl, by omega, by omega, hS5, hBe.trans (ho5.below hBe.size (fun i hi hh => by unfold One at hh; omega))⟩
                  case measure => simp [intOf]; omega
              · obtain ⟨m, rfl⟩ := Int.eq_ofNat_of_zero_le (show 0 ≤ n by omega)
                have hm : a + m ≤ S.size := by omega
                have htk := fun (W : World) (h : Sc W b (S.extract a S.size) false) => Take_mid b S a m W h hm
                have HT := Lib.hid htk
                clear htk hin
                go_wp2_with (first
                  | (go_at_call 11; (with_reducible refine (HT.out _ hS).mono ?_); rintro e w5 ⟨rfl, ho5, hS5⟩)
                  | (go_at_call 10; (with_reducible refine (hrn _).mono ?_); rintro e w6 ⟨rfl, rfl⟩)
                  | (go_at_call 12; (with_reducible refine (Bad_any b _ _ _ hS5).mono ?_); rintro e w7 ⟨rfl, rfl⟩)
                  | (go_at_call 13; (with_reducible refine (Left_mid b S (a + m) _ _ hS5 (by omega)).mono ?_); rintro e w8 ⟨rfl, rfl⟩)
                  )
                go_roundw
                case rel => exact ⟨k + 1, a + m, false, by omega, by go_num, by go_num, rfl, by omega, by omega, hS5, hBe.trans (ho5.below hBe.size (fun i hi hh => by unfold One at hh; omega))⟩
                case measure => simp [intOf]; omega
            · have htk := fun (W : World) (h : Sc W b (S.extract a S.size) true) => Take_bad b _ n W h
              have HT := Lib.hid htk
              clear htk
              go_wp2_with (first
                | (go_at_call 11; (with_reducible refine (HT.out _ hS).mono ?_); rintro e w5 ⟨rfl, ho5, hS5⟩)
                | (go_at_call 10; (with_reducible refine (hrn _).mono ?_); rintro e w6 ⟨rfl, rfl⟩)
                | (go_at_call 12; (with_reducible refine (Bad_any b _ _ _ hS5).mono ?_); rintro e w7 ⟨rfl, rfl⟩)
                | (go_at_call 13; (with_reducible refine (Left_mid b S (a) _ _ hS5 (by omega)).mono ?_); rintro e w8 ⟨rfl, rfl⟩)
                )
              go_roundw
              case rel => exact ⟨k + 1, a, true, by omega, by go_num, by go_num, rfl, by omega, by omega, hS5, hBe.trans (ho5.below hBe.size (fun i hi hh => by unfold One at hh; omega))⟩
              case measure => simp [intOf]; omega
          · cases bad
            · by_cases hin : n < 1 ∨ 4 < n ∨ (S.size : Int) - a < n
              · have htk := fun (W : World) (h : Sc W b (S.extract a S.size) false) => SU_out b _ n W h (by rw [ext_size]; omega)
                have HT := Lib.hid htk
                clear htk
                by_cases hn0 : n < 1
                · clear hin
                  go_wp2_with (first
                    | (go_at_call 9; (with_reducible refine (HT.out _ hS).mono ?_); rintro e w5 ⟨rfl, ho5, hS5⟩)
                    | (go_at_call 10; (with_reducible refine (hrn _).mono ?_); rintro e w6 ⟨rfl, rfl⟩)
                    | (go_at_call 12; (with_reducible refine (Bad_any b _ _ _ hS5).mono ?_); rintro e w7 ⟨rfl, rfl⟩)
                    | (go_at_call 13; (with_reducible refine (Left_mid b S (a) _ _ hS5 (by omega)).mono ?_); rintro e w8 ⟨rfl, rfl⟩)
                    )
                  go_roundw
                  case rel => exact ⟨k + 1, a, true, by omega, by go_num, by go_num, rfl, by omega, by omega, hS5, hBe.trans (ho5.below hBe.size (fun i hi hh => by unfold One at hh; omega))⟩
                  case measure => simp [intOf]; omega
                · by_cases hn4 : 4 < n
                  · clear hin
                    go_wp2_with (first
                      | (go_at_call 9; (with_reducible refine (HT.out _ hS).mono ?_); rintro e w5 ⟨rfl, ho5, hS5⟩)
                      | (go_at_call 10; (with_reducible refine (hrn _).mono ?_); rintro e w6 ⟨rfl, rfl⟩)
                      | (go_at_call 12; (with_reducible refine (Bad_any b _ _ _ hS5).mono ?_); rintro e w7 ⟨rfl, rfl⟩)
                      | (go_at_call 13; (with_reducible refine (Left_mid b S (a) _ _ hS5 (by omega)).mono ?_); rintro e w8 ⟨rfl, rfl⟩)
                      )
                    go_roundw
                    case rel => exact ⟨k + 1, a, true, by omega, by go_num, by go_num, rfl, by omega, by omega, hS5, hBe.trans (ho5.below hBe.size (fun i hi hh => by unfold One at hh; omega))⟩
                    case measure => simp [intOf]; omega
                  · have hn3 : (S.size : Int) - a < n := by omega
                    clear hin
                    go_wp2_with (first
                      | (go_at_call 9; (with_reducible refine (HT.out _ hS).mono ?_); rintro e w5 ⟨rfl, ho5, hS5⟩)
                      | (go_at_call 10; (with_reducible refine (hrn _).mono ?_); rintro e w6 ⟨rfl, rfl⟩)
                      | (go_at_call 12; (with_reducible refine (Bad_any b _ _ _ hS5).mono ?_); rintro e w7 ⟨rfl, rfl⟩)
                      | (go_at_call 13; (with_reducible refine (Left_mid b S (a) _ _ hS5 (by omega)).mono ?_); rintro e w8 ⟨rfl, rfl⟩)
                      )
                    go_roundw
                    case rel => exact ⟨k + 1, a, true, by omega, by go_num, by go_num, rfl, by omega, by omega, hS5, hBe.trans (ho5.below hBe.size (fun i hi hh => by unfold One at hh; omega))⟩
                    case measure => simp [intOf]; omega
              · obtain ⟨m, rfl⟩ := Int.eq_ofNat_of_zero_le (show 0 ≤ n by omega)
                have hm : a + m ≤ S.size := by omega
                have hm1 : 1 ≤ m := by omega
                have hm4 : m ≤ 4 := by omega
                have htk := fun (W : World) (h : Sc W b (S.extract a S.size) false) => SU_mid b S a m W h hm1 hm4 hm
                have hrn : ∀ W, Calls Try.prog 10 #[.string (S.extract a (a + m))] W fun x w' => x = .returned (.int .i64 (decN ((S.data.toList.drop a).take m))) ∧ W = w' := fun W => by
                  have hz : (S.extract a (a + m)).size ≤ 4 := by rw [ext_mid, strOf_size, List.length_take]; omega
                  have := RN_any (S.extract a (a + m)) W hz
                  rw [ext_mid, strOf_toList] at this
                  rw [ext_mid]
                  exact this
                generalize decN ((S.data.toList.drop a).take m) = V at htk hrn
                have HT := Lib.hid htk
                have HR := Lib.hid hrn
                clear htk hin hrn
                have hrn := HR.out
                go_wp2_with (first
                  | (go_at_call 9; (with_reducible refine (HT.out _ hS).mono ?_); rintro e w5 ⟨rfl, ho5, hS5⟩)
                  | (go_at_call 10; (with_reducible refine (hrn _).mono ?_); rintro e w6 ⟨rfl, rfl⟩)
                  | (go_at_call 12; (with_reducible refine (Bad_any b _ _ _ hS5).mono ?_); rintro e w7 ⟨rfl, rfl⟩)
                  | (go_at_call 13; (with_reducible refine (Left_mid b S (a + m) _ _ hS5 (by omega)).mono ?_); rintro e w8 ⟨rfl, rfl⟩)
                  )
                go_roundw
                case rel => exact ⟨k + 1, a + m, false, by omega, by go_num, by go_num, rfl, by omega, by omega, hS5, hBe.trans (ho5.below hBe.size (fun i hi hh => by unfold One at hh; omega))⟩
                case measure => simp [intOf]; omega
            · have htk := fun (W : World) (h : Sc W b (S.extract a S.size) true) => SU_bad b _ n W h
              have HT := Lib.hid htk
              clear htk
              go_wp2_with (first
                | (go_at_call 9; (with_reducible refine (HT.out _ hS).mono ?_); rintro e w5 ⟨rfl, ho5, hS5⟩)
                | (go_at_call 10; (with_reducible refine (hrn _).mono ?_); rintro e w6 ⟨rfl, rfl⟩)
                | (go_at_call 12; (with_reducible refine (Bad_any b _ _ _ hS5).mono ?_); rintro e w7 ⟨rfl, rfl⟩)
                | (go_at_call 13; (with_reducible refine (Left_mid b S (a) _ _ hS5 (by omega)).mono ?_); rintro e w8 ⟨rfl, rfl⟩)
                )
              go_roundw
              case rel => exact ⟨k + 1, a, true, by omega, by go_num, by go_num, rfl, by omega, by omega, hS5, hBe.trans (ho5.below hBe.size (fun i hi hh => by unfold One at hh; omega))⟩
              case measure => simp [intOf]; omega
        · cases bad
          · have htk : ∀ (W : World), Sc W b (S.extract a S.size) false → Calls Try.prog 8 #[.pointer (some ⟨b, 0, none⟩)] W (TkPost W b (.string (S.extract a S.size)) (S.extract S.size S.size) false) := fun W h => by
              have := Rest_any b _ W h
              rw [show S.extract S.size S.size = noS by rw [ext_drop, List.drop_eq_nil_of_le (by simp)]; rfl]
              exact this
            have HT := Lib.hid htk
            clear htk
            go_wp2_with (first
              | (go_at_call 8; (with_reducible refine (HT.out _ hS).mono ?_); rintro e w5 ⟨rfl, ho5, hS5⟩)
              | (go_at_call 10; (with_reducible refine (hrn _).mono ?_); rintro e w6 ⟨rfl, rfl⟩)
              | (go_at_call 12; (with_reducible refine (Bad_any b _ _ _ hS5).mono ?_); rintro e w7 ⟨rfl, rfl⟩)
              | (go_at_call 13; (with_reducible refine (Left_mid b S (S.size) _ _ hS5 (by omega)).mono ?_); rintro e w8 ⟨rfl, rfl⟩)
              )
            go_roundw
            case rel => exact ⟨k + 1, S.size, false, by omega, by go_num, by go_num, rfl, by omega, by omega, hS5, hBe.trans (ho5.below hBe.size (fun i hi hh => by unfold One at hh; omega))⟩
            case measure => simp [intOf]; omega
          · have htk := fun (W : World) (h : Sc W b (S.extract a S.size) true) => Rest_bad b _ W h
            have HT := Lib.hid htk
            clear htk
            go_wp2_with (first
              | (go_at_call 8; (with_reducible refine (HT.out _ hS).mono ?_); rintro e w5 ⟨rfl, ho5, hS5⟩)
              | (go_at_call 10; (with_reducible refine (hrn _).mono ?_); rintro e w6 ⟨rfl, rfl⟩)
              | (go_at_call 12; (with_reducible refine (Bad_any b _ _ _ hS5).mono ?_); rintro e w7 ⟨rfl, rfl⟩)
              | (go_at_call 13; (with_reducible refine (Left_mid b S (a) _ _ hS5 (by omega)).mono ?_); rintro e w8 ⟨rfl, rfl⟩)
              )
            go_roundw
            case rel => exact ⟨k + 1, a, true, by omega, by go_num, by go_num, rfl, by omega, by omega, hS5, hBe.trans (ho5.below hBe.size (fun i hi hh => by unfold One at hh; omega))⟩
            case measure => simp [intOf]; omega
      · clear hl
        cases bad
        · by_cases haS : a < S.size
          · have hEnd : ∀ W, Sc W b (S.extract a S.size) false → Calls Try.prog 15 #[.pointer (some ⟨b, 0, none⟩)] W fun x w' => x = .returned (.int .i64 6) ∧ W = w' := fun W h => by
              have := End_any b _ false W h
              rw [show endE (S.extract a S.size) false = 6 by simp [endE, ext_size S a]; omega] at this
              exact this
            go_wp2_with (first
              | (go_at_call 14; (with_reducible refine (awake_any _).mono ?_); rintro e w5 ⟨rfl, ho5⟩; have hS5 := hS.kept ho5 (fun hh => hh))
              | (go_at_call 15; (with_reducible refine (hEnd _ hS5).mono ?_); rintro e w6 ⟨rfl, rfl⟩)
              )
            go_ret
            exact ⟨rfl, hBe.trans (ho5.below hBe.size (fun _ _ hh => hh))⟩
          · have hEnd : ∀ W, Sc W b (S.extract a S.size) false → Calls Try.prog 15 #[.pointer (some ⟨b, 0, none⟩)] W fun x w' => x = .returned (.int .i64 0) ∧ W = w' := fun W h => by
              have := End_any b _ false W h
              rw [show endE (S.extract a S.size) false = 0 by simp [endE, ext_size S a]; omega] at this
              exact this
            go_wp2_with (first
              | (go_at_call 14; (with_reducible refine (awake_any _).mono ?_); rintro e w5 ⟨rfl, ho5⟩; have hS5 := hS.kept ho5 (fun hh => hh))
              | (go_at_call 15; (with_reducible refine (hEnd _ hS5).mono ?_); rintro e w6 ⟨rfl, rfl⟩)
              )
            go_ret
            exact ⟨rfl, hBe.trans (ho5.below hBe.size (fun _ _ hh => hh))⟩
        · have hEnd : ∀ W, Sc W b (S.extract a S.size) true → Calls Try.prog 15 #[.pointer (some ⟨b, 0, none⟩)] W fun x w' => x = .returned (.int .i64 5) ∧ W = w' := fun W h => End_any b _ true W h
          go_wp2_with (first
            | (go_at_call 14; (with_reducible refine (awake_any _).mono ?_); rintro e w5 ⟨rfl, ho5⟩; have hS5 := hS.kept ho5 (fun hh => hh))
            | (go_at_call 15; (with_reducible refine (hEnd _ hS5).mono ?_); rintro e w6 ⟨rfl, rfl⟩)
            )
          go_ret
          exact ⟨rfl, hBe.trans (ho5.below hBe.size (fun _ _ hh => hh))⟩
    · clear hl
      cases bad
      · by_cases haS : a < S.size
        · have hEnd : ∀ W, Sc W b (S.extract a S.size) false → Calls Try.prog 15 #[.pointer (some ⟨b, 0, none⟩)] W fun x w' => x = .returned (.int .i64 6) ∧ W = w' := fun W h => by
            have := End_any b _ false W h
            rw [show endE (S.extract a S.size) false = 6 by simp [endE, ext_size S a]; omega] at this
            exact this
          go_wp2_with (first
            | (go_at_call 14; (with_reducible refine (awake_any _).mono ?_); rintro e w5 ⟨rfl, ho5⟩; have hS5 := hS.kept ho5 (fun hh => hh))
            | (go_at_call 15; (with_reducible refine (hEnd _ hS5).mono ?_); rintro e w6 ⟨rfl, rfl⟩)
            )
          go_ret
          exact ⟨rfl, hBe.trans (ho5.below hBe.size (fun _ _ hh => hh))⟩
        · have hEnd : ∀ W, Sc W b (S.extract a S.size) false → Calls Try.prog 15 #[.pointer (some ⟨b, 0, none⟩)] W fun x w' => x = .returned (.int .i64 0) ∧ W = w' := fun W h => by
            have := End_any b _ false W h
            rw [show endE (S.extract a S.size) false = 0 by simp [endE, ext_size S a]; omega] at this
            exact this
          go_wp2_with (first
            | (go_at_call 14; (with_reducible refine (awake_any _).mono ?_); rintro e w5 ⟨rfl, ho5⟩; have hS5 := hS.kept ho5 (fun hh => hh))
            | (go_at_call 15; (with_reducible refine (hEnd _ hS5).mono ?_); rintro e w6 ⟨rfl, rfl⟩)
            )
          go_ret
          exact ⟨rfl, hBe.trans (ho5.below hBe.size (fun _ _ hh => hh))⟩
      · have hEnd : ∀ W, Sc W b (S.extract a S.size) true → Calls Try.prog 15 #[.pointer (some ⟨b, 0, none⟩)] W fun x w' => x = .returned (.int .i64 5) ∧ W = w' := fun W h => End_any b _ true W h
        go_wp2_with (first
          | (go_at_call 14; (with_reducible refine (awake_any _).mono ?_); rintro e w5 ⟨rfl, ho5⟩; have hS5 := hS.kept ho5 (fun hh => hh))
          | (go_at_call 15; (with_reducible refine (hEnd _ hS5).mono ?_); rintro e w6 ⟨rfl, rfl⟩)
          )
        go_ret
        exact ⟨rfl, hBe.trans (ho5.below hBe.size (fun _ _ hh => hh))⟩
/-! The step from the walk to the statement of OctetScans. -/
namespace frOctetScans
open Go.ChangeShapes Go.WideShapes Go.ChangeAt Go.RowKit
set_option linter.unusedVariables false
theorem own : ownKnob Try.prog.godebug = none := by kernel_rfl
theorem laidOut : laidOutB Try.prog = true := by kernel_rfl
theorem shape0 : Kd.ok Try.prog (.str) 9 = true := by kernel_rfl
theorem shape1 : Kd.ok Try.prog (.slc (.agg [.int .i64, .bool, .bool])) 22 = true := by kernel_rfl
set_option maxRecDepth 100000 in
theorem contract (H : Type) (enc : TypeId × Value → H) (W : World) (base : Nat) (args : Array Value) (ds gs : List (DataW H)) (before : List MemPlace)
    (hval : ∀ (j : Nat) t v, Try.f3.params[j]? = some t → args[j]? = some v → Value.okWide Try.prog W .any base t v)
    (hW : DataW.Whole enc Try.prog Try.f3.params.toList Rows.octetScansSpec.vars false W args.toList ds gs before) :
    Calls Try.prog 3 args W fun e W' => ∃ v, e = .returned v ∧ Rows.octetScansSpec.post enc Try.prog Try.f3 false true false false W args v W' := by
  have hW' := hW
  obtain ⟨p, q, hA0, hV, rfl, hfz, hnd⟩ := hW
  have hA : DataW.TrodAll enc Try.prog W 0 (fun _ => true) true Try.f3.params.toList args.toList ds p := hA0
  rw [Try.params3] at hA hval
  obtain ⟨v0, vs0, d0, ds0, p0, q0, hargs, rfl, rfl, h0, r0⟩ := trodAll_cons hA
  obtain ⟨v1, vs1, d1, ds1, p1, q1, rfl, rfl, rfl, h1, r1⟩ := trodAll_cons r0
  obtain ⟨rfl, rfl, rfl⟩ := trodAll_nil r1
  obtain rfl : args = #[v0, v1] := by cases args; simp_all
  obtain ⟨rfl, rfl⟩ := trodVars_none hV
  have k0 := Kd.fit _ shape0 (hval 0 9 v0 rfl rfl) h0
  have lt0 : ∀ x ∈ p0, x.block < W.heap.size := by obtain ⟨m, hm⟩ := h0; exact DataW.trod_lt m _ _ _ hm
  have k1 := Kd.fit _ shape1 (hval 1 22 v1 rfl rfl) h1
  have lt1 : ∀ x ∈ p1, x.block < W.heap.size := by obtain ⟨m, hm⟩ := h1; exact DataW.trod_lt m _ _ _ hm
  refine (octetScans_walk v0 v1 W k0 k1).mono fun e W' ⟨he, bel⟩ => ?_
  subst he
  exact ⟨_, rfl, _, _, _, [], _, [], hW', trodAll_mk1 (shut_bool Try.underlying4 _), (trodAll_cons_mk (Below.trod laidOut (by kernel_rfl) (of_decide_eq_true (by kernel_rfl)) h0 bel lt0) (trodAll_cons_mk (Below.trod laidOut (by kernel_rfl) (of_decide_eq_true (by kernel_rfl)) h1 bel lt1) trodAll_mk0)), rfl, bel.frame _, fun h => by cases h⟩
set_option maxRecDepth 100000 in
theorem lifted (os : Os) (started : os.Started) (H : Type) (enc : TypeId × Value → H) :
    ReturnsInHanded {} Try.checked os 3 .any (Rows.octetScansSpec.pre6 enc Try.prog Try.f3 Rows.octetScansRow.domain false) (Rows.octetScansSpec.post enc Try.prog Try.f3 false true false false) := by
  refine returnsInHanded_of_change (C := Try.checked) own started (by kernel_rfl) Try.func3
    (ChangeSpec.witness6 (enc := enc) (C := Try.checked) false ⟨#[], #[.string ByteArray.empty, .slice none 0 0], []⟩ 8 (by kernel_rfl) (by kernel_rfl) (by kernel_rfl) (by kernel_rfl)) ?_
  intro W base args ds gs before hval hW _ _
  exact contract H enc W base args ds gs before hval hW
theorem over : Rows.octetScansRow.holds Try.pinned (OpenSpec.ofChange Rows.octetScansSpec) :=
  OpenClaim.holds_of_wide 3 Try.f3 rfl rfl rfl rfl rfl rfl rfl ⟨rfl, rfl, rfl, rfl, rfl⟩ rfl rfl rfl rfl rfl (by kernel_rfl) Try.func3 (by kernel_rfl)
    (of_decide_eq_true (by kernel_rfl)) (by unfold Func.isWrapper; first | (rw [if_pos (by decide +kernel)]; kernel_rfl) | (rw [if_neg (by decide +kernel)]; exact ⟨rfl, rfl⟩))
    (fun os started H enc _ => lifted os started H enc)
theorem proved : Rows.OctetScansSaid := over
end frOctetScans
end Go.Proofs.Ytfkemfmklmmkjaa
