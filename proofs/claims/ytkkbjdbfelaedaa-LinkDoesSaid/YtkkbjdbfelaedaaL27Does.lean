/- For every limit and every list of calls: each call of a link is answered as the document says (the statement LinkDoes, as it is given). No condition. -/
import Derived.Test.YtkkbjdbfelaedaaAwake27
namespace Go.Proofs.Ytkkbjdbfelaedaa
open Go.RowKit

theorem add_str (I : List UInt8) (S : ByteArray) : S ++ strOf I = strOf (S.data.toList ++ I) := by
  apply ByteArray.ext
  apply Array.toList_inj.1
  simp [strOf, ByteArray.data_append]
theorem ext_drop2 (S : ByteArray) (n : Nat) : S.extract n S.size = strOf (S.data.toList.drop n) := by
  apply ByteArray.ext
  apply Array.toList_inj.1
  simp [strOf]
  rw [List.take_of_length_le (by simp)]
theorem ext_take2 (S : ByteArray) (n : Nat) : S.extract 0 n = strOf (S.data.toList.take n) := by
  apply ByteArray.ext
  apply Array.toList_inj.1
  simp [strOf]
theorem Fits_any (h m l : Int) (w : World) (h0 : 0 ≤ h ∧ h ≤ 10000000) (m0 : 0 ≤ m ∧ m ≤ 10000000) : Calls Try.prog 12 #[.int .i64 h, .int .i64 m, .int .i64 l] w fun x w' => x = .returned (.bool (decide (h + m ≤ l))) ∧ w = w' := by
  obtain ⟨a1, a2⟩ := h0
  obtain ⟨b1, b2⟩ := m0
  go_enter Try.func12, Try.ntmps12
  go_wp2
  go_ret
  exact ⟨rfl, rfl⟩
set_option maxHeartbeats 1000000 in
theorem First_any (L : List UInt8) (n : Int) (w : World) (hL : L.length ≤ 10000000) : Calls Try.prog 8 #[.string (strOf L), .int .i64 n] w fun x w' => x = .returned (.string (strOf (L.take (cnt n L.length)))) ∧ w = w' := by
  have hs : (strOf L).size = L.length := strOf_size L
  by_cases n0 : n < 0
  · have hc : cnt n L.length = 0 := by unfold cnt; rw [if_pos (by omega)]
    rw [hc, show strOf (L.take 0) = noS from rfl]
    clear hs hc
    go_enter Try.func8, Try.ntmps8
    go_wp2
    go_ret
    exact ⟨rfl, rfl⟩
  · obtain ⟨m, rfl⟩ := Int.eq_ofNat_of_zero_le (show 0 ≤ n by omega)
    by_cases hm : m < (strOf L).size
    · have hc : cnt (m : Int) L.length = m := by unfold cnt; split; omega; rw [if_pos (by omega)]; omega
      have e : Hid (strOf (L.take m) = (strOf L).extract 0 m) := Lib.hid (by rw [ext_take2, strOf_toList])
      rw [hc]
      clear hs hc
      generalize strOf (L.take m) = Z at e
      generalize strOf L = X at e hm
      go_enter Try.func8, Try.ntmps8
      go_wp2
      go_ret
      exact ⟨by rw [e.out]; rfl, rfl⟩
    · have hc : cnt (m : Int) L.length = L.length := by unfold cnt; split; omega; rw [if_neg (by omega)]
      rw [hc, List.take_length]
      clear hs hc
      generalize strOf L = X at hm
      go_enter Try.func8, Try.ntmps8
      go_wp2
      go_ret
      exact ⟨rfl, rfl⟩
section
variable {b base : Nat} {v : Value} {L : List UInt8} {lim came took : Int}
theorem Len_of (w : World) (h : Lk w b base v L lim came took) {X : ByteArray} (hX : L.length = X.size) : Calls Try.prog 14 #[.pointer (some ⟨b, 0, none⟩)] w fun x w' => x = .returned (.int .i64 X.size) ∧ w = w' := by
  have := Len_any w h
  rw [hX] at this
  exact this
theorem Pull_cnt (n : Int) (c : Nat) (w : World) (h : Lk w b base v L lim came took) (hl : L.length ≤ 1048576) (hc : cnt n L.length = c) (hcL : c ≤ L.length) (t0 : 0 ≤ took) (t1 : took ≤ 10000000) :
    Calls Try.prog 9 #[.pointer (some ⟨b, 0, none⟩), .int .i64 n] w (LkPost w b base (.string (strOf (L.take c))) (L.drop c) lim came (took + c)) := by
  by_cases h0 : c = 0
  · subst h0
    have := Pull_none n w h hl hc
    rw [show took + ((0 : Nat) : Int) = took by simp]
    exact this
  · exact Pull_some n c w h hl hc (by omega) hcL t0 t1
end

set_option maxRecDepth 100000 in
set_option maxHeartbeats 16000000 in
theorem linkDoes_walk (v0 v1 : Value) (w : World) (h0 : Kd.Fit w (.int .i64) v0) (h1 : Kd.Fit w (.slc (.agg [.int .i64, .int .i64, .str])) v1) :
    Calls Try.prog 3 #[v0, v1] w fun e w' => e = .returned (.bool true) ∧ Below w.heap.size w w' := by
  obtain ⟨lim, rfl, _⟩ := Kd.int_fit h0
  obtain ⟨A, len, cap, rfl, hl⟩ := Kd.slc_fit h1
  clear h0 h1
  by_cases hlim : lim < 0 ∨ 1048576 < lim
  · have hn := fun (W : World) => New_out lim W hlim
    by_cases h0 : lim < 0
    · clear hlim hl
      go_enter Try.func3, Try.ntmps3
      go_wp2_with (first
        | (go_at_call 6; (with_reducible refine (hn _).mono ?_); rintro e w1 ⟨rfl, rfl⟩)
        | (go_at_call 7; (with_reducible refine (awake_any _).mono ?_); rintro e w2 ⟨rfl, ho2⟩)
        )
      go_ret
      exact ⟨rfl, ho2.below (Nat.le_refl _) (fun _ _ hh => hh)⟩
    · have h1 : 1048576 < lim := by omega
      clear hlim hl
      go_enter Try.func3, Try.ntmps3
      go_wp2_with (first
        | (go_at_call 6; (with_reducible refine (hn _).mono ?_); rintro e w1 ⟨rfl, rfl⟩)
        | (go_at_call 7; (with_reducible refine (awake_any _).mono ?_); rintro e w2 ⟨rfl, ho2⟩)
        )
      go_ret
      exact ⟨rfl, ho2.below (Nat.le_refl _) (fun _ _ hh => hh)⟩
  · have l0 : 0 ≤ lim := by omega
    have l1 : lim ≤ 1048576 := by omega
    clear hlim
    go_enter Try.func3, Try.ntmps3
    go_wp2_with (first
      | (go_at_call 6; (with_reducible refine (New_any lim _ l0 l1 w.heap.size (Nat.le_refl _)).mono ?_); rintro e w1 ⟨b, rfl, ho1, hK1⟩)
      | (go_at_call 7; (with_reducible refine (awake_any _).mono ?_); rintro e w2 ⟨rfl, ho2⟩; have hK2 := hK1.kept ho2)
      )
    go_loopw [7, 8, 9, 10] (fun xx cc gg ii wr => ∃ (k : Nat) (X : ByteArray) (L : List UInt8) (v : Value) (took : Int), k ≤ len ∧ ii = .int .i64 k ∧ xx = .string X ∧ cc = .int .i64 (took + X.size) ∧ gg = .int .i64 took ∧ Hid (X = strOf L) ∧ Hid (L.length = X.size) ∧ k ≤ 80 ∧ (X.size : Int) ≤ lim ∧ 0 ≤ took ∧ took + X.size ≤ 2000 * (k : Int) ∧ Lk wr b w.heap.size v L lim (took + X.size) took ∧ Below w.heap.size w wr) (fun _ _ _ ii _ => len - (intOf ii).toNat)
    case atStart => exact ⟨0, _, [], _, 0, Nat.zero_le _, rfl, rfl, rfl, rfl, Lib.hid rfl, Lib.hid rfl, by omega, (by show (0 : Int) ≤ lim; exact l0), by omega, (by show (0 : Int) + 0 ≤ 2000 * 0; decide), hK2, (ho1.trans ho2).below (Nat.le_refl _) (fun _ _ hh => hh)⟩
    case round =>
      obtain ⟨k, X, L, v, took, hk, rfl, rfl, rfl, rfl, hX, hXL, hk8, hXl, t0, ht, hK, hBe⟩ := hrel
      have hmax : len ≤ 9223372036854775807 := Nat.le_trans hl.1 hl.2.1
      by_cases hlt : k < len
      · by_cases h80 : k < 80
        · obtain ⟨b', off, rfl, hb', cs, hcl, hcs, his⟩ := hl.at (by decide) hlt
          obtain ⟨v0, c0, rfl, i0, his⟩ := Kd.headL rfl (by unfold Kd.Is at his; exact his)
          obtain ⟨v1, c1, rfl, i1, his⟩ := Kd.headL rfl his
          obtain ⟨v2, c2, rfl, i2, his⟩ := Kd.headL rfl his
          obtain rfl := Kd.end_ his
          obtain ⟨kd, rfl, _⟩ := Kd.int_is i0
          obtain ⟨n, rfl, _⟩ := Kd.int_is i1
          obtain ⟨S, rfl, _⟩ := Kd.str_is i2
          have q0 := hcs 0 (by decide)
          have q1 := hcs 1 (by decide)
          have q2 := hcs 2 (by decide)
          simp [Kd.cells, Kd.cellsL] at q0 q1 q2
          have f0 := (hBe.cell (p := ⟨b', _, none⟩) hb').trans q0
          have f1 := (hBe.cell (p := ⟨b', _, none⟩) hb').trans q1
          have f2 := (hBe.cell (p := ⟨b', _, none⟩) hb').trans q2
          clear q0 q1 q2 hcs hcl i0 i1 i2 hl
          have hXLo := hXL.out
          have hLl : L.length ≤ 1048576 := by omega
          have hA0 : Blk (wr.alloc (.cells #[.int .i64 kd, .int .i64 n, .string S] 29)) wr.heap.size 29 #[.int .i64 kd, .int .i64 n, .string S] := Blk.new _ _ _
          have hx0 := (Only.refl Nil wr).alloc (.cells #[.int .i64 kd, .int .i64 n, .string S] 29)
          have hK0 := hK.kept hx0
          by_cases hS : 2000 < S.size
          · clear hXLo
            go_wp2
            go_roundw
            case rel => exact ⟨k + 1, X, L, v, took, by omega, by go_num, rfl, rfl, rfl, hX, hXL, by omega, by omega, by omega, by omega, hK0, hBe.trans (hx0.below hBe.size (fun _ _ hh => hh))⟩
            case measure => simp [intOf]; omega
          · by_cases k3 : kd = 3
            · subst k3
              obtain ⟨c, hc⟩ : ∃ c, cnt n L.length = c := ⟨_, rfl⟩
              have hcL : c ≤ L.length := by rw [← hc]; unfold cnt; split; omega; split <;> omega
              have hXLo := hXL.out
              have hp := fun (W : World) (h : Lk W b w.heap.size v L lim (took + X.size) took) => Pull_cnt n c W h (by omega) hc hcL t0 (by omega)
              have hf : ∀ (W : World), Calls Try.prog 8 #[.string X, .int .i64 n] W fun x w' => x = .returned (.string (strOf (L.take c))) ∧ W = w' := fun W => by
                have := First_any L n W (by omega)
                rw [hc, ← hX.out] at this
                exact this
              have hZs : (strOf (L.take c)).size = c := by rw [strOf_size, List.length_take]; omega
              have hX2 := Lib.hid (show X.extract c X.size = strOf (L.drop c) by rw [ext_drop2, hX.out, strOf_toList])
              have hz2 : (X.extract c X.size).size = X.size - c := by rw [hX2.out, strOf_size, List.length_drop]; omega
              have hXL2 := Lib.hid (show (L.drop c).length = (X.extract c X.size).size by rw [hX2.out, strOf_size])
              generalize strOf (L.take c) = Z at hp hf hZs
              obtain rfl : c = Z.size := hZs.symm
              have hsum : (took + (X.size : Int) != took + (Z.size : Int) + ((X.extract Z.size X.size).size : Int)) = false := by rw [hz2]; simp; omega
              have hcm := Lib.hid (show took + (X.size : Int) = took + (Z.size : Int) + ((X.extract Z.size X.size).size : Int) by rw [hz2]; omega)
              have hzb : Z.size ≤ X.size := by omega
              have hzi := Lib.hid hz2
              have hz3 : (X.extract Z.size X.size).size ≤ 1048576 := by omega
              have HP := Lib.hid hp
              have HF := Lib.hid hf
              clear hp hf hc hz2 hXLo hcL hZs
              go_wp2_with (first
                | (go_at_call 8; (with_reducible refine (HF.out _).mono ?_); rintro e w4 ⟨rfl, rfl⟩)
                | (go_at_call 9; (with_reducible refine (HP.out _ hK0).mono ?_); rintro e w5 ⟨v5, rfl, hK5, hB5, hT5⟩)
                | (go_at_call 13; (with_reducible refine (Total_any _ hK5).mono ?_); rintro e w7 ⟨rfl, ho7⟩; have hK7 := hK5.kept ho7)
                | (go_at_call 14; (with_reducible refine (Len_of _ hK7 hXL2.out).mono ?_); rintro e w8 ⟨rfl, rfl⟩)
                )
              go_roundw
              case rel => exact ⟨k + 1, X.extract Z.size X.size, L.drop Z.size, v5, took + Z.size, by omega, by go_num, rfl, by rw [hcm.out], rfl, hX2, hXL2, by omega, by have := hzi.out; omega, by omega, by have := hzi.out; omega, by rw [← hcm.out]; exact hK7, (hBe.trans (hx0.below hBe.size (fun _ _ hh => hh))).trans (hB5.trans (ho7.below (Nat.le_trans hBe.size (Nat.le_trans hx0.size hB5.size)) (fun _ _ hh => hh)))⟩
              case measure => simp [intOf]; omega
            by_cases k4 : kd = 4
            · subst k4
              obtain ⟨c, hc⟩ : ∃ c, cnt n L.length = c := ⟨_, rfl⟩
              have hcL : c ≤ L.length := by rw [← hc]; unfold cnt; split; omega; split <;> omega
              have hXLo := hXL.out
              have hp := fun (W : World) (h : Lk W b w.heap.size v L lim (took + X.size) took) => Pull_cnt n c W h (by omega) hc hcL t0 (by omega)
              have hf : ∀ (W : World), Calls Try.prog 8 #[.string X, .int .i64 n] W fun x w' => x = .returned (.string (strOf (L.take c))) ∧ W = w' := fun W => by
                have := First_any L n W (by omega)
                rw [hc, ← hX.out] at this
                exact this
              have hZs : (strOf (L.take c)).size = c := by rw [strOf_size, List.length_take]; omega
              have hX2 := Lib.hid (show X.extract c X.size = strOf (L.drop c) by rw [ext_drop2, hX.out, strOf_toList])
              have hz2 : (X.extract c X.size).size = X.size - c := by rw [hX2.out, strOf_size, List.length_drop]; omega
              have hXL2 := Lib.hid (show (L.drop c).length = (X.extract c X.size).size by rw [hX2.out, strOf_size])
              generalize strOf (L.take c) = Z at hp hf hZs
              obtain rfl : c = Z.size := hZs.symm
              have hsum : (took + (X.size : Int) != took + (Z.size : Int) + ((X.extract Z.size X.size).size : Int)) = false := by rw [hz2]; simp; omega
              have hcm := Lib.hid (show took + (X.size : Int) = took + (Z.size : Int) + ((X.extract Z.size X.size).size : Int) by rw [hz2]; omega)
              have hzb : Z.size ≤ X.size := by omega
              have hzi := Lib.hid hz2
              have hz3 : (X.extract Z.size X.size).size ≤ 1048576 := by omega
              have HP := Lib.hid hp
              have HF := Lib.hid hf
              clear hp hf hc hz2 hXLo hcL hZs
              go_wp2_with (first
                | (go_at_call 8; (with_reducible refine (HF.out _).mono ?_); rintro e w4 ⟨rfl, rfl⟩)
                | (go_at_call 9; (with_reducible refine (HP.out _ hK0).mono ?_); rintro e w5 ⟨v5, rfl, hK5, hB5, hT5⟩)
                | (go_at_call 13; (with_reducible refine (Total_any _ hK5).mono ?_); rintro e w7 ⟨rfl, ho7⟩; have hK7 := hK5.kept ho7)
                | (go_at_call 14; (with_reducible refine (Len_of _ hK7 hXL2.out).mono ?_); rintro e w8 ⟨rfl, rfl⟩)
                )
              go_roundw
              case rel => exact ⟨k + 1, X.extract Z.size X.size, L.drop Z.size, v5, took + Z.size, by omega, by go_num, rfl, by rw [hcm.out], rfl, hX2, hXL2, by omega, by have := hzi.out; omega, by omega, by have := hzi.out; omega, by rw [← hcm.out]; exact hK7, (hBe.trans (hx0.below hBe.size (fun _ _ hh => hh))).trans (hB5.trans (ho7.below (Nat.le_trans hBe.size (Nat.le_trans hx0.size hB5.size)) (fun _ _ hh => hh)))⟩
              case measure => simp [intOf]; omega
            have k3' : (kd == 3) = false := by simpa using k3
            have k4' : (kd == 4) = false := by simpa using k4
            clear k3 k4
            by_cases k5 : kd = 5
            · subst k5
              by_cases hfull : lim < (L.length : Int) + S.size
              · have hfL := hfull
                rw [hXLo] at hfull
                clear hXLo
                have hp := fun (W : World) (h : Lk W b w.heap.size v L lim (took + X.size) took) => Ahead_full S W h (by omega) l0 l1 (by omega)
                have hfit : decide ((X.size : Int) + S.size ≤ lim) = false := by simp; omega
                have HP := Lib.hid hp
                clear hp
                go_wp2_with (first
                  | (go_at_call 10; (with_reducible refine (HP.out _ hK0).mono ?_); rintro e w5 ⟨v5, rfl, hK5, hB5, hT5⟩; have hA5 := hT5 _ _ _ hA0 (by decide) (by decide); have d0 := hA5.cell 0; have d1 := hA5.cell 1; have d2 := hA5.cell 2; have zA := hA5.lt)
                  | (go_at_call 12; (with_reducible refine (Fits_any _ _ _ _ (by omega) (by omega)).mono ?_); rintro e w6 ⟨rfl, rfl⟩)
                  | (go_at_call 13; (with_reducible refine (Total_any _ hK5).mono ?_); rintro e w7 ⟨rfl, ho7⟩; have hK7 := hK5.kept ho7)
                  | (go_at_call 14; (with_reducible refine (Len_of _ hK7 hXL.out).mono ?_); rintro e w8 ⟨rfl, rfl⟩)
                  )
                go_roundw
                case rel => exact ⟨k + 1, X, L, v5, took, by omega, by go_num, rfl, rfl, rfl, hX, hXL, by omega, by omega, by omega, by omega, hK7, (hBe.trans (hx0.below hBe.size (fun _ _ hh => hh))).trans (hB5.trans (ho7.below (Nat.le_trans hBe.size (Nat.le_trans hx0.size hB5.size)) (fun _ _ hh => hh)))⟩
                case measure => simp [intOf]; omega
              · have hfL := hfull
                rw [hXLo] at hfull
                clear hXLo
                have hp : ∀ (W : World), Lk W b w.heap.size v L lim (took + X.size) took → Calls Try.prog 10 #[.pointer (some ⟨b, 0, none⟩), .string S] W (LkPost W b w.heap.size (.int .i64 0) (S.data.toList ++ L) lim (took + X.size + S.size) took) := fun W h => Ahead_ok S W h l0 l1 (by omega) (by omega) (by omega)
                have hfit : decide ((X.size : Int) + S.size ≤ lim) = true := by simp; omega
                have hX2 := Lib.hid (show S ++ X = strOf (S.data.toList ++ L) by rw [hX.out]; first | rw [str_add] | rw [add_str])
                have hz2 : (S ++ X).size = X.size + S.size := by simp [ByteArray.size_append]; try omega
                have hXL2 := Lib.hid (show (S.data.toList ++ L).length = (S ++ X).size by rw [hX2.out, strOf_size])
                have hs1 : X.size + S.size ≤ 9223372036854775807 := by omega
                have hs2 : S.size + X.size ≤ 9223372036854775807 := by omega
                have hz3 : (S ++ X).size ≤ 1048576 := by omega
                have hsum : (took + (X.size : Int) + (S.size : Int) != took + ((S ++ X).size : Int)) = false := by rw [hz2]; simp; omega
                have hcm := Lib.hid (show took + (X.size : Int) + (S.size : Int) = took + ((S ++ X).size : Int) by rw [hz2]; omega)
                have hzi : ((S ++ X).size : Int) = X.size + S.size := by omega
                have HZ := Lib.hid hzi
                have HP := Lib.hid hp
                clear hp hz2 hzi
                go_wp2_with (first
                  | (go_at_call 10; (with_reducible refine (HP.out _ hK0).mono ?_); rintro e w5 ⟨v5, rfl, hK5, hB5, hT5⟩; have hA5 := hT5 _ _ _ hA0 (by decide) (by decide); have d0 := hA5.cell 0; have d1 := hA5.cell 1; have d2 := hA5.cell 2; have zA := hA5.lt)
                  | (go_at_call 12; (with_reducible refine (Fits_any _ _ _ _ (by omega) (by omega)).mono ?_); rintro e w6 ⟨rfl, rfl⟩)
                  | (go_at_call 13; (with_reducible refine (Total_any _ hK5).mono ?_); rintro e w7 ⟨rfl, ho7⟩; have hK7 := hK5.kept ho7)
                  | (go_at_call 14; (with_reducible refine (Len_of _ hK7 hXL2.out).mono ?_); rintro e w8 ⟨rfl, rfl⟩)
                  )
                go_roundw
                case rel => exact ⟨k + 1, S ++ X, S.data.toList ++ L, v5, took, by omega, by go_num, rfl, by rw [hcm.out], rfl, hX2, hXL2, by omega, by have := HZ.out; omega, by omega, by have := HZ.out; omega, by rw [← hcm.out]; exact hK7, (hBe.trans (hx0.below hBe.size (fun _ _ hh => hh))).trans (hB5.trans (ho7.below (Nat.le_trans hBe.size (Nat.le_trans hx0.size hB5.size)) (fun _ _ hh => hh)))⟩
                case measure => simp [intOf]; omega
            · have k5' : (kd == 5) = false := by simpa using k5
              clear k5
              by_cases hfull : lim < (L.length : Int) + S.size
              · have hfL := hfull
                rw [hXLo] at hfull
                clear hXLo
                have hp := fun (W : World) (h : Lk W b w.heap.size v L lim (took + X.size) took) => Push_full S W h (by omega) l0 l1 (by omega)
                have hfit : decide ((X.size : Int) + S.size ≤ lim) = false := by simp; omega
                have HP := Lib.hid hp
                clear hp
                go_wp2_with (first
                  | (go_at_call 11; (with_reducible refine (HP.out _ hK0).mono ?_); rintro e w5 ⟨v5, rfl, hK5, hB5, hT5⟩; have hA5 := hT5 _ _ _ hA0 (by decide) (by decide); have d0 := hA5.cell 0; have d1 := hA5.cell 1; have d2 := hA5.cell 2; have zA := hA5.lt)
                  | (go_at_call 12; (with_reducible refine (Fits_any _ _ _ _ (by omega) (by omega)).mono ?_); rintro e w6 ⟨rfl, rfl⟩)
                  | (go_at_call 13; (with_reducible refine (Total_any _ hK5).mono ?_); rintro e w7 ⟨rfl, ho7⟩; have hK7 := hK5.kept ho7)
                  | (go_at_call 14; (with_reducible refine (Len_of _ hK7 hXL.out).mono ?_); rintro e w8 ⟨rfl, rfl⟩)
                  )
                go_roundw
                case rel => exact ⟨k + 1, X, L, v5, took, by omega, by go_num, rfl, rfl, rfl, hX, hXL, by omega, by omega, by omega, by omega, hK7, (hBe.trans (hx0.below hBe.size (fun _ _ hh => hh))).trans (hB5.trans (ho7.below (Nat.le_trans hBe.size (Nat.le_trans hx0.size hB5.size)) (fun _ _ hh => hh)))⟩
                case measure => simp [intOf]; omega
              · have hfL := hfull
                rw [hXLo] at hfull
                clear hXLo
                have hp : ∀ (W : World), Lk W b w.heap.size v L lim (took + X.size) took → Calls Try.prog 11 #[.pointer (some ⟨b, 0, none⟩), .string S] W (LkPost W b w.heap.size (.int .i64 0) (L ++ S.data.toList) lim (took + X.size + S.size) took) := fun W h => Push_ok S W h l0 l1 (by omega) (by omega) (by omega)
                have hfit : decide ((X.size : Int) + S.size ≤ lim) = true := by simp; omega
                have hX2 := Lib.hid (show X ++ S = strOf (L ++ S.data.toList) by rw [hX.out]; first | rw [str_add] | rw [add_str])
                have hz2 : (X ++ S).size = X.size + S.size := by simp [ByteArray.size_append]; try omega
                have hXL2 := Lib.hid (show (L ++ S.data.toList).length = (X ++ S).size by rw [hX2.out, strOf_size])
                have hs1 : X.size + S.size ≤ 9223372036854775807 := by omega
                have hs2 : S.size + X.size ≤ 9223372036854775807 := by omega
                have hz3 : (X ++ S).size ≤ 1048576 := by omega
                have hsum : (took + (X.size : Int) + (S.size : Int) != took + ((X ++ S).size : Int)) = false := by rw [hz2]; simp; omega
                have hcm := Lib.hid (show took + (X.size : Int) + (S.size : Int) = took + ((X ++ S).size : Int) by rw [hz2]; omega)
                have hzi : ((X ++ S).size : Int) = X.size + S.size := by omega
                have HZ := Lib.hid hzi
                have HP := Lib.hid hp
                clear hp hz2 hzi
                go_wp2_with (first
                  | (go_at_call 11; (with_reducible refine (HP.out _ hK0).mono ?_); rintro e w5 ⟨v5, rfl, hK5, hB5, hT5⟩; have hA5 := hT5 _ _ _ hA0 (by decide) (by decide); have d0 := hA5.cell 0; have d1 := hA5.cell 1; have d2 := hA5.cell 2; have zA := hA5.lt)
                  | (go_at_call 12; (with_reducible refine (Fits_any _ _ _ _ (by omega) (by omega)).mono ?_); rintro e w6 ⟨rfl, rfl⟩)
                  | (go_at_call 13; (with_reducible refine (Total_any _ hK5).mono ?_); rintro e w7 ⟨rfl, ho7⟩; have hK7 := hK5.kept ho7)
                  | (go_at_call 14; (with_reducible refine (Len_of _ hK7 hXL2.out).mono ?_); rintro e w8 ⟨rfl, rfl⟩)
                  )
                go_roundw
                case rel => exact ⟨k + 1, X ++ S, L ++ S.data.toList, v5, took, by omega, by go_num, rfl, by rw [hcm.out], rfl, hX2, hXL2, by omega, by have := HZ.out; omega, by omega, by have := HZ.out; omega, by rw [← hcm.out]; exact hK7, (hBe.trans (hx0.below hBe.size (fun _ _ hh => hh))).trans (hB5.trans (ho7.below (Nat.le_trans hBe.size (Nat.le_trans hx0.size hB5.size)) (fun _ _ hh => hh)))⟩
                case measure => simp [intOf]; omega
        · clear hl
          go_wp2
          go_ret
          exact ⟨rfl, hBe⟩
      · clear hl
        go_wp2
        go_ret
        exact ⟨rfl, hBe⟩
/-! The step from the walk to the statement of LinkDoes. -/
namespace frLinkDoes
open Go.ChangeShapes Go.WideShapes Go.ChangeAt Go.RowKit
set_option linter.unusedVariables false
theorem own : ownKnob Try.prog.godebug = none := by kernel_rfl
theorem laidOut : laidOutB Try.prog = true := by kernel_rfl
theorem shape0 : Kd.ok Try.prog (.int .i64) 3 = true := by kernel_rfl
theorem shape1 : Kd.ok Try.prog (.slc (.agg [.int .i64, .int .i64, .str])) 22 = true := by kernel_rfl
set_option maxRecDepth 100000 in
theorem contract (H : Type) (enc : TypeId × Value → H) (W : World) (base : Nat) (args : Array Value) (ds gs : List (DataW H)) (before : List MemPlace)
    (hval : ∀ (j : Nat) t v, Try.f3.params[j]? = some t → args[j]? = some v → Value.okWide Try.prog W .any base t v)
    (hW : DataW.Whole enc Try.prog Try.f3.params.toList Rows.linkDoesSpec.vars false W args.toList ds gs before) :
    Calls Try.prog 3 args W fun e W' => ∃ v, e = .returned v ∧ Rows.linkDoesSpec.post enc Try.prog Try.f3 false true false false W args v W' := by
  have hW' := hW
  obtain ⟨p, q, hA0, hV, rfl, hfz, hnd⟩ := hW
  have hA : DataW.TrodAll enc Try.prog W 0 (fun _ => true) true Try.f3.params.toList args.toList ds p := hA0
  rw [Try.params3] at hA hval
  obtain ⟨v0, vs0, d0, ds0, p0, q0, hargs, rfl, rfl, h0, r0⟩ := trodAll_cons hA
  obtain ⟨v1, vs1, d1, ds1, p1, q1, rfl, rfl, rfl, h1, r1⟩ := trodAll_cons r0
  obtain ⟨rfl, rfl, rfl⟩ := trodAll_nil r1
  obtain rfl : args = #[v0, v1] := by cases args; simp_all
  obtain ⟨rfl, rfl⟩ := trodVars_none hV
  have k0 := Kd.fit _ shape0 (hval 0 3 v0 rfl rfl) h0
  have lt0 : ∀ x ∈ p0, x.block < W.heap.size := by obtain ⟨m, hm⟩ := h0; exact DataW.trod_lt m _ _ _ hm
  have k1 := Kd.fit _ shape1 (hval 1 22 v1 rfl rfl) h1
  have lt1 : ∀ x ∈ p1, x.block < W.heap.size := by obtain ⟨m, hm⟩ := h1; exact DataW.trod_lt m _ _ _ hm
  refine (linkDoes_walk v0 v1 W k0 k1).mono fun e W' ⟨he, bel⟩ => ?_
  subst he
  exact ⟨_, rfl, _, _, _, [], _, [], hW', trodAll_mk1 (shut_bool Try.underlying4 _), (trodAll_cons_mk (Below.trod laidOut (by kernel_rfl) (of_decide_eq_true (by kernel_rfl)) h0 bel lt0) (trodAll_cons_mk (Below.trod laidOut (by kernel_rfl) (of_decide_eq_true (by kernel_rfl)) h1 bel lt1) trodAll_mk0)), rfl, bel.frame _, fun h => by cases h⟩
set_option maxRecDepth 100000 in
theorem lifted (os : Os) (started : os.Started) (H : Type) (enc : TypeId × Value → H) :
    ReturnsInHanded {} Try.checked os 3 .any (Rows.linkDoesSpec.pre6 enc Try.prog Try.f3 Rows.linkDoesRow.domain false) (Rows.linkDoesSpec.post enc Try.prog Try.f3 false true false false) := by
  refine returnsInHanded_of_change (C := Try.checked) own started (by kernel_rfl) Try.func3
    (ChangeSpec.witness6 (enc := enc) (C := Try.checked) false ⟨#[], #[.int .i64 0, .slice none 0 0], []⟩ 8 (by kernel_rfl) (by kernel_rfl) (by kernel_rfl) (by kernel_rfl)) ?_
  intro W base args ds gs before hval hW _ _
  exact contract H enc W base args ds gs before hval hW
theorem over : Rows.linkDoesRow.holds Try.pinned (OpenSpec.ofChange Rows.linkDoesSpec) :=
  OpenClaim.holds_of_wide 3 Try.f3 rfl rfl rfl rfl rfl rfl rfl ⟨rfl, rfl, rfl, rfl, rfl⟩ rfl rfl rfl rfl rfl (by kernel_rfl) Try.func3 (by kernel_rfl)
    (of_decide_eq_true (by kernel_rfl)) (by unfold Func.isWrapper; first | (rw [if_pos (by decide +kernel)]; kernel_rfl) | (rw [if_neg (by decide +kernel)]; exact ⟨rfl, rfl⟩))
    (fun os started H enc _ => lifted os started H enc)
theorem proved : Rows.LinkDoesSaid := over
end frLinkDoes
end Go.Proofs.Ytkkbjdbfelaedaa
