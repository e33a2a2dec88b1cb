/- The document's answers for numbers and their bytes. -/
import Derived.Test.YtamocachpjljdaaLay
import Derived.Test.YtamocachpjljdaaMid
namespace Go.Proofs.Ytamocachpjljdaa
open Go.RowKit

set_option maxHeartbeats 2000000 in
theorem RN_any (X : ByteArray) (w : World) (h4 : X.size ≤ 4) : Calls Try.prog 26 #[.string X] w fun x w' => x = .returned (.int .i64 (decN X.data.toList)) ∧ w = w' := by
  go_enter Try.func26, Try.ntmps26
  go_wp2
  go_loop [3, 4] (fun nn kk => ∃ k : Nat, k ≤ X.size ∧ kk = .int .i64 k ∧ nn = .int .i64 (decN (X.data.toList.take k))) (fun _ kk => X.size - (intOf kk).toNat)
  case atStart => exact ⟨0, Nat.zero_le _, rfl, rfl⟩
  case round =>
    obtain ⟨k, hk, rfl, rfl⟩ := hrel
    by_cases hlt : k < X.size
    · have hd := Lib.hid (decN_snoc X k hlt)
      have hb := decN_bd X k (by omega)
      generalize decN (X.data.toList.take k) = D at hd hb
      obtain ⟨hb0, hb1⟩ := hb
      go_wp2
      go_round
      case rel => exact ⟨k + 1, by omega, by go_num, by rw [hd.out]; have := X[k].toNat_lt; congr 1; simp only [wrap64]; omega⟩
      case measure => simp [intOf]; omega
    · have hfin : Hid (decN (X.data.toList.take k) = decN X.data.toList) := Lib.hid (by rw [List.take_of_length_le (by simp; omega)])
      generalize decN (X.data.toList.take k) = D at *
      go_wp2
      go_ret
      exact ⟨by rw [hfin.out]; rfl, rfl⟩
theorem strOf_cons (b : UInt8) (l : List UInt8) : strOf [b] ++ strOf l = strOf (b :: l) := by
  apply ByteArray.ext
  apply Array.toList_inj.1
  simp [strOf, ByteArray.data_append]
theorem byte_str (N : Int) (k : Nat) (W : World) (hk : (N / 256 ^ k) % 256 = ((byteAt N k).toNat : Int)) :
    (convert 43 9 (.slice (some ⟨W.heap.size, 0, none⟩) 1 1)).run Try.prog (W.alloc (.cells #[.int .u8 ((N / 256 ^ k) % 256)] 5)) = .ok (.string (strOf [byteAt N k])) (W.alloc (.cells #[.int .u8 ((N / 256 ^ k) % 256)] 5)) := by
  rw [hk]
  exact (Ow.lit (enc := encB) (sz := 1) (e := 5) (base := 0) W (cs := #[.int .u8 ((byteAt N k).toNat : Int)]) [byteAt N k] rfl rfl (by simp [maxLen]) (Nat.zero_le _)).str 43 5 9 Try.underlying43 Try.underlying5 Try.underlying9
set_option maxHeartbeats 4000000 in
theorem RU_any (N : Int) (wd : Nat) (w : World) (h0 : 0 ≤ N) (h1 : N ≤ 9223372036854775807) (hw : wd ≤ 4) : Calls Try.prog 35 #[.int .i64 N, .int .i64 wd] w fun x w' => x = .returned (.tuple #[.string (strOf (numB N wd)), .bool (N / 256 ^ wd == 0)]) ∧ Only Nil w w' := by
  go_enter Try.func35, Try.ntmps35
  go_wp2
  go_loopw [0, 6, 7] (fun nn oo ii wr => ∃ (k : Nat) (M : Int) (X : ByteArray), k ≤ wd ∧ ii = .int .i64 k ∧ nn = .int .i64 M ∧ Hid (M = N / 256 ^ k) ∧ 0 ≤ M ∧ M ≤ 9223372036854775807 ∧ oo = .string X ∧ Hid (X = strOf (numB N k)) ∧ X.size ≤ 4 ∧ Only Nil w wr) (fun _ _ ii _ => wd - (intOf ii).toNat)
  case atStart => exact ⟨0, N, _, Nat.zero_le _, rfl, rfl, Lib.hid (by simp), h0, h1, rfl, Lib.hid rfl, by decide, Only.refl _ _⟩
  case round =>
    obtain ⟨k, M, X, hk, rfl, rfl, hM, hM0, hM9, rfl, hX, hXs, ho⟩ := hrel
    by_cases hlt : k < wd
    · have hby := byteAt_toNat N k
      have hcv := byte_str N k wr hby.symm
      have hMd := Lib.hid (show M / 256 = N / 256 ^ (k + 1) by rw [hM.out, Int.pow_succ, Int.ediv_ediv_of_nonneg (Int.le_of_lt (Int.pow_pos (by decide)))])
      have hX2 := Lib.hid (show strOf [byteAt N k] ++ X = strOf (numB N (k + 1)) by rw [hX.out, strOf_cons]; rfl)
      have hXs2 : (strOf [byteAt N k] ++ X).size ≤ 4 := by rw [hX2.out, strOf_size, numB_length]; omega
      have hs1 : (strOf [byteAt N k]).size + X.size ≤ 9223372036854775807 := by rw [strOf_size]; simp; omega
      rw [← hM.out] at hcv
      have hM1 : 0 ≤ M / 256 := Int.ediv_nonneg hM0 (by decide)
      have hM2 : M / 256 ≤ 9223372036854775807 := by omega
      generalize strOf [byteAt N k] = B at hcv hX2 hXs2 hs1
      clear hby
      go_wp2
      go_roundw
      case rel => exact ⟨k + 1, M / 256, B ++ X, by omega, by go_num, rfl, hMd, hM1, hM2, rfl, hX2, hXs2, ho.alloc _⟩
      case measure => simp [intOf]; omega
    · obtain rfl : k = wd := by omega
      go_wp2
      go_ret2
      exact ⟨by rw [hX.out, hM.out]; rfl, ho⟩
theorem RB_any (N : Int) (wd : Nat) (w : World) (h0 : 0 ≤ N) (h1 : N ≤ 9223372036854775807) (hw : wd ≤ 4) : Calls Try.prog 29 #[.int .i64 N, .int .i64 wd] w fun x w' => x = .returned (.string (strOf (numB N wd))) ∧ Only Nil w w' := by
  have hu := fun (W : World) => RU_any N wd W h0 h1 hw
  generalize strOf (numB N wd) = X at hu ⊢
  generalize (N / 256 ^ wd == 0) = B at hu
  go_enter Try.func29, Try.ntmps29
  go_wp2_with (first
    | (go_at_call 35; (with_reducible refine (hu _).mono ?_); rintro e w1 ⟨rfl, ho1⟩)
    )
  go_ret
  exact ⟨rfl, ho1⟩
end Go.Proofs.Ytamocachpjljdaa
