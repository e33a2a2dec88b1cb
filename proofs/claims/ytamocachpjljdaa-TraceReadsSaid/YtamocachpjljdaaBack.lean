/- What was laid is read as it was: numbers. -/
import Derived.Test.YtamocachpjljdaaLay
import Derived.Test.YtamocachpjljdaaMid
namespace Go.Proofs.Ytamocachpjljdaa
open Go.RowKit

theorem toList_strOf (l : List UInt8) : (strOf l).toList = l := by rw [ByteArray.toList_eq]; rfl
theorem emod_step (a : Int) (M : Int) (hM : 0 < M) : a % (M * 256) = M * (a / M % 256) + a % M := by
  have h1 := Int.emod_add_mul_ediv a (M * 256)
  have h2 := Int.emod_add_mul_ediv a M
  have h3 := Int.emod_add_mul_ediv (a / M) 256
  have h4 : a / (M * 256) = a / M / 256 := by rw [Int.ediv_ediv_of_nonneg (Int.le_of_lt hM)]
  rw [h4] at h1
  have h5 : M * 256 * (a / M / 256) = M * (256 * (a / M / 256)) := by rw [Int.mul_assoc]
  have h6 : M * (a / M) = M * (a / M % 256) + M * (256 * (a / M / 256)) := by rw [← Int.mul_add, h3]
  omega
theorem foldl_num (N : Int) : ∀ (k : Nat) (a : Int), (numB N k).foldl (fun n b => n * 256 + (b.toNat : Int)) a = a * 256 ^ k + N % 256 ^ k
  | 0, a => by simp [numB, Int.emod_one]
  | k + 1, a => by
    have hM : (0 : Int) < 256 ^ k := Int.pow_pos (by decide)
    have e := emod_step N (256 ^ k) hM
    have b := byteAt_toNat N k
    show (numB N k).foldl _ (a * 256 + ((byteAt N k).toNat : Int)) = _
    rw [foldl_num N k, b, Int.pow_succ, e, Int.add_mul, Int.mul_assoc, Int.mul_comm 256 (256 ^ k), Int.mul_comm (N / 256 ^ k % 256), Int.add_assoc]
theorem decN_num (N : Int) (k : Nat) : decN (numB N k) = N % 256 ^ k := by
  unfold decN
  rw [foldl_num]
  simp
theorem chk_num' (N : Int) (wd : Int) (S : ByteArray) (h : chkE' ⟨N, wd, S⟩ = 0) (h0 : wd ≠ 0) : 1 ≤ wd ∧ wd ≤ 4 ∧ 0 ≤ N ∧ N < capN wd := by
  unfold chkE' chkB at h
  dsimp only at h
  split at h
  · cases h
  · rename_i h1
    have hw : wd = 1 ∨ wd = 2 ∨ wd = 3 ∨ wd = 4 := by omega
    rcases hw with rfl | rfl | rfl | rfl <;> simp [capN] at h ⊢ <;> omega
theorem decN_piece (N : Int) (wd : Int) (S : ByteArray) (h : chkE' ⟨N, wd, S⟩ = 0) (h0 : wd ≠ 0) : decN (bytesOf ⟨N, wd, S⟩) = N ∧ (bytesOf ⟨N, wd, S⟩).length = wd.toNat := by
  obtain ⟨h1, h4, hn, hc⟩ := chk_num' N wd S h h0
  unfold bytesOf
  rw [if_neg h0]
  refine ⟨?_, numB_length _ _⟩
  rw [decN_num]
  have hw : wd = 1 ∨ wd = 2 ∨ wd = 3 ∨ wd = 4 := by omega
  rcases hw with rfl | rfl | rfl | rfl <;> simp [capN] at hc ⊢ <;> exact Int.emod_eq_of_lt hn (by omega)
/-- the bytes of a piece, in the middle of what was laid -/
theorem lay_mid (P : List Pc) (B : List UInt8) (k : Nat) (p : Pc) (h : P[k]? = some p) : ((layL P ++ B).drop (layL (P.take k)).length).take (bytesOf p).length = bytesOf p := by
  have e : P = P.take k ++ p :: P.drop (k + 1) := by
    obtain ⟨hk, hp⟩ := List.getElem?_eq_some_iff.1 h
    rw [← hp, ← List.drop_eq_getElem_cons hk, List.take_append_drop]
  have e2 : layL P = layL (P.take k) ++ (bytesOf p ++ layL (P.drop (k + 1))) := by
    conv => lhs; rw [e]
    unfold layL
    rw [List.flatMap_append, List.flatMap_cons]
  rw [e2, List.append_assoc, List.drop_left, List.append_assoc, List.take_left]
end Go.Proofs.Ytamocachpjljdaa
