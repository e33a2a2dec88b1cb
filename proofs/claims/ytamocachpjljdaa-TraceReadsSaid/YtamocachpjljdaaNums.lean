/- Numbers' bytes and back, both ways. -/
import Derived.Test.YtamocachpjljdaaBack
namespace Go.Proofs.Ytamocachpjljdaa
open Go.RowKit

theorem decN_append (l m : List UInt8) : decN (l ++ m) = decN l * 256 ^ m.length + decN m := by
  have key : ∀ (m : List UInt8) (a : Int), m.foldl (fun n b => n * 256 + (b.toNat : Int)) a = a * 256 ^ m.length + m.foldl (fun n b => n * 256 + (b.toNat : Int)) 0 := by
    intro m
    induction m with
    | nil => intro a; simp
    | cons b r ih =>
      intro a
      rw [List.foldl_cons, List.foldl_cons, ih, ih (0 * 256 + _), List.length_cons, Int.pow_succ, Int.zero_mul, Int.zero_add, Int.add_mul, Int.mul_assoc, Int.mul_comm 256 (256 ^ r.length), Int.add_assoc]
  unfold decN
  rw [List.foldl_append, key]
theorem decN_range (l : List UInt8) : 0 ≤ decN l ∧ decN l < 256 ^ l.length := by
  have := decN_lt l 0 (by decide)
  unfold decN
  simpa using this
theorem numB_mod (N : Int) : ∀ (k j : Nat), j ≤ k → numB (N % 256 ^ k) j = numB N j
  | _, 0, _ => rfl
  | k, j + 1, h => by
    have hb : byteAt (N % 256 ^ k) j = byteAt N j := by
      unfold byteAt
      have hk : (256 : Int) ^ k = 256 ^ (k - j - 1) * (256 ^ j * 256) := by rw [← Int.pow_succ, ← Int.pow_add]; congr 1; omega
      have hM : (0 : Int) < 256 ^ j := Int.pow_pos (by decide)
      have h1 : N % 256 ^ k = N - 256 ^ k * (N / 256 ^ k) := by have := Int.emod_add_mul_ediv N (256 ^ k); omega
      have h2 : N % 256 ^ k / 256 ^ j % 256 = N / 256 ^ j % 256 := by
        rw [h1, hk]
        have e : 256 ^ (k - j - 1) * ((256 : Int) ^ j * 256) * (N / (256 ^ (k - j - 1) * (256 ^ j * 256))) = 256 ^ j * (256 * (256 ^ (k - j - 1) * (N / (256 ^ (k - j - 1) * (256 ^ j * 256))))) := by
          rw [Int.mul_comm (256 ^ (k - j - 1)), Int.mul_assoc, Int.mul_assoc, Int.mul_assoc]
        rw [e, Int.sub_eq_add_neg, Int.neg_mul_eq_mul_neg, Int.add_mul_ediv_left _ _ (Int.ne_of_gt hM), ← Int.mul_neg, Int.add_mul_emod_self_left]
      rw [h2]
    rw [numB, numB, hb, numB_mod N k j (by omega)]
theorem numB_decN : ∀ (l : List UInt8), numB (decN l) l.length = l
  | [] => rfl
  | b :: l => by
    have e : decN (b :: l) = (b.toNat : Int) * 256 ^ l.length + decN l := by
      have := decN_append [b] l
      simpa [decN] using this
    obtain ⟨r0, r1⟩ := decN_range l
    have hM : (0 : Int) < 256 ^ l.length := Int.pow_pos (by decide)
    have hq : ((b.toNat : Int) * 256 ^ l.length + decN l) / 256 ^ l.length = b.toNat := by
      rw [Int.add_comm, Int.add_mul_ediv_right _ _ (Int.ne_of_gt hM), Int.ediv_eq_zero_of_lt r0 r1, Int.zero_add]
    have hm : ((b.toNat : Int) * 256 ^ l.length + decN l) % 256 ^ l.length = decN l := by
      rw [Int.add_comm, Int.add_mul_emod_self_right, Int.emod_eq_of_lt r0 r1]
    rw [List.length_cons, numB, e]
    have hb : byteAt ((b.toNat : Int) * 256 ^ l.length + decN l) l.length = b := by
      unfold byteAt
      rw [hq]
      have := b.toNat_lt
      rw [Int.emod_eq_of_lt (by omega) (by omega)]
      simp
    rw [hb, ← numB_mod _ l.length l.length (Nat.le_refl _), hm, numB_decN l]
end Go.Proofs.Ytamocachpjljdaa
