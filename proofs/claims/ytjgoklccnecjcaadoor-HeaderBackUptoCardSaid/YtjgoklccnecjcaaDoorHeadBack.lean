/- A header's bytes and back: the numbers. -/
import Derived.Test.YtjgoklccnecjcaaDoorBack
import Derived.Test.YtjgoklccnecjcaaDoorRefLay
namespace Go.Proofs.YtjgoklccnecjcaaDoor
open Go.RowKit

theorem decN_append (l m : List UInt8) : decN (l ++ m) = decN l * 256 ^ m.length + decN m := by
  have key : ∀ (m : List UInt8) (a : Int), m.foldl (fun n b => n * 256 + (b.toNat : Int)) a = a * 256 ^ m.length + m.foldl (fun n b => n * 256 + (b.toNat : Int)) 0 := by
    intro m
    induction m with
    | nil => intro a; simp
    | cons b r ih =>
      intro a
      rw [List.foldl_cons, List.foldl_cons, ih, ih (0 * 256 + _), List.length_cons, Int.pow_succ, Int.zero_mul, Int.zero_add, Int.add_mul, Int.mul_assoc, Int.mul_comm 256 (256 ^ r.length), Int.add_assoc]
  unfold decN
  rw [List.foldl_append, key]
theorem decN_range (l : List UInt8) : 0 ≤ decN l ∧ decN l < 256 ^ l.length := by
  have := decN_lt l 0 (by decide)
  unfold decN
  simpa using this
theorem numB_mod (N : Int) : ∀ (k j : Nat), j ≤ k → numB (N % 256 ^ k) j = numB N j
  | _, 0, _ => rfl
  | k, j + 1, h => by
    have hb : byteAt (N % 256 ^ k) j = byteAt N j := by
      unfold byteAt
      have hk : (256 : Int) ^ k = 256 ^ (k - j - 1) * (256 ^ j * 256) := by rw [← Int.pow_succ, ← Int.pow_add]; congr 1; omega
      have hM : (0 : Int) < 256 ^ j := Int.pow_pos (by decide)
      have h1 : N % 256 ^ k = N - 256 ^ k * (N / 256 ^ k) := by have := Int.emod_add_mul_ediv N (256 ^ k); omega
      have h2 : N % 256 ^ k / 256 ^ j % 256 = N / 256 ^ j % 256 := by
        rw [h1, hk]
        have e : 256 ^ (k - j - 1) * ((256 : Int) ^ j * 256) * (N / (256 ^ (k - j - 1) * (256 ^ j * 256))) = 256 ^ j * (256 * (256 ^ (k - j - 1) * (N / (256 ^ (k - j - 1) * (256 ^ j * 256))))) := by
          rw [Int.mul_comm (256 ^ (k - j - 1)), Int.mul_assoc, Int.mul_assoc, Int.mul_assoc]
        rw [e, Int.sub_eq_add_neg, Int.neg_mul_eq_mul_neg, Int.add_mul_ediv_left _ _ (Int.ne_of_gt hM), ← Int.mul_neg, Int.add_mul_emod_self_left]
      rw [h2]
    rw [numB, numB, hb, numB_mod N k j (by omega)]
theorem numB_decN : ∀ (l : List UInt8), numB (decN l) l.length = l
  | [] => rfl
  | b :: l => by
    have e : decN (b :: l) = (b.toNat : Int) * 256 ^ l.length + decN l := by
      have := decN_append [b] l
      simpa [decN] using this
    obtain ⟨r0, r1⟩ := decN_range l
    have hM : (0 : Int) < 256 ^ l.length := Int.pow_pos (by decide)
    have hq : ((b.toNat : Int) * 256 ^ l.length + decN l) / 256 ^ l.length = b.toNat := by
      rw [Int.add_comm, Int.add_mul_ediv_right _ _ (Int.ne_of_gt hM), Int.ediv_eq_zero_of_lt r0 r1, Int.zero_add]
    have hm : ((b.toNat : Int) * 256 ^ l.length + decN l) % 256 ^ l.length = decN l := by
      rw [Int.add_comm, Int.add_mul_emod_self_right, Int.emod_eq_of_lt r0 r1]
    rw [List.length_cons, numB, e]
    have hb : byteAt ((b.toNat : Int) * 256 ^ l.length + decN l) l.length = b := by
      unfold byteAt
      rw [hq]
      have := b.toNat_lt
      rw [Int.emod_eq_of_lt (by omega) (by omega)]
      simp
    rw [hb, ← numB_mod _ l.length l.length (Nat.le_refl _), hm, numB_decN l]
/-- what was put is got as it was, whatever stands behind it -/
theorem getR_lay (h : Hd) (B : ByteArray) (hr : rightH h = true) : getR (layR h ++ B) = getV h 0 := by
  obtain ⟨l, t, f, s⟩ := h
  unfold rightH at hr
  simp only [Bool.and_eq_true, decide_eq_true_eq] at hr
  obtain ⟨⟨⟨⟨⟨⟨⟨l0, l1⟩, t0⟩, t1⟩, f0⟩, f1⟩, s0⟩, s1⟩ := hr
  have hD : (layR ⟨l, t, f, s⟩ ++ B).data.toList = numB l 3 ++ (numB t 1 ++ (numB f 1 ++ (numB s 4 ++ B.data.toList))) := by
    unfold layR strOf
    simp [ByteArray.data_append]
  have hsz : (layR ⟨l, t, f, s⟩ ++ B).size = 9 + B.size := by
    rw [ByteArray.size_append]
    unfold layR
    rw [strOf_size]
    simp [numB_length]
  have hh : hdOf (layR ⟨l, t, f, s⟩ ++ B) = ⟨l, t, f, s⟩ := by
    unfold hdOf
    rw [hD]
    have n1 := numB_length l 3
    have n2 := numB_length t 1
    have n3 := numB_length f 1
    have n4 := numB_length s 4
    have e1 : (numB l 3 ++ (numB t 1 ++ (numB f 1 ++ (numB s 4 ++ B.data.toList)))).take 3 = numB l 3 := List.take_left' n1
    have e2 : (numB l 3 ++ (numB t 1 ++ (numB f 1 ++ (numB s 4 ++ B.data.toList)))).drop 3 = numB t 1 ++ (numB f 1 ++ (numB s 4 ++ B.data.toList)) := List.drop_left' n1
    have e3 : (numB l 3 ++ (numB t 1 ++ (numB f 1 ++ (numB s 4 ++ B.data.toList)))).drop 4 = numB f 1 ++ (numB s 4 ++ B.data.toList) := by
      rw [show (4 : Nat) = 3 + 1 from rfl, ← List.drop_drop, e2, List.drop_left' n2]
    have e4 : (numB l 3 ++ (numB t 1 ++ (numB f 1 ++ (numB s 4 ++ B.data.toList)))).drop 5 = numB s 4 ++ B.data.toList := by
      rw [show (5 : Nat) = 4 + 1 from rfl, ← List.drop_drop, e3, List.drop_left' n3]
    rw [e1, e2, e3, e4, List.take_left' n2, List.take_left' n3, List.take_left' n4, decN_num, decN_num, decN_num, decN_num]
    congr 1
    · exact Int.emod_eq_of_lt l0 (by omega)
    · exact Int.emod_eq_of_lt t0 (by omega)
    · exact Int.emod_eq_of_lt f0 (by omega)
    · exact Int.emod_eq_of_lt s0 (by omega)
  unfold getR
  rw [hsz, hh, if_neg (by omega), if_neg (by dsimp only; omega)]
/-- what is got is put as the very bytes -/
theorem lay_hdOf (S : ByteArray) (h9 : 9 ≤ S.size) (hs : (hdOf S).s ≤ 2147483647) : rightH (hdOf S) = true ∧ layR (hdOf S) = S.extract 0 9 := by
  have hL : 9 ≤ S.data.toList.length := by simpa using h9
  have e1 := decN_range (S.data.toList.take 3)
  have e2 := decN_range ((S.data.toList.drop 3).take 1)
  have e3 := decN_range ((S.data.toList.drop 4).take 1)
  have e4 := decN_range ((S.data.toList.drop 5).take 4)
  have n1 : (S.data.toList.take 3).length = 3 := by rw [List.length_take]; omega
  have n2 : ((S.data.toList.drop 3).take 1).length = 1 := by rw [List.length_take, List.length_drop]; omega
  have n3 : ((S.data.toList.drop 4).take 1).length = 1 := by rw [List.length_take, List.length_drop]; omega
  have n4 : ((S.data.toList.drop 5).take 4).length = 4 := by rw [List.length_take, List.length_drop]; omega
  rw [n1] at e1
  rw [n2] at e2
  rw [n3] at e3
  rw [n4] at e4
  have m1 := numB_decN (S.data.toList.take 3)
  have m2 := numB_decN ((S.data.toList.drop 3).take 1)
  have m3 := numB_decN ((S.data.toList.drop 4).take 1)
  have m4 := numB_decN ((S.data.toList.drop 5).take 4)
  rw [n1] at m1
  rw [n2] at m2
  rw [n3] at m3
  rw [n4] at m4
  constructor
  · unfold hdOf at hs
    dsimp only at hs
    unfold rightH hdOf
    simp only [Bool.and_eq_true, decide_eq_true_eq]
    have q1 : (256 : Int) ^ 3 = 16777216 := rfl
    have q2 : (256 : Int) ^ 1 = 256 := rfl
    rw [q1] at e1
    rw [q2] at e2 e3
    exact ⟨⟨⟨⟨⟨⟨⟨e1.1, e1.2⟩, e2.1⟩, e2.2⟩, e3.1⟩, e3.2⟩, e4.1⟩, hs⟩
  · unfold layR hdOf
    dsimp only
    rw [m1, m2, m3, m4, ext_take]
    congr 1
    generalize S.data.toList = L at *
    rw [show (9 : Nat) = 3 + 6 from rfl, List.take_add, show (6 : Nat) = 1 + 5 from rfl, List.take_add, List.drop_drop, show (5 : Nat) = 1 + 4 from rfl, List.take_add, List.drop_drop]
    simp only [List.append_assoc]
end Go.Proofs.YtjgoklccnecjcaaDoor
