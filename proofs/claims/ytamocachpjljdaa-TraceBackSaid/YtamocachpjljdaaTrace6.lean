/- A trace laid and read: the same moves; read and laid: the same bytes. -/
import Derived.Test.YtamocachpjljdaaTrace5
namespace Go.Proofs.Ytamocachpjljdaa
open Go.RowKit

theorem take_app {α : Type} {X Y : List α} {n : Nat} (h : X.length = n) : (X ++ Y).take n = X := by subst h; simp
theorem drop_app {α : Type} {X Y : List α} {n : Nat} (h : X.length = n) : (X ++ Y).drop n = Y := by subst h; simp
theorem decN_in (N : Int) (k : Nat) (h0 : 0 ≤ N) (h1 : N < 256 ^ k) : decN (numB N k) = N := by
  rw [decN_num, Int.emod_eq_of_lt h0 h1]
theorem mvAt_bytes (m : Mv) (R : List UInt8) (hr : rightM m = true) : mvAt (bytesM m ++ R) = m ∧ lenAt (bytesM m ++ R) = (bytesM m).length ∧ errAt (bytesM m ++ R) = 0 := by
  obtain ⟨⟨h1, h1'⟩, ⟨h2, h2'⟩, ⟨h3, h3'⟩, h4⟩ := rightM_iff.1 hr
  have hsz : m.s.data.toList.length = m.s.size := by simp
  have hen : 0 ≤ b2i m.en ∧ b2i m.en ≤ 1 := by cases m.en <;> decide
  have e0 : bytesM m ++ R = numB m.wh 1 ++ (numB (b2i m.en) 1 ++ (numB m.st 4 ++ (numB m.n 4 ++ (numB m.s.size 2 ++ (m.s.data.toList ++ R))))) := by
    unfold bytesM
    simp only [List.append_assoc]
  have d1 : (bytesM m ++ R).drop 1 = numB (b2i m.en) 1 ++ (numB m.st 4 ++ (numB m.n 4 ++ (numB m.s.size 2 ++ (m.s.data.toList ++ R)))) := by rw [e0, drop_app (numB_length _ _)]
  have d2 : (bytesM m ++ R).drop 2 = numB m.st 4 ++ (numB m.n 4 ++ (numB m.s.size 2 ++ (m.s.data.toList ++ R))) := by
    rw [show 2 = 1 + 1 from rfl, ← List.drop_drop, d1, drop_app (numB_length _ _)]
  have d6 : (bytesM m ++ R).drop 6 = numB m.n 4 ++ (numB m.s.size 2 ++ (m.s.data.toList ++ R)) := by
    rw [show 6 = 2 + 4 from rfl, ← List.drop_drop, d2, drop_app (numB_length _ _)]
  have d10 : (bytesM m ++ R).drop 10 = numB m.s.size 2 ++ (m.s.data.toList ++ R) := by
    rw [show 10 = 6 + 4 from rfl, ← List.drop_drop, d6, drop_app (numB_length _ _)]
  have d12 : (bytesM m ++ R).drop 12 = m.s.data.toList ++ R := by
    rw [show 12 = 10 + 2 from rfl, ← List.drop_drop, d10, drop_app (numB_length _ _)]
  have k0 : decN ((bytesM m ++ R).take 1) = m.wh := by rw [e0, take_app (numB_length _ _), decN_in _ _ (by omega) (by omega)]
  have k1 : endAt (bytesM m ++ R) = b2i m.en := by unfold endAt; rw [d1, take_app (numB_length _ _), decN_in _ _ hen.1 (by omega)]
  have k2 : decN (((bytesM m ++ R).drop 2).take 4) = m.st := by rw [d2, take_app (numB_length _ _), decN_in _ _ (by omega) (by omega)]
  have k6 : decN (((bytesM m ++ R).drop 6).take 4) = m.n := by rw [d6, take_app (numB_length _ _), decN_in _ _ (by omega) (by omega)]
  have k10 : lenS (bytesM m ++ R) = m.s.size := by unfold lenS; rw [d10, take_app (numB_length _ _), decN_in _ _ (by omega) (by omega)]
  have hm : mvAt (bytesM m ++ R) = m := by
    unfold mvAt
    rw [k0, k1, k2, k6, k10, d12, show ((m.s.size : Int)).toNat = m.s.data.toList.length by rw [hsz]; rfl, take_app rfl, strOf_data]
    obtain ⟨wh, en, st, nn, s⟩ := m
    cases en <;> rfl
  have hl : lenAt (bytesM m ++ R) = (bytesM m).length := by
    unfold lenAt
    rw [k10, bytesM_len]
    rfl
  refine ⟨hm, hl, ?_⟩
  have hlen := bytesM_len m
  unfold errAt
  rw [hl, hm, k1, hr, if_neg (by rw [List.length_append]; omega), if_neg (by rw [List.length_append]; omega), if_neg]
  rintro (hh | hh)
  · omega
  · cases hh
theorem rd_all : ∀ (L : List Mv) (k : Nat), (∀ m ∈ L, rightM m = true) → k + L.length ≤ 256 → rd (allM L) k = (L, (allM L).length, 0)
  | [], k, _, _ => rd_end k rfl
  | m :: L, k, h, hk => by
    have hr := h m (List.mem_cons_self ..)
    have e : allM (m :: L) = bytesM m ++ allM L := by simp [allM]
    obtain ⟨h1, h2, h3⟩ := mvAt_bytes m (allM L) hr
    have hl := bytesM_len m
    rw [List.length_cons] at hk
    rw [e, rd_step k (by rw [List.length_append]; omega) h3 (by omega), h1, h2, drop_app rfl, rd_all L (k + 1) (fun x hx => h x (List.mem_cons_of_mem _ hx)) (by omega), List.length_append]
theorem tl_ok {L : List Mv} (h : tlE L = 0) : L.length ≤ 256 ∧ ∀ m ∈ L, rightM m = true := by
  unfold tlE at h
  split at h
  · cases h
  · split at h
    · exact ⟨by omega, by assumption⟩
    · cases h
theorem tl_of {L : List Mv} (h1 : L.length ≤ 256) (h2 : ∀ m ∈ L, rightM m = true) : tlE L = 0 := by
  unfold tlE
  rw [if_neg (by omega), if_pos h2]
theorem rd_tl {L : List Mv} (h : tlE L = 0) : rdO (tlS L) = (L, (tlS L).size, 0) := by
  obtain ⟨h1, h2⟩ := tl_ok h
  have hb := allM_len h2
  have e : tlS L = strOf (allM L) := by unfold tlS; rw [if_pos h]
  rw [e, strOf_size]
  unfold rdO
  rw [if_neg (by rw [strOf_size]; omega)]
  unfold rdOut
  rw [strOf_toList, rd_all L 0 h2 (by omega)]
  rfl
theorem take_one {T : List UInt8} (h : 0 < T.length) : ∃ b, T.take 1 = [b] := by
  cases T with
  | nil => cases h
  | cons b r => exact ⟨b, rfl⟩
theorem bytes_mvAt {T : List UInt8} (h : errAt T = 0) : rightM (mvAt T) = true ∧ bytesM (mvAt T) = T.take (lenAt T) := by
  have hlen := errAt_len h
  have h12 : 12 ≤ T.length := Nat.le_trans (lenAt_pos T) hlen
  unfold errAt at h
  rw [if_neg (by omega), if_neg (by omega)] at h
  have hh : ¬ (1 < endAt T ∨ rightM (mvAt T) = false) := fun hh => by rw [if_pos hh] at h; cases h
  have hr : rightM (mvAt T) = true := by
    cases e : rightM (mvAt T)
    · exact absurd (.inr e) hh
    · rfl
  have hend : ¬ 1 < endAt T := fun e => hh (.inl e)
  refine ⟨hr, ?_⟩
  have nb : ∀ (a n : Nat), a + n ≤ T.length → numB (decN ((T.drop a).take n)) n = (T.drop a).take n := fun a n ha => by
    have := numB_decN ((T.drop a).take n)
    rw [List.length_take, List.length_drop, Nat.min_eq_left (by omega)] at this
    exact this
  have er := decN_range ((T.drop 1).take 1)
  have n0 := nb 0 1 (by omega)
  have n1 := nb 1 1 (by omega)
  have n2 := nb 2 4 (by omega)
  have n6 := nb 6 4 (by omega)
  have n10 := nb 10 2 (by omega)
  rw [List.drop_zero] at n0
  have hb2 : b2i (endAt T == 1) = decN ((T.drop 1).take 1) := by
    have e : endAt T = decN ((T.drop 1).take 1) := rfl
    rw [← e] at er ⊢
    by_cases h1 : endAt T = 1
    · rw [h1]; rfl
    · have h0 : endAt T = 0 := by omega
      rw [h0]; rfl
  have rl := decN_range ((T.drop 10).take 2)
  have eL : lenS T = decN ((T.drop 10).take 2) := rfl
  have hs : (strOf ((T.drop 12).take (lenS T).toNat)).size = (lenS T).toNat := by
    rw [strOf_size, List.length_take, List.length_drop]
    unfold lenAt at hlen
    omega
  unfold bytesM mvAt
  simp only
  rw [hb2, hs, show (((lenS T).toNat : Nat) : Int) = decN ((T.drop 10).take 2) by rw [← eL]; omega, n0, n1, n2, n6, n10, strOf_toList]
  have ap : ∀ (a n c : Nat), (T.drop a).take n ++ (T.drop (a + n)).take c = (T.drop a).take (n + c) := fun a n c => by rw [List.take_add, List.drop_drop]
  rw [ap 10 2, ap 6 4, ap 2 4, ap 1 1]
  have := ap 0 1
  rw [List.drop_zero] at this
  rw [this]
  unfold lenAt
  congr 1
  omega
theorem rd_back : ∀ (f : Nat) (T : List UInt8) (k : Nat), T.length ≤ f → k ≤ 256 → (rd T k).2.2 = 0 → allM (rd T k).1 = T ∧ (∀ m ∈ (rd T k).1, rightM m = true) ∧ k + (rd T k).1.length ≤ 256
  | f, T, k, hf, hk, h => by
    by_cases h0 : T.length = 0
    · rw [rd_end k h0]
      refine ⟨(List.eq_nil_of_length_eq_zero h0).symm, fun m hm => ?_, ?_⟩
      · simp at hm
      · simpa using hk
    · by_cases he : errAt T = 0
      · by_cases hk2 : 256 ≤ k
        · rw [rd_big k h0 he hk2] at h
          cases h
        · obtain ⟨hr, hb⟩ := bytes_mvAt he
          have hp := lenAt_pos T
          rw [rd_step k h0 he (by omega)] at h ⊢
          simp only at h ⊢
          cases f with
          | zero => omega
          | succ f =>
            obtain ⟨i1, i2, i3⟩ := rd_back f (T.drop (lenAt T)) (k + 1) (by rw [List.length_drop]; omega) (by omega) h
            refine ⟨?_, ?_, by rw [List.length_cons]; omega⟩
            · have e : allM (mvAt T :: (rd (T.drop (lenAt T)) (k + 1)).1) = bytesM (mvAt T) ++ allM (rd (T.drop (lenAt T)) (k + 1)).1 := by simp [allM]
              rw [e, i1, hb, List.take_append_drop]
            · intro m hm
              rcases List.mem_cons.1 hm with rfl | hm
              · exact hr
              · exact i2 m hm
      · rw [rd_err k h0 he] at h
        exact absurd h he
theorem rdO_back {S : ByteArray} (h : (rdO S).2.2 = 0) : tlE (rdO S).1 = 0 ∧ tlS (rdO S).1 = S ∧ (rdO S).1.length ≤ 256 := by
  unfold rdO at h ⊢
  split at h
  · cases h
  · rename_i hb
    rw [if_neg hb]
    unfold rdOut at h ⊢
    split at h
    · rename_i h2
      rw [if_pos h2]
      obtain ⟨i1, i2, i3⟩ := rd_back _ _ 0 (Nat.le_refl _) (by decide) h2
      have e := tl_of (by omega) i2
      refine ⟨e, ?_, by omega⟩
      unfold tlS
      rw [if_pos e, i1, strOf_data]
    · rename_i h2
      exact absurd h h2
theorem rdO_err {S : ByteArray} (h : (rdO S).2.2 ≠ 0) : (rdO S).1 = [] := by
  unfold rdO at h ⊢
  split
  · rfl
  · rename_i hb
    rw [if_neg hb] at h
    unfold rdOut at h ⊢
    split
    · rename_i h2
      rw [if_pos h2] at h
      exact absurd h2 h
    · rfl
end Go.Proofs.Ytamocachpjljdaa
