/- The document's answers for headers. -/
import Derived.Test.YtjgoklccnecjcaaDoorRef02
namespace Go.Proofs.YtjgoklccnecjcaaDoor
open Go.RowKit

set_option maxHeartbeats 64000000 in
theorem RGet_any (S : ByteArray) (w : World) : Calls Tryd.prog 8 #[.string S] w fun x w' => x = .returned (getR S) ∧ Only Nil w w' := by
  by_cases h9 : S.size < 9
  · have e1 : Hid (getR S = getV ⟨0, 0, 0, 0⟩ 5) := Lib.hid (by unfold getR; rw [if_pos h9])
    generalize getR S = V at e1 ⊢
    go_enter Tryd.func8, Tryd.ntmps8
    go_wp2
    exact bodyPost_ret (v := .tuple #[.agg #[.int .i64 0, .int .i64 0, .int .i64 0, .int .i64 0], .int .i64 5]) (by simp [results, Tryd.results8, go_sem]) rfl ⟨by rw [e1.out]; rfl, (Only.refl _ _).alloc _⟩
  · have g9 : 9 ≤ S.size := by omega
    have hd : hdOf S = ⟨decN (S.data.toList.take 3), (S[3].toNat : Int), (S[4].toNat : Int), decN ((S.data.toList.drop 5).take 4)⟩ := by
      unfold hdOf
      rw [idx_dec S 3 (by omega), idx_dec S 4 (by omega)]
    have hn1 : ∀ W, Calls Tryd.prog 21 #[.string (S.extract 0 3)] W fun x w' => x = .returned (.int .i64 (decN (S.data.toList.take 3))) ∧ W = w' := fun W => by
      have := RN_any (S.extract 0 3) W (by rw [ext_take, strOf_size, List.length_take]; omega)
      rw [ext_take, strOf_toList] at this
      rw [ext_take]
      exact this
    have hn2 : ∀ W, Calls Tryd.prog 21 #[.string (S.extract 5 9)] W fun x w' => x = .returned (.int .i64 (decN ((S.data.toList.drop 5).take 4))) ∧ W = w' := fun W => by
      have := RN_any (S.extract 5 9) W (by rw [show (9 : Nat) = 5 + 4 from rfl, ext_mid, strOf_size, List.length_take]; omega)
      rw [show S.extract 5 9 = S.extract 5 (5 + 4) from rfl, ext_mid, strOf_toList] at this
      rw [show S.extract 5 9 = S.extract 5 (5 + 4) from rfl, ext_mid]
      exact this
    have b3 := S[3].toNat_lt
    have b4 := S[4].toNat_lt
    have b30 : (0 : Int) ≤ (S[3].toNat : Int) := by omega
    have b31 : (S[3].toNat : Int) ≤ 255 := by omega
    have b40 : (0 : Int) ≤ (S[4].toNat : Int) := by omega
    have b41 : (S[4].toNat : Int) ≤ 255 := by omega
    have j3 : (3 : Int) < (S.size : Int) := by omega
    have j4 : (4 : Int) < (S.size : Int) := by omega
    have j5 : (3 : Int) ≤ (S.size : Int) := by omega
    have j9 : (9 : Int) ≤ (S.size : Int) := by omega
    have i3 : 3 < S.size := by omega
    have i4 : 4 < S.size := by omega
    have i5 : 3 ≤ S.size := by omega
    have w3 : wrap64 (S[3].toNat : Int) = (S[3].toNat : Int) := by simp only [wrap64]; omega
    have w4 : wrap64 (S[4].toNat : Int) = (S[4].toNat : Int) := by simp only [wrap64]; omega
    have hi3 : ∀ w : World, (Instr.index 9 (.string S) (.int .i64 3)).run Tryd.prog w = .ok (.int .u8 (S[3].toNat : Int)) w := by intro w; go_simp; try simp [i3]
    have hi4 : ∀ w : World, (Instr.index 9 (.string S) (.int .i64 4)).run Tryd.prog w = .ok (.int .u8 (S[4].toNat : Int)) w := by intro w; go_simp; try simp [i4]
    generalize decN (S.data.toList.take 3) = l at hn1 hd
    generalize decN ((S.data.toList.drop 5).take 4) = s at hn2 hd
    have HN1 := Lib.hid hn1
    have HN2 := Lib.hid hn2
    clear hn1 hn2
    have E1 : Hid (2147483647 < s → getR S = getV ⟨0, 0, 0, 0⟩ 6) := Lib.hid (fun hs => by unfold getR; rw [if_neg h9, hd, if_pos hs])
    have E2 : Hid (s ≤ 2147483647 → getR S = getV ⟨l, (S[3].toNat : Int), (S[4].toNat : Int), s⟩ 0) := Lib.hid (fun hs => by unfold getR; rw [if_neg h9, hd, if_neg (show ¬ 2147483647 < s by omega)])
    generalize getR S = V at E1 E2 ⊢
    clear hd
    go_enter Tryd.func8, Tryd.ntmps8
    go_wp2
    go_region_held3 (fun _ => True) (trivial) (first
      | (go_at_call 21; (with_reducible refine (HN1.out _).mono ?_); rintro e w1 ⟨rfl, rfl⟩)
      | (go_at_call 21; (with_reducible refine (HN2.out _).mono ?_); rintro e w2 ⟨rfl, rfl⟩)
      )
    all_goals
      by_cases hs : 2147483647 < s
      · have e1 := Lib.hid (E1.out hs)
        go_wp2
        exact bodyPost_ret (v := .tuple #[.agg #[.int .i64 0, .int .i64 0, .int .i64 0, .int .i64 0], .int .i64 6]) (by simp [results, Tryd.results8, go_sem]) rfl ⟨by rw [e1.out]; rfl, by repeat (with_reducible (first | exact Only.refl _ _ | refine Only.drew ?_ | refine Only.alloc ?_ _))⟩
      · have e1 := Lib.hid (E2.out (by omega))
        go_wp2
        exact bodyPost_ret (v := .tuple #[.agg #[.int .i64 l, .int .i64 (S[3].toNat : Int), .int .i64 (S[4].toNat : Int), .int .i64 s], .int .i64 0]) (by simp [results, Tryd.results8, go_sem]) rfl ⟨by rw [e1.out]; rfl, by repeat (with_reducible (first | exact Only.refl _ _ | refine Only.drew ?_ | refine Only.alloc ?_ _))⟩
end Go.Proofs.YtjgoklccnecjcaaDoor
