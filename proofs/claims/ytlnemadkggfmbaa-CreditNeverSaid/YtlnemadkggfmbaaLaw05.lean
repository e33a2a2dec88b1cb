/- The statements' own functions of layer 5: the document's answers, a call of both, and what must come at any rate. -/
import Derived.Test.YtlnemadkggfmbaaWindow
import Derived.Test.YtlnemadkggfmbaaArgs
namespace Go.Proofs.Ytlnemadkggfmbaa
open Go.RowKit


set_option maxHeartbeats 400000 in
theorem rgrow_any (n k : Int) (w : World) (hn : winOk n) (hk : i64Ok k) :
    Calls Try.prog 37 #[.int .i64 n, .int .i64 k] w fun e w' => e = .returned (.tuple #[.int .i64 (growN n k), .int .i64 (growE n k)]) ∧ w = w' := by
  obtain ⟨hn1, hn2⟩ := hn
  obtain ⟨hk1, hk2⟩ := hk
  by_cases h1 : k < 1
  · have e1 : growE n k = 2 := by simp [growE]; omega
    have e2 : growN n k = n := by simp [growN]; omega
    rw [e1, e2]
    go_enter Try.func37, Try.ntmps37
    go_wp2
    go_ret2
    exact ⟨rfl, rfl⟩
  · by_cases h2 : 2147483647 < k
    · have e1 : growE n k = 2 := by simp [growE]; omega
      have e2 : growN n k = n := by simp [growN]; omega
      rw [e1, e2]
      go_enter Try.func37, Try.ntmps37
      go_wp2
      go_ret2
      exact ⟨rfl, rfl⟩
    · by_cases h3 : 2147483647 < n + k
      · have e0 : chB n k = false := by simp [chB]; omega
        have e1 : growE n k = 10 := by simp [growE, chE, e0]; omega
        have e2 : growN n k = n := by simp [growN, chN, e0]
        rw [e1, e2]
        go_enter Try.func37, Try.ntmps37
        go_wp2
        go_ret2
        exact ⟨rfl, rfl⟩
      · have e0 : chB n k = true := by simp [chB]; omega
        have e1 : growE n k = 0 := by simp [growE, chE, e0]; omega
        have e2 : growN n k = n + k := by simp [growN, chN, e0]; omega
        rw [e1, e2]
        go_enter Try.func37, Try.ntmps37
        go_wp2
        go_ret2
        exact ⟨rfl, rfl⟩

set_option maxHeartbeats 400000 in
theorem rresize_any (n x y : Int) (w : World) (hn : winOk n) (hx : i64Ok x) (hy : i64Ok y) :
    Calls Try.prog 39 #[.int .i64 n, .int .i64 x, .int .i64 y] w fun e w' => e = .returned (.tuple #[.int .i64 (resN n x y), .int .i64 (resE n x y)]) ∧ w = w' := by
  obtain ⟨hn1, hn2⟩ := hn
  obtain ⟨hx1, hx2⟩ := hx
  obtain ⟨hy1, hy2⟩ := hy
  by_cases h : (0 ≤ x ∧ x ≤ 2147483647) ∧ 0 ≤ y ∧ y ≤ 2147483647
  · obtain ⟨⟨a1, a2⟩, a3, a4⟩ := h
    have e0 : (szB x && szB y) = true := by simp [szB, a1, a2, a3, a4]
    by_cases h3 : 2147483647 < n + y - x
    · have e1 : resE n x y = 10 := by simp [resE, e0, chE, chB]; omega
      have e2 : resN n x y = n := by simp [resN, e0, chN, chB]; omega
      rw [e1, e2]
      go_enter Try.func39, Try.ntmps39
      go_wp2
      go_ret2
      exact ⟨rfl, rfl⟩
    · by_cases h4 : n + y - x < -2147483647
      · have e1 : resE n x y = 10 := by simp [resE, e0, chE, chB]; omega
        have e2 : resN n x y = n := by simp [resN, e0, chN, chB]; omega
        rw [e1, e2]
        go_enter Try.func39, Try.ntmps39
        go_wp2
        go_ret2
        exact ⟨rfl, rfl⟩
      · have e1 : resE n x y = 0 := by simp [resE, e0, chE, chB]; omega
        have e2 : resN n x y = n + y - x := by simp [resN, e0, chN, chB]; omega
        rw [e1, e2]
        go_enter Try.func39, Try.ntmps39
        go_wp2
        go_ret2
        exact ⟨rfl, rfl⟩
  · have e0 : (szB x && szB y) = false := by simp only [szB, ← Bool.decide_and]; exact decide_eq_false h
    have e1 : resE n x y = 2 := by simp [resE, e0]
    have e2 : resN n x y = n := by simp [resN, e0]
    rw [e1, e2]
    by_cases b1 : x < 0
    · go_enter Try.func39, Try.ntmps39
      go_wp2
      go_ret2
      exact ⟨rfl, rfl⟩
    by_cases b2 : y < 0
    · go_enter Try.func39, Try.ntmps39
      go_wp2
      go_ret2
      exact ⟨rfl, rfl⟩
    by_cases b3 : 2147483647 < x
    · go_enter Try.func39, Try.ntmps39
      go_wp2
      go_ret2
      exact ⟨rfl, rfl⟩
    have b4 : 2147483647 < y := by omega
    go_enter Try.func39, Try.ntmps39
    go_wp2
    go_ret2
    exact ⟨rfl, rfl⟩
end Go.Proofs.Ytlnemadkggfmbaa
