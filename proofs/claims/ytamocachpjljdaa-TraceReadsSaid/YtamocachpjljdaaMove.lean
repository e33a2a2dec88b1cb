/- Moves: what they are as values, as bytes; which may stand. -/
import Derived.Test.YtamocachpjljdaaLayT
import Derived.Test.YtamocachpjljdaaScan2
import Derived.Test.YtamocachpjljdaaNums
import Derived.Test.YtamocachpjljdaaCopy
namespace Go.Proofs.Ytamocachpjljdaa
open Go.RowKit

structure Mv where
  wh : Int
  en : Bool
  st : Int
  n : Int
  s : ByteArray
deriving DecidableEq
def encM (m : Mv) : List Value := [.int .i64 m.wh, .int .i64 m.st, .int .i64 m.n, .string m.s, .bool m.en]
abbrev mvC (m : Mv) : Array Value := #[.int .i64 m.wh, .int .i64 m.st, .int .i64 m.n, .string m.s, .bool m.en]
abbrev mvV (m : Mv) : Value := .agg #[.int .i64 m.wh, .int .i64 m.st, .int .i64 m.n, .string m.s, .bool m.en]
theorem encM_len {l : List Mv} : ∀ x ∈ l, (encM x).length = 5 := fun _ _ => rfl
def okM (m : Mv) : Prop := i64Ok m.wh ∧ i64Ok m.st ∧ i64Ok m.n ∧ m.s.size ≤ maxLen
theorem Kd.moves {w : World} {v : Value} (h : Kd.Fit w (.slc (.agg [.int .i64, .int .i64, .int .i64, .str, .bool])) v) : ∃ (l : List Mv) (A : Option Addr) (cap : Nat), v = .slice A l.length cap ∧ l.length ≤ cap ∧ cap ≤ maxLen ∧ (∀ m ∈ l, okM m) ∧ Sq encM 5 w w.heap.size A l := by
  obtain ⟨A, len, cap, rfl, hsl⟩ := Kd.slc_fit h
  obtain ⟨l, hl, hok, hS⟩ := hsl.list (by decide) encM okM (fun cs hcs hi => by
    have hc : Kd.IsL w [.int .i64, .int .i64, .int .i64, .str, .bool] cs := hi
    obtain ⟨v0, c0, rfl, i0, hc⟩ := Kd.headL rfl hc
    obtain ⟨v1, c1, rfl, i1, hc⟩ := Kd.headL rfl hc
    obtain ⟨v2, c2, rfl, i2, hc⟩ := Kd.headL rfl hc
    obtain ⟨v3, c3, rfl, i3, hc⟩ := Kd.headL rfl hc
    obtain ⟨v4, c4, rfl, i4, hc⟩ := Kd.headL rfl hc
    obtain rfl := Kd.end_ hc
    obtain ⟨a, rfl, ha⟩ := Kd.int_is i0
    obtain ⟨c, rfl, hcc⟩ := Kd.int_is i1
    obtain ⟨d, rfl, hd⟩ := Kd.int_is i2
    obtain ⟨S, rfl, hS⟩ := Kd.str_is i3
    obtain ⟨b, rfl⟩ := Kd.bool_is i4
    exact ⟨⟨a, b, c, d, S⟩, rfl, i64Ok_of ha, i64Ok_of hcc, i64Ok_of hd, hS⟩)
  subst hl
  exact ⟨l, A, cap, rfl, hsl.1, hsl.2.1, hok, hS⟩
/-- may it stand? -/
def rightM (m : Mv) : Bool := decide ((1 ≤ m.wh ∧ m.wh ≤ 4) ∧ (1 ≤ m.st ∧ m.st ≤ 2147483647) ∧ (0 ≤ m.n ∧ m.n ≤ 2147483647) ∧ (m.s.size : Int) ≤ 256)
theorem rightM_iff {m : Mv} : rightM m = true ↔ (1 ≤ m.wh ∧ m.wh ≤ 4) ∧ (1 ≤ m.st ∧ m.st ≤ 2147483647) ∧ (0 ≤ m.n ∧ m.n ≤ 2147483647) ∧ (m.s.size : Int) ≤ 256 := by
  unfold rightM
  rw [decide_eq_true_eq]
def chkM (m : Mv) : Int := if rightM m = true then 0 else 2
def b2i (b : Bool) : Int := if b then 1 else 0
def pcsM (m : Mv) : List Pc := [⟨m.wh, 1, noS⟩, ⟨b2i m.en, 1, noS⟩, ⟨m.st, 4, noS⟩, ⟨m.n, 4, noS⟩, ⟨m.s.size, 2, noS⟩, ⟨0, 0, m.s⟩]
def bytesM (m : Mv) : List UInt8 := numB m.wh 1 ++ (numB (b2i m.en) 1 ++ (numB m.st 4 ++ (numB m.n 4 ++ (numB m.s.size 2 ++ m.s.data.toList))))
def allM (L : List Mv) : List UInt8 := L.flatMap bytesM
theorem bytesM_len (m : Mv) : (bytesM m).length = 12 + m.s.size := by
  unfold bytesM
  simp only [List.length_append, numB_length]
  have : m.s.data.toList.length = m.s.size := by simp
  omega
theorem layL_M (m : Mv) : layL (pcsM m) = bytesM m := by
  simp [layL, pcsM, bytesOf, bytesM]
theorem pcsM_ok {m : Mv} (h : rightM m = true) : ∀ p ∈ pcsM m, p.ok := by
  obtain ⟨h1, h2, h3, h4⟩ := rightM_iff.1 h
  intro p hp
  simp only [pcsM, List.mem_cons, List.not_mem_nil, or_false] at hp
  rcases hp with rfl | rfl | rfl | rfl | rfl | rfl
  · exact pc_ok ⟨by omega, by omega⟩ (by decide) (by decide)
  · exact pc_ok (by cases m.en <;> decide) (by decide) (by decide)
  · exact pc_ok ⟨by omega, by omega⟩ (by decide) (by decide)
  · exact pc_ok ⟨by omega, by omega⟩ (by decide) (by decide)
  · exact pc_ok ⟨by omega, by omega⟩ (by decide) (by decide)
  · exact pc_ok (by decide) (by decide) (by show m.s.size ≤ 1000000; omega)
theorem chk_in (N : Int) (wd : Int) (S : ByteArray) (h1 : 1 ≤ wd) (h4 : wd ≤ 4) (h0 : 0 ≤ N) (hc : N < capN wd) : chkE' ⟨N, wd, S⟩ = 0 := by
  unfold chkE' chkB
  dsimp only
  rw [if_neg (by omega)]
  have hw : wd = 1 ∨ wd = 2 ∨ wd = 3 ∨ wd = 4 := by omega
  rw [if_neg]
  rcases hw with rfl | rfl | rfl | rfl <;> simp [capN] at hc ⊢ <;> omega
theorem pcsM_lay {m : Mv} (h : rightM m = true) : layE (pcsM m) = 0 ∧ layS (pcsM m) = strOf (bytesM m) := by
  obtain ⟨h1, h2, h3, h4⟩ := rightM_iff.1 h
  have hb : 0 ≤ b2i m.en ∧ b2i m.en < 256 := by cases m.en <;> decide
  have hc : chkAll (pcsM m) = 0 := by
    have e1 := chk_in m.wh 1 noS (by decide) (by decide) (by omega) (by simp only [capN]; omega)
    have e2 := chk_in (b2i m.en) 1 noS (by decide) (by decide) hb.1 (by simp only [capN]; omega)
    have e3 := chk_in m.st 4 noS (by decide) (by decide) (by omega) (by simp only [capN]; omega)
    have e4 := chk_in m.n 4 noS (by decide) (by decide) (by omega) (by simp only [capN]; omega)
    have e5 := chk_in m.s.size 2 noS (by decide) (by decide) (by omega) (by simp only [capN]; omega)
    have e6 : chkE' ⟨0, 0, m.s⟩ = 0 := by simp [chkE']
    simp only [pcsM, chkAll, e1, e2, e3, e4, e5, e6, ite_true]
  have hs : ¬ 4096 < sumL (pcsM m) := by
    have : lenP ⟨0, 0, m.s⟩ = m.s.size := by simp [lenP]
    simp only [pcsM, sumL_cons, this]
    simp [lenP, sumL]
    omega
  have he : layE (pcsM m) = 0 := by
    unfold layE
    rw [if_pos hc, if_neg hs]
  refine ⟨he, ?_⟩
  unfold layS
  rw [if_pos he, layL_M]
theorem truth_any (b : Bool) (w : World) : Calls Try.prog 20 #[.bool b] w fun x w' => x = .returned (.int .i64 (b2i b)) ∧ w = w' := by
  cases b
  all_goals
    go_enter Try.func20, Try.ntmps20
    go_wp2
    go_ret
    exact ⟨rfl, rfl⟩
set_option maxHeartbeats 2000000 in
theorem Check_any (m : Mv) (w : World) : Calls Try.prog 9 #[mvV m] w fun x w' => x = .returned (.int .i64 (chkM m)) ∧ Only Nil w w' := by
  obtain ⟨q, hq⟩ : ∃ q, q = chkM m := ⟨_, rfl⟩
  rw [← hq]
  have HQ := Lib.hid hq
  clear hq
  obtain ⟨wh, en, st, n, s⟩ := m
  have key : (decide (wh < 1) = true) ∨ (decide (wh < 1) = false ∧ decide (4 < wh) = true) ∨ (decide (wh < 1) = false ∧ decide (4 < wh) = false ∧ decide (st < 1) = true) ∨ (decide (wh < 1) = false ∧ decide (4 < wh) = false ∧ decide (st < 1) = false ∧ decide (2147483647 < st) = true) ∨ (decide (wh < 1) = false ∧ decide (4 < wh) = false ∧ decide (st < 1) = false ∧ decide (2147483647 < st) = false ∧ decide (n < 0) = true) ∨ (decide (wh < 1) = false ∧ decide (4 < wh) = false ∧ decide (st < 1) = false ∧ decide (2147483647 < st) = false ∧ decide (n < 0) = false ∧ decide (2147483647 < n) = true) ∨ (decide (wh < 1) = false ∧ decide (4 < wh) = false ∧ decide (st < 1) = false ∧ decide (2147483647 < st) = false ∧ decide (n < 0) = false ∧ decide (2147483647 < n) = false ∧ decide (256 < (s.size : Int)) = true) ∨ (decide (wh < 1) = false ∧ decide (4 < wh) = false ∧ decide (st < 1) = false ∧ decide (2147483647 < st) = false ∧ decide (n < 0) = false ∧ decide (2147483647 < n) = false ∧ decide (256 < (s.size : Int)) = false) := by
    simp only [decide_eq_true_eq, decide_eq_false_iff_not]
    omega
  rcases key with h1 | ⟨h1, h2⟩ | ⟨h1, h2, h3⟩ | ⟨h1, h2, h3, h4⟩ | ⟨h1, h2, h3, h4, h5⟩ | ⟨h1, h2, h3, h4, h5, h6⟩ | ⟨h1, h2, h3, h4, h5, h6, h7⟩ | ⟨h1, h2, h3, h4, h5, h6, h7⟩
  all_goals
    go_enter Try.func9, Try.ntmps9
    go_wp2
    go_ret
    refine ⟨?_, (Only.refl _ _).alloc _⟩
    rw [HQ.out]
    simp only [decide_eq_true_eq, decide_eq_false_iff_not] at *
    first
    | (rw [show chkM ⟨wh, en, st, n, s⟩ = 2 from if_neg (by rw [rightM_iff]; simp only; omega)]; rfl)
    | (rw [show chkM ⟨wh, en, st, n, s⟩ = 0 from if_pos (by rw [rightM_iff]; simp only; omega)]; rfl)
theorem RRight_any (m : Mv) (w : World) : Calls Try.prog 10 #[mvV m] w fun x w' => x = .returned (.bool (rightM m)) ∧ Only Nil w w' := by
  obtain ⟨q, hq⟩ : ∃ q, q = rightM m := ⟨_, rfl⟩
  rw [← hq]
  have HQ := Lib.hid hq
  clear hq
  obtain ⟨wh, en, st, n, s⟩ := m
  have key : (decide (1 ≤ wh) = false) ∨ (decide (1 ≤ wh) = true ∧ decide (wh ≤ 4) = false) ∨ (decide (1 ≤ wh) = true ∧ decide (wh ≤ 4) = true ∧ decide (1 ≤ st) = false) ∨ (decide (1 ≤ wh) = true ∧ decide (wh ≤ 4) = true ∧ decide (1 ≤ st) = true ∧ decide (st ≤ 2147483647) = false) ∨ (decide (1 ≤ wh) = true ∧ decide (wh ≤ 4) = true ∧ decide (1 ≤ st) = true ∧ decide (st ≤ 2147483647) = true ∧ decide (0 ≤ n) = false) ∨ (decide (1 ≤ wh) = true ∧ decide (wh ≤ 4) = true ∧ decide (1 ≤ st) = true ∧ decide (st ≤ 2147483647) = true ∧ decide (0 ≤ n) = true ∧ decide (n ≤ 2147483647) = false) ∨ (decide (1 ≤ wh) = true ∧ decide (wh ≤ 4) = true ∧ decide (1 ≤ st) = true ∧ decide (st ≤ 2147483647) = true ∧ decide (0 ≤ n) = true ∧ decide (n ≤ 2147483647) = true ∧ decide ((s.size : Int) ≤ 256) = false) ∨ (decide (1 ≤ wh) = true ∧ decide (wh ≤ 4) = true ∧ decide (1 ≤ st) = true ∧ decide (st ≤ 2147483647) = true ∧ decide (0 ≤ n) = true ∧ decide (n ≤ 2147483647) = true ∧ decide ((s.size : Int) ≤ 256) = true) := by
    simp only [decide_eq_true_eq, decide_eq_false_iff_not]
    omega
  rcases key with h1 | ⟨h1, h2⟩ | ⟨h1, h2, h3⟩ | ⟨h1, h2, h3, h4⟩ | ⟨h1, h2, h3, h4, h5⟩ | ⟨h1, h2, h3, h4, h5, h6⟩ | ⟨h1, h2, h3, h4, h5, h6, h7⟩ | ⟨h1, h2, h3, h4, h5, h6, h7⟩
  all_goals
    go_enter Try.func10, Try.ntmps10
    go_wp2
    go_ret
    refine ⟨?_, (Only.refl _ _).alloc _⟩
    rw [HQ.out]
    simp only [decide_eq_true_eq, decide_eq_false_iff_not] at *
    first
    | (rw [show rightM ⟨wh, en, st, n, s⟩ = true from by rw [rightM_iff]; simp only; omega]; rfl)
    | (rw [show rightM ⟨wh, en, st, n, s⟩ = false from by rw [← Bool.not_eq_true, rightM_iff]; simp only; omega]; rfl)
end Go.Proofs.Ytamocachpjljdaa
