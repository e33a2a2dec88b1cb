/- The document's own for traces: the same moves; moves' bytes. -/
import Derived.Test.YtamocachpjljdaaTrace3
import Derived.Test.YtamocachpjljdaaRef01
namespace Go.Proofs.Ytamocachpjljdaa
open Go.RowKit

theorem mv_at {w : World} {A : Option Addr} {L : List Mv} (h : Sq encM 5 w w.heap.size A L) {k : Nat} (hk : k < L.length) : ∃ b off x, A = some ⟨b, off, none⟩ ∧ b < w.heap.size ∧ L[k]? = some x ∧
    w.cell? ⟨b, off + k * 5, none⟩ = some (.int .i64 x.wh) ∧ w.cell? ⟨b, off + k * 5 + 1, none⟩ = some (.int .i64 x.st) ∧ w.cell? ⟨b, off + k * 5 + 2, none⟩ = some (.int .i64 x.n) ∧ w.cell? ⟨b, off + k * 5 + 3, none⟩ = some (.string x.s) ∧ w.cell? ⟨b, off + k * 5 + 4, none⟩ = some (.bool x.en) := by
  obtain ⟨b, off, x, rfl, hb, hx, _, hc⟩ := h.at_ hk
  exact ⟨b, off, x, rfl, hb, hx, hc 0 (by decide), hc 1 (by decide), hc 2 (by decide), hc 3 (by decide), hc 4 (by decide)⟩
theorem mv_known {w : World} {b off : Nat} {L : List Mv} {x : Mv} (h : Sq encM 5 w w.heap.size (some ⟨b, off, none⟩) L) {k : Nat} (hx : L[k]? = some x) : b < w.heap.size ∧
    w.cell? ⟨b, off + k * 5, none⟩ = some (.int .i64 x.wh) ∧ w.cell? ⟨b, off + k * 5 + 1, none⟩ = some (.int .i64 x.st) ∧ w.cell? ⟨b, off + k * 5 + 2, none⟩ = some (.int .i64 x.n) ∧ w.cell? ⟨b, off + k * 5 + 3, none⟩ = some (.string x.s) ∧ w.cell? ⟨b, off + k * 5 + 4, none⟩ = some (.bool x.en) := by
  obtain ⟨b', o', y, e, hb, hy, q⟩ := mv_at h (List.getElem?_eq_some_iff.1 hx).1
  injection e with e
  injection e with e1 e2
  subst e1 e2
  rw [hx] at hy
  injection hy with hy
  subst hy
  exact ⟨hb, q⟩
theorem bytes_eq {a b : ByteArray} : (a.toList == b.toList) = decide (a = b) := by
  by_cases h : a = b
  · subst h
    simp
  · rw [decide_eq_false h, beq_eq_false_iff_ne]
    intro e
    rw [ByteArray.toList_eq, ByteArray.toList_eq] at e
    apply h
    cases a; cases b
    simp at e
    rw [e]
set_option maxRecDepth 100000 in
set_option maxHeartbeats 4000000 in
theorem Same_any (A1 A2 : Option Addr) (c1 c2 : Nat) (L1 L2 : List Mv) (w : World) (h1 : Sq encM 5 w w.heap.size A1 L1) (h2 : Sq encM 5 w w.heap.size A2 L2) (l1 : L1.length ≤ c1) (l2 : L2.length ≤ c2) (m1 : c1 ≤ maxLen) :
    Calls Try.prog 15 #[.slice A1 L1.length c1, .slice A2 L2.length c2] w fun x w' => x = .returned (.bool (decide (L1 = L2))) ∧ Only Nil w w' := by
  unfold maxLen at m1
  obtain ⟨q, hq⟩ : ∃ q, q = decide (L1 = L2) := ⟨_, rfl⟩
  rw [← hq]
  have HQ := Lib.hid hq
  have H1 := Lib.hid h1
  have H2 := Lib.hid h2
  obtain ⟨n1, hn1⟩ : ∃ n, n = L1.length := ⟨_, rfl⟩
  obtain ⟨n2, hn2⟩ : ∃ n, n = L2.length := ⟨_, rfl⟩
  have HN1 := Lib.hid hn1
  have HN2 := Lib.hid hn2
  rw [← hn1] at l1 ⊢
  rw [← hn2] at l2 ⊢
  clear h1 h2 hq hn1 hn2
  by_cases hne : n1 = n2
  · subst hne
    go_enter Try.func15, Try.ntmps15
    go_wp2
    go_loopw [5] (fun ii wr => ∃ k : Nat, k ≤ n1 ∧ ii = .int .i64 k ∧ Hid (L1.take k = L2.take k) ∧ Only Nil w wr) (fun ii _ => n1 - (intOf ii).toNat)
    case atStart => exact ⟨0, Nat.zero_le _, rfl, Lib.hid (by simp), Only.refl _ _⟩
    case round =>
      obtain ⟨k, hk, rfl, hT, ho⟩ := hrel
      by_cases hlt : k < n1
      · have hlt' : (k : Int) < n1 := by omega
        obtain ⟨b1, o1, x, rfl, hb1, hx, f0, f1, f2, f3, f4⟩ := mv_at (H1.out.go ho) (k := k) (by rw [← HN1.out]; exact hlt)
        obtain ⟨b2, o2, y, rfl, hb2, hy, g0, g1, g2, g3, g4⟩ := mv_at (H2.out.go ho) (k := k) (by rw [← HN2.out]; exact hlt)
        have HX := Lib.hid hx
        have HY := Lib.hid hy
        have HO := Lib.hid ho
        clear hx hy ho
        by_cases he : x = y
        · subst he
          have HT2 : Hid (L1.take (k + 1) = L2.take (k + 1)) := Lib.hid (by rw [List.take_add_one, List.take_add_one, HX.out, HY.out, hT.out])
          obtain ⟨wh, en, st, nn, s⟩ := x
          simp only at f0 f1 f2 f3 f4 g0 g1 g2 g3 g4
          clear hT
          go_wp2
          go_region
          go_wp2
          go_roundw
          case rel => exact ⟨k + 1, by omega, by go_num, HT2, HO.out.drewN _⟩
          case measure => simp [intOf]; omega
        · have e : q = false := by
            rw [HQ.out, decide_eq_false_iff_not]
            intro e
            subst e
            have := HX.out.symm.trans HY.out
            injection this with this
            exact he this
          subst e
          have hsl : x.s.toList = y.s.toList → x.s = y.s := fun e => of_decide_eq_true (by rw [← bytes_eq, e]; simp)
          have key : x.wh ≠ y.wh ∨ (x.wh = y.wh ∧ x.st ≠ y.st) ∨ (x.wh = y.wh ∧ x.st = y.st ∧ x.n ≠ y.n) ∨ (x.wh = y.wh ∧ x.st = y.st ∧ x.n = y.n ∧ ¬ x.s.toList = y.s.toList) ∨ (x.wh = y.wh ∧ x.st = y.st ∧ x.n = y.n ∧ x.s = y.s ∧ ¬ x.en = y.en) := by
            by_cases k1 : x.wh = y.wh
            · by_cases k2 : x.st = y.st
              · by_cases k3 : x.n = y.n
                · by_cases k4 : x.s.toList = y.s.toList
                  · by_cases k5 : x.en = y.en
                    · exact absurd (by cases x; cases y; simp only at k1 k2 k3 k5 hsl k4; rw [k1, k2, k3, k5, hsl k4]) he
                    · exact .inr (.inr (.inr (.inr ⟨k1, k2, k3, hsl k4, k5⟩)))
                  · exact .inr (.inr (.inr (.inl ⟨k1, k2, k3, k4⟩)))
                · exact .inr (.inr (.inl ⟨k1, k2, k3⟩))
              · exact .inr (.inl ⟨k1, k2⟩)
            · exact .inl k1
          obtain ⟨wh, en, st, nn, s⟩ := x
          obtain ⟨wh2, en2, st2, nn2, s2⟩ := y
          simp only at f0 f1 f2 f3 f4 g0 g1 g2 g3 g4 key
          clear hT HX HY he hsl
          rcases key with h | ⟨rfl, h⟩ | ⟨rfl, rfl, h⟩ | ⟨rfl, rfl, rfl, h⟩ | ⟨rfl, rfl, rfl, rfl, h⟩
          all_goals
            go_wp2
            go_region
            go_wp2
            go_ret
            exact ⟨rfl, HO.out.drewN _⟩
      · obtain rfl : k = n1 := by omega
        have hlt' : ¬ (k : Int) < k := by omega
        have e : q = true := by
          rw [HQ.out, decide_eq_true_eq]
          have := hT.out
          rw [List.take_of_length_le (by have := HN1.out; omega), List.take_of_length_le (by have := HN2.out; omega)] at this
          exact this
        subst e
        go_wp2
        go_ret
        exact ⟨rfl, ho⟩
  · have hne' : ¬ (n1 : Int) = n2 := by omega
    have e : q = false := by
      rw [HQ.out, decide_eq_false_iff_not]
      intro e
      subst e
      exact hne (HN1.out.trans HN2.out.symm)
    subst e
    go_enter Try.func15, Try.ntmps15
    go_wp2
    go_ret
    exact ⟨rfl, Only.refl _ _⟩
/-- moves that are not far too many, nor too great -/
def lightM (L : List Mv) : Bool := decide (L.length ≤ 300 ∧ ∀ m ∈ L, m.s.size ≤ 400)
def LtPost (w : World) (L : List Mv) (x : Ending) (w' : World) : Prop := ∃ q, x = .returned (.bool q) ∧ (q = true → lightM L = true) ∧ Only Nil w w'
set_option maxHeartbeats 2000000 in
theorem light_any (A : Option Addr) (c : Nat) (L : List Mv) (w : World) (hS : Sq encM 5 w w.heap.size A L) (hc : L.length ≤ c) : Calls Try.prog 7 #[.slice A L.length c] w (LtPost w L) := by
  have HS := Lib.hid hS
  obtain ⟨n, hn⟩ : ∃ n, n = L.length := ⟨_, rfl⟩
  have HN := Lib.hid hn
  rw [← hn] at hc ⊢
  clear hS hn
  go_enter Try.func7, Try.ntmps7
  go_wp2
  go_loopw [3] (fun ii wr => ∃ k : Nat, k ≤ n ∧ k ≤ 300 ∧ ii = .int .i64 k ∧ Hid (∀ m ∈ L.take k, m.s.size ≤ 400) ∧ w = wr) (fun ii _ => n - (intOf ii).toNat)
  case atStart => exact ⟨0, Nat.zero_le _, Nat.zero_le _, rfl, Lib.hid (fun m hm => by simp at hm), rfl⟩
  case round =>
    obtain ⟨k, hk, hk3, rfl, hT, rfl⟩ := hrel
    by_cases hlt : k < n
    · have hlt' : (k : Int) < n := by omega
      by_cases h3 : k < 300
      · have h3' : (k : Int) < 300 := by omega
        obtain ⟨b, o, x, rfl, hb, hx, f0, f1, f2, f3, f4⟩ := mv_at HS.out (k := k) (by rw [← HN.out]; exact hlt)
        have HX := Lib.hid hx
        clear hx
        by_cases h4 : x.s.size ≤ 400
        · have h4' : ¬ (400 : Int) < x.s.size := by omega
          have HT2 : Hid (∀ m ∈ L.take (k + 1), m.s.size ≤ 400) := Lib.hid (fun m hm => by
            rw [List.take_add_one, HX.out] at hm
            rcases List.mem_append.1 hm with hm | hm
            · exact hT.out m hm
            · simp at hm; subst hm; exact h4)
          clear hT h4
          go_wp2
          go_roundw
          case rel => exact ⟨k + 1, by omega, by omega, by go_num, HT2, trivial⟩
          case measure => simp [intOf]; omega
        · have h4' : (400 : Int) < x.s.size := by omega
          clear hT
          go_wp2
          go_ret
          exact ⟨false, rfl, (fun h => by cases h), Only.refl _ _⟩
      · have h3' : ¬ (k : Int) < 300 := by omega
        have h5 : ¬ (n : Int) ≤ 300 := by omega
        clear hT
        go_wp2
        go_ret
        exact ⟨false, rfl, (fun h => by cases h), Only.refl _ _⟩
    · obtain rfl : k = n := by omega
      have hlt' : ¬ (k : Int) < k := by omega
      have h5 : (k : Int) ≤ 300 := by omega
      have HF : Hid (lightM L = true) := Lib.hid (by
        have := hT.out
        have e := HN.out
        rw [List.take_of_length_le (by omega)] at this
        unfold lightM
        rw [decide_eq_true_eq]
        exact ⟨by omega, this⟩)
      clear hT
      go_wp2
      go_ret
      exact ⟨true, rfl, fun _ => HF.out, Only.refl _ _⟩
end Go.Proofs.Ytamocachpjljdaa
