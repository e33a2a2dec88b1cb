/- What each function of package octet does. -/
import Derived.Test.YtamocachpjljdaaRows
import Derived.Test.YtamocachpjljdaaKit
import Derived.Test.YtamocachpjljdaaArgs
import Derived.Test.YtamocachpjljdaaBytes
namespace Go.Proofs.Ytamocachpjljdaa
open Go.RowKit

structure Pc where
  N : Int
  W : Int
  S : ByteArray
def Pc.val (p : Pc) : Value := .agg #[.int .i64 p.N, .int .i64 p.W, .string p.S]
def Pc.ok (p : Pc) : Prop := (-9223372036854775808 ≤ p.N ∧ p.N ≤ 9223372036854775807) ∧ (-9223372036854775808 ≤ p.W ∧ p.W ≤ 9223372036854775807) ∧ p.S.size ≤ maxLen
/-- how many bytes a piece has -/
def lenP (p : Pc) : Int := if p.W = 0 then p.S.size else if p.W < 0 ∨ 4 < p.W then 0 else p.W
def capN (k : Int) : Int := if k = 1 then 256 else if k = 2 then 65536 else if k = 3 then 16777216 else 4294967296
def chkE (p : Pc) : Int := if p.W < 0 ∨ 4 < p.W then 2 else if 0 < p.W ∧ (p.N < 0 ∨ capN p.W ≤ p.N) then 3 else 0

set_option maxHeartbeats 1000000 in
theorem long_any (p : Pc) (w : World) (h : p.ok) : Calls Try.prog 34 #[p.val] w fun x w' => x = .returned (.int .i64 (lenP p)) ∧ Only Nil w w' := by
  obtain ⟨N, W, S⟩ := p
  obtain ⟨_, ⟨h1, h2⟩, h3⟩ := h
  unfold Pc.val lenP
  dsimp only at h1 h2 h3 ⊢
  by_cases h0 : W = 0
  · subst h0
    simp only [if_true]
    go_enter Try.func34, Try.ntmps34
    go_wp2
    go_ret
    exact ⟨rfl, (Only.refl _ _).alloc _⟩
  · have hw : (W == 0) = false := by simpa using h0
    rw [if_neg h0]
    by_cases h4 : W < 0
    · rw [if_pos (.inl h4)]
      go_enter Try.func34, Try.ntmps34
      go_wp2
      go_ret
      exact ⟨rfl, (Only.refl _ _).alloc _⟩
    · by_cases h5 : 4 < W
      · rw [if_pos (.inr h5)]
        go_enter Try.func34, Try.ntmps34
        go_wp2
        go_ret
        exact ⟨rfl, (Only.refl _ _).alloc _⟩
      · rw [if_neg (by omega)]
        go_enter Try.func34, Try.ntmps34
        go_wp2
        go_ret
        exact ⟨rfl, (Only.refl _ _).alloc _⟩
theorem lenP_nonneg (p : Pc) : 0 ≤ lenP p := by unfold lenP; split <;> (try split) <;> omega
def chkB (p : Pc) : Bool := decide (p.N < 0) || (p.N / capN p.W != 0)
def chkE' (p : Pc) : Int := if p.W < 0 ∨ 4 < p.W then 2 else if 0 < p.W ∧ chkB p = true then 3 else 0
set_option maxHeartbeats 2000000 in
theorem check_any (p : Pc) (w : World) (h : p.ok) : Calls Try.prog 27 #[p.val] w fun x w' => x = .returned (.int .i64 (chkE' p)) ∧ Only Nil w w' := by
  obtain ⟨N, W, S⟩ := p
  obtain ⟨⟨n1, n2⟩, ⟨h1, h2⟩, h3⟩ := h
  unfold Pc.val chkE' chkB
  dsimp only at n1 n2 h1 h2 h3 ⊢
  by_cases b1 : W < 0
  · rw [if_pos (.inl b1)]
    go_enter Try.func27, Try.ntmps27
    go_wp2
    go_ret
    exact ⟨rfl, (Only.refl _ _).alloc _⟩
  by_cases b2 : 4 < W
  · rw [if_pos (.inr b2)]
    go_enter Try.func27, Try.ntmps27
    go_wp2
    go_ret
    exact ⟨rfl, (Only.refl _ _).alloc _⟩
  rw [if_neg (by omega)]
  by_cases b3 : W = 0
  · subst b3
    rw [if_neg (by omega)]
    go_enter Try.func27, Try.ntmps27
    go_wp2
    go_ret
    exact ⟨rfl, (Only.refl _ _).alloc _⟩
  have hW : W = 1 ∨ W = 2 ∨ W = 3 ∨ W = 4 := by omega
  by_cases b4 : N < 0
  · rw [if_pos ⟨by omega, by simp [b4]⟩]
    rcases hW with rfl | rfl | rfl | rfl
    all_goals
      go_enter Try.func27, Try.ntmps27
      go_wp2
      go_ret
      exact ⟨rfl, (Only.refl _ _).alloc _⟩
  · have hN : decide (N < 0) = false := by simpa using b4
    rw [hN, Bool.false_or]
    rcases hW with rfl | rfl | rfl | rfl
    · cases b5 : (N / 256 != 0)
      · rw [show capN 1 = 256 by decide, b5, if_neg (by simp)]
        go_enter Try.func27, Try.ntmps27
        go_wp2
        go_ret
        exact ⟨rfl, (Only.refl _ _).alloc _⟩
      · rw [show capN 1 = 256 by decide, b5, if_pos (by simp)]
        go_enter Try.func27, Try.ntmps27
        go_wp2
        go_ret
        exact ⟨rfl, (Only.refl _ _).alloc _⟩
    · cases b5 : (N / 65536 != 0)
      · rw [show capN 2 = 65536 by decide, b5, if_neg (by simp)]
        go_enter Try.func27, Try.ntmps27
        go_wp2
        go_ret
        exact ⟨rfl, (Only.refl _ _).alloc _⟩
      · rw [show capN 2 = 65536 by decide, b5, if_pos (by simp)]
        go_enter Try.func27, Try.ntmps27
        go_wp2
        go_ret
        exact ⟨rfl, (Only.refl _ _).alloc _⟩
    · cases b5 : (N / 16777216 != 0)
      · rw [show capN 3 = 16777216 by decide, b5, if_neg (by simp)]
        go_enter Try.func27, Try.ntmps27
        go_wp2
        go_ret
        exact ⟨rfl, (Only.refl _ _).alloc _⟩
      · rw [show capN 3 = 16777216 by decide, b5, if_pos (by simp)]
        go_enter Try.func27, Try.ntmps27
        go_wp2
        go_ret
        exact ⟨rfl, (Only.refl _ _).alloc _⟩
    · cases b5 : (N / 4294967296 != 0)
      · rw [show capN 4 = 4294967296 by decide, b5, if_neg (by simp)]
        go_enter Try.func27, Try.ntmps27
        go_wp2
        go_ret
        exact ⟨rfl, (Only.refl _ _).alloc _⟩
      · rw [show capN 4 = 4294967296 by decide, b5, if_pos (by simp)]
        go_enter Try.func27, Try.ntmps27
        go_wp2
        go_ret
        exact ⟨rfl, (Only.refl _ _).alloc _⟩

/-- pieces that lie behind a slice -/
def PcsAt (w : World) (B : Nat) (A : Option Addr) (P : List Pc) : Prop :=
  0 < P.length → ∃ b off, A = some ⟨b, off, none⟩ ∧ b < B ∧ ∀ i p, P[i]? = some p → p.ok ∧ w.cell? ⟨b, off + i * 3, none⟩ = some (.int .i64 p.N) ∧ w.cell? ⟨b, off + i * 3 + 1, none⟩ = some (.int .i64 p.W) ∧ w.cell? ⟨b, off + i * 3 + 2, none⟩ = some (.string p.S)
def sumL (P : List Pc) : Int := (P.map fun p => min (lenP p) 4097).sum
def sizeF (P : List Pc) : Int := min (sumL P) 4097
theorem sumL_snoc (P : List Pc) (k : Nat) (p : Pc) (h : P[k]? = some p) : sumL (P.take (k + 1)) = sumL (P.take k) + min (lenP p) 4097 := by
  unfold sumL
  rw [List.take_add_one, h]
  simp
theorem sumL_nonneg (P : List Pc) : 0 ≤ sumL P := by
  unfold sumL
  induction P with
  | nil => simp
  | cons p P ih =>
    have := lenP_nonneg p
    simp only [List.map_cons, List.sum_cons]
    omega
theorem sumL_take (P : List Pc) (k : Nat) : sumL (P.take k) ≤ sumL P := by
  have h := sumL_nonneg (P.drop k)
  have : sumL P = sumL (P.take k) + sumL (P.drop k) := by
    unfold sumL
    rw [← List.sum_append, ← List.map_append, List.take_append_drop]
  omega

set_option maxHeartbeats 4000000 in
theorem Size_any (A : Option Addr) (cap : Nat) (P : List Pc) (w : World) (hP : PcsAt w w.heap.size A P) (hlen : P.length ≤ 9223372036854775807) :
    Calls Try.prog 28 #[.slice A P.length cap] w fun x w' => x = .returned (.int .i64 (sizeF P)) ∧ Only Nil w w' := by
  generalize hn : P.length = n at hlen
  have hn' : Hid (P.length = n) := hn
  go_enter Try.func28, Try.ntmps28
  go_wp2
  go_loopw [3, 8] (fun ss ii wr => ∃ (k : Nat), k ≤ n ∧ ii = .int .i64 k ∧ ss = .int .i64 (sumL (P.take k)) ∧ sumL (P.take k) ≤ 4096 ∧ Below w.heap.size w wr) (fun _ ii _ => n - (intOf ii).toNat)
  case atStart => exact ⟨0, Nat.zero_le _, rfl, by simp [sumL], by simp [sumL], Below.refl _ _⟩
  case round =>
    obtain ⟨k, hk, rfl, rfl, hs, hB⟩ := hrel
    clear hn
    by_cases hlt : k < n
    · obtain ⟨b, off, rfl, hb, hc⟩ := hP (by rw [hn'.out]; omega)
      have hp : P[k]? = some (P[k]'(by rw [hn'.out]; exact hlt)) := List.getElem?_eq_getElem _
      generalize P[k]'(by rw [hn'.out]; exact hlt) = p at hp
      obtain ⟨hok, f0, f1, f2⟩ := hc k p hp
      have g0 := (hB.cell (p := ⟨b, off + k * 3, none⟩) hb).trans f0
      have g1 := (hB.cell (p := ⟨b, off + k * 3 + 1, none⟩) hb).trans f1
      have g2 := (hB.cell (p := ⟨b, off + k * 3 + 2, none⟩) hb).trans f2
      have hsn := sumL_snoc P k p hp
      have htk := sumL_take P (k + 1)
      have hl := fun (W : World) => long_any p W hok
      have hl0 := lenP_nonneg p
      have h0 := sumL_nonneg (P.take k)
      obtain ⟨N, W, S⟩ := p
      unfold Pc.val at hl
      dsimp only at g0 g1 g2 hl
      generalize lenP ⟨N, W, S⟩ = L at hl hsn hl0
      generalize sumL (P.take k) = s at hs hsn h0
      clear f0 f1 f2 hc hP
      by_cases hm : L ≤ 4097
      · rw [show min L 4097 = L by omega] at hsn
        by_cases hbig : s + L ≤ 4096
        · go_wp2_with (first
            | (go_at_call 34; (with_reducible refine (hl _).mono ?_); rintro e w1 ⟨rfl, ho⟩)
            )
          all_goals
            go_roundw
            case rel => exact ⟨k + 1, by omega, by go_num, by rw [hsn], by rw [hsn]; exact hbig, (hB.alloc hB.size _).trans (ho.below (by have := hB.size; simp; omega) (fun _ _ hh => hh))⟩
            case measure => simp [intOf]; omega
        · go_wp2_with (first
            | (go_at_call 34; (with_reducible refine (hl _).mono ?_); rintro e w1 ⟨rfl, ho⟩)
            )
          all_goals
            go_ret
            refine ⟨by unfold sizeF; rw [show min (sumL P) 4097 = 4097 by omega]; rfl, ?_⟩
            exact ((Only.of_below hB).alloc _).trans ho
      · rw [show min L 4097 = 4097 by omega] at hsn
        by_cases hbig : s + 4097 ≤ 4096
        · omega
        · go_wp2_with (first
            | (go_at_call 34; (with_reducible refine (hl _).mono ?_); rintro e w1 ⟨rfl, ho⟩)
            )
          all_goals
            go_ret
            refine ⟨by unfold sizeF; rw [show min (sumL P) 4097 = 4097 by omega]; rfl, ?_⟩
            exact ((Only.of_below hB).alloc _).trans ho
    · have hk2 : k = n := by omega
      have hall : sumL (P.take k) = sumL P := by rw [hk2, ← hn'.out, List.take_length]
      have hz : Hid (sumL (P.take k) = sizeF P) := Lib.hid (by unfold sizeF; omega)
      clear hall hk2
      generalize sumL (P.take k) = q at hs hz ⊢
      go_wp2
      go_ret
      exact ⟨by rw [← hz.out]; rfl, Only.of_below hB⟩
end Go.Proofs.Ytamocachpjljdaa
