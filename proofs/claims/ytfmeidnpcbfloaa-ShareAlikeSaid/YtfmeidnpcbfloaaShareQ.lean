/- Claims: sums. -/
import Derived.Test.YtfmeidnpcbfloaaShare9
namespace Go.Proofs.Ytfmeidnpcbfloaa
open Go.RowKit

def sumK (G : List Int) : Nat → Int
  | 0 => 0
  | k + 1 => sumK G k + G.getD k 0
theorem sumK_set {G : List Int} {k : Nat} {x : Int} (hk : k < G.length) : ∀ n, sumK (G.set k x) n = if k < n then sumK G n - G.getD k 0 + x else sumK G n
  | 0 => by simp [sumK]
  | n + 1 => by
    rw [sumK, sumK_set hk n, getD_set hk, sumK]
    by_cases h1 : k < n
    · rw [if_pos h1, if_neg (by omega), if_pos (by omega)]
      omega
    · rw [if_neg h1]
      by_cases h2 : n = k
      · subst h2
        rw [if_pos rfl, if_pos (by omega)]
        omega
      · rw [if_neg h2, if_neg (by omega)]
theorem partsK_len {l all : Int} {W V G : List Int} : ∀ k, (partsK l all W V G k).2.length = G.length
  | 0 => rfl
  | k + 1 => by rw [partsK, List.length_set]; exact partsK_len k
theorem partsK_sum {l all : Int} {n : Nat} {W V G : List Int} (hG : G.length = 256) (hn : n ≤ 256) : ∀ k, k ≤ n → (partsK l all W V G k).1 + sumK (partsK l all W V G k).2 n = l + sumK G n
  | 0, _ => rfl
  | k + 1, hk => by
    have ih := partsK_sum (l := l) (all := all) (W := W) (V := V) hG hn k (by omega)
    have hl := partsK_len (l := l) (all := all) (W := W) (V := V) (G := G) k
    rw [partsK]
    simp only
    rw [sumK_set (by omega), if_pos (by omega)]
    omega
theorem singlesK_len {l : Int} {W G : List Int} : ∀ k, (singlesK W l G k).2.length = G.length
  | 0 => rfl
  | k + 1 => by
    rw [singlesK]
    split
    · rw [List.length_set]; exact singlesK_len k
    · exact singlesK_len k
theorem singlesK_sum {l : Int} {n : Nat} {W G : List Int} (hG : G.length = 256) (hn : n ≤ 256) : ∀ k, k ≤ n → (singlesK W l G k).1 + sumK (singlesK W l G k).2 n = l + sumK G n
  | 0, _ => rfl
  | k + 1, hk => by
    have ih := singlesK_sum (l := l) (W := W) hG hn k (by omega)
    have hl := singlesK_len (l := l) (W := W) (G := G) k
    rw [singlesK]
    split
    · simp only
      rw [sumK_set (by omega), if_pos (by omega)]
      omega
    · exact ih
theorem roundS_sum {l : Int} {n : Nat} {W V G : List Int} (hG : G.length = 256) (hn : n ≤ 256) : (roundS n W V (l, G)).1 + sumK (roundS n W V (l, G)).2 n = l + sumK G n := by
  have hp := partsK_sum (l := l) (all := wantK W V G n) (W := W) (V := V) hG hn n (Nat.le_refl _)
  have hl := partsK_len (l := l) (all := wantK W V G n) (W := W) (V := V) (G := G) n
  unfold roundS
  simp only
  split
  · rw [singlesK_sum (by omega) hn n (Nat.le_refl _)]
    exact hp
  · exact hp
theorem shareS_sum {n : Nat} {W V : List Int} (hn : n ≤ 256) : ∀ (f : Nat) (l : Int) (G : List Int), l ≤ f → Ok l n W V G → G.length = 256 → (shareS n W V (l, G)).1 + sumK (shareS n W V (l, G)).2 n = l + sumK G n
  | f, l, G, hf, h, hG => by
    by_cases hc : 0 < l ∧ wantK W V G n ≠ 0
    · obtain ⟨r1, r2, r3⟩ := roundS_ok h hG hc.1 hc.2
      rw [shareS_step h hG hc.1 hc.2]
      cases f with
      | zero => omega
      | succ f =>
        have := shareS_sum hn f (roundS n W V (l, G)).1 (roundS n W V (l, G)).2 (by omega) r1 r2
        rw [show ((roundS n W V (l, G)).1, (roundS n W V (l, G)).2) = roundS n W V (l, G) from rfl] at this
        rw [this]
        exact roundS_sum hG hn
    · rw [shareS_end hc]
theorem sumK_z : ∀ n, sumK z256 n = 0
  | 0 => rfl
  | n + 1 => by rw [sumK, sumK_z n, z256_get]; rfl
theorem sumK_mono {G W : List Int} : ∀ n, (∀ i, i < n → 0 ≤ G.getD i 0 ∧ G.getD i 0 ≤ W.getD i 0) → 0 ≤ sumK G n ∧ sumK G n ≤ sumK W n
  | 0, _ => ⟨Int.le_refl _, Int.le_refl _⟩
  | n + 1, h => by
    have h1 := sumK_mono n (fun i hi => h i (by omega))
    have h2 := h n (by omega)
    rw [sumK, sumK]
    omega
theorem wantK_zero {W V G : List Int} : ∀ n, (∀ i, i < n → 1 ≤ V.getD i 0 ∧ V.getD i 0 ≤ 256) → wantK W V G n = 0 → ∀ i, i < n → ¬ G.getD i 0 < W.getD i 0
  | 0, _, _, _, h => absurd h (Nat.not_lt_zero _)
  | n + 1, hv, h0, i, hi => by
    have h1 := (wantK_bd (W := W) (G := G) (n := n + 1) hv n (by omega)).1
    have h2 := hv n (by omega)
    rw [wantK] at h0
    by_cases e : i = n
    · subst e
      intro hh
      rw [if_pos hh] at h0
      omega
    · refine wantK_zero n (fun j hj => hv j (by omega)) ?_ i (by omega)
      split at h0 <;> omega
theorem sumK_eq {G W : List Int} : ∀ n, (∀ i, i < n → G.getD i 0 = W.getD i 0) → sumK G n = sumK W n
  | 0, _ => rfl
  | n + 1, h => by rw [sumK, sumK, sumK_eq n (fun i hi => h i (by omega)), h n (by omega)]
/-- what each gets, and all of it -/
theorem shOut_all (whole : Int) (L : List Cm) (h0 : 0 ≤ whole) (h1 : whole ≤ 2147483647) (hn : L.length ≤ 256) :
    (∀ i, i < L.length → 0 ≤ (shOut whole L).2.getD i 0 ∧ (shOut whole L).2.getD i 0 ≤ (wts L).getD i 0) ∧ (shOut whole L).1 = whole - sumK (shOut whole L).2 L.length ∧ sumK (shOut whole L).2 L.length = (if sumK (wts L) L.length < whole then sumK (wts L) L.length else whole) := by
  obtain ⟨ok, hl, he⟩ := shOut_ok whole L h0 h1 hn
  have hs := shareS_sum hn whole.toNat whole z256 (by omega) (ok0 whole L h0 h1 hn) z256_len
  rw [sumK_z] at hs
  have hs' : (shOut whole L).1 + sumK (shOut whole L).2 L.length = whole := by
    have : (shOut whole L).1 + sumK (shOut whole L).2 L.length = whole + 0 := hs
    omega
  have hg : ∀ i, i < L.length → 0 ≤ (shOut whole L).2.getD i 0 ∧ (shOut whole L).2.getD i 0 ≤ (wts L).getD i 0 := fun i hi => by
    have := ok.g i hi
    rw [layK_get _ _ _ hn hi] at this
    exact ⟨this.1, this.2.1⟩
  have hm := sumK_mono L.length hg
  refine ⟨hg, by omega, ?_⟩
  have l0 := ok.l0
  rcases he with he | he
  · rw [if_neg (by omega)]
    omega
  · have hz := wantK_zero _ ok.v he
    have : sumK (shOut whole L).2 L.length = sumK (wts L) L.length := sumK_eq _ (fun i hi => by
      have h1 := hz i hi
      have h2 := hg i hi
      rw [layK_get _ _ _ hn hi] at h1
      omega)
    split <;> omega
end Go.Proofs.Ytfmeidnpcbfloaa
