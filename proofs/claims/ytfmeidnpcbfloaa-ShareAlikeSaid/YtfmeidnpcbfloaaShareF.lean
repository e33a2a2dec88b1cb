/- Claims: fairness. -/
import Derived.Test.YtfmeidnpcbfloaaShareQ
namespace Go.Proofs.Ytfmeidnpcbfloaa
open Go.RowKit

/-- whoever wants more gets no less than one of the same weight, or less, less c -/
def Fr (c : Int) (n : Nat) (W V G : List Int) : Prop := ∀ i k, i < n → k < n → G.getD i 0 < W.getD i 0 → V.getD k 0 ≤ V.getD i 0 → G.getD k 0 ≤ G.getD i 0 + c
theorem partI_congr {l all : Int} {W V G G' : List Int} {i : Nat} (h : G.getD i 0 = G'.getD i 0) : partI l all W V G i = partI l all W V G' i := by
  unfold partI
  rw [h]
theorem partsK_get {l all : Int} {n : Nat} {W V G : List Int} (hG : G.length = 256) (hn : n ≤ 256) : ∀ k, k ≤ n → ∀ i, (partsK l all W V G k).2.getD i 0 = if i < k then G.getD i 0 + partI l all W V G i else G.getD i 0
  | 0, _, i => by simp [partsK]
  | k + 1, hk, i => by
    have ih := partsK_get (l := l) (all := all) (W := W) (V := V) hG hn k (by omega)
    have hl := partsK_len (l := l) (all := all) (W := W) (V := V) (G := G) k
    have hk0 := ih k
    rw [if_neg (by omega)] at hk0
    rw [partsK]
    simp only
    rw [getD_set (by omega), hk0, partI_congr hk0, ih i]
    by_cases e : i = k
    · subst e
      rw [if_pos rfl, if_pos (by omega)]
    · rw [if_neg e]
      by_cases h : i < k
      · rw [if_pos h, if_pos (by omega)]
      · rw [if_neg h, if_neg (by omega)]
theorem partsK_fair {l : Int} {n : Nat} {W V G : List Int} (h : Ok l n W V G) (hG : G.length = 256) (ha : 0 < wantK W V G n) (hf : Fr 0 n W V G) : Fr 0 n W V (partsK l (wantK W V G n) W V G n).2 := fun i k hi hk hw hv => by
  have gi := partsK_get (l := l) (all := wantK W V G n) (W := W) (V := V) hG h.hn n (Nat.le_refl _) i
  have gk := partsK_get (l := l) (all := wantK W V G n) (W := W) (V := V) hG h.hn n (Nat.le_refl _) k
  rw [if_pos hi] at gi
  rw [if_pos hk] at gk
  rw [gi] at hw ⊢
  rw [gk]
  have vi := h.v i hi
  have vk := h.v k hk
  have bi := partI_bd (W := W) (V := V) (G := G) (i := i) h.l0 ha (by omega) (h.g i hi).2.1
  have hq : l * V.getD k 0 / wantK W V G n ≤ l * V.getD i 0 / wantK W V G n := Int.ediv_le_ediv ha (Int.mul_le_mul_of_nonneg_left hv h.l0)
  have pi : partI l (wantK W V G n) W V G i = l * V.getD i 0 / wantK W V G n := by
    unfold partI at hw bi ⊢
    split
    · rename_i hh
      rw [if_pos hh] at hw
      omega
    · rfl
  have pk : partI l (wantK W V G n) W V G k ≤ l * V.getD k 0 / wantK W V G n := by
    unfold partI
    split <;> omega
  have hg := hf i k hi hk (by omega) hv
  omega
theorem singlesK_get {l : Int} {n : Nat} {W G : List Int} (hG : G.length = 256) (hn : n ≤ 256) : ∀ k, k ≤ n → (singlesK W l G k).1 ≤ l ∧ ∀ i, (G.getD i 0 ≤ (singlesK W l G k).2.getD i 0 ∧ (singlesK W l G k).2.getD i 0 ≤ G.getD i 0 + 1 ∧ (k ≤ i → (singlesK W l G k).2.getD i 0 = G.getD i 0) ∧ (¬ G.getD i 0 < W.getD i 0 → (singlesK W l G k).2.getD i 0 = G.getD i 0)) ∧ (i < k → 0 < (singlesK W l G k).1 → G.getD i 0 < W.getD i 0 → (singlesK W l G k).2.getD i 0 = G.getD i 0 + 1)
  | 0, _ => ⟨Int.le_refl _, fun i => ⟨⟨Int.le_refl _, by simp [singlesK]; omega, fun _ => rfl, fun _ => rfl⟩, fun h => absurd h (Nat.not_lt_zero _)⟩⟩
  | k + 1, hk => by
    obtain ⟨i1, i2⟩ := singlesK_get (l := l) (W := W) hG hn k (by omega)
    have hl := singlesK_len (l := l) (W := W) (G := G) k
    have ek := (i2 k).1.2.2.1 (Nat.le_refl _)
    rw [singlesK]
    split
    · rename_i hh
      refine ⟨by simp only; omega, fun i => ?_⟩
      simp only
      rw [getD_set (by omega)]
      have := i2 i
      by_cases e : i = k
      · subst e
        rw [if_pos rfl, ek]
        rw [ek] at hh
        exact ⟨⟨by omega, by omega, fun h => absurd h (by omega), fun h => absurd hh.2 h⟩, fun _ _ _ => rfl⟩
      · rw [if_neg e]
        exact ⟨⟨this.1.1, this.1.2.1, fun h => this.1.2.2.1 (by omega), this.1.2.2.2⟩, fun h1 h2 => this.2 (by omega) (by omega)⟩
    · rename_i hh
      refine ⟨i1, fun i => ?_⟩
      have := i2 i
      refine ⟨⟨this.1.1, this.1.2.1, fun h => this.1.2.2.1 (by omega), this.1.2.2.2⟩, fun h1 h2 h3 => ?_⟩
      by_cases e : i = k
      · subst e
        exact absurd ⟨h2, by rw [ek]; exact h3⟩ hh
      · exact this.2 (by omega) h2 h3
theorem singlesK_fair {l : Int} {n : Nat} {W V G : List Int} (hG : G.length = 256) (hn : n ≤ 256) (h0 : 0 ≤ (singlesK W l G n).1) (hf : Fr 0 n W V G) : Fr 0 n W V (singlesK W l G n).2 ∨ ((singlesK W l G n).1 = 0 ∧ Fr 1 n W V (singlesK W l G n).2) := by
  obtain ⟨-, g⟩ := singlesK_get (l := l) (W := W) hG hn n (Nat.le_refl _)
  by_cases hz : (singlesK W l G n).1 = 0
  · right
    refine ⟨hz, fun i k hi hk hw hv => ?_⟩
    have gi := (g i).1
    have gk := (g k).1
    have := hf i k hi hk (by omega) hv
    omega
  · left
    intro i k hi hk hw hv
    have gi := (g i).1
    have gk := (g k).1
    have e := (g i).2 hi (by omega) (by omega)
    have := hf i k hi hk (by omega) hv
    omega
theorem shareS_fair {n : Nat} {W V : List Int} (hn : n ≤ 256) : ∀ (f : Nat) (l : Int) (G : List Int), l ≤ f → Ok l n W V G → G.length = 256 → (Fr 0 n W V G ∨ (l = 0 ∧ Fr 1 n W V G)) → Fr 1 n W V (shareS n W V (l, G)).2
  | f, l, G, hf, h, hG, hr => by
    by_cases hc : 0 < l ∧ wantK W V G n ≠ 0
    · have hfr : Fr 0 n W V G := by
        rcases hr with hr | hr
        · exact hr
        · omega
      obtain ⟨r1, r2, r3⟩ := roundS_ok h hG hc.1 hc.2
      rw [shareS_step h hG hc.1 hc.2]
      have ha : 0 < wantK W V G n := by have := (wantK_bd (W := W) (G := G) h.v n (Nat.le_refl _)).1; omega
      have hp := partsK_fair h hG ha hfr
      have hl := partsK_len (l := l) (all := wantK W V G n) (W := W) (V := V) (G := G) n
      have hnx : Fr 0 n W V (roundS n W V (l, G)).2 ∨ ((roundS n W V (l, G)).1 = 0 ∧ Fr 1 n W V (roundS n W V (l, G)).2) := by
        have rl := r1.l0
        unfold roundS at rl ⊢
        simp only at rl ⊢
        split
        · rename_i hh
          rw [if_pos hh] at rl
          exact singlesK_fair (by omega) hn rl hp
        · exact .inl hp
      cases f with
      | zero => omega
      | succ f => exact shareS_fair hn f (roundS n W V (l, G)).1 (roundS n W V (l, G)).2 (by omega) r1 r2 hnx
    · rw [shareS_end hc]
      rcases hr with hr | hr
      · intro i k hi hk hw hv
        have := hr i k hi hk hw hv
        simp only
        omega
      · exact hr.2
theorem shOut_fair (whole : Int) (L : List Cm) (h0 : 0 ≤ whole) (h1 : whole ≤ 2147483647) (hn : L.length ≤ 256) : ∀ i k, i < L.length → k < L.length → (shOut whole L).2.getD i 0 < (wts L).getD i 0 → (wgs L).getD k 0 ≤ (wgs L).getD i 0 → (shOut whole L).2.getD k 0 ≤ (shOut whole L).2.getD i 0 + 1 := fun i k hi hk hw hv => by
  have := shareS_fair (n := L.length) (W := layK (wts L) L.length) (V := layK (wgs L) L.length) hn whole.toNat whole z256 (by omega) (ok0 whole L h0 h1 hn) z256_len (.inl (fun i k _ _ _ _ => by rw [z256_get, z256_get]; omega))
  exact this i k hi hk (by rw [layK_get _ _ _ hn hi]; exact hw) (by rw [layK_get _ _ _ hn hi, layK_get _ _ _ hn hk]; exact hv)
end Go.Proofs.Ytfmeidnpcbfloaa
