/- Claims: a round, and all rounds, as plain data. -/
import Derived.Test.YtfmeidnpcbfloaaShare6
namespace Go.Proofs.Ytfmeidnpcbfloaa
open Go.RowKit

def partsK (l0 all : Int) (W V G : List Int) : Nat → Int × List Int
  | 0 => (l0, G)
  | k + 1 => ((partsK l0 all W V G k).1 - partI l0 all W V (partsK l0 all W V G k).2 k, (partsK l0 all W V G k).2.set k ((partsK l0 all W V G k).2.getD k 0 + partI l0 all W V (partsK l0 all W V G k).2 k))
theorem partI_bd {l0 all : Int} {W V G : List Int} {i : Nat} (h0 : 0 ≤ l0) (ha : 0 < all) (hv : 0 ≤ V.getD i 0) (hg : G.getD i 0 ≤ W.getD i 0) :
    0 ≤ partI l0 all W V G i ∧ partI l0 all W V G i ≤ W.getD i 0 - G.getD i 0 ∧ partI l0 all W V G i * all ≤ l0 * V.getD i 0 := by
  have hm : 0 ≤ l0 * V.getD i 0 := Int.mul_nonneg h0 hv
  have hd : 0 ≤ l0 * V.getD i 0 / all := Int.ediv_nonneg hm (by omega)
  have he : l0 * V.getD i 0 / all * all ≤ l0 * V.getD i 0 := Int.ediv_mul_le _ (by omega)
  unfold partI
  split
  · rename_i hh
    refine ⟨by omega, Int.le_refl _, Int.le_trans (Int.mul_le_mul_of_nonneg_right (Int.le_of_lt hh) (by omega)) he⟩
  · exact ⟨hd, by omega, he⟩
theorem wantK_le {W V G : List Int} {n : Nat} (hv : ∀ i, i < n → 1 ≤ V.getD i 0 ∧ V.getD i 0 ≤ 256) : ∀ k, k ≤ n → wantK W V G k ≤ wantK W V G n := by
  have step : ∀ d k, k + d ≤ n → wantK W V G k ≤ wantK W V G (k + d) := by
    intro d
    induction d with
    | zero => intro k _; exact Int.le_refl _
    | succ d ih =>
      intro k hk
      have h1 := ih k (by omega)
      have h2 := hv (k + d) (by omega)
      rw [← Nat.add_assoc, wantK]
      split <;> omega
  intro k hk
  have := step (n - k) k (by omega)
  rwa [show k + (n - k) = n by omega] at this
/-- what holds while parts are given out -/
structure Pt (l all : Int) (n : Nat) (W V G : List Int) (k : Nat) (r : Int × List Int) : Prop where
  ok : Ok r.1 n W V r.2
  len : r.2.length = 256
  rest : ∀ i, k ≤ i → r.2.getD i 0 = G.getD i 0
  sum : (l - r.1) * all ≤ l * wantK W V G k
  le : r.1 ≤ l
  same : r.1 = l → r.2 = G
  back : ∀ i, i < n → G.getD i 0 ≤ r.2.getD i 0
  eq : r.2 = G → r.1 = l
theorem set_same {G : List Int} {k : Nat} : G.set k (G.getD k 0 + 0) = G := by
  apply List.ext_getElem?
  intro i
  rw [List.getElem?_set]
  by_cases h : k = i
  · subst h
    rw [if_pos rfl]
    by_cases hk : k < G.length
    · rw [if_pos hk, List.getD_eq_getElem?_getD, List.getElem?_eq_getElem hk]
      simp
    · rw [if_neg hk, List.getElem?_eq_none (by omega)]
  · rw [if_neg h]
theorem partsK_ok {l : Int} {n : Nat} {W V G : List Int} (h : Ok l n W V G) (hG : G.length = 256) (ha : 0 < wantK W V G n) : ∀ k, k ≤ n → Pt l (wantK W V G n) n W V G k (partsK l (wantK W V G n) W V G k)
  | 0, _ => ⟨h, hG, fun _ _ => rfl, by simp [partsK, wantK], Int.le_refl _, fun _ => rfl, fun _ _ => Int.le_refl _, fun _ => rfl⟩
  | k + 1, hk => by
    have i := partsK_ok h hG ha k (by omega)
    rw [partsK]
    generalize partsK l (wantK W V G n) W V G k = r at *
    have hn := h.hn
    have hv := h.v k (by omega)
    have hg := h.g k (by omega)
    have hrk := i.rest k (Nat.le_refl _)
    have hgr := i.ok.g k (by omega)
    obtain ⟨b0, b1, b2⟩ := partI_bd (W := W) (V := V) (G := r.2) (i := k) h.l0 ha (by omega) hgr.2.1
    have hz : ¬ G.getD k 0 < W.getD k 0 → partI l (wantK W V G n) W V r.2 k = 0 := fun hh => by omega
    generalize hp : partI l (wantK W V G n) W V r.2 k = p at *
    have hsum : (l - (r.1 - p)) * wantK W V G n ≤ l * wantK W V G (k + 1) := by
      have e1 : (l - (r.1 - p)) * wantK W V G n = (l - r.1) * wantK W V G n + p * wantK W V G n := by
        rw [← Int.add_mul]
        congr 1
        omega
      have s := i.sum
      rw [e1, wantK]
      by_cases hh : G.getD k 0 < W.getD k 0
      · rw [if_pos hh, Int.mul_add]
        omega
      · rw [if_neg hh, hz hh, Int.zero_mul, Int.add_zero, Int.add_zero]
        exact s
    have hle : 0 ≤ r.1 - p := by
      have m := wantK_le (W := W) (G := G) h.v (k + 1) hk
      have m2 : l * wantK W V G (k + 1) ≤ l * wantK W V G n := Int.mul_le_mul_of_nonneg_left m h.l0
      have m3 := Int.le_trans hsum m2
      have m4 := Int.le_of_mul_le_mul_right m3 ha
      omega
    have hok := i.ok.put i.len (k := k) (by omega) (x := r.2.getD k 0 + p) (l' := r.1 - p) (by omega) (by omega) hle (by omega)
    have hl := i.le
    refine ⟨hok, by rw [List.length_set]; exact i.len, fun j hj => ?_, hsum, by omega, fun e => ?_, fun j hj => ?_, fun e => ?_⟩
    · rw [getD_set (by rw [i.len]; omega), if_neg (by omega)]
      exact i.rest j (by omega)
    · have p0 : p = 0 := by simp only at e; omega
      have e1 : r.1 = l := by simp only at e; omega
      simp only
      rw [p0, set_same]
      exact i.same e1
    · try simp only
      rw [getD_set (by rw [i.len]; omega)]
      have := i.back j hj
      split
      · rename_i hh
        subst hh
        omega
      · exact this
    · simp only at e ⊢
      have e2 := congrArg (fun q => q.getD k 0) e
      try simp only at e2
      rw [getD_set (by rw [i.len]; omega), if_pos rfl] at e2
      have p0 : p = 0 := by omega
      rw [p0, set_same] at e
      have := i.eq e
      omega
theorem singlesK_less {l : Int} {n : Nat} {W V G : List Int} (h : Ok l n W V G) (hl : 0 < l) : ∀ k, k ≤ n → (singlesK W l G k).1 ≤ l ∧ ((singlesK W l G k).1 = l → singlesK W l G k = (l, G) ∧ wantK W V G k = 0)
  | 0, _ => ⟨Int.le_refl _, fun _ => ⟨rfl, rfl⟩⟩
  | k + 1, hk => by
    obtain ⟨i1, i2⟩ := singlesK_less h hl k (by omega)
    rw [singlesK]
    split
    · rename_i hh
      refine ⟨by simp only; omega, fun e => ?_⟩
      simp only at e
      omega
    · rename_i hh
      refine ⟨i1, fun e => ?_⟩
      obtain ⟨e1, e2⟩ := i2 e
      refine ⟨e1, ?_⟩
      rw [e1] at hh
      rw [wantK, e2, if_neg (fun hx => hh ⟨hl, hx⟩)]
      rfl
/-- a round -/
def roundS (n : Nat) (W V : List Int) (s : Int × List Int) : Int × List Int :=
  if (partsK s.1 (wantK W V s.2 n) W V s.2 n).2 = s.2 then singlesK W (partsK s.1 (wantK W V s.2 n) W V s.2 n).1 (partsK s.1 (wantK W V s.2 n) W V s.2 n).2 n else partsK s.1 (wantK W V s.2 n) W V s.2 n
theorem roundS_ok {l : Int} {n : Nat} {W V G : List Int} (h : Ok l n W V G) (hG : G.length = 256) (hl : 0 < l) (ha : wantK W V G n ≠ 0) :
    Ok (roundS n W V (l, G)).1 n W V (roundS n W V (l, G)).2 ∧ (roundS n W V (l, G)).2.length = 256 ∧ (roundS n W V (l, G)).1 < l := by
  have ha' : 0 < wantK W V G n := by have := (wantK_bd (W := W) (G := G) h.v n (Nat.le_refl _)).1; omega
  have p := partsK_ok h hG ha' n (Nat.le_refl _)
  unfold roundS
  simp only
  split
  · rename_i hh
    have e := p.eq hh
    rw [hh, e]
    obtain ⟨s1, s2⟩ := singlesK_ok h hG n (Nat.le_refl _)
    obtain ⟨t1, t2⟩ := singlesK_less h hl n (Nat.le_refl _)
    refine ⟨s1, s2, ?_⟩
    have : (singlesK W l G n).1 ≠ l := fun e => ha (t2 e).2
    omega
  · rename_i hh
    have : (partsK l (wantK W V G n) W V G n).1 ≠ l := fun e => hh (p.same e)
    have := p.le
    exact ⟨p.ok, p.len, by omega⟩
def shareK (n : Nat) (W V : List Int) : Nat → Int × List Int → Int × List Int
  | 0, s => s
  | f + 1, s => if 0 < s.1 ∧ wantK W V s.2 n ≠ 0 then shareK n W V f (roundS n W V s) else s
theorem shareK_fuel {n : Nat} {W V : List Int} : ∀ (f g : Nat) (s : Int × List Int), Ok s.1 n W V s.2 → s.2.length = 256 → s.1 ≤ f → s.1 ≤ g → shareK n W V f s = shareK n W V g s
  | 0, 0, _, _, _, _, _ => rfl
  | 0, g + 1, s, h, _, hf, _ => by
    rw [shareK, shareK, if_neg]
    intro hh
    have := h.l0
    omega
  | f + 1, 0, s, h, _, _, hg => by
    rw [shareK, shareK, if_neg]
    intro hh
    have := h.l0
    omega
  | f + 1, g + 1, (l, G), h, hL, hf, hg => by
    rw [shareK, shareK]
    split
    · rename_i hh
      obtain ⟨r1, r2, r3⟩ := roundS_ok (l := l) (G := G) h hL hh.1 hh.2
      simp only at hf hg
      exact shareK_fuel f g (roundS n W V (l, G)) r1 r2 (by omega) (by omega)
    · rfl
/-- all rounds -/
def shareS (n : Nat) (W V : List Int) (s : Int × List Int) : Int × List Int := shareK n W V s.1.toNat s
theorem shareS_end {n : Nat} {W V : List Int} {s : Int × List Int} (h : ¬ (0 < s.1 ∧ wantK W V s.2 n ≠ 0)) : shareS n W V s = s := by
  unfold shareS
  cases s.1.toNat with
  | zero => rfl
  | succ f => rw [shareK, if_neg h]
theorem shareS_step {l : Int} {n : Nat} {W V G : List Int} (h : Ok l n W V G) (hG : G.length = 256) (hl : 0 < l) (ha : wantK W V G n ≠ 0) : shareS n W V (l, G) = shareS n W V (roundS n W V (l, G)) := by
  obtain ⟨r1, r2, r3⟩ := roundS_ok h hG hl ha
  unfold shareS
  simp only
  obtain ⟨f, hf⟩ : ∃ f : Nat, l.toNat = f + 1 := ⟨l.toNat - 1, by omega⟩
  rw [hf, shareK, if_pos ⟨hl, ha⟩]
  exact shareK_fuel _ _ _ r1 r2 (by omega) (by have := r1.l0; omega)
theorem shareS_ok {n : Nat} {W V : List Int} : ∀ (f : Nat) (l : Int) (G : List Int), l ≤ f → Ok l n W V G → G.length = 256 → Ok (shareS n W V (l, G)).1 n W V (shareS n W V (l, G)).2 ∧ (shareS n W V (l, G)).2.length = 256 ∧ ((shareS n W V (l, G)).1 = 0 ∨ wantK W V (shareS n W V (l, G)).2 n = 0)
  | f, l, G, hf, h, hG => by
    by_cases hc : 0 < l ∧ wantK W V G n ≠ 0
    · obtain ⟨r1, r2, r3⟩ := roundS_ok h hG hc.1 hc.2
      rw [shareS_step h hG hc.1 hc.2]
      cases f with
      | zero => omega
      | succ f => exact shareS_ok f (roundS n W V (l, G)).1 (roundS n W V (l, G)).2 (by omega) r1 r2
    · rw [shareS_end hc]
      refine ⟨h, hG, ?_⟩
      have := h.l0
      by_cases h0 : l = 0
      · exact .inl h0
      · right
        apply Decidable.byContradiction
        intro hh
        exact hc ⟨by omega, hh⟩
end Go.Proofs.Ytfmeidnpcbfloaa
