/- Claims: one each; how much more each gets in a round. -/
import Derived.Test.YtfmeidnpcbfloaaShare3
namespace Go.Proofs.Ytfmeidnpcbfloaa
open Go.RowKit

theorem Ts.drewN {w : World} {b n : Nat} {l : Int} {W V G : List Int} (h : Ts w b l n W V G) (N : Nat) : Ts (w.drewN N) b l n W V G := ⟨h.1.kept ((Only.refl Nil w).drewN N) (fun hh => hh), h.2⟩
def singlesK (W : List Int) (l : Int) (G : List Int) : Nat → Int × List Int
  | 0 => (l, G)
  | k + 1 => if 0 < (singlesK W l G k).1 ∧ (singlesK W l G k).2.getD k 0 < W.getD k 0 then ((singlesK W l G k).1 - 1, (singlesK W l G k).2.set k ((singlesK W l G k).2.getD k 0 + 1)) else singlesK W l G k
theorem getD_set {G : List Int} {k i : Nat} {x : Int} (hk : k < G.length) : (G.set k x).getD i 0 = if i = k then x else G.getD i 0 := by
  rw [List.getD_eq_getElem?_getD, List.getElem?_set, List.getD_eq_getElem?_getD]
  by_cases h : k = i
  · subst h
    simp [hk]
  · rw [if_neg h, if_neg (fun e => h e.symm)]
/-- what holds of a table while it is shared out -/
theorem Ok.put {l l' : Int} {n : Nat} {W V G : List Int} (h : Ok l n W V G) (hG : G.length = 256) {k : Nat} (hk : k < n) {x : Int} (h0 : 0 ≤ x) (h1 : x ≤ W.getD k 0) (l0 : 0 ≤ l') (l1 : l' ≤ l) : Ok l' n W V (G.set k x) :=
  ⟨h.hn, l0, Int.le_trans l1 h.l1, h.v, fun i hi => by
    have := h.g i hi
    have hn := h.hn
    rw [getD_set (by omega)]
    by_cases e : i = k
    · subst e
      rw [if_pos rfl]
      exact ⟨h0, h1, this.2.2⟩
    · rw [if_neg e]
      exact this⟩
theorem singlesK_ok {l : Int} {n : Nat} {W V G : List Int} (h : Ok l n W V G) (hG : G.length = 256) : ∀ k, k ≤ n → Ok (singlesK W l G k).1 n W V (singlesK W l G k).2 ∧ (singlesK W l G k).2.length = 256
  | 0, _ => ⟨h, hG⟩
  | k + 1, hk => by
    obtain ⟨i1, i2⟩ := singlesK_ok h hG k (by omega)
    rw [singlesK]
    split
    · rename_i hh
      have := i1.g k (by omega)
      have l0 := i1.l0
      exact ⟨i1.put i2 (by omega) (by omega) (by omega) (by omega) (by omega), by rw [List.length_set]; exact i2⟩
    · exact ⟨i1, i2⟩
section
variable {w : World} {b n : Nat} {l : Int} {W V G : List Int}
set_option maxRecDepth 100000 in
set_option maxHeartbeats 2000000 in
theorem singles_any (w : World) (h : Ts w b l n W V G) (ok : Ok l n W V G) : Calls Try.prog 24 #[.pointer (some ⟨b, 0, none⟩)] w fun x w' => x = .returned (.tuple #[]) ∧ Ts w' b (singlesK W l G n).1 n W V (singlesK W l G n).2 ∧ Only (One b) w w' := by
  have c1 := h.at1
  have zb := h.lt
  have hn := ok.hn
  have H := Lib.hid h
  have HK := Lib.hid (fun k hk => @singlesK_ok l n W V G ok h.2.g k hk)
  clear h ok
  go_enter Try.func24, Try.ntmps24
  go_wp2
  go_loopw [7] (fun ii wr => ∃ k : Nat, k ≤ n ∧ ii = .int .i64 k ∧ Hid (Ts wr b (singlesK W l G k).1 n W V (singlesK W l G k).2) ∧ Only (One b) w wr) (fun ii _ => n - (intOf ii).toNat)
  case atStart => exact ⟨0, Nat.zero_le _, rfl, H, Only.refl _ _⟩
  case round =>
    obtain ⟨k, hk, rfl, hT, ho⟩ := hrel
    by_cases hlt : k < n
    · have hlt' : (k : Int) < n := by omega
      have h256 : (k : Int) < 256 := by omega
      have hTd := hT.out
      have g0 := hTd.at0
      have g1 := hTd.atG (i := k) (by omega)
      have g2 := hTd.atW (i := k) (by omega)
      have zr := hTd.lt
      have hok := (HK.out k hk).1
      have hx := hok.g k hlt
      have hl0 := hok.l0
      have hl1 := hok.l1
      have HS : Hid (singlesK W l G (k + 1) = if 0 < (singlesK W l G k).1 ∧ (singlesK W l G k).2.getD k 0 < W.getD k 0 then ((singlesK W l G k).1 - 1, (singlesK W l G k).2.set k ((singlesK W l G k).2.getD k 0 + 1)) else singlesK W l G k) := Lib.hid rfl
      have HO := Lib.hid ho
      have HT := hT
      clear hok ho hTd hT
      generalize hP : singlesK W l G k = P at *
      obtain ⟨lk, Gk⟩ := P
      simp only at g0 g1 g2 hx hl0 hl1 HS HT
      have hTd := HT.out
      have f1 := hTd.1.frozen (514 + k)
      have hT5 := fun N => ((Ts.drewN HT.out N).putG (i := k) (by omega) (Gk.getD k 0 + 1))
      have d0 := fun N => (hT5 N).at0
      have e0 := fun N => (hT5 N).1.frozen 0
      have z5 := fun N => (hT5 N).lt
      have HT6 := Lib.hid (fun N => ((Ts.drewN HT.out N).putG (i := k) (by omega) (Gk.getD k 0 + 1)).putL (lk - 1))
      have HO6 := Lib.hid (fun N => ((HO.out.drewN N).set1 (514 + k) (.int .i64 (Gk.getD k 0 + 1))).set1 0 (.int .i64 (lk - 1)))
      by_cases hc : 0 < lk ∧ Gk.getD k 0 < W.getD k 0
      · have HS2 : Hid (singlesK W l G (k + 1) = (lk - 1, Gk.set k (Gk.getD k 0 + 1))) := Lib.hid (by rw [HS.out, if_pos hc])
        obtain ⟨hc1, hc2⟩ := hc
        clear HS hTd hT5
        generalize hgx : Gk.getD k 0 = x at *
        generalize hgy : W.getD k 0 = y at *
        clear hgx hgy
        go_wp2
        go_quiet (fail)
        go_wp2
        go_region
        go_wp2
        go_roundw
        case rel => exact ⟨k + 1, by omega, by go_num, Lib.hid (by rw [HS2.out]; exact HT6.out _), HO6.out _⟩
        case measure => simp [intOf]; omega
      · have HS2 : Hid (singlesK W l G (k + 1) = (lk, Gk)) := Lib.hid (by rw [HS.out, if_neg hc])
        clear HS hTd hT5
        generalize hgx : Gk.getD k 0 = x at *
        generalize hgy : W.getD k 0 = y at *
        clear hgx hgy
        by_cases hl : 0 < lk
        · have hxy : ¬ x < y := fun hh => hc ⟨hl, hh⟩
          go_wp2
          go_quiet (fail)
          go_wp2
          go_roundw
          case rel => exact ⟨k + 1, by omega, by go_num, Lib.hid (by rw [HS2.out]; exact Ts.drewN HT.out _), HO.out.drewN _⟩
          case measure => simp [intOf]; omega
        · obtain rfl : lk = 0 := by omega
          go_wp2
          go_quiet (fail)
          go_wp2
          go_roundw
          case rel => exact ⟨k + 1, by omega, by go_num, Lib.hid (by rw [HS2.out]; exact Ts.drewN HT.out _), HO.out.drewN _⟩
          case measure => simp [intOf]; omega
    · obtain rfl : k = n := by omega
      have hlt' : ¬ (k : Int) < k := by omega
      go_wp2
      refine bodyPost_end (results_none rfl _ _ _) rfl ?_
      exact ⟨rfl, hT.out, ho⟩
end
end Go.Proofs.Ytfmeidnpcbfloaa
