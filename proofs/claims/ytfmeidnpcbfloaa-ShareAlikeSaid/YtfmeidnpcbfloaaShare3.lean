/- Claims: the weights of all that want more. -/
import Derived.Test.YtfmeidnpcbfloaaShare2
namespace Go.Proofs.Ytfmeidnpcbfloaa
open Go.RowKit

def wantK (W V G : List Int) : Nat → Int
  | 0 => 0
  | k + 1 => wantK W V G k + if G.getD k 0 < W.getD k 0 then V.getD k 0 else 0
structure Ok (l : Int) (n : Nat) (W V G : List Int) : Prop where
  hn : n ≤ 256
  l0 : 0 ≤ l
  l1 : l ≤ 2147483647
  v : ∀ i, i < n → 1 ≤ V.getD i 0 ∧ V.getD i 0 ≤ 256
  g : ∀ i, i < n → 0 ≤ G.getD i 0 ∧ G.getD i 0 ≤ W.getD i 0 ∧ W.getD i 0 ≤ 2147483647
theorem wantK_bd {W V G : List Int} {n : Nat} (hv : ∀ i, i < n → 1 ≤ V.getD i 0 ∧ V.getD i 0 ≤ 256) : ∀ k, k ≤ n → 0 ≤ wantK W V G k ∧ wantK W V G k ≤ k * 256
  | 0, _ => ⟨Int.le_refl _, by simp [wantK]⟩
  | k + 1, h => by
    have h1 := wantK_bd (W := W) (G := G) hv k (by omega)
    have h2 := hv k (by omega)
    rw [wantK]
    split <;> omega
section
variable {w : World} {b n : Nat} {l : Int} {W V G : List Int}
theorem Ts.at0 (h : Ts w b l n W V G) : w.cell? ⟨b, 0, none⟩ = some (.int .i64 l) := h.1.cellI mkF_l
theorem Ts.at1 (h : Ts w b l n W V G) : w.cell? ⟨b, 1, none⟩ = some (.int .i64 n) := h.1.cellI mkF_n
theorem Ts.atW (h : Ts w b l n W V G) {i : Nat} (hi : i < 256) : w.cell? ⟨b, 2 + i, none⟩ = some (.int .i64 (W.getD i 0)) := h.1.cellI (mkF_w h.2 hi)
theorem Ts.atV (h : Ts w b l n W V G) {i : Nat} (hi : i < 256) : w.cell? ⟨b, 258 + i, none⟩ = some (.int .i64 (V.getD i 0)) := h.1.cellI (mkF_v h.2 hi)
theorem Ts.atG (h : Ts w b l n W V G) {i : Nat} (hi : i < 256) : w.cell? ⟨b, 514 + i, none⟩ = some (.int .i64 (G.getD i 0)) := h.1.cellI (mkF_g h.2 hi)
theorem Ts.lt (h : Ts w b l n W V G) : b < w.heap.size := h.1.lt
theorem Ts.kept {w' : World} {S : Nat → Prop} (h : Ts w b l n W V G) (ho : Only S w w') (hs : ¬ S b) : Ts w' b l n W V G := ⟨h.1.kept ho hs, h.2⟩
theorem Ts.drew (h : Ts w b l n W V G) : Ts w.drew b l n W V G := ⟨h.1.drew, h.2⟩
theorem Ts.alloc (h : Ts w b l n W V G) (o : Obj) : Ts (w.alloc o) b l n W V G := ⟨h.1.alloc o, h.2⟩
theorem Ts.putL (h : Ts w b l n W V G) (x : Int) : Ts (w.setCell ⟨b, 0, none⟩ (.int .i64 x)) b x n W V G := ⟨by have := h.1.setI 0 x; rwa [mkF_setL] at this, h.2⟩
theorem Ts.putG (h : Ts w b l n W V G) {i : Nat} (hi : i < 256) (x : Int) : Ts (w.setCell ⟨b, 514 + i, none⟩ (.int .i64 x)) b l n W V (G.set i x) := ⟨by have := h.1.setI (514 + i) x; rwa [mkF_setG h.2 hi] at this, h.2.setG i x⟩
set_option maxRecDepth 100000 in
set_option maxHeartbeats 2000000 in
theorem wanting_any (w : World) (h : Ts w b l n W V G) (ok : Ok l n W V G) : Calls Try.prog 22 #[.pointer (some ⟨b, 0, none⟩)] w fun x w' => x = .returned (.int .i64 (wantK W V G n)) ∧ Only Nil w w' := by
  have c1 := h.at1
  have zb := h.lt
  have hn := ok.hn
  have H := Lib.hid h
  have HV := Lib.hid (fun k hk => @wantK_bd W V G n ok.v k hk)
  have HVV := Lib.hid ok.v
  obtain ⟨R, hR⟩ : ∃ R, R = wantK W V G n := ⟨_, rfl⟩
  rw [← hR]
  have HR := Lib.hid hR
  clear h ok hR
  go_enter Try.func22, Try.ntmps22
  go_wp2
  go_loopw [3, 9] (fun ss ii wr => ∃ (k : Nat) (s : Int), k ≤ n ∧ ii = .int .i64 k ∧ ss = .int .i64 s ∧ Hid (s = wantK W V G k) ∧ Only Nil w wr) (fun _ ii _ => n - (intOf ii).toNat)
  case atStart => exact ⟨0, 0, Nat.zero_le _, rfl, rfl, Lib.hid rfl, Only.refl _ _⟩
  case round =>
    obtain ⟨k, s, hk, rfl, rfl, hs, ho⟩ := hrel
    by_cases hlt : k < n
    · have hlt' : (k : Int) < n := by omega
      have h256 : (k : Int) < 256 := by omega
      have hT := (H.out.kept ho (fun hh => hh)).drew
      have g1 := hT.atG (i := k) (by omega)
      have g2 := hT.atW (i := k) (by omega)
      have g3 := hT.atV (i := k) (by omega)
      have zr := hT.lt
      have hbd := HV.out k hk
      have hv := HVV.out k hlt
      have HS : Hid (wantK W V G (k + 1) = s + if G.getD k 0 < W.getD k 0 then V.getD k 0 else 0) := Lib.hid (by rw [hs.out]; rfl)
      rw [← hs.out] at hbd
      have HO := Lib.hid ho
      generalize G.getD k 0 = x at *
      generalize W.getD k 0 = y at *
      generalize V.getD k 0 = z at *
      clear hT ho hs
      by_cases hxy : x < y
      · have HS2 : Hid (s + z = wantK W V G (k + 1)) := Lib.hid (by rw [HS.out, if_pos hxy])
        clear HS
        go_wp2
        go_region
        go_wp2
        go_roundw
        case rel => exact ⟨k + 1, s + z, by omega, by go_num, by go_num, HS2, HO.out.drewN _⟩
        case measure => simp [intOf]; omega
      · have HS2 : Hid (s = wantK W V G (k + 1)) := Lib.hid (by rw [HS.out, if_neg hxy]; omega)
        clear HS
        go_wp2
        go_region
        go_wp2
        go_roundw
        case rel => exact ⟨k + 1, s, by omega, by go_num, rfl, HS2, HO.out.drewN _⟩
        case measure => simp [intOf]; omega
    · obtain rfl : k = n := by omega
      have hlt' : ¬ (k : Int) < k := by omega
      obtain rfl : R = s := by rw [HR.out, hs.out]
      go_wp2
      go_ret
      exact ⟨rfl, ho⟩
end
end Go.Proofs.Ytfmeidnpcbfloaa
