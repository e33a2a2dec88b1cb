/- Claims laid. -/
import Derived.Test.YtfmeidnpcbfloaaShare
namespace Go.Proofs.Ytfmeidnpcbfloaa
open Go.RowKit

def layK (P : List Int) : Nat → List Int
  | 0 => z256
  | k + 1 => (layK P k).set k (P.getD k 0)
theorem layK_len (P : List Int) : ∀ k, (layK P k).length = 256
  | 0 => z256_len
  | k + 1 => by rw [layK, List.length_set]; exact layK_len P k
def wts (L : List Cm) : List Int := L.map fun c => wantC c.wt
def wgs (L : List Cm) : List Int := L.map fun c => wghtC c.wg
theorem is3K (L : List Cm) (k : Nat) : Is3 (layK (wts L) k) (layK (wgs L) k) z256 := ⟨layK_len _ _, layK_len _ _, z256_len⟩
theorem wts_at {L : List Cm} {k : Nat} {x : Cm} (h : L[k]? = some x) : (wts L).getD k 0 = wantC x.wt := by simp [wts, List.getD_eq_getElem?_getD, h]
theorem wgs_at {L : List Cm} {k : Nat} {x : Cm} (h : L[k]? = some x) : (wgs L).getD k 0 = wghtC x.wg := by simp [wgs, List.getD_eq_getElem?_getD, h]
set_option maxRecDepth 100000 in
set_option maxHeartbeats 2000000 in
theorem lay_any (A : Option Addr) (cap : Nat) (whole : Int) (L : List Cm) (w : World) (hS : Sq encC 2 w w.heap.size A L) (hc : L.length ≤ cap) (h2 : L.length ≤ 256) :
    Calls Try.prog 20 #[.int .i64 whole, .slice A L.length cap] w fun x w' => ∃ b, x = .returned (.pointer (some ⟨b, 0, none⟩)) ∧ w.heap.size ≤ b ∧ Ts w' b whole L.length (layK (wts L) L.length) (layK (wgs L) L.length) z256 ∧ Only Nil w w' := by
  have hz := fun w => zero_tb w
  have hZ := z770 whole L.length
  have hZ0 : ¬ ints (List.replicate 770 0) = #[] := by
    intro e
    have := congrArg Array.size e
    simp [ints] at this
  have hZs : (ints (List.replicate 770 0)).size = 770 := by simp [ints]
  generalize ints (List.replicate 770 0) = Z at hz hZ hZ0 hZs
  obtain ⟨n, hn⟩ : ∃ n, n = L.length := ⟨_, rfl⟩
  have HN := Lib.hid hn
  have HS := Lib.hid hS
  rw [← hn] at hc h2 hZ ⊢
  have HB0 : Hid (Blk (w.alloc (.cells ((Z.setIfInBounds 0 (.int .i64 whole)).setIfInBounds 1 (.int .i64 n)) 45)) w.heap.size 45 (ints (mkF whole n z256 z256 z256))) := Lib.hid (by rw [hZ]; exact Blk.new _ _ _)
  have HX0 := Lib.hid ((Only.refl Nil w).alloc (.cells ((Z.setIfInBounds 0 (.int .i64 whole)).setIfInBounds 1 (.int .i64 n)) 45))
  clear hS hn hZ
  go_enter Try.func20, Try.ntmps20
  go_wp2
  go_loopw [15] (fun ii wr => ∃ k : Nat, k ≤ n ∧ ii = .int .i64 k ∧ Hid (Ts wr w.heap.size whole n (layK (wts L) k) (layK (wgs L) k) z256) ∧ Only Nil w wr) (fun ii _ => n - (intOf ii).toNat)
  case atStart => exact ⟨0, Nat.zero_le _, rfl, Lib.hid ⟨HB0.out, is3K L 0⟩, HX0.out⟩
  case round =>
    obtain ⟨k, hk, rfl, hT, ho⟩ := hrel
    by_cases hlt : k < n
    · have hlt' : (k : Int) < n := by omega
      have h256 : (k : Int) < 256 := by omega
      obtain ⟨b, off, x, rfl, hb, hx, _, hcc⟩ := (HS.out.go ho).at_ (k := k) (by rw [← HN.out]; exact hlt)
      have p0 := hcc 0 (by decide)
      have p1 := hcc 1 (by decide)
      simp [encC] at p0 p1
      have hT1 := hT.out.1.alloc (.cells #[.int .i64 x.wt, .int .i64 x.wg] 36)
      have c1 := hT1.cellI (mkF_w (l := whole) (n := n) hT.out.2 (i := k) (by omega))
      have zt := hT1.lt
      have f1 := hT1.frozen (2 + k)
      have HX := Lib.hid hx
      have HO := Lib.hid ho
      obtain ⟨wt, wg⟩ := x
      simp only at p0 p1 hT1 c1 f1 zt
      have is3 := is3K L k
      have hT2 := (hT1.setI (2 + k) (wantC wt)).drew
      rw [mkF_setW is3 (by omega)] at hT2
      have hN2 := ((Blk.new wr 36 #[.int .i64 wt, .int .i64 wg]).far (p := ⟨w.heap.size, 2 + k, none⟩) (by show wr.heap.size ≠ w.heap.size; have := hT.out.1.lt; omega) (.int .i64 (wantC wt))).drew
      have q1 := hN2.cell 1
      have zq := hN2.lt
      have z2 := hT2.lt
      have f2 := hT2.frozen (258 + k)
      have c2 := hT2.cellI (mkF_v (l := whole) (n := n) (is3.setW k _) (i := k) (by omega))
      have HO2 := Lib.hid ((((HO.out.alloc (.cells #[.int .i64 wt, .int .i64 wg] 36)).setNew (c := w.heap.size) (Nat.le_refl _) (2 + k) (.int .i64 (wantC wt))).setNew (c := w.heap.size) (Nat.le_refl _) (258 + k) (.int .i64 (wghtC wg))).drew.drew)
      have hT3 := (hT1.setI (2 + k) (wantC wt)).setI (258 + k) (wghtC wg)
      rw [mkF_setW is3 (by omega), mkF_setV (is3.setW k _) (by omega)] at hT3
      have HT3 : Hid (Ts _ w.heap.size whole n (layK (wts L) (k + 1)) (layK (wgs L) (k + 1)) z256) := Lib.hid ⟨by
        show Blk _ _ _ (ints (mkF whole n ((layK (wts L) k).set k ((wts L).getD k 0)) ((layK (wgs L) k).set k ((wgs L).getD k 0)) z256))
        rw [wts_at HX.out, wgs_at HX.out]
        exact hT3.drew.drew, is3K L (k + 1)⟩
      have key1 : (wt < 0 ∧ wantC wt = 0) ∨ (¬ wt < 0 ∧ 2147483647 < wt ∧ wantC wt = 2147483647) ∨ (¬ wt < 0 ∧ ¬ 2147483647 < wt ∧ wantC wt = wt) := by
        unfold wantC
        split <;> split <;> omega
      have key2 : (wg < 1 ∧ wghtC wg = 1) ∨ (¬ wg < 1 ∧ 256 < wg ∧ wghtC wg = 256) ∨ (¬ wg < 1 ∧ ¬ 256 < wg ∧ wghtC wg = wg) := by
        unfold wghtC
        split <;> split <;> omega
      clear hx hcc ho hN2 hT3
      rcases key1 with ⟨a1, hQ⟩ | ⟨a1, a2, hQ⟩ | ⟨a1, a2, hQ⟩ <;> rcases key2 with ⟨b1, hR⟩ | ⟨b1, b2, hR⟩ | ⟨b1, b2, hR⟩
      all_goals
        simp only [hQ, hR] at hT2 c2 q1 zq z2 f2 HO2 HT3
        clear hQ hR
        go_wp2
        go_region
        go_wp2
        go_region
        go_wp2
        go_roundw
        case rel => exact ⟨k + 1, by omega, by go_num, HT3, HO2.out⟩
        case measure => simp [intOf]; omega
    · obtain rfl : k = n := by omega
      have hlt' : ¬ (k : Int) < k := by omega
      have hl : L.length = k := HN.out.symm
      go_wp2
      go_ret
      exact ⟨_, rfl, Nat.le_refl _, hT.out, ho⟩
end Go.Proofs.Ytfmeidnpcbfloaa
