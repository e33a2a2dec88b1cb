/- The document's answers for headers. -/
import Derived.Test.YtjgoklccnecjcaaDoorRef01
import Derived.Test.YtjgoklccnecjcaaDoorHeadGet
namespace Go.Proofs.YtjgoklccnecjcaaDoor
open Go.RowKit

def rightH (h : Hd) : Bool := decide (0 ≤ h.l) && decide (h.l < 16777216) && decide (0 ≤ h.t) && decide (h.t < 256) && decide (0 ≤ h.f) && decide (h.f < 256) && decide (0 ≤ h.s) && decide (h.s ≤ 2147483647)
set_option maxHeartbeats 4000000 in
theorem RRight_any (h : Hd) (w : World) : Calls Tryd.prog 9 #[.agg #[.int .i64 h.l, .int .i64 h.t, .int .i64 h.f, .int .i64 h.s]] w fun x w' => x = .returned (.bool (rightH h)) ∧ Only Nil w w' := by
  obtain ⟨l, t, f, s⟩ := h
  unfold rightH
  dsimp only
  cases h1 : decide (0 ≤ l)
  ·
    go_enter Tryd.func9, Tryd.ntmps9
    go_wp2
    go_ret
    exact ⟨rfl, (Only.refl _ _).alloc _⟩
  cases h2 : decide (l < 16777216)
  ·
    go_enter Tryd.func9, Tryd.ntmps9
    go_wp2
    go_ret
    exact ⟨rfl, (Only.refl _ _).alloc _⟩
  cases h3 : decide (0 ≤ t)
  ·
    go_enter Tryd.func9, Tryd.ntmps9
    go_wp2
    go_ret
    exact ⟨rfl, (Only.refl _ _).alloc _⟩
  cases h4 : decide (t < 256)
  ·
    go_enter Tryd.func9, Tryd.ntmps9
    go_wp2
    go_ret
    exact ⟨rfl, (Only.refl _ _).alloc _⟩
  cases h5 : decide (0 ≤ f)
  ·
    go_enter Tryd.func9, Tryd.ntmps9
    go_wp2
    go_ret
    exact ⟨rfl, (Only.refl _ _).alloc _⟩
  cases h6 : decide (f < 256)
  ·
    go_enter Tryd.func9, Tryd.ntmps9
    go_wp2
    go_ret
    exact ⟨rfl, (Only.refl _ _).alloc _⟩
  cases h7 : decide (0 ≤ s)
  ·
    go_enter Tryd.func9, Tryd.ntmps9
    go_wp2
    go_ret
    exact ⟨rfl, (Only.refl _ _).alloc _⟩
  ·
    go_enter Tryd.func9, Tryd.ntmps9
    go_wp2
    go_ret
    exact ⟨rfl, (Only.refl _ _).alloc _⟩
theorem chk_num (N : Int) (wd : Int) (h1 : 1 ≤ wd) (h4 : wd ≤ 4) : chkE' ⟨N, wd, noS⟩ = 0 ↔ 0 ≤ N ∧ N < capN wd := by
  unfold chkE' chkB
  dsimp only
  rw [if_neg (by omega)]
  have hw : wd = 1 ∨ wd = 2 ∨ wd = 3 ∨ wd = 4 := by omega
  rcases hw with rfl | rfl | rfl | rfl <;> simp [capN] <;> omega
theorem layE_head (h : Hd) : layE h.pcs = 0 ↔ (0 ≤ h.l ∧ h.l < 16777216) ∧ (0 ≤ h.t ∧ h.t < 256) ∧ (0 ≤ h.f ∧ h.f < 256) ∧ (0 ≤ h.s ∧ h.s < 4294967296) := by
  have a1 := chk_num h.l 3 (by decide) (by decide)
  have a2 := chk_num h.t 1 (by decide) (by decide)
  have a3 := chk_num h.f 1 (by decide) (by decide)
  have a4 := chk_num h.s 4 (by decide) (by decide)
  rw [show capN 3 = 16777216 from rfl] at a1
  rw [show capN 1 = 256 from rfl] at a2 a3
  rw [show capN 4 = 4294967296 from rfl] at a4
  have hs : sumL h.pcs = 9 := rfl
  rw [← a1, ← a2, ← a3, ← a4]
  unfold layE Hd.pcs
  rw [show sumL [⟨h.l, 3, noS⟩, ⟨h.t, 1, noS⟩, ⟨h.f, 1, noS⟩, ⟨h.s, 4, noS⟩] = 9 from rfl]
  simp only [chkAll]
  by_cases e1 : chkE' ⟨h.l, 3, noS⟩ = 0 <;> by_cases e2 : chkE' ⟨h.t, 1, noS⟩ = 0 <;> by_cases e3 : chkE' ⟨h.f, 1, noS⟩ = 0 <;> by_cases e4 : chkE' ⟨h.s, 4, noS⟩ = 0 <;> simp [e1, e2, e3, e4]
theorem may_right (h : Hd) : h.may = rightH h := by
  rw [Bool.eq_iff_iff]
  unfold Hd.may rightH
  simp only [Bool.and_eq_true, decide_eq_true_eq, layE_head]
  omega
def layR (h : Hd) : ByteArray := strOf (numB h.l 3 ++ numB h.t 1 ++ numB h.f 1 ++ numB h.s 4)
theorem S_right {h : Hd} (hr : rightH h = true) : h.S = layR h ∧ h.E = 0 := by
  have hm : h.may = true := by rw [may_right, hr]
  refine ⟨?_, by unfold Hd.E; rw [if_pos hm]⟩
  unfold Hd.S
  rw [if_pos hm]
  have he : layE h.pcs = 0 := by
    unfold Hd.may at hm
    simp at hm
    exact hm.2
  unfold layS layR
  rw [if_pos he]
  simp [layL, Hd.pcs, bytesOf]
theorem S_wrong {h : Hd} (hr : rightH h = false) : h.S = noS ∧ h.E = 2 := by
  have hm : ¬ h.may = true := by rw [may_right, hr]; simp
  exact ⟨by unfold Hd.S; rw [if_neg hm], by unfold Hd.E; rw [if_neg hm]⟩
theorem str_add2 (I J : List UInt8) : strOf I ++ strOf J = strOf (I ++ J) := by
  apply ByteArray.ext
  apply Array.toList_inj.1
  simp [strOf, ByteArray.data_append]
theorem idx_dec (S : ByteArray) (i : Nat) (h : i < S.size) : decN ((S.data.toList.drop i).take 1) = (S[i].toNat : Int) := by
  rw [List.drop_eq_getElem_cons (by simpa using h)]
  simp [decN]
  rfl
end Go.Proofs.YtjgoklccnecjcaaDoor
