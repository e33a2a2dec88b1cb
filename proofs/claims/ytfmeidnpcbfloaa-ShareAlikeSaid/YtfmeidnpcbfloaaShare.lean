/- Claims, as they count: the table of a call's own, as one row of numbers. -/
import Derived.Test.YtfmeidnpcbfloaaRows
import Derived.Test.YtfmeidnpcbfloaaInts
import Derived.Test.YtfmeidnpcbfloaaCopy
namespace Go.Proofs.Ytfmeidnpcbfloaa
open Go.RowKit

abbrev ints (F : List Int) : Array Value := (F.map (Value.int .i64)).toArray
theorem Blk.cellI {w : World} {b : Nat} {t : TypeId} {F : List Int} (h : Blk w b t (ints F)) {i : Nat} {x : Int} (hx : F[i]? = some x) : w.cell? ⟨b, i, none⟩ = some (.int .i64 x) := by
  rw [h.cell i]
  simp [hx]
theorem Blk.setI {w : World} {b : Nat} {t : TypeId} {F : List Int} (h : Blk w b t (ints F)) (i : Nat) (x : Int) : Blk (w.setCell ⟨b, i, none⟩ (.int .i64 x)) b t (ints (F.set i x)) := by
  have := h.set i (.int .i64 x)
  have e : (ints F).setIfInBounds i (.int .i64 x) = ints (F.set i x) := by
    apply Array.toList_inj.1
    simp [ints, List.map_set]
  rwa [e] at this
/-- the table: what is left, how many, wants, weights, what each has got -/
def mkF (l n : Int) (W V G : List Int) : List Int := l :: n :: (W ++ (V ++ G))
structure Is3 (W V G : List Int) : Prop where
  w : W.length = 256
  v : V.length = 256
  g : G.length = 256
theorem Is3.setW {W V G : List Int} (h : Is3 W V G) (i : Nat) (x : Int) : Is3 (W.set i x) V G := ⟨by rw [List.length_set]; exact h.w, h.v, h.g⟩
theorem Is3.setV {W V G : List Int} (h : Is3 W V G) (i : Nat) (x : Int) : Is3 W (V.set i x) G := ⟨h.w, by rw [List.length_set]; exact h.v, h.g⟩
theorem Is3.setG {W V G : List Int} (h : Is3 W V G) (i : Nat) (x : Int) : Is3 W V (G.set i x) := ⟨h.w, h.v, by rw [List.length_set]; exact h.g⟩
section
variable {l n : Int} {W V G : List Int}
theorem mkF_l : (mkF l n W V G)[0]? = some l := rfl
theorem mkF_n : (mkF l n W V G)[1]? = some n := rfl
theorem mkF_w (h : Is3 W V G) {i : Nat} (hi : i < 256) : (mkF l n W V G)[2 + i]? = some (W.getD i 0) := by
  unfold mkF
  rw [show 2 + i = i + 1 + 1 by omega, List.getElem?_cons_succ, List.getElem?_cons_succ, List.getElem?_append_left (by rw [h.w]; exact hi)]
  rw [List.getD_eq_getElem?_getD, List.getElem?_eq_getElem (by rw [h.w]; exact hi)]
  rfl
theorem mkF_v (h : Is3 W V G) {i : Nat} (hi : i < 256) : (mkF l n W V G)[258 + i]? = some (V.getD i 0) := by
  unfold mkF
  rw [show 258 + i = (256 + i) + 1 + 1 by omega, List.getElem?_cons_succ, List.getElem?_cons_succ, List.getElem?_append_right (by rw [h.w]; omega), h.w, show 256 + i - 256 = i by omega, List.getElem?_append_left (by rw [h.v]; exact hi)]
  rw [List.getD_eq_getElem?_getD, List.getElem?_eq_getElem (by rw [h.v]; exact hi)]
  rfl
theorem mkF_g (h : Is3 W V G) {i : Nat} (hi : i < 256) : (mkF l n W V G)[514 + i]? = some (G.getD i 0) := by
  unfold mkF
  rw [show 514 + i = (512 + i) + 1 + 1 by omega, List.getElem?_cons_succ, List.getElem?_cons_succ, List.getElem?_append_right (by rw [h.w]; omega), h.w, List.getElem?_append_right (by rw [h.v]; omega), h.v, show 512 + i - 256 - 256 = i by omega]
  rw [List.getD_eq_getElem?_getD, List.getElem?_eq_getElem (by rw [h.g]; exact hi)]
  rfl
theorem mkF_setL (x : Int) : (mkF l n W V G).set 0 x = mkF x n W V G := rfl
theorem mkF_setW (h : Is3 W V G) {i : Nat} (hi : i < 256) (x : Int) : (mkF l n W V G).set (2 + i) x = mkF l n (W.set i x) V G := by
  unfold mkF
  rw [show 2 + i = i + 1 + 1 by omega, List.set_cons_succ, List.set_cons_succ, List.set_append_left _ _ (by rw [h.w]; exact hi)]
theorem mkF_setV (h : Is3 W V G) {i : Nat} (hi : i < 256) (x : Int) : (mkF l n W V G).set (258 + i) x = mkF l n W (V.set i x) G := by
  unfold mkF
  rw [show 258 + i = (256 + i) + 1 + 1 by omega, List.set_cons_succ, List.set_cons_succ, List.set_append_right _ _ (by rw [h.w]; omega), h.w, show 256 + i - 256 = i by omega, List.set_append_left _ _ (by rw [h.v]; exact hi)]
theorem mkF_setG (h : Is3 W V G) {i : Nat} (hi : i < 256) (x : Int) : (mkF l n W V G).set (514 + i) x = mkF l n W V (G.set i x) := by
  unfold mkF
  rw [show 514 + i = (512 + i) + 1 + 1 by omega, List.set_cons_succ, List.set_cons_succ, List.set_append_right _ _ (by rw [h.w]; omega), h.w, List.set_append_right _ _ (by rw [h.v]; omega), h.v, show 512 + i - 256 - 256 = i by omega]
end
/-- the object -/
def Ts (w : World) (b : Nat) (l : Int) (n : Nat) (W V G : List Int) : Prop := Blk w b 45 (ints (mkF l n W V G)) ∧ Is3 W V G
def z256 : List Int := List.replicate 256 0
theorem z256_len : z256.length = 256 := List.length_replicate
theorem is3z : Is3 z256 z256 z256 := ⟨z256_len, z256_len, z256_len⟩
theorem z770 (l n : Int) : ((ints (List.replicate 770 0)).setIfInBounds 0 (.int .i64 l)).setIfInBounds 1 (.int .i64 n) = ints (mkF l n z256 z256 z256) := by
  have e : List.replicate 770 (0 : Int) = 0 :: 0 :: (z256 ++ (z256 ++ z256)) := by
    unfold z256
    rw [List.replicate_append_replicate, List.replicate_append_replicate]
    rfl
  apply Array.toList_inj.1
  rw [e]
  simp [ints, mkF]
theorem zero_tb (w : World) : Sem.run Try.prog (zeroValue 45) w = .ok (.agg (ints (List.replicate 770 0))) w := by
  first
  | kernel_rfl
  | rfl
/-- a claim, as it counts -/
structure Cm where
  wt : Int
  wg : Int
def encC (c : Cm) : List Value := [.int .i64 c.wt, .int .i64 c.wg]
def wantC (x : Int) : Int := if 2147483647 < (if x < 0 then 0 else x) then 2147483647 else if x < 0 then 0 else x
def wghtC (x : Int) : Int := if 256 < (if x < 1 then 1 else x) then 256 else if x < 1 then 1 else x
end Go.Proofs.Ytfmeidnpcbfloaa
