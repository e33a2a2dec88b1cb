/- How a header is read. -/
import Derived.Test.YtjgoklccnecjcaaDoorHeadPut
import Derived.Test.YtjgoklccnecjcaaDoorMid
namespace Go.Proofs.YtjgoklccnecjcaaDoor
open Go.RowKit

def hdOf (S : ByteArray) : Hd := ⟨decN (S.data.toList.take 3), decN ((S.data.toList.drop 3).take 1), decN ((S.data.toList.drop 4).take 1), decN ((S.data.toList.drop 5).take 4)⟩
def getV (h : Hd) (e : Int) : Value := .tuple #[.agg #[.int .i64 h.l, .int .i64 h.t, .int .i64 h.f, .int .i64 h.s], .int .i64 e]
def getR (S : ByteArray) : Value := if S.size < 9 then getV ⟨0, 0, 0, 0⟩ 5 else if 2147483647 < (hdOf S).s then getV ⟨0, 0, 0, 0⟩ 6 else getV (hdOf S) 0
set_option maxHeartbeats 4000000 in
theorem Get_any (S : ByteArray) (w : World) : Calls Tryd.prog 7 #[.string S] w fun x w' => x = .returned (getR S) ∧ Only Nil w w' := by
  by_cases h9 : S.size < 9
  · have e1 : Hid (getR S = getV ⟨0, 0, 0, 0⟩ 5) := Lib.hid (by unfold getR; rw [if_pos h9])
    generalize getR S = V at e1 ⊢
    go_enter Tryd.func7, Tryd.ntmps7
    go_wp2
    exact bodyPost_ret (v := .tuple #[.agg #[.int .i64 0, .int .i64 0, .int .i64 0, .int .i64 0], .int .i64 5]) (by simp [results, Tryd.results7, go_sem]) rfl ⟨by rw [e1.out]; rfl, (Only.refl _ _).alloc _⟩
  · have hu1 : ∀ (b : Nat) (W : World), Sc W b (S) false → Calls Tryd.prog 20 #[.pointer (some ⟨b, 0, none⟩), .int .i64 3] W (TkPost W b (.int .i64 (decN (S.data.toList.take 3))) (S.extract 3 S.size) false) := fun b W h => SU_in b S 3 W h (by decide) (by decide) (by omega)
    have hu2 : ∀ (b : Nat) (W : World), Sc W b (S.extract 3 S.size) false → Calls Tryd.prog 20 #[.pointer (some ⟨b, 0, none⟩), .int .i64 1] W (TkPost W b (.int .i64 (decN ((S.data.toList.drop 3).take 1))) (S.extract 4 S.size) false) := fun b W h => SU_mid b S 3 1 W h (by decide) (by decide) (by omega)
    have hu3 : ∀ (b : Nat) (W : World), Sc W b (S.extract 4 S.size) false → Calls Tryd.prog 20 #[.pointer (some ⟨b, 0, none⟩), .int .i64 1] W (TkPost W b (.int .i64 (decN ((S.data.toList.drop 4).take 1))) (S.extract 5 S.size) false) := fun b W h => SU_mid b S 4 1 W h (by decide) (by decide) (by omega)
    have hu4 : ∀ (b : Nat) (W : World), Sc W b (S.extract 5 S.size) false → Calls Tryd.prog 20 #[.pointer (some ⟨b, 0, none⟩), .int .i64 4] W (TkPost W b (.int .i64 (decN ((S.data.toList.drop 5).take 4))) (S.extract 9 S.size) false) := fun b W h => SU_mid b S 5 4 W h (by decide) (by decide) (by omega)
    have hd : hdOf S = ⟨decN (S.data.toList.take 3), decN ((S.data.toList.drop 3).take 1), decN ((S.data.toList.drop 4).take 1), decN ((S.data.toList.drop 5).take 4)⟩ := rfl
    generalize decN (S.data.toList.take 3) = l at hu1 hd
    generalize decN ((S.data.toList.drop 3).take 1) = t at hu2 hd
    generalize decN ((S.data.toList.drop 4).take 1) = f at hu3 hd
    generalize decN ((S.data.toList.drop 5).take 4) = s at hu4 hd
    have HU1 := Lib.hid hu1
    have HU2 := Lib.hid hu2
    have HU3 := Lib.hid hu3
    have HU4 := Lib.hid hu4
    have hR0 : Blk (w.alloc (.cells #[.int .i64 0, .int .i64 0, .int .i64 0, .int .i64 0] 23)) w.heap.size 23 #[.int .i64 0, .int .i64 0, .int .i64 0, .int .i64 0] := Blk.new _ _ _
    have hx0 := (Only.refl Nil w).alloc (.cells #[.int .i64 0, .int .i64 0, .int .i64 0, .int .i64 0] 23)
    clear hu1 hu2 hu3 hu4
    by_cases hs : 2147483647 < s
    · have e1 : Hid (getR S = getV ⟨0, 0, 0, 0⟩ 6) := Lib.hid (by unfold getR; rw [if_neg h9, hd, if_pos hs])
      generalize getR S = V at e1 ⊢
      clear hd
      go_enter Tryd.func7, Tryd.ntmps7
      go_wp2_with (first
        | (go_at_call 19; (with_reducible refine (Over_any S _).mono ?_); rintro e w1 ⟨b, rfl, hb, ho1, hS1⟩; have hR1 := (Blk.kept hR0 ho1 (fun hh => hh)).alloc (.cells #[.int .i64 0, .int .i64 0, .int .i64 0, .int .i64 0] 23); have hS1' := Blk.alloc hS1 (.cells #[.int .i64 0, .int .i64 0, .int .i64 0, .int .i64 0] 23); have hG1 := Blk.new w1 23 #[.int .i64 0, .int .i64 0, .int .i64 0, .int .i64 0]; have hbl : b < w1.heap.size := hS1.lt; have hrl : w.heap.size < b := by (simp at hb; omega))
        | (go_at_call 20; have _t := hG4; (with_reducible refine (HU4.out b _ hS4).mono ?_); rintro e w5 ⟨rfl, ho5, hS5⟩; have hG5 := hG4.kept ho5 (by unfold One; omega); have hR5 := hR4.kept ho5 (by unfold One; omega); have fg := hG5.frozen 3; have cg := hG5.cell 3; have hG6 := hG5.set 3 (.int .i64 s); have hR6 := hR5.far (p := ⟨w1.heap.size, 3, none⟩) (by show w.heap.size ≠ w1.heap.size; omega) (.int .i64 s); have dg0 := hG6.cell 0; have dg1 := hG6.cell 1; have dg2 := hG6.cell 2; have dg3 := hG6.cell 3; have fr0 := hR6.frozen 0; have fr1 := hR6.frozen 1; have fr2 := hR6.frozen 2; have fr3 := hR6.frozen 3; have cr0 := hR6.cell 0; have cr1 := hR6.cell 1; have cr2 := hR6.cell 2; have cr3 := hR6.cell 3)
        | (go_at_call 20; have _t := hG3; (with_reducible refine (HU3.out b _ hS3).mono ?_); rintro e w4 ⟨rfl, ho4, hS4a⟩; have hG4a := hG3.kept ho4 (by unfold One; omega); have hR4a := hR3.kept ho4 (by unfold One; omega); have fg := hG4a.frozen 2; have cg := hG4a.cell 2; have hG4 := hG4a.set 2 (.int .i64 f); have hR4 := hR4a.far (p := ⟨w1.heap.size, 2, none⟩) (by show w.heap.size ≠ w1.heap.size; omega) (.int .i64 f); have hS4 := Blk.far hS4a (p := ⟨w1.heap.size, 2, none⟩) (by show b ≠ w1.heap.size; omega) (.int .i64 f))
        | (go_at_call 20; have _t := hG2; (with_reducible refine (HU2.out b _ hS2).mono ?_); rintro e w3 ⟨rfl, ho3, hS3a⟩; have hG3a := hG2.kept ho3 (by unfold One; omega); have hR3a := hR2.kept ho3 (by unfold One; omega); have fg := hG3a.frozen 1; have cg := hG3a.cell 1; have hG3 := hG3a.set 1 (.int .i64 t); have hR3 := hR3a.far (p := ⟨w1.heap.size, 1, none⟩) (by show w.heap.size ≠ w1.heap.size; omega) (.int .i64 t); have hS3 := Blk.far hS3a (p := ⟨w1.heap.size, 1, none⟩) (by show b ≠ w1.heap.size; omega) (.int .i64 t))
        | (go_at_call 20; (with_reducible refine (HU1.out b _ hS1').mono ?_); rintro e w2 ⟨rfl, ho2, hS2a⟩; have hG2a := hG1.kept ho2 (by unfold One; omega); have hR2a := hR1.kept ho2 (by unfold One; omega); have fg := hG2a.frozen 0; have cg := hG2a.cell 0; have hG2 := hG2a.set 0 (.int .i64 l); have hR2 := hR2a.far (p := ⟨w1.heap.size, 0, none⟩) (by show w.heap.size ≠ w1.heap.size; omega) (.int .i64 l); have hS2 := Blk.far hS2a (p := ⟨w1.heap.size, 0, none⟩) (by show b ≠ w1.heap.size; omega) (.int .i64 l))
        )
      have hF := ((((hR6.set 0 (.int .i64 0)).set 1 (.int .i64 0)).set 2 (.int .i64 0)).set 3 (.int .i64 0))
      have k0 := hF.cell 0
      have k1 := hF.cell 1
      have k2 := hF.cell 2
      have k3 := hF.cell 3
      have hq1 := hx0.trans ho1
      have hnew : ∀ i, i < w.heap.size → One b i → Nil i := fun i hi hh => by unfold One at hh; omega
      have hw1 : w.heap.size ≤ w1.heap.size := by omega
      have hq2 := ((((hq1.alloc (.cells #[.int .i64 0, .int .i64 0, .int .i64 0, .int .i64 0] 23)).trans_new (S' := One b) ho2 hnew).setNew hw1 0 (.int .i64 l)).trans_new (S' := One b) ho3 hnew).setNew hw1 1 (.int .i64 t)
      have hq3 := ((hq2.trans_new (S' := One b) ho4 hnew).setNew hw1 2 (.int .i64 f)).trans_new (S' := One b) ho5 hnew
      have hq4 := ((((hq3.setNew hw1 3 (.int .i64 s)).setNew (Nat.le_refl _) 0 (.int .i64 0)).setNew (Nat.le_refl _) 1 (.int .i64 0)).setNew (Nat.le_refl _) 2 (.int .i64 0)).setNew (Nat.le_refl _) 3 (.int .i64 0)
      exact bodyPost_ret (v := .tuple #[.agg #[.int .i64 0, .int .i64 0, .int .i64 0, .int .i64 0], .int .i64 6]) (by simp [results, Tryd.results7, go_sem, k0, k1, k2, k3]) rfl ⟨by rw [e1.out]; rfl, hq4⟩
    · have e1 : Hid (getR S = getV ⟨l, t, f, s⟩ 0) := Lib.hid (by unfold getR; rw [if_neg h9, hd, if_neg hs])
      generalize getR S = V at e1 ⊢
      clear hd
      go_enter Tryd.func7, Tryd.ntmps7
      go_wp2_with (first
        | (go_at_call 19; (with_reducible refine (Over_any S _).mono ?_); rintro e w1 ⟨b, rfl, hb, ho1, hS1⟩; have hR1 := (Blk.kept hR0 ho1 (fun hh => hh)).alloc (.cells #[.int .i64 0, .int .i64 0, .int .i64 0, .int .i64 0] 23); have hS1' := Blk.alloc hS1 (.cells #[.int .i64 0, .int .i64 0, .int .i64 0, .int .i64 0] 23); have hG1 := Blk.new w1 23 #[.int .i64 0, .int .i64 0, .int .i64 0, .int .i64 0]; have hbl : b < w1.heap.size := hS1.lt; have hrl : w.heap.size < b := by (simp at hb; omega))
        | (go_at_call 20; have _t := hG4; (with_reducible refine (HU4.out b _ hS4).mono ?_); rintro e w5 ⟨rfl, ho5, hS5⟩; have hG5 := hG4.kept ho5 (by unfold One; omega); have hR5 := hR4.kept ho5 (by unfold One; omega); have fg := hG5.frozen 3; have cg := hG5.cell 3; have hG6 := hG5.set 3 (.int .i64 s); have hR6 := hR5.far (p := ⟨w1.heap.size, 3, none⟩) (by show w.heap.size ≠ w1.heap.size; omega) (.int .i64 s); have dg0 := hG6.cell 0; have dg1 := hG6.cell 1; have dg2 := hG6.cell 2; have dg3 := hG6.cell 3; have fr0 := hR6.frozen 0; have fr1 := hR6.frozen 1; have fr2 := hR6.frozen 2; have fr3 := hR6.frozen 3; have cr0 := hR6.cell 0; have cr1 := hR6.cell 1; have cr2 := hR6.cell 2; have cr3 := hR6.cell 3)
        | (go_at_call 20; have _t := hG3; (with_reducible refine (HU3.out b _ hS3).mono ?_); rintro e w4 ⟨rfl, ho4, hS4a⟩; have hG4a := hG3.kept ho4 (by unfold One; omega); have hR4a := hR3.kept ho4 (by unfold One; omega); have fg := hG4a.frozen 2; have cg := hG4a.cell 2; have hG4 := hG4a.set 2 (.int .i64 f); have hR4 := hR4a.far (p := ⟨w1.heap.size, 2, none⟩) (by show w.heap.size ≠ w1.heap.size; omega) (.int .i64 f); have hS4 := Blk.far hS4a (p := ⟨w1.heap.size, 2, none⟩) (by show b ≠ w1.heap.size; omega) (.int .i64 f))
        | (go_at_call 20; have _t := hG2; (with_reducible refine (HU2.out b _ hS2).mono ?_); rintro e w3 ⟨rfl, ho3, hS3a⟩; have hG3a := hG2.kept ho3 (by unfold One; omega); have hR3a := hR2.kept ho3 (by unfold One; omega); have fg := hG3a.frozen 1; have cg := hG3a.cell 1; have hG3 := hG3a.set 1 (.int .i64 t); have hR3 := hR3a.far (p := ⟨w1.heap.size, 1, none⟩) (by show w.heap.size ≠ w1.heap.size; omega) (.int .i64 t); have hS3 := Blk.far hS3a (p := ⟨w1.heap.size, 1, none⟩) (by show b ≠ w1.heap.size; omega) (.int .i64 t))
        | (go_at_call 20; (with_reducible refine (HU1.out b _ hS1').mono ?_); rintro e w2 ⟨rfl, ho2, hS2a⟩; have hG2a := hG1.kept ho2 (by unfold One; omega); have hR2a := hR1.kept ho2 (by unfold One; omega); have fg := hG2a.frozen 0; have cg := hG2a.cell 0; have hG2 := hG2a.set 0 (.int .i64 l); have hR2 := hR2a.far (p := ⟨w1.heap.size, 0, none⟩) (by show w.heap.size ≠ w1.heap.size; omega) (.int .i64 l); have hS2 := Blk.far hS2a (p := ⟨w1.heap.size, 0, none⟩) (by show b ≠ w1.heap.size; omega) (.int .i64 l))
        )
      have hF := ((((hR6.set 0 (.int .i64 l)).set 1 (.int .i64 t)).set 2 (.int .i64 f)).set 3 (.int .i64 s))
      have k0 := hF.cell 0
      have k1 := hF.cell 1
      have k2 := hF.cell 2
      have k3 := hF.cell 3
      have hq1 := hx0.trans ho1
      have hnew : ∀ i, i < w.heap.size → One b i → Nil i := fun i hi hh => by unfold One at hh; omega
      have hw1 : w.heap.size ≤ w1.heap.size := by omega
      have hq2 := ((((hq1.alloc (.cells #[.int .i64 0, .int .i64 0, .int .i64 0, .int .i64 0] 23)).trans_new (S' := One b) ho2 hnew).setNew hw1 0 (.int .i64 l)).trans_new (S' := One b) ho3 hnew).setNew hw1 1 (.int .i64 t)
      have hq3 := ((hq2.trans_new (S' := One b) ho4 hnew).setNew hw1 2 (.int .i64 f)).trans_new (S' := One b) ho5 hnew
      have hq4 := ((((hq3.setNew hw1 3 (.int .i64 s)).setNew (Nat.le_refl _) 0 (.int .i64 l)).setNew (Nat.le_refl _) 1 (.int .i64 t)).setNew (Nat.le_refl _) 2 (.int .i64 f)).setNew (Nat.le_refl _) 3 (.int .i64 s)
      exact bodyPost_ret (v := .tuple #[.agg #[.int .i64 l, .int .i64 t, .int .i64 f, .int .i64 s], .int .i64 0]) (by simp [results, Tryd.results7, go_sem, k0, k1, k2, k3]) rfl ⟨by rw [e1.out]; rfl, hq4⟩
end Go.Proofs.YtjgoklccnecjcaaDoor
