/- For every beginning and every list of calls: what is spent of a window is never more than what it began with, grew, and was resized by (the statement WindowSpends, as it is given). No condition. -/
import Derived.Test.YtcokkomfhjdbcaaDo05
import Derived.Test.YtcokkomfhjdbcaaArgs
namespace Go.Proofs.Ytcokkomfhjdbcaa
open Go.RowKit

theorem growE_zero {n k : Int} (h : growE n k = 0) : growN n k = n + k ∧ 1 ≤ k ∧ k ≤ 2147483647 ∧ winOk (n + k) := by
  unfold growE at h
  split at h
  · rename_i h1
    unfold chE at h
    split at h
    · rename_i h2
      refine ⟨by simp [growN, h1, chN, h2], h1.1, h1.2, ?_⟩
      simpa [chB, winOk] using h2
    · omega
  · omega
theorem growE_pos {n k : Int} (h : ¬ growE n k = 0) : growN n k = n := by
  unfold growE at h
  unfold growN
  split at h
  · rename_i h1
    unfold chE at h
    rw [if_pos h1]
    unfold chN
    split at h
    · omega
    · rename_i h2
      rw [if_neg h2]
  · rename_i h1
    rw [if_neg h1]
theorem resE_zero {n x y : Int} (h : resE n x y = 0) : resN n x y = n + (y - x) ∧ (0 ≤ x ∧ x ≤ 2147483647) ∧ (0 ≤ y ∧ y ≤ 2147483647) ∧ winOk (n + (y - x)) := by
  unfold resE at h
  split at h
  · rename_i h1
    unfold chE at h
    split at h
    · rename_i h2
      have h3 : (0 ≤ x ∧ x ≤ 2147483647) ∧ (0 ≤ y ∧ y ≤ 2147483647) := by simpa [szB] using h1
      refine ⟨by simp [resN, h1, chN, h2], h3.1, h3.2, ?_⟩
      simpa [chB, winOk] using h2
    · omega
  · omega
theorem resE_pos {n x y : Int} (h : ¬ resE n x y = 0) : resN n x y = n := by
  unfold resE at h
  unfold resN
  split at h
  · rename_i h1
    unfold chE at h
    rw [if_pos h1]
    unfold chN
    split at h
    · omega
    · rename_i h2
      rw [if_neg h2]
  · rename_i h1
    rw [if_neg h1]
theorem spE_zero {n k : Int} (h : spE n k = 0) : spN n k = n - k ∧ 0 ≤ k ∧ (0 < k → k ≤ n) := by
  unfold spE at h
  unfold spN
  split at h
  · omega
  · rename_i h1
    rw [if_neg h1]
    split at h
    · omega
    · rename_i h2
      rw [if_neg h2]
      omega
theorem spE_pos {n k : Int} (h : ¬ spE n k = 0) : spN n k = n := by
  unfold spE at h
  unfold spN
  split at h
  · rename_i h1
    rw [if_pos h1]
  · rename_i h1
    rw [if_neg h1]
    split at h
    · rename_i h2
      rw [if_pos h2]
    · omega

set_option maxRecDepth 100000 in
set_option maxHeartbeats 4000000 in
theorem windowSpends_walk (v0 v1 : Value) (w : World) (h0 : Kd.Fit w (.int .u32) v0) (h1 : Kd.Fit w (.slc (.agg [.int .i64, .int .i64, .int .i64])) v1) :
    Calls Try.prog 4 #[v0, v1] w fun e w' => e = .returned (.bool true) ∧ Below w.heap.size w w' := by
  obtain ⟨n, rfl, hn⟩ := Kd.int_fit h0
  obtain ⟨A, len, cap, rfl, hl⟩ := Kd.slc_fit h1
  obtain ⟨hn1, hn2⟩ := u32_of hn
  clear hn h0 h1
  have hc1 : 0 ≤ n % 2147483648 := by omega
  have hc2 : n % 2147483648 ≤ 2147483647 := by omega
  go_enter Try.func4, Try.ntmps4
  go_wp2_with (go_at_call 6; refine (new_any _ _ ⟨hc1, hc2⟩).mono ?_; rintro e w1 ⟨b, rfl, hb, ho1, hW1⟩)
  go_loopw [8, 9, 10] (fun gg ss i wr => ∃ (k : Nat) (m g s : Int), k ≤ len ∧ i = .int .i64 k ∧ gg = .int .i64 g ∧ ss = .int .i64 s ∧ winOk m ∧ Win wr b m ∧ m = g - s ∧ 0 ≤ s ∧ s ≤ 2147483647 * (k : Int) ∧ Below w.heap.size w wr) (fun _ _ i _ => len - (intOf i).toNat)
  case atStart => exact ⟨0, _, _, _, Nat.zero_le _, rfl, rfl, rfl, ⟨by omega, by omega⟩, hW1, by omega, by omega, by omega, ho1.below (Nat.le_refl _) (fun _ _ => id)⟩
  case round =>
    obtain ⟨k, m, g, s, hk, rfl, rfl, rfl, hm, hW, hgs, hs0, hs1, hB⟩ := hrel
    have hmax : len ≤ 9223372036854775807 := Nat.le_trans hl.1 hl.2.1
    by_cases hlt : k < len
    · by_cases h100 : k < 100
      · obtain ⟨b', off, rfl, hb', cs, hcl, hcs, his⟩ := hl.at (by decide) hlt
        obtain ⟨kd, x, t, rfl, _, hx, ht⟩ := Kd.list_ints3 his
        have f0 := (hB.cell (p := ⟨b', _, none⟩) hb').trans (hcs 0 (by decide))
        have f1 := (hB.cell (p := ⟨b', _, none⟩) hb').trans (hcs 1 (by decide))
        have f2 := (hB.cell (p := ⟨b', _, none⟩) hb').trans (hcs 2 (by decide))
        simp [Kd.cells, Kd.cellsL] at f0 f1 f2
        clear his hcs
        have hx' := i64Ok_of hx
        have ht' := i64Ok_of ht
        obtain ⟨hm1, hm2⟩ := id hm
        clear hx ht hcl
        have hne : ¬ One b wr.heap.size := by have := hW.lt; unfold One; omega
        have hga : m ≤ g - s := by omega
        have hgb : g - s ≤ m := by omega
        clear hgs
        have hk0 : (kd = 0 ∨ kd = 1) ∨ kd = 4 ∨ (kd ≠ 0 ∧ kd ≠ 1 ∧ kd ≠ 4) := by omega
        rcases hk0 with hk0 | hk0 | hk0
        · have hd := fun (W : World) (hW : Win W b m) => grow_any b m x W hW hm
          by_cases hE : growE m x = 0
          · obtain ⟨e1, e2, e3, e4, e5⟩ := growE_zero hE
            rw [hE, e1] at hd
            clear hE e1
            rcases hk0 with rfl | rfl
            ·
              go_wp2_with (first
                | (go_at_call 11; refine (hd _ (hW.alloc _)).mono ?_; rintro e w2 ⟨rfl, ho2, hW2⟩; have hA := (Blk.new wr 31 #[.int .i64 (0), .int .i64 x, .int .i64 t]).kept ho2 hne; have g1 : w2.cell? ⟨wr.heap.size, 1, none⟩ = some (.int .i64 x) := hA.cell 1; have g2 : w2.cell? ⟨wr.heap.size, 2, none⟩ = some (.int .i64 t) := hA.cell 2; clear hA)
                | (go_at_call 9; refine (Size_any b _ _ hW2).mono ?_; rintro e w3 ⟨rfl, rfl⟩))
              go_roundw
              case rel => exact ⟨k + 1, m + x, g + x, s, by omega, by go_num, by go_num, by go_num, ⟨by omega, by omega⟩, hW2, by omega, by omega, by omega, (hB.alloc hB.size _).trans (ho2.below (by have := hB.size; simp; omega) (fun i hi h => by unfold One at h; omega))⟩
              case measure => simp [intOf]; omega
            ·
              go_wp2_with (first
                | (go_at_call 11; refine (hd _ (hW.alloc _)).mono ?_; rintro e w2 ⟨rfl, ho2, hW2⟩; have hA := (Blk.new wr 31 #[.int .i64 (1), .int .i64 x, .int .i64 t]).kept ho2 hne; have g1 : w2.cell? ⟨wr.heap.size, 1, none⟩ = some (.int .i64 x) := hA.cell 1; have g2 : w2.cell? ⟨wr.heap.size, 2, none⟩ = some (.int .i64 t) := hA.cell 2; clear hA)
                | (go_at_call 9; refine (Size_any b _ _ hW2).mono ?_; rintro e w3 ⟨rfl, rfl⟩))
              go_roundw
              case rel => exact ⟨k + 1, m + x, g + x, s, by omega, by go_num, by go_num, by go_num, ⟨by omega, by omega⟩, hW2, by omega, by omega, by omega, (hB.alloc hB.size _).trans (ho2.below (by have := hB.size; simp; omega) (fun i hi h => by unfold One at h; omega))⟩
              case measure => simp [intOf]; omega
          · have e1 := growE_pos hE
            rw [e1] at hd
            generalize growE m x = E at hd hE
            rcases hk0 with rfl | rfl
            ·
              go_wp2_with (first
                | (go_at_call 11; refine (hd _ (hW.alloc _)).mono ?_; rintro e w2 ⟨rfl, ho2, hW2⟩; have hA := (Blk.new wr 31 #[.int .i64 (0), .int .i64 x, .int .i64 t]).kept ho2 hne; have g1 : w2.cell? ⟨wr.heap.size, 1, none⟩ = some (.int .i64 x) := hA.cell 1; have g2 : w2.cell? ⟨wr.heap.size, 2, none⟩ = some (.int .i64 t) := hA.cell 2; clear hA)
                | (go_at_call 9; refine (Size_any b _ _ hW2).mono ?_; rintro e w3 ⟨rfl, rfl⟩))
              go_roundw
              case rel => exact ⟨k + 1, m, g, s, by omega, by go_num, by go_num, by go_num, ⟨by omega, by omega⟩, hW2, by omega, by omega, by omega, (hB.alloc hB.size _).trans (ho2.below (by have := hB.size; simp; omega) (fun i hi h => by unfold One at h; omega))⟩
              case measure => simp [intOf]; omega
            ·
              go_wp2_with (first
                | (go_at_call 11; refine (hd _ (hW.alloc _)).mono ?_; rintro e w2 ⟨rfl, ho2, hW2⟩; have hA := (Blk.new wr 31 #[.int .i64 (1), .int .i64 x, .int .i64 t]).kept ho2 hne; have g1 : w2.cell? ⟨wr.heap.size, 1, none⟩ = some (.int .i64 x) := hA.cell 1; have g2 : w2.cell? ⟨wr.heap.size, 2, none⟩ = some (.int .i64 t) := hA.cell 2; clear hA)
                | (go_at_call 9; refine (Size_any b _ _ hW2).mono ?_; rintro e w3 ⟨rfl, rfl⟩))
              go_roundw
              case rel => exact ⟨k + 1, m, g, s, by omega, by go_num, by go_num, by go_num, ⟨by omega, by omega⟩, hW2, by omega, by omega, by omega, (hB.alloc hB.size _).trans (ho2.below (by have := hB.size; simp; omega) (fun i hi h => by unfold One at h; omega))⟩
              case measure => simp [intOf]; omega
        · subst hk0
          have hd := fun (W : World) (hW : Win W b m) => resize_any b m x t W hW hm
          by_cases hE : resE m x t = 0
          · obtain ⟨e1, ⟨e2, e3⟩, ⟨e4, e5⟩, e6, e7⟩ := resE_zero hE
            rw [hE, e1] at hd
            clear hE e1
            go_wp2_with (first
              | (go_at_call 12; refine (hd _ (hW.alloc _)).mono ?_; rintro e w2 ⟨rfl, ho2, hW2⟩; have hA := (Blk.new wr 31 #[.int .i64 (4), .int .i64 x, .int .i64 t]).kept ho2 hne; have g1 : w2.cell? ⟨wr.heap.size, 1, none⟩ = some (.int .i64 x) := hA.cell 1; have g2 : w2.cell? ⟨wr.heap.size, 2, none⟩ = some (.int .i64 t) := hA.cell 2; clear hA)
              | (go_at_call 9; refine (Size_any b _ _ hW2).mono ?_; rintro e w3 ⟨rfl, rfl⟩))
            go_roundw
            case rel => exact ⟨k + 1, m + (t - x), g + (t - x), s, by omega, by go_num, by go_num, by go_num, ⟨by omega, by omega⟩, hW2, by omega, by omega, by omega, (hB.alloc hB.size _).trans (ho2.below (by have := hB.size; simp; omega) (fun i hi h => by unfold One at h; omega))⟩
            case measure => simp [intOf]; omega
          · have e1 := resE_pos hE
            rw [e1] at hd
            generalize resE m x t = E at hd hE
            go_wp2_with (first
              | (go_at_call 12; refine (hd _ (hW.alloc _)).mono ?_; rintro e w2 ⟨rfl, ho2, hW2⟩; have hA := (Blk.new wr 31 #[.int .i64 (4), .int .i64 x, .int .i64 t]).kept ho2 hne; have g1 : w2.cell? ⟨wr.heap.size, 1, none⟩ = some (.int .i64 x) := hA.cell 1; have g2 : w2.cell? ⟨wr.heap.size, 2, none⟩ = some (.int .i64 t) := hA.cell 2; clear hA)
              | (go_at_call 9; refine (Size_any b _ _ hW2).mono ?_; rintro e w3 ⟨rfl, rfl⟩))
            go_roundw
            case rel => exact ⟨k + 1, m, g, s, by omega, by go_num, by go_num, by go_num, ⟨by omega, by omega⟩, hW2, by omega, by omega, by omega, (hB.alloc hB.size _).trans (ho2.below (by have := hB.size; simp; omega) (fun i hi h => by unfold One at h; omega))⟩
            case measure => simp [intOf]; omega
        · obtain ⟨hk1, hk2, hk3⟩ := hk0
          have hd := fun (W : World) (hW : Win W b m) => spend_any b m x W hW hm hx'
          by_cases hE : spE m x = 0
          · obtain ⟨e1, e2, e3⟩ := spE_zero hE
            rw [hE, e1] at hd
            clear hE e1
            have e4 : x ≤ 2147483647 := by
              by_cases h : 0 < x
              · have := e3 h
                omega
              · omega
            by_cases h : 0 < x
            · have e5 : s + x ≤ g := by
                have := e3 h
                omega
              clear e3
              go_wp2_with (first
                | (go_at_call 13; refine (hd _ (hW.alloc _)).mono ?_; rintro e w2 ⟨rfl, ho2, hW2⟩; have hA := (Blk.new wr 31 #[.int .i64 (kd), .int .i64 x, .int .i64 t]).kept ho2 hne; have g1 : w2.cell? ⟨wr.heap.size, 1, none⟩ = some (.int .i64 x) := hA.cell 1; have g2 : w2.cell? ⟨wr.heap.size, 2, none⟩ = some (.int .i64 t) := hA.cell 2; clear hA)
                | (go_at_call 9; refine (Size_any b _ _ hW2).mono ?_; rintro e w3 ⟨rfl, rfl⟩))
              go_roundw
              case rel => exact ⟨k + 1, m - x, g, s + x, by omega, by go_num, by go_num, by go_num, ⟨by omega, by omega⟩, hW2, by omega, by omega, by omega, (hB.alloc hB.size _).trans (ho2.below (by have := hB.size; simp; omega) (fun i hi h => by unfold One at h; omega))⟩
              case measure => simp [intOf]; omega
            · clear e3
              go_wp2_with (first
                | (go_at_call 13; refine (hd _ (hW.alloc _)).mono ?_; rintro e w2 ⟨rfl, ho2, hW2⟩; have hA := (Blk.new wr 31 #[.int .i64 (kd), .int .i64 x, .int .i64 t]).kept ho2 hne; have g1 : w2.cell? ⟨wr.heap.size, 1, none⟩ = some (.int .i64 x) := hA.cell 1; have g2 : w2.cell? ⟨wr.heap.size, 2, none⟩ = some (.int .i64 t) := hA.cell 2; clear hA)
                | (go_at_call 9; refine (Size_any b _ _ hW2).mono ?_; rintro e w3 ⟨rfl, rfl⟩))
              go_roundw
              case rel => exact ⟨k + 1, m - x, g, s + x, by omega, by go_num, by go_num, by go_num, ⟨by omega, by omega⟩, hW2, by omega, by omega, by omega, (hB.alloc hB.size _).trans (ho2.below (by have := hB.size; simp; omega) (fun i hi h => by unfold One at h; omega))⟩
              case measure => simp [intOf]; omega
          · have e1 := spE_pos hE
            rw [e1] at hd
            generalize spE m x = E at hd hE
            go_wp2_with (first
              | (go_at_call 13; refine (hd _ (hW.alloc _)).mono ?_; rintro e w2 ⟨rfl, ho2, hW2⟩; have hA := (Blk.new wr 31 #[.int .i64 (kd), .int .i64 x, .int .i64 t]).kept ho2 hne; have g1 : w2.cell? ⟨wr.heap.size, 1, none⟩ = some (.int .i64 x) := hA.cell 1; have g2 : w2.cell? ⟨wr.heap.size, 2, none⟩ = some (.int .i64 t) := hA.cell 2; clear hA)
              | (go_at_call 9; refine (Size_any b _ _ hW2).mono ?_; rintro e w3 ⟨rfl, rfl⟩))
            go_roundw
            case rel => exact ⟨k + 1, m, g, s, by omega, by go_num, by go_num, by go_num, ⟨by omega, by omega⟩, hW2, by omega, by omega, by omega, (hB.alloc hB.size _).trans (ho2.below (by have := hB.size; simp; omega) (fun i hi h => by unfold One at h; omega))⟩
            case measure => simp [intOf]; omega
      ·
        go_wp2_with (go_at_call 7; refine (awake_any _).mono ?_; rintro e w2 ⟨rfl, ho2⟩)
        go_ret
        exact ⟨rfl, hB.trans (ho2.below hB.size (fun _ _ => id))⟩
    ·
      go_wp2_with (go_at_call 7; refine (awake_any _).mono ?_; rintro e w2 ⟨rfl, ho2⟩)
      go_ret
      exact ⟨rfl, hB.trans (ho2.below hB.size (fun _ _ => id))⟩
/-! The step from the walk to the statement of WindowSpends. -/
namespace frWindowSpends
open Go.ChangeShapes Go.WideShapes Go.ChangeAt Go.RowKit
set_option linter.unusedVariables false
theorem own : ownKnob Try.prog.godebug = none := by kernel_rfl
theorem laidOut : laidOutB Try.prog = true := by kernel_rfl
theorem shape0 : Kd.ok Try.prog (.int .u32) 34 = true := by kernel_rfl
theorem shape1 : Kd.ok Try.prog (.slc (.agg [.int .i64, .int .i64, .int .i64])) 22 = true := by kernel_rfl
set_option maxRecDepth 100000 in
theorem contract (H : Type) (enc : TypeId × Value → H) (W : World) (base : Nat) (args : Array Value) (ds gs : List (DataW H)) (before : List MemPlace)
    (hval : ∀ (j : Nat) t v, Try.f4.params[j]? = some t → args[j]? = some v → Value.okWide Try.prog W .any base t v)
    (hW : DataW.Whole enc Try.prog Try.f4.params.toList Rows.windowSpendsSpec.vars false W args.toList ds gs before) :
    Calls Try.prog 4 args W fun e W' => ∃ v, e = .returned v ∧ Rows.windowSpendsSpec.post enc Try.prog Try.f4 false true false false W args v W' := by
  have hW' := hW
  obtain ⟨p, q, hA0, hV, rfl, hfz, hnd⟩ := hW
  have hA : DataW.TrodAll enc Try.prog W 0 (fun _ => true) true Try.f4.params.toList args.toList ds p := hA0
  rw [Try.params4] at hA hval
  obtain ⟨v0, vs0, d0, ds0, p0, q0, hargs, rfl, rfl, h0, r0⟩ := trodAll_cons hA
  obtain ⟨v1, vs1, d1, ds1, p1, q1, rfl, rfl, rfl, h1, r1⟩ := trodAll_cons r0
  obtain ⟨rfl, rfl, rfl⟩ := trodAll_nil r1
  obtain rfl : args = #[v0, v1] := by cases args; simp_all
  obtain ⟨rfl, rfl⟩ := trodVars_none hV
  have k0 := Kd.fit _ shape0 (hval 0 34 v0 rfl rfl) h0
  have lt0 : ∀ x ∈ p0, x.block < W.heap.size := by obtain ⟨m, hm⟩ := h0; exact DataW.trod_lt m _ _ _ hm
  have k1 := Kd.fit _ shape1 (hval 1 22 v1 rfl rfl) h1
  have lt1 : ∀ x ∈ p1, x.block < W.heap.size := by obtain ⟨m, hm⟩ := h1; exact DataW.trod_lt m _ _ _ hm
  refine (windowSpends_walk v0 v1 W k0 k1).mono fun e W' ⟨he, bel⟩ => ?_
  subst he
  exact ⟨_, rfl, _, _, _, [], _, [], hW', trodAll_mk1 (shut_bool Try.underlying4 _), (trodAll_cons_mk (Below.trod laidOut (by kernel_rfl) (of_decide_eq_true (by kernel_rfl)) h0 bel lt0) (trodAll_cons_mk (Below.trod laidOut (by kernel_rfl) (of_decide_eq_true (by kernel_rfl)) h1 bel lt1) trodAll_mk0)), rfl, bel.frame _, fun h => by cases h⟩
set_option maxRecDepth 100000 in
theorem lifted (os : Os) (started : os.Started) (H : Type) (enc : TypeId × Value → H) :
    ReturnsInHanded {} Try.checked os 4 .any (Rows.windowSpendsSpec.pre6 enc Try.prog Try.f4 Rows.windowSpendsRow.domain false) (Rows.windowSpendsSpec.post enc Try.prog Try.f4 false true false false) := by
  refine returnsInHanded_of_change (C := Try.checked) own started (by kernel_rfl) Try.func4
    (ChangeSpec.witness6 (enc := enc) (C := Try.checked) false ⟨#[], #[.int .u32 0, .slice none 0 0], []⟩ 8 (by kernel_rfl) (by kernel_rfl) (by kernel_rfl) (by kernel_rfl)) ?_
  intro W base args ds gs before hval hW _ _
  exact contract H enc W base args ds gs before hval hW
theorem over : Rows.windowSpendsRow.holds Try.pinned (OpenSpec.ofChange Rows.windowSpendsSpec) :=
  OpenClaim.holds_of_wide 4 Try.f4 rfl rfl rfl rfl rfl rfl rfl ⟨rfl, rfl, rfl, rfl, rfl⟩ rfl rfl rfl rfl rfl (by kernel_rfl) Try.func4 (by kernel_rfl)
    (of_decide_eq_true (by kernel_rfl)) (by unfold Func.isWrapper; first | (rw [if_pos (by decide +kernel)]; kernel_rfl) | (rw [if_neg (by decide +kernel)]; exact ⟨rfl, rfl⟩))
    (fun os started H enc _ => lifted os started H enc)
theorem proved : Rows.WindowSpendsSaid := over
end frWindowSpends
end Go.Proofs.Ytcokkomfhjdbcaa
