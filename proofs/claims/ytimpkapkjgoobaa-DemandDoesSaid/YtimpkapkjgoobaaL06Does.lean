/- For every limit and every list of calls: each call of a count is answered as the document says, and what is taken is never more than what was added (the statement DemandDoes, as it is given). No condition. -/
import Derived.Test.YtimpkapkjgoobaaL06None
namespace Go.Proofs.Ytimpkapkjgoobaa
open Go.RowKit

set_option maxHeartbeats 1000000 in
theorem radd_any (n l k : Int) (w : World) (hn : demOk n l) (hk : 1 ≤ k) (hk2 : k ≤ 9223372036854775807) :
    Calls Try.prog 9 #[.int .i64 n, .int .i64 l, .int .i64 k] w fun e w' => e = .returned (.int .i64 (addK n l k)) ∧ w = w' := by
  obtain ⟨hn1, hn2, hn3⟩ := hn
  by_cases h2 : k ≤ l - n
  · have e1 : addK n l k = k := by unfold addK; omega
    rw [e1]
    go_enter Try.func9, Try.ntmps9
    go_wp2
    go_ret
    exact ⟨rfl, rfl⟩
  · have e1 : addK n l k = l - n := by unfold addK; omega
    rw [e1]
    go_enter Try.func9, Try.ntmps9
    go_wp2
    go_ret
    exact ⟨rfl, rfl⟩

set_option maxRecDepth 100000 in
set_option maxHeartbeats 6000000 in
theorem demandDoes_walk (v0 v1 : Value) (w : World) (h0 : Kd.Fit w (.int .i64) v0) (h1 : Kd.Fit w (.slc (.agg [.int .i64, .int .i64])) v1) :
    Calls Try.prog 3 #[v0, v1] w fun e w' => e = .returned (.bool true) ∧ Below w.heap.size w w' := by
  obtain ⟨l, rfl, hn⟩ := Kd.int_fit h0
  obtain ⟨A, len, cap, rfl, hl⟩ := Kd.slc_fit h1
  clear hn h0 h1
  by_cases c1 : 1 ≤ l ∧ l ≤ 2147483647
  · obtain ⟨hl1, hl3⟩ := c1
    go_enter Try.func3, Try.ntmps3
    go_wp2_with (first
      | (go_at_call 6; (with_reducible refine (New_any _ _ hl1 hl3).mono ?_); rintro e w1 ⟨b, rfl, hb, ho1, hW1⟩)
      )
    go_loopw [7, 8, 9, 10] (fun nn aa tt i wr => ∃ (k : Nat) (n a t : Int), k ≤ len ∧ i = .int .i64 k ∧ nn = .int .i64 n ∧ aa = .int .i64 a ∧ tt = .int .i64 t ∧ demOk n l ∧ Dem wr b n l ∧ n ≤ a - t ∧ a - t ≤ n ∧ 0 ≤ t ∧ a ≤ 2147483647 * (k : Int) ∧ Below w.heap.size w wr) (fun _ _ _ i _ => len - (intOf i).toNat)
    case atStart => exact ⟨0, 0, 0, 0, Nat.zero_le _, rfl, rfl, rfl, rfl, ⟨by omega, by omega, hl3⟩, hW1, by omega, by omega, by omega, by omega, ho1.below (Nat.le_refl _) (fun _ _ => id)⟩
    case round =>
      obtain ⟨k, n, a, t, hk, rfl, rfl, rfl, rfl, hn, hW, hga, hgb, ht0, ha1, hB⟩ := hrel
      have hmax : len ≤ 9223372036854775807 := Nat.le_trans hl.1 hl.2.1
      by_cases hlt : k < len
      · by_cases h100 : k < 100
        · obtain ⟨b', off, rfl, hb', cs, hcl, hcs, his⟩ := hl.at (by decide) hlt
          obtain ⟨kd, x, rfl, _, hx⟩ := Kd.list_ints2 his
          have f0 := (hB.cell (p := ⟨b', _, none⟩) hb').trans (hcs 0 (by decide))
          have f1 := (hB.cell (p := ⟨b', _, none⟩) hb').trans (hcs 1 (by decide))
          simp [Kd.cells, Kd.cellsL] at f0 f1
          clear his hcs
          obtain ⟨hx1, hx2⟩ := i64Ok_of hx
          obtain ⟨hn1, hn2, _⟩ := id hn
          clear hx hcl
          have hne : ¬ One b wr.heap.size := by have := hW.lt; unfold One; omega
          have hr := fun (W : World) (h : 1 ≤ x) => radd_any n l x W hn h hx2
          have hk0 : (kd = 0 ∨ kd = 1) ∨ kd = 2 ∨ (kd ≠ 0 ∧ kd ≠ 1 ∧ kd ≠ 2) := by omega
          rcases hk0 with hk0 | hk0 | hk0
          · have hd := fun (W : World) (hW : Dem W b n l) => Add_any b n l x W hW hn
            by_cases hE : x < 1
            · have e1 : addK n l x = 0 := by unfold addK; omega
              have e2 : addE x = 2 := by simp [addE, hE]
              rw [e1, e2, Int.add_zero] at hd
              clear hr e1 e2
              rcases hk0 with rfl | rfl
              ·
                go_wp2_with (first
                  | (go_at_call 8; (with_reducible refine (hd _ (hW.alloc _)).mono ?_); rintro e w2 ⟨rfl, ho2, hW2⟩; have hA := (Blk.new wr 29 #[.int .i64 (0), .int .i64 x]).kept ho2 hne; have g1 : w2.cell? ⟨wr.heap.size, 1, none⟩ = some (.int .i64 x) := hA.cell 1; clear hA)
                  | (go_at_call 9; (with_reducible refine (hr _).mono ?_); rintro e w5 ⟨rfl, rfl⟩)
                  | (go_at_call 12; (with_reducible refine (Left_any b _ _ _ hW2).mono ?_); rintro e w3 ⟨rfl, rfl⟩)
                  | (go_at_call 13; (with_reducible refine (Endless_any b _ _ _ hW2).mono ?_); rintro e w4 ⟨rfl, ho4⟩; have hW4 := hW2.kept ho4 id)
                  )
                go_roundw
                case rel => exact ⟨k + 1, n, a, t, by omega, by go_num, by go_num, by go_num, by go_num, ⟨by omega, by omega, hl3⟩, hW4, by omega, by omega, by omega, by omega, (hB.alloc hB.size _).trans ((ho2.below (by have := hB.size; simp; omega) (fun i hi h => by unfold One at h; omega)).trans (ho4.below (by have := hB.size; have := ho2.size; simp at this; omega) (fun i hi => id)))⟩
                case measure => simp [intOf]; omega
              ·
                go_wp2_with (first
                  | (go_at_call 8; (with_reducible refine (hd _ (hW.alloc _)).mono ?_); rintro e w2 ⟨rfl, ho2, hW2⟩; have hA := (Blk.new wr 29 #[.int .i64 (1), .int .i64 x]).kept ho2 hne; have g1 : w2.cell? ⟨wr.heap.size, 1, none⟩ = some (.int .i64 x) := hA.cell 1; clear hA)
                  | (go_at_call 9; (with_reducible refine (hr _).mono ?_); rintro e w5 ⟨rfl, rfl⟩)
                  | (go_at_call 12; (with_reducible refine (Left_any b _ _ _ hW2).mono ?_); rintro e w3 ⟨rfl, rfl⟩)
                  | (go_at_call 13; (with_reducible refine (Endless_any b _ _ _ hW2).mono ?_); rintro e w4 ⟨rfl, ho4⟩; have hW4 := hW2.kept ho4 id)
                  )
                go_roundw
                case rel => exact ⟨k + 1, n, a, t, by omega, by go_num, by go_num, by go_num, by go_num, ⟨by omega, by omega, hl3⟩, hW4, by omega, by omega, by omega, by omega, (hB.alloc hB.size _).trans ((ho2.below (by have := hB.size; simp; omega) (fun i hi h => by unfold One at h; omega)).trans (ho4.below (by have := hB.size; have := ho2.size; simp at this; omega) (fun i hi => id)))⟩
                case measure => simp [intOf]; omega
            · have e2 : addE x = 0 := by simp [addE, hE]
              have hr := fun (W : World) => hr W (by omega)
              have e3 : 0 ≤ addK n l x := by unfold addK; omega
              have e4 : n + addK n l x ≤ l := by unfold addK; omega
              rw [e2] at hd
              generalize addK n l x = K at hd hr e3 e4
              clear e2
              rcases hk0 with rfl | rfl
              ·
                go_wp2_with (first
                  | (go_at_call 8; (with_reducible refine (hd _ (hW.alloc _)).mono ?_); rintro e w2 ⟨rfl, ho2, hW2⟩; have hA := (Blk.new wr 29 #[.int .i64 (0), .int .i64 x]).kept ho2 hne; have g1 : w2.cell? ⟨wr.heap.size, 1, none⟩ = some (.int .i64 x) := hA.cell 1; clear hA)
                  | (go_at_call 9; (with_reducible refine (hr _).mono ?_); rintro e w5 ⟨rfl, rfl⟩)
                  | (go_at_call 12; (with_reducible refine (Left_any b _ _ _ hW2).mono ?_); rintro e w3 ⟨rfl, rfl⟩)
                  | (go_at_call 13; (with_reducible refine (Endless_any b _ _ _ hW2).mono ?_); rintro e w4 ⟨rfl, ho4⟩; have hW4 := hW2.kept ho4 id)
                  )
                go_roundw
                case rel => exact ⟨k + 1, n + K, a + K, t, by omega, by go_num, by go_num, by go_num, by go_num, ⟨by omega, by omega, hl3⟩, hW4, by omega, by omega, by omega, by omega, (hB.alloc hB.size _).trans ((ho2.below (by have := hB.size; simp; omega) (fun i hi h => by unfold One at h; omega)).trans (ho4.below (by have := hB.size; have := ho2.size; simp at this; omega) (fun i hi => id)))⟩
                case measure => simp [intOf]; omega
              ·
                go_wp2_with (first
                  | (go_at_call 8; (with_reducible refine (hd _ (hW.alloc _)).mono ?_); rintro e w2 ⟨rfl, ho2, hW2⟩; have hA := (Blk.new wr 29 #[.int .i64 (1), .int .i64 x]).kept ho2 hne; have g1 : w2.cell? ⟨wr.heap.size, 1, none⟩ = some (.int .i64 x) := hA.cell 1; clear hA)
                  | (go_at_call 9; (with_reducible refine (hr _).mono ?_); rintro e w5 ⟨rfl, rfl⟩)
                  | (go_at_call 12; (with_reducible refine (Left_any b _ _ _ hW2).mono ?_); rintro e w3 ⟨rfl, rfl⟩)
                  | (go_at_call 13; (with_reducible refine (Endless_any b _ _ _ hW2).mono ?_); rintro e w4 ⟨rfl, ho4⟩; have hW4 := hW2.kept ho4 id)
                  )
                go_roundw
                case rel => exact ⟨k + 1, n + K, a + K, t, by omega, by go_num, by go_num, by go_num, by go_num, ⟨by omega, by omega, hl3⟩, hW4, by omega, by omega, by omega, by omega, (hB.alloc hB.size _).trans ((ho2.below (by have := hB.size; simp; omega) (fun i hi h => by unfold One at h; omega)).trans (ho4.below (by have := hB.size; have := ho2.size; simp at this; omega) (fun i hi => id)))⟩
                case measure => simp [intOf]; omega
          · subst hk0
            clear hr
            have hd := fun (W : World) (hW : Dem W b n l) => Take_any b n l x W hW hn
            by_cases h2 : x < 0
            · have e1 : takeE n x = 2 := by simp [takeE, h2]
              have e2 : takeN n x = n := by simp [takeN, h2]
              rw [e1, e2] at hd
              clear e1 e2
              go_wp2_with (first
                | (go_at_call 10; (with_reducible refine (hd _ (hW.alloc _)).mono ?_); rintro e w2 ⟨rfl, ho2, hW2⟩; have hA := (Blk.new wr 29 #[.int .i64 (2), .int .i64 x]).kept ho2 hne; have g1 : w2.cell? ⟨wr.heap.size, 1, none⟩ = some (.int .i64 x) := hA.cell 1; clear hA)
                | (go_at_call 9; (with_reducible refine (hr _).mono ?_); rintro e w5 ⟨rfl, rfl⟩)
                | (go_at_call 12; (with_reducible refine (Left_any b _ _ _ hW2).mono ?_); rintro e w3 ⟨rfl, rfl⟩)
                | (go_at_call 13; (with_reducible refine (Endless_any b _ _ _ hW2).mono ?_); rintro e w4 ⟨rfl, ho4⟩; have hW4 := hW2.kept ho4 id)
                )
              go_roundw
              case rel => exact ⟨k + 1, n, a, t, by omega, by go_num, by go_num, by go_num, by go_num, ⟨by omega, by omega, hl3⟩, hW4, by omega, by omega, by omega, by omega, (hB.alloc hB.size _).trans ((ho2.below (by have := hB.size; simp; omega) (fun i hi h => by unfold One at h; omega)).trans (ho4.below (by have := hB.size; have := ho2.size; simp at this; omega) (fun i hi => id)))⟩
              case measure => simp [intOf]; omega
            · by_cases h3 : n < x
              · have e1 : takeE n x = 9 := by simp [takeE, h2, h3]
                have e2 : takeN n x = n := by simp [takeN, h3]
                rw [e1, e2] at hd
                clear e1 e2
                go_wp2_with (first
                  | (go_at_call 10; (with_reducible refine (hd _ (hW.alloc _)).mono ?_); rintro e w2 ⟨rfl, ho2, hW2⟩; have hA := (Blk.new wr 29 #[.int .i64 (2), .int .i64 x]).kept ho2 hne; have g1 : w2.cell? ⟨wr.heap.size, 1, none⟩ = some (.int .i64 x) := hA.cell 1; clear hA)
                  | (go_at_call 9; (with_reducible refine (hr _).mono ?_); rintro e w5 ⟨rfl, rfl⟩)
                  | (go_at_call 12; (with_reducible refine (Left_any b _ _ _ hW2).mono ?_); rintro e w3 ⟨rfl, rfl⟩)
                  | (go_at_call 13; (with_reducible refine (Endless_any b _ _ _ hW2).mono ?_); rintro e w4 ⟨rfl, ho4⟩; have hW4 := hW2.kept ho4 id)
                  )
                go_roundw
                case rel => exact ⟨k + 1, n, a, t, by omega, by go_num, by go_num, by go_num, by go_num, ⟨by omega, by omega, hl3⟩, hW4, by omega, by omega, by omega, by omega, (hB.alloc hB.size _).trans ((ho2.below (by have := hB.size; simp; omega) (fun i hi h => by unfold One at h; omega)).trans (ho4.below (by have := hB.size; have := ho2.size; simp at this; omega) (fun i hi => id)))⟩
                case measure => simp [intOf]; omega
              · have e1 : takeE n x = 0 := by simp [takeE, h2, h3]
                have e2 : takeN n x = n - x := by simp [takeN, h2, h3]
                rw [e1, e2] at hd
                clear e1 e2
                go_wp2_with (first
                  | (go_at_call 10; (with_reducible refine (hd _ (hW.alloc _)).mono ?_); rintro e w2 ⟨rfl, ho2, hW2⟩; have hA := (Blk.new wr 29 #[.int .i64 (2), .int .i64 x]).kept ho2 hne; have g1 : w2.cell? ⟨wr.heap.size, 1, none⟩ = some (.int .i64 x) := hA.cell 1; clear hA)
                  | (go_at_call 9; (with_reducible refine (hr _).mono ?_); rintro e w5 ⟨rfl, rfl⟩)
                  | (go_at_call 12; (with_reducible refine (Left_any b _ _ _ hW2).mono ?_); rintro e w3 ⟨rfl, rfl⟩)
                  | (go_at_call 13; (with_reducible refine (Endless_any b _ _ _ hW2).mono ?_); rintro e w4 ⟨rfl, ho4⟩; have hW4 := hW2.kept ho4 id)
                  )
                go_roundw
                case rel => exact ⟨k + 1, n - x, a, t + x, by omega, by go_num, by go_num, by go_num, by go_num, ⟨by omega, by omega, hl3⟩, hW4, by omega, by omega, by omega, by omega, (hB.alloc hB.size _).trans ((ho2.below (by have := hB.size; simp; omega) (fun i hi h => by unfold One at h; omega)).trans (ho4.below (by have := hB.size; have := ho2.size; simp at this; omega) (fun i hi => id)))⟩
                case measure => simp [intOf]; omega
          · obtain ⟨hk1, hk2, hk3⟩ := hk0
            clear hr
            have hd := fun (W : World) (hW : Dem W b n l) => Upto_any b n l x W hW hn
            by_cases h2 : x < 0
            · have e1 : uptoK n x = 0 := by unfold uptoK; omega
              rw [e1, Int.sub_zero] at hd
              clear e1
              go_wp2_with (first
                | (go_at_call 11; (with_reducible refine (hd _ (hW.alloc _)).mono ?_); rintro e w2 ⟨rfl, ho2, hW2⟩; have hA := (Blk.new wr 29 #[.int .i64 (kd), .int .i64 x]).kept ho2 hne; have g1 : w2.cell? ⟨wr.heap.size, 1, none⟩ = some (.int .i64 x) := hA.cell 1; clear hA)
                | (go_at_call 9; (with_reducible refine (hr _).mono ?_); rintro e w5 ⟨rfl, rfl⟩)
                | (go_at_call 12; (with_reducible refine (Left_any b _ _ _ hW2).mono ?_); rintro e w3 ⟨rfl, rfl⟩)
                | (go_at_call 13; (with_reducible refine (Endless_any b _ _ _ hW2).mono ?_); rintro e w4 ⟨rfl, ho4⟩; have hW4 := hW2.kept ho4 id)
                )
              go_roundw
              case rel => exact ⟨k + 1, n, a, t, by omega, by go_num, by go_num, by go_num, by go_num, ⟨by omega, by omega, hl3⟩, hW4, by omega, by omega, by omega, by omega, (hB.alloc hB.size _).trans ((ho2.below (by have := hB.size; simp; omega) (fun i hi h => by unfold One at h; omega)).trans (ho4.below (by have := hB.size; have := ho2.size; simp at this; omega) (fun i hi => id)))⟩
              case measure => simp [intOf]; omega
            · by_cases h3 : n < x
              · have e1 : uptoK n x = n := by unfold uptoK; omega
                rw [e1, Int.sub_self] at hd
                clear e1
                go_wp2_with (first
                  | (go_at_call 11; (with_reducible refine (hd _ (hW.alloc _)).mono ?_); rintro e w2 ⟨rfl, ho2, hW2⟩; have hA := (Blk.new wr 29 #[.int .i64 (kd), .int .i64 x]).kept ho2 hne; have g1 : w2.cell? ⟨wr.heap.size, 1, none⟩ = some (.int .i64 x) := hA.cell 1; clear hA)
                  | (go_at_call 9; (with_reducible refine (hr _).mono ?_); rintro e w5 ⟨rfl, rfl⟩)
                  | (go_at_call 12; (with_reducible refine (Left_any b _ _ _ hW2).mono ?_); rintro e w3 ⟨rfl, rfl⟩)
                  | (go_at_call 13; (with_reducible refine (Endless_any b _ _ _ hW2).mono ?_); rintro e w4 ⟨rfl, ho4⟩; have hW4 := hW2.kept ho4 id)
                  )
                go_roundw
                case rel => exact ⟨k + 1, 0, a, t + n, by omega, by go_num, by go_num, by go_num, by go_num, ⟨by omega, by omega, hl3⟩, hW4, by omega, by omega, by omega, by omega, (hB.alloc hB.size _).trans ((ho2.below (by have := hB.size; simp; omega) (fun i hi h => by unfold One at h; omega)).trans (ho4.below (by have := hB.size; have := ho2.size; simp at this; omega) (fun i hi => id)))⟩
                case measure => simp [intOf]; omega
              · have e1 : uptoK n x = x := by unfold uptoK; omega
                rw [e1] at hd
                clear e1
                go_wp2_with (first
                  | (go_at_call 11; (with_reducible refine (hd _ (hW.alloc _)).mono ?_); rintro e w2 ⟨rfl, ho2, hW2⟩; have hA := (Blk.new wr 29 #[.int .i64 (kd), .int .i64 x]).kept ho2 hne; have g1 : w2.cell? ⟨wr.heap.size, 1, none⟩ = some (.int .i64 x) := hA.cell 1; clear hA)
                  | (go_at_call 9; (with_reducible refine (hr _).mono ?_); rintro e w5 ⟨rfl, rfl⟩)
                  | (go_at_call 12; (with_reducible refine (Left_any b _ _ _ hW2).mono ?_); rintro e w3 ⟨rfl, rfl⟩)
                  | (go_at_call 13; (with_reducible refine (Endless_any b _ _ _ hW2).mono ?_); rintro e w4 ⟨rfl, ho4⟩; have hW4 := hW2.kept ho4 id)
                  )
                go_roundw
                case rel => exact ⟨k + 1, n - x, a, t + x, by omega, by go_num, by go_num, by go_num, by go_num, ⟨by omega, by omega, hl3⟩, hW4, by omega, by omega, by omega, by omega, (hB.alloc hB.size _).trans ((ho2.below (by have := hB.size; simp; omega) (fun i hi h => by unfold One at h; omega)).trans (ho4.below (by have := hB.size; have := ho2.size; simp at this; omega) (fun i hi => id)))⟩
                case measure => simp [intOf]; omega
        ·
          go_wp2_with (first
            | (go_at_call 7; (with_reducible refine (awake_any _).mono ?_); rintro e w2 ⟨rfl, ho2⟩)
            )
          go_ret
          exact ⟨rfl, hB.trans (ho2.below hB.size (fun _ _ => id))⟩
      ·
        go_wp2_with (first
          | (go_at_call 7; (with_reducible refine (awake_any _).mono ?_); rintro e w2 ⟨rfl, ho2⟩)
          )
        go_ret
        exact ⟨rfl, hB.trans (ho2.below hB.size (fun _ _ => id))⟩
  · go_enter Try.func3, Try.ntmps3
    by_cases c2 : l < 1
    all_goals
      go_wp2_with (first
        | (go_at_call 6; (with_reducible refine (New_bad _ _ c1).mono ?_); rintro e w1 ⟨rfl, rfl⟩)
        | (go_at_call 7; (with_reducible refine (awake_any _).mono ?_); rintro e w2 ⟨rfl, ho2⟩)
        )
      go_ret
      exact ⟨rfl, ho2.below (Nat.le_refl _) (fun _ _ => id)⟩
/-! The step from the walk to the statement of DemandDoes. -/
namespace frDemandDoes
open Go.ChangeShapes Go.WideShapes Go.ChangeAt Go.RowKit
set_option linter.unusedVariables false
theorem own : ownKnob Try.prog.godebug = none := by kernel_rfl
theorem laidOut : laidOutB Try.prog = true := by kernel_rfl
theorem shape0 : Kd.ok Try.prog (.int .i64) 3 = true := by kernel_rfl
theorem shape1 : Kd.ok Try.prog (.slc (.agg [.int .i64, .int .i64])) 22 = true := by kernel_rfl
set_option maxRecDepth 100000 in
theorem contract (H : Type) (enc : TypeId × Value → H) (W : World) (base : Nat) (args : Array Value) (ds gs : List (DataW H)) (before : List MemPlace)
    (hval : ∀ (j : Nat) t v, Try.f3.params[j]? = some t → args[j]? = some v → Value.okWide Try.prog W .any base t v)
    (hW : DataW.Whole enc Try.prog Try.f3.params.toList Rows.demandDoesSpec.vars false W args.toList ds gs before) :
    Calls Try.prog 3 args W fun e W' => ∃ v, e = .returned v ∧ Rows.demandDoesSpec.post enc Try.prog Try.f3 false true false false W args v W' := by
  have hW' := hW
  obtain ⟨p, q, hA0, hV, rfl, hfz, hnd⟩ := hW
  have hA : DataW.TrodAll enc Try.prog W 0 (fun _ => true) true Try.f3.params.toList args.toList ds p := hA0
  rw [Try.params3] at hA hval
  obtain ⟨v0, vs0, d0, ds0, p0, q0, hargs, rfl, rfl, h0, r0⟩ := trodAll_cons hA
  obtain ⟨v1, vs1, d1, ds1, p1, q1, rfl, rfl, rfl, h1, r1⟩ := trodAll_cons r0
  obtain ⟨rfl, rfl, rfl⟩ := trodAll_nil r1
  obtain rfl : args = #[v0, v1] := by cases args; simp_all
  obtain ⟨rfl, rfl⟩ := trodVars_none hV
  have k0 := Kd.fit _ shape0 (hval 0 3 v0 rfl rfl) h0
  have lt0 : ∀ x ∈ p0, x.block < W.heap.size := by obtain ⟨m, hm⟩ := h0; exact DataW.trod_lt m _ _ _ hm
  have k1 := Kd.fit _ shape1 (hval 1 22 v1 rfl rfl) h1
  have lt1 : ∀ x ∈ p1, x.block < W.heap.size := by obtain ⟨m, hm⟩ := h1; exact DataW.trod_lt m _ _ _ hm
  refine (demandDoes_walk v0 v1 W k0 k1).mono fun e W' ⟨he, bel⟩ => ?_
  subst he
  exact ⟨_, rfl, _, _, _, [], _, [], hW', trodAll_mk1 (shut_bool Try.underlying4 _), (trodAll_cons_mk (Below.trod laidOut (by kernel_rfl) (of_decide_eq_true (by kernel_rfl)) h0 bel lt0) (trodAll_cons_mk (Below.trod laidOut (by kernel_rfl) (of_decide_eq_true (by kernel_rfl)) h1 bel lt1) trodAll_mk0)), rfl, bel.frame _, fun h => by cases h⟩
set_option maxRecDepth 100000 in
theorem lifted (os : Os) (started : os.Started) (H : Type) (enc : TypeId × Value → H) :
    ReturnsInHanded {} Try.checked os 3 .any (Rows.demandDoesSpec.pre6 enc Try.prog Try.f3 Rows.demandDoesRow.domain false) (Rows.demandDoesSpec.post enc Try.prog Try.f3 false true false false) := by
  refine returnsInHanded_of_change (C := Try.checked) own started (by kernel_rfl) Try.func3
    (ChangeSpec.witness6 (enc := enc) (C := Try.checked) false ⟨#[], #[.int .i64 0, .slice none 0 0], []⟩ 8 (by kernel_rfl) (by kernel_rfl) (by kernel_rfl) (by kernel_rfl)) ?_
  intro W base args ds gs before hval hW _ _
  exact contract H enc W base args ds gs before hval hW
theorem over : Rows.demandDoesRow.holds Try.pinned (OpenSpec.ofChange Rows.demandDoesSpec) :=
  OpenClaim.holds_of_wide 3 Try.f3 rfl rfl rfl rfl rfl rfl rfl ⟨rfl, rfl, rfl, rfl, rfl⟩ rfl rfl rfl rfl rfl (by kernel_rfl) Try.func3 (by kernel_rfl)
    (of_decide_eq_true (by kernel_rfl)) (by unfold Func.isWrapper; first | (rw [if_pos (by decide +kernel)]; kernel_rfl) | (rw [if_neg (by decide +kernel)]; exact ⟨rfl, rfl⟩))
    (fun os started H enc _ => lifted os started H enc)
theorem proved : Rows.DemandDoesSaid := over
end frDemandDoes
end Go.Proofs.Ytimpkapkjgoobaa
