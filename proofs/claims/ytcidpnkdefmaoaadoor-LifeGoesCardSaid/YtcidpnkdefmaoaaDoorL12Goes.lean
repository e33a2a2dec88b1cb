/- For every list of events: a life takes just the events that may follow, and at most four of them (the statement LifeGoes, as its card is given). No condition. -/
import Derived.Test.YtcidpnkdefmaoaaDoorCards
import Derived.Test.YtcidpnkdefmaoaaDoorTie
import Derived.Test.YtcidpnkdefmaoaaDoorAwake12
import Derived.Deep.DeepHandedRow
namespace Go.Proofs.YtcidpnkdefmaoaaDoor
open Go.RowKit

def rank (s : Int) : Int := if s = 0 then 0 else if s = 1 then 1 else if s = 4 then 3 else 2
theorem fol_rank {s c : Int} (h : fol s c ≠ -1) : (1 ≤ fol s c ∧ fol s c ≤ 4) ∧ rank s + 1 ≤ rank (fol s c) := by
  unfold fol at *
  unfold rank
  repeat' split
  all_goals simp_all
  all_goals omega
theorem rank_le (s : Int) : 0 ≤ rank s ∧ rank s ≤ 3 := by unfold rank; omega
theorem okB_send {s : Int} (h0 : 0 ≤ s) (h4 : s ≤ 4) : okB s 2 = (s == 1 || s == 3) := by
  have : s = 0 ∨ s = 1 ∨ s = 2 ∨ s = 3 ∨ s = 4 := by omega
  rcases this with rfl | rfl | rfl | rfl | rfl <;> rfl
theorem okB_recv {s : Int} (h0 : 0 ≤ s) (h4 : s ≤ 4) : okB s 3 = (s == 1 || s == 2) := by
  have : s = 0 ∨ s = 1 ∨ s = 2 ∨ s = 3 ∨ s = 4 := by omega
  rcases this with rfl | rfl | rfl | rfl | rfl <;> rfl

set_option maxRecDepth 100000 in
set_option maxHeartbeats 8000000 in
theorem lifeGoes_walk (v0 : Value) (w : World) (h0 : Kd.Fit w (.slc (.int .i64)) v0) (hT : Tab w 0 tab_life_follows) :
    Calls Tryd.prog 4 #[v0] w fun e w' => e = .returned (.bool true) ∧ Below w.heap.size w w' := by
  obtain ⟨A, len, cap, rfl, hl⟩ := Kd.slc_fit h0
  clear h0
  have hlt0 := hT.lt
  go_enter Tryd.func4, Tryd.ntmps4
  go_wp2_with (first
    | (go_at_call 10; (with_reducible refine (New_any _).mono ?_); rintro e w1 ⟨b, rfl, hb, ho1, hL1⟩; have t1 := Fol.kept hT ho1 (fun hh => hh); have hb0 : ¬ One b 0 := by unfold One; omega)
    | (go_at_call 8; (with_reducible refine (awake_any _ t1).mono ?_); rintro e w1' ⟨rfl, ho1'⟩; have t1' := Fol.kept t1 ho1' (fun hh => hh); have hL1' := Blk.kept hL1 ho1' (fun hh => hh))
    )
  go_loopw [4, 5, 6] (fun ss tt ii wr => ∃ (k : Nat) (s t : Int), k ≤ len ∧ ii = .int .i64 k ∧ ss = .int .i64 s ∧ tt = .int .i64 t ∧ 0 ≤ s ∧ s ≤ 4 ∧ t ≤ rank s ∧ 0 ≤ t ∧ Fol wr ∧ Lf wr b s ∧ Below w.heap.size w wr) (fun _ _ ii _ => len - (intOf ii).toNat)
  case atStart => exact ⟨0, 0, 0, Nat.zero_le _, rfl, rfl, rfl, by omega, by omega, by decide, by omega, t1', hL1', (ho1.trans ho1').below (Nat.le_refl _) (fun _ _ hh => hh)⟩
  case round =>
    obtain ⟨k, s, t, hk, rfl, rfl, rfl, s0, s4, ht, ht0, hF, hL, hB⟩ := hrel
    have hmax : len ≤ 9223372036854775807 := Nat.le_trans hl.1 hl.2.1
    have hrk := rank_le s
    by_cases hlt : k < len
    · by_cases h100 : k < 200
      · obtain ⟨b', off, rfl, hb', cs, hcl, hcs, his⟩ := hl.at (by decide) hlt
        obtain ⟨x, rfl, hx⟩ := his
        have hc0 := hcs 0 (by decide)
        simp [Kd.cells] at hc0
        have f0 := (hB.cell (p := ⟨b', off + k, none⟩) hb').trans hc0
        clear hx hcl hcs
        have hev := fun (W : World) (hf : Fol W) (hl : Lf W b s) => Event_any b s x W hf hl
        unfold EvPost evS at hev
        by_cases hE : nxE s x = 0
        · have hv : (0 ≤ s ∧ s ≤ 4 ∧ 0 ≤ colF x) ∧ fol s (colF x) ≠ -1 := by
            unfold nxE at hE
            split at hE
            · rename_i hh
              refine ⟨hh, fun hf => ?_⟩
              rw [if_pos hf] at hE
              omega
            · omega
          have hS : nxS s x = fol s (colF x) := by unfold nxS; rw [if_pos ⟨hv.1.1, hv.1.2.1, hv.1.2.2, hv.2⟩]
          have hx05 : 0 ≤ x ∧ x ≤ 5 := by have := hv.1.2.2; unfold colF at this; omega
          obtain ⟨x0, x5⟩ := hx05
          have hr := fun (W : World) => rnext_any s x W s0 s4 x0 x5
          have hfr := fol_rank hv.2
          rw [if_pos hE, hS, hE] at hev
          generalize fol s (colF x) = F at hev hr hfr
          obtain ⟨⟨F1, F4⟩, hfr⟩ := hfr
          clear hv hS hE
          have hFc : F = 1 ∨ F = 2 ∨ F = 3 ∨ F = 4 := by omega
          rcases hFc with rfl | rfl | rfl | rfl
          ·
            have k1 := fun (W : World) (hf : Fol W) (hL : Lf W b (1)) => MaySend_of _ (1) W hf (State_any b (1) W hL)
            have k2 := fun (W : World) (hf : Fol W) (hL : Lf W b (1)) => MayRecv_of _ (1) W hf (State_any b (1) W hL)
            have k3 := fun (W : World) (hL : Lf W b (1)) => Done_of _ (1) W (State_any b (1) W hL)
            have m1 : ∃ q, okB (1) 2 = q := ⟨_, rfl⟩
            go_wp2_with (first
              | (go_at_call 11; (with_reducible refine (hev _ hF hL).mono ?_); rintro e w2 ⟨rfl, ho2, hL2⟩; have hF2 := Fol.kept hF ho2 hb0; have hB2 := hB.trans (ho2.below hB.size (fun i hi h => by unfold One at h; omega)); have f2 := (hB2.cell (p := ⟨b', off + k, none⟩) hb').trans hc0)
              | (go_at_call 9; (with_reducible refine (hr _).mono ?_); rintro e w3 ⟨rfl, rfl⟩)
              | (go_at_call 12; (with_reducible refine (State_any b _ _ hL2).mono ?_); rintro e w4 ⟨rfl, rfl⟩)
              | (go_at_call 13; (with_reducible refine (k1 _ hF2 hL2).mono ?_); rintro e w5 ⟨rfl, ho5⟩; have hF5 := Fol.kept hF2 ho5 (fun hh => hh); have hL5 := Blk.kept hL2 ho5 (fun hh => hh); have hB5 := hB2.trans (ho5.below hB2.size (fun _ _ hh => hh)))
              | (go_at_call 14; (with_reducible refine (k2 _ hF5 hL5).mono ?_); rintro e w6 ⟨rfl, ho6⟩; have hF6 := Fol.kept hF5 ho6 (fun hh => hh); have hL6 := Blk.kept hL5 ho6 (fun hh => hh); have hB6 := hB5.trans (ho6.below hB5.size (fun _ _ hh => hh)))
              | (go_at_call 15; (with_reducible refine (k3 _ hL6).mono ?_); rintro e w7 ⟨rfl, rfl⟩)
              )
            go_roundw
            case rel => exact ⟨k + 1, 1, t + 1, by omega, by go_num, by go_num, by go_num, by omega, by omega, by unfold rank at *; omega, by omega, hF6, hL6, hB6⟩
            case measure => simp [intOf]; omega
          ·
            have k1 := fun (W : World) (hf : Fol W) (hL : Lf W b (2)) => MaySend_of _ (2) W hf (State_any b (2) W hL)
            have k2 := fun (W : World) (hf : Fol W) (hL : Lf W b (2)) => MayRecv_of _ (2) W hf (State_any b (2) W hL)
            have k3 := fun (W : World) (hL : Lf W b (2)) => Done_of _ (2) W (State_any b (2) W hL)
            have m1 : ∃ q, okB (2) 2 = q := ⟨_, rfl⟩
            go_wp2_with (first
              | (go_at_call 11; (with_reducible refine (hev _ hF hL).mono ?_); rintro e w2 ⟨rfl, ho2, hL2⟩; have hF2 := Fol.kept hF ho2 hb0; have hB2 := hB.trans (ho2.below hB.size (fun i hi h => by unfold One at h; omega)); have f2 := (hB2.cell (p := ⟨b', off + k, none⟩) hb').trans hc0)
              | (go_at_call 9; (with_reducible refine (hr _).mono ?_); rintro e w3 ⟨rfl, rfl⟩)
              | (go_at_call 12; (with_reducible refine (State_any b _ _ hL2).mono ?_); rintro e w4 ⟨rfl, rfl⟩)
              | (go_at_call 13; (with_reducible refine (k1 _ hF2 hL2).mono ?_); rintro e w5 ⟨rfl, ho5⟩; have hF5 := Fol.kept hF2 ho5 (fun hh => hh); have hL5 := Blk.kept hL2 ho5 (fun hh => hh); have hB5 := hB2.trans (ho5.below hB2.size (fun _ _ hh => hh)))
              | (go_at_call 14; (with_reducible refine (k2 _ hF5 hL5).mono ?_); rintro e w6 ⟨rfl, ho6⟩; have hF6 := Fol.kept hF5 ho6 (fun hh => hh); have hL6 := Blk.kept hL5 ho6 (fun hh => hh); have hB6 := hB5.trans (ho6.below hB5.size (fun _ _ hh => hh)))
              | (go_at_call 15; (with_reducible refine (k3 _ hL6).mono ?_); rintro e w7 ⟨rfl, rfl⟩)
              )
            go_roundw
            case rel => exact ⟨k + 1, 2, t + 1, by omega, by go_num, by go_num, by go_num, by omega, by omega, by unfold rank at *; omega, by omega, hF6, hL6, hB6⟩
            case measure => simp [intOf]; omega
          ·
            have k1 := fun (W : World) (hf : Fol W) (hL : Lf W b (3)) => MaySend_of _ (3) W hf (State_any b (3) W hL)
            have k2 := fun (W : World) (hf : Fol W) (hL : Lf W b (3)) => MayRecv_of _ (3) W hf (State_any b (3) W hL)
            have k3 := fun (W : World) (hL : Lf W b (3)) => Done_of _ (3) W (State_any b (3) W hL)
            have m1 : ∃ q, okB (3) 2 = q := ⟨_, rfl⟩
            go_wp2_with (first
              | (go_at_call 11; (with_reducible refine (hev _ hF hL).mono ?_); rintro e w2 ⟨rfl, ho2, hL2⟩; have hF2 := Fol.kept hF ho2 hb0; have hB2 := hB.trans (ho2.below hB.size (fun i hi h => by unfold One at h; omega)); have f2 := (hB2.cell (p := ⟨b', off + k, none⟩) hb').trans hc0)
              | (go_at_call 9; (with_reducible refine (hr _).mono ?_); rintro e w3 ⟨rfl, rfl⟩)
              | (go_at_call 12; (with_reducible refine (State_any b _ _ hL2).mono ?_); rintro e w4 ⟨rfl, rfl⟩)
              | (go_at_call 13; (with_reducible refine (k1 _ hF2 hL2).mono ?_); rintro e w5 ⟨rfl, ho5⟩; have hF5 := Fol.kept hF2 ho5 (fun hh => hh); have hL5 := Blk.kept hL2 ho5 (fun hh => hh); have hB5 := hB2.trans (ho5.below hB2.size (fun _ _ hh => hh)))
              | (go_at_call 14; (with_reducible refine (k2 _ hF5 hL5).mono ?_); rintro e w6 ⟨rfl, ho6⟩; have hF6 := Fol.kept hF5 ho6 (fun hh => hh); have hL6 := Blk.kept hL5 ho6 (fun hh => hh); have hB6 := hB5.trans (ho6.below hB5.size (fun _ _ hh => hh)))
              | (go_at_call 15; (with_reducible refine (k3 _ hL6).mono ?_); rintro e w7 ⟨rfl, rfl⟩)
              )
            go_roundw
            case rel => exact ⟨k + 1, 3, t + 1, by omega, by go_num, by go_num, by go_num, by omega, by omega, by unfold rank at *; omega, by omega, hF6, hL6, hB6⟩
            case measure => simp [intOf]; omega
          ·
            have k1 := fun (W : World) (hf : Fol W) (hL : Lf W b (4)) => MaySend_of _ (4) W hf (State_any b (4) W hL)
            have k2 := fun (W : World) (hf : Fol W) (hL : Lf W b (4)) => MayRecv_of _ (4) W hf (State_any b (4) W hL)
            have k3 := fun (W : World) (hL : Lf W b (4)) => Done_of _ (4) W (State_any b (4) W hL)
            have m1 : ∃ q, okB (4) 2 = q := ⟨_, rfl⟩
            go_wp2_with (first
              | (go_at_call 11; (with_reducible refine (hev _ hF hL).mono ?_); rintro e w2 ⟨rfl, ho2, hL2⟩; have hF2 := Fol.kept hF ho2 hb0; have hB2 := hB.trans (ho2.below hB.size (fun i hi h => by unfold One at h; omega)); have f2 := (hB2.cell (p := ⟨b', off + k, none⟩) hb').trans hc0)
              | (go_at_call 9; (with_reducible refine (hr _).mono ?_); rintro e w3 ⟨rfl, rfl⟩)
              | (go_at_call 12; (with_reducible refine (State_any b _ _ hL2).mono ?_); rintro e w4 ⟨rfl, rfl⟩)
              | (go_at_call 13; (with_reducible refine (k1 _ hF2 hL2).mono ?_); rintro e w5 ⟨rfl, ho5⟩; have hF5 := Fol.kept hF2 ho5 (fun hh => hh); have hL5 := Blk.kept hL2 ho5 (fun hh => hh); have hB5 := hB2.trans (ho5.below hB2.size (fun _ _ hh => hh)))
              | (go_at_call 14; (with_reducible refine (k2 _ hF5 hL5).mono ?_); rintro e w6 ⟨rfl, ho6⟩; have hF6 := Fol.kept hF5 ho6 (fun hh => hh); have hL6 := Blk.kept hL5 ho6 (fun hh => hh); have hB6 := hB5.trans (ho6.below hB5.size (fun _ _ hh => hh)))
              | (go_at_call 15; (with_reducible refine (k3 _ hL6).mono ?_); rintro e w7 ⟨rfl, rfl⟩)
              )
            go_roundw
            case rel => exact ⟨k + 1, 4, t + 1, by omega, by go_num, by go_num, by go_num, by omega, by omega, by unfold rank at *; omega, by omega, hF6, hL6, hB6⟩
            case measure => simp [intOf]; omega
        · rw [if_neg hE] at hev
          have hE' : (nxE s x == 0) = false := by simpa using hE
          have hr : 0 ≤ x → x ≤ 5 → fol s (colF x) = -1 := by
            intro x0 x5
            apply Classical.byContradiction
            intro hf
            apply hE
            unfold nxE
            rw [if_pos ⟨s0, s4, by unfold colF; omega⟩, if_neg hf]
          have hsc : s = 0 ∨ s = 1 ∨ s = 2 ∨ s = 3 ∨ s = 4 := by omega
          have hr2 := fun (W : World) (x0 : 0 ≤ x) (x5 : x ≤ 5) => rnext_any s x W s0 s4 x0 x5
          generalize nxE s x = E at hev hE'
          clear hE
          by_cases x0 : 0 ≤ x
          · by_cases x5 : x ≤ 5
            · have hr3 := hr x0 x5
              have hr4 := fun (W : World) => hr2 W x0 x5
              rw [hr3] at hr4
              clear hr hr2 hr3
              have hr := hr4
              clear hr4
              rcases hsc with rfl | rfl | rfl | rfl | rfl
              ·
                have k1 := fun (W : World) (hf : Fol W) (hL : Lf W b (0)) => MaySend_of _ (0) W hf (State_any b (0) W hL)
                have k2 := fun (W : World) (hf : Fol W) (hL : Lf W b (0)) => MayRecv_of _ (0) W hf (State_any b (0) W hL)
                have k3 := fun (W : World) (hL : Lf W b (0)) => Done_of _ (0) W (State_any b (0) W hL)
                have m1 : ∃ q, okB (0) 2 = q := ⟨_, rfl⟩
                go_wp2_with (first
                  | (go_at_call 11; (with_reducible refine (hev _ hF hL).mono ?_); rintro e w2 ⟨rfl, ho2, hL2⟩; have hF2 := Fol.kept hF ho2 hb0; have hB2 := hB.trans (ho2.below hB.size (fun i hi h => by unfold One at h; omega)); have f2 := (hB2.cell (p := ⟨b', off + k, none⟩) hb').trans hc0)
                  | (go_at_call 9; (with_reducible refine (hr _).mono ?_); rintro e w3 ⟨rfl, rfl⟩)
                  | (go_at_call 12; (with_reducible refine (State_any b _ _ hL2).mono ?_); rintro e w4 ⟨rfl, rfl⟩)
                  | (go_at_call 13; (with_reducible refine (k1 _ hF2 hL2).mono ?_); rintro e w5 ⟨rfl, ho5⟩; have hF5 := Fol.kept hF2 ho5 (fun hh => hh); have hL5 := Blk.kept hL2 ho5 (fun hh => hh); have hB5 := hB2.trans (ho5.below hB2.size (fun _ _ hh => hh)))
                  | (go_at_call 14; (with_reducible refine (k2 _ hF5 hL5).mono ?_); rintro e w6 ⟨rfl, ho6⟩; have hF6 := Fol.kept hF5 ho6 (fun hh => hh); have hL6 := Blk.kept hL5 ho6 (fun hh => hh); have hB6 := hB5.trans (ho6.below hB5.size (fun _ _ hh => hh)))
                  | (go_at_call 15; (with_reducible refine (k3 _ hL6).mono ?_); rintro e w7 ⟨rfl, rfl⟩)
                  )
                go_roundw
                case rel => exact ⟨k + 1, 0, t, by omega, by go_num, by go_num, by go_num, by omega, by omega, by unfold rank at *; omega, by omega, hF6, hL6, hB6⟩
                case measure => simp [intOf]; omega
              ·
                have k1 := fun (W : World) (hf : Fol W) (hL : Lf W b (1)) => MaySend_of _ (1) W hf (State_any b (1) W hL)
                have k2 := fun (W : World) (hf : Fol W) (hL : Lf W b (1)) => MayRecv_of _ (1) W hf (State_any b (1) W hL)
                have k3 := fun (W : World) (hL : Lf W b (1)) => Done_of _ (1) W (State_any b (1) W hL)
                have m1 : ∃ q, okB (1) 2 = q := ⟨_, rfl⟩
                go_wp2_with (first
                  | (go_at_call 11; (with_reducible refine (hev _ hF hL).mono ?_); rintro e w2 ⟨rfl, ho2, hL2⟩; have hF2 := Fol.kept hF ho2 hb0; have hB2 := hB.trans (ho2.below hB.size (fun i hi h => by unfold One at h; omega)); have f2 := (hB2.cell (p := ⟨b', off + k, none⟩) hb').trans hc0)
                  | (go_at_call 9; (with_reducible refine (hr _).mono ?_); rintro e w3 ⟨rfl, rfl⟩)
                  | (go_at_call 12; (with_reducible refine (State_any b _ _ hL2).mono ?_); rintro e w4 ⟨rfl, rfl⟩)
                  | (go_at_call 13; (with_reducible refine (k1 _ hF2 hL2).mono ?_); rintro e w5 ⟨rfl, ho5⟩; have hF5 := Fol.kept hF2 ho5 (fun hh => hh); have hL5 := Blk.kept hL2 ho5 (fun hh => hh); have hB5 := hB2.trans (ho5.below hB2.size (fun _ _ hh => hh)))
                  | (go_at_call 14; (with_reducible refine (k2 _ hF5 hL5).mono ?_); rintro e w6 ⟨rfl, ho6⟩; have hF6 := Fol.kept hF5 ho6 (fun hh => hh); have hL6 := Blk.kept hL5 ho6 (fun hh => hh); have hB6 := hB5.trans (ho6.below hB5.size (fun _ _ hh => hh)))
                  | (go_at_call 15; (with_reducible refine (k3 _ hL6).mono ?_); rintro e w7 ⟨rfl, rfl⟩)
                  )
                go_roundw
                case rel => exact ⟨k + 1, 1, t, by omega, by go_num, by go_num, by go_num, by omega, by omega, by unfold rank at *; omega, by omega, hF6, hL6, hB6⟩
                case measure => simp [intOf]; omega
              ·
                have k1 := fun (W : World) (hf : Fol W) (hL : Lf W b (2)) => MaySend_of _ (2) W hf (State_any b (2) W hL)
                have k2 := fun (W : World) (hf : Fol W) (hL : Lf W b (2)) => MayRecv_of _ (2) W hf (State_any b (2) W hL)
                have k3 := fun (W : World) (hL : Lf W b (2)) => Done_of _ (2) W (State_any b (2) W hL)
                have m1 : ∃ q, okB (2) 2 = q := ⟨_, rfl⟩
                go_wp2_with (first
                  | (go_at_call 11; (with_reducible refine (hev _ hF hL).mono ?_); rintro e w2 ⟨rfl, ho2, hL2⟩; have hF2 := Fol.kept hF ho2 hb0; have hB2 := hB.trans (ho2.below hB.size (fun i hi h => by unfold One at h; omega)); have f2 := (hB2.cell (p := ⟨b', off + k, none⟩) hb').trans hc0)
                  | (go_at_call 9; (with_reducible refine (hr _).mono ?_); rintro e w3 ⟨rfl, rfl⟩)
                  | (go_at_call 12; (with_reducible refine (State_any b _ _ hL2).mono ?_); rintro e w4 ⟨rfl, rfl⟩)
                  | (go_at_call 13; (with_reducible refine (k1 _ hF2 hL2).mono ?_); rintro e w5 ⟨rfl, ho5⟩; have hF5 := Fol.kept hF2 ho5 (fun hh => hh); have hL5 := Blk.kept hL2 ho5 (fun hh => hh); have hB5 := hB2.trans (ho5.below hB2.size (fun _ _ hh => hh)))
                  | (go_at_call 14; (with_reducible refine (k2 _ hF5 hL5).mono ?_); rintro e w6 ⟨rfl, ho6⟩; have hF6 := Fol.kept hF5 ho6 (fun hh => hh); have hL6 := Blk.kept hL5 ho6 (fun hh => hh); have hB6 := hB5.trans (ho6.below hB5.size (fun _ _ hh => hh)))
                  | (go_at_call 15; (with_reducible refine (k3 _ hL6).mono ?_); rintro e w7 ⟨rfl, rfl⟩)
                  )
                go_roundw
                case rel => exact ⟨k + 1, 2, t, by omega, by go_num, by go_num, by go_num, by omega, by omega, by unfold rank at *; omega, by omega, hF6, hL6, hB6⟩
                case measure => simp [intOf]; omega
              ·
                have k1 := fun (W : World) (hf : Fol W) (hL : Lf W b (3)) => MaySend_of _ (3) W hf (State_any b (3) W hL)
                have k2 := fun (W : World) (hf : Fol W) (hL : Lf W b (3)) => MayRecv_of _ (3) W hf (State_any b (3) W hL)
                have k3 := fun (W : World) (hL : Lf W b (3)) => Done_of _ (3) W (State_any b (3) W hL)
                have m1 : ∃ q, okB (3) 2 = q := ⟨_, rfl⟩
                go_wp2_with (first
                  | (go_at_call 11; (with_reducible refine (hev _ hF hL).mono ?_); rintro e w2 ⟨rfl, ho2, hL2⟩; have hF2 := Fol.kept hF ho2 hb0; have hB2 := hB.trans (ho2.below hB.size (fun i hi h => by unfold One at h; omega)); have f2 := (hB2.cell (p := ⟨b', off + k, none⟩) hb').trans hc0)
                  | (go_at_call 9; (with_reducible refine (hr _).mono ?_); rintro e w3 ⟨rfl, rfl⟩)
                  | (go_at_call 12; (with_reducible refine (State_any b _ _ hL2).mono ?_); rintro e w4 ⟨rfl, rfl⟩)
                  | (go_at_call 13; (with_reducible refine (k1 _ hF2 hL2).mono ?_); rintro e w5 ⟨rfl, ho5⟩; have hF5 := Fol.kept hF2 ho5 (fun hh => hh); have hL5 := Blk.kept hL2 ho5 (fun hh => hh); have hB5 := hB2.trans (ho5.below hB2.size (fun _ _ hh => hh)))
                  | (go_at_call 14; (with_reducible refine (k2 _ hF5 hL5).mono ?_); rintro e w6 ⟨rfl, ho6⟩; have hF6 := Fol.kept hF5 ho6 (fun hh => hh); have hL6 := Blk.kept hL5 ho6 (fun hh => hh); have hB6 := hB5.trans (ho6.below hB5.size (fun _ _ hh => hh)))
                  | (go_at_call 15; (with_reducible refine (k3 _ hL6).mono ?_); rintro e w7 ⟨rfl, rfl⟩)
                  )
                go_roundw
                case rel => exact ⟨k + 1, 3, t, by omega, by go_num, by go_num, by go_num, by omega, by omega, by unfold rank at *; omega, by omega, hF6, hL6, hB6⟩
                case measure => simp [intOf]; omega
              ·
                have k1 := fun (W : World) (hf : Fol W) (hL : Lf W b (4)) => MaySend_of _ (4) W hf (State_any b (4) W hL)
                have k2 := fun (W : World) (hf : Fol W) (hL : Lf W b (4)) => MayRecv_of _ (4) W hf (State_any b (4) W hL)
                have k3 := fun (W : World) (hL : Lf W b (4)) => Done_of _ (4) W (State_any b (4) W hL)
                have m1 : ∃ q, okB (4) 2 = q := ⟨_, rfl⟩
                go_wp2_with (first
                  | (go_at_call 11; (with_reducible refine (hev _ hF hL).mono ?_); rintro e w2 ⟨rfl, ho2, hL2⟩; have hF2 := Fol.kept hF ho2 hb0; have hB2 := hB.trans (ho2.below hB.size (fun i hi h => by unfold One at h; omega)); have f2 := (hB2.cell (p := ⟨b', off + k, none⟩) hb').trans hc0)
                  | (go_at_call 9; (with_reducible refine (hr _).mono ?_); rintro e w3 ⟨rfl, rfl⟩)
                  | (go_at_call 12; (with_reducible refine (State_any b _ _ hL2).mono ?_); rintro e w4 ⟨rfl, rfl⟩)
                  | (go_at_call 13; (with_reducible refine (k1 _ hF2 hL2).mono ?_); rintro e w5 ⟨rfl, ho5⟩; have hF5 := Fol.kept hF2 ho5 (fun hh => hh); have hL5 := Blk.kept hL2 ho5 (fun hh => hh); have hB5 := hB2.trans (ho5.below hB2.size (fun _ _ hh => hh)))
                  | (go_at_call 14; (with_reducible refine (k2 _ hF5 hL5).mono ?_); rintro e w6 ⟨rfl, ho6⟩; have hF6 := Fol.kept hF5 ho6 (fun hh => hh); have hL6 := Blk.kept hL5 ho6 (fun hh => hh); have hB6 := hB5.trans (ho6.below hB5.size (fun _ _ hh => hh)))
                  | (go_at_call 15; (with_reducible refine (k3 _ hL6).mono ?_); rintro e w7 ⟨rfl, rfl⟩)
                  )
                go_roundw
                case rel => exact ⟨k + 1, 4, t, by omega, by go_num, by go_num, by go_num, by omega, by omega, by unfold rank at *; omega, by omega, hF6, hL6, hB6⟩
                case measure => simp [intOf]; omega
            · clear hr2
              rcases hsc with rfl | rfl | rfl | rfl | rfl
              ·
                have k1 := fun (W : World) (hf : Fol W) (hL : Lf W b (0)) => MaySend_of _ (0) W hf (State_any b (0) W hL)
                have k2 := fun (W : World) (hf : Fol W) (hL : Lf W b (0)) => MayRecv_of _ (0) W hf (State_any b (0) W hL)
                have k3 := fun (W : World) (hL : Lf W b (0)) => Done_of _ (0) W (State_any b (0) W hL)
                have m1 : ∃ q, okB (0) 2 = q := ⟨_, rfl⟩
                go_wp2_with (first
                  | (go_at_call 11; (with_reducible refine (hev _ hF hL).mono ?_); rintro e w2 ⟨rfl, ho2, hL2⟩; have hF2 := Fol.kept hF ho2 hb0; have hB2 := hB.trans (ho2.below hB.size (fun i hi h => by unfold One at h; omega)); have f2 := (hB2.cell (p := ⟨b', off + k, none⟩) hb').trans hc0)
                  | (go_at_call 9; (with_reducible refine (hr _).mono ?_); rintro e w3 ⟨rfl, rfl⟩)
                  | (go_at_call 12; (with_reducible refine (State_any b _ _ hL2).mono ?_); rintro e w4 ⟨rfl, rfl⟩)
                  | (go_at_call 13; (with_reducible refine (k1 _ hF2 hL2).mono ?_); rintro e w5 ⟨rfl, ho5⟩; have hF5 := Fol.kept hF2 ho5 (fun hh => hh); have hL5 := Blk.kept hL2 ho5 (fun hh => hh); have hB5 := hB2.trans (ho5.below hB2.size (fun _ _ hh => hh)))
                  | (go_at_call 14; (with_reducible refine (k2 _ hF5 hL5).mono ?_); rintro e w6 ⟨rfl, ho6⟩; have hF6 := Fol.kept hF5 ho6 (fun hh => hh); have hL6 := Blk.kept hL5 ho6 (fun hh => hh); have hB6 := hB5.trans (ho6.below hB5.size (fun _ _ hh => hh)))
                  | (go_at_call 15; (with_reducible refine (k3 _ hL6).mono ?_); rintro e w7 ⟨rfl, rfl⟩)
                  )
                go_roundw
                case rel => exact ⟨k + 1, 0, t, by omega, by go_num, by go_num, by go_num, by omega, by omega, by unfold rank at *; omega, by omega, hF6, hL6, hB6⟩
                case measure => simp [intOf]; omega
              ·
                have k1 := fun (W : World) (hf : Fol W) (hL : Lf W b (1)) => MaySend_of _ (1) W hf (State_any b (1) W hL)
                have k2 := fun (W : World) (hf : Fol W) (hL : Lf W b (1)) => MayRecv_of _ (1) W hf (State_any b (1) W hL)
                have k3 := fun (W : World) (hL : Lf W b (1)) => Done_of _ (1) W (State_any b (1) W hL)
                have m1 : ∃ q, okB (1) 2 = q := ⟨_, rfl⟩
                go_wp2_with (first
                  | (go_at_call 11; (with_reducible refine (hev _ hF hL).mono ?_); rintro e w2 ⟨rfl, ho2, hL2⟩; have hF2 := Fol.kept hF ho2 hb0; have hB2 := hB.trans (ho2.below hB.size (fun i hi h => by unfold One at h; omega)); have f2 := (hB2.cell (p := ⟨b', off + k, none⟩) hb').trans hc0)
                  | (go_at_call 9; (with_reducible refine (hr _).mono ?_); rintro e w3 ⟨rfl, rfl⟩)
                  | (go_at_call 12; (with_reducible refine (State_any b _ _ hL2).mono ?_); rintro e w4 ⟨rfl, rfl⟩)
                  | (go_at_call 13; (with_reducible refine (k1 _ hF2 hL2).mono ?_); rintro e w5 ⟨rfl, ho5⟩; have hF5 := Fol.kept hF2 ho5 (fun hh => hh); have hL5 := Blk.kept hL2 ho5 (fun hh => hh); have hB5 := hB2.trans (ho5.below hB2.size (fun _ _ hh => hh)))
                  | (go_at_call 14; (with_reducible refine (k2 _ hF5 hL5).mono ?_); rintro e w6 ⟨rfl, ho6⟩; have hF6 := Fol.kept hF5 ho6 (fun hh => hh); have hL6 := Blk.kept hL5 ho6 (fun hh => hh); have hB6 := hB5.trans (ho6.below hB5.size (fun _ _ hh => hh)))
                  | (go_at_call 15; (with_reducible refine (k3 _ hL6).mono ?_); rintro e w7 ⟨rfl, rfl⟩)
                  )
                go_roundw
                case rel => exact ⟨k + 1, 1, t, by omega, by go_num, by go_num, by go_num, by omega, by omega, by unfold rank at *; omega, by omega, hF6, hL6, hB6⟩
                case measure => simp [intOf]; omega
              ·
                have k1 := fun (W : World) (hf : Fol W) (hL : Lf W b (2)) => MaySend_of _ (2) W hf (State_any b (2) W hL)
                have k2 := fun (W : World) (hf : Fol W) (hL : Lf W b (2)) => MayRecv_of _ (2) W hf (State_any b (2) W hL)
                have k3 := fun (W : World) (hL : Lf W b (2)) => Done_of _ (2) W (State_any b (2) W hL)
                have m1 : ∃ q, okB (2) 2 = q := ⟨_, rfl⟩
                go_wp2_with (first
                  | (go_at_call 11; (with_reducible refine (hev _ hF hL).mono ?_); rintro e w2 ⟨rfl, ho2, hL2⟩; have hF2 := Fol.kept hF ho2 hb0; have hB2 := hB.trans (ho2.below hB.size (fun i hi h => by unfold One at h; omega)); have f2 := (hB2.cell (p := ⟨b', off + k, none⟩) hb').trans hc0)
                  | (go_at_call 9; (with_reducible refine (hr _).mono ?_); rintro e w3 ⟨rfl, rfl⟩)
                  | (go_at_call 12; (with_reducible refine (State_any b _ _ hL2).mono ?_); rintro e w4 ⟨rfl, rfl⟩)
                  | (go_at_call 13; (with_reducible refine (k1 _ hF2 hL2).mono ?_); rintro e w5 ⟨rfl, ho5⟩; have hF5 := Fol.kept hF2 ho5 (fun hh => hh); have hL5 := Blk.kept hL2 ho5 (fun hh => hh); have hB5 := hB2.trans (ho5.below hB2.size (fun _ _ hh => hh)))
                  | (go_at_call 14; (with_reducible refine (k2 _ hF5 hL5).mono ?_); rintro e w6 ⟨rfl, ho6⟩; have hF6 := Fol.kept hF5 ho6 (fun hh => hh); have hL6 := Blk.kept hL5 ho6 (fun hh => hh); have hB6 := hB5.trans (ho6.below hB5.size (fun _ _ hh => hh)))
                  | (go_at_call 15; (with_reducible refine (k3 _ hL6).mono ?_); rintro e w7 ⟨rfl, rfl⟩)
                  )
                go_roundw
                case rel => exact ⟨k + 1, 2, t, by omega, by go_num, by go_num, by go_num, by omega, by omega, by unfold rank at *; omega, by omega, hF6, hL6, hB6⟩
                case measure => simp [intOf]; omega
              ·
                have k1 := fun (W : World) (hf : Fol W) (hL : Lf W b (3)) => MaySend_of _ (3) W hf (State_any b (3) W hL)
                have k2 := fun (W : World) (hf : Fol W) (hL : Lf W b (3)) => MayRecv_of _ (3) W hf (State_any b (3) W hL)
                have k3 := fun (W : World) (hL : Lf W b (3)) => Done_of _ (3) W (State_any b (3) W hL)
                have m1 : ∃ q, okB (3) 2 = q := ⟨_, rfl⟩
                go_wp2_with (first
                  | (go_at_call 11; (with_reducible refine (hev _ hF hL).mono ?_); rintro e w2 ⟨rfl, ho2, hL2⟩; have hF2 := Fol.kept hF ho2 hb0; have hB2 := hB.trans (ho2.below hB.size (fun i hi h => by unfold One at h; omega)); have f2 := (hB2.cell (p := ⟨b', off + k, none⟩) hb').trans hc0)
                  | (go_at_call 9; (with_reducible refine (hr _).mono ?_); rintro e w3 ⟨rfl, rfl⟩)
                  | (go_at_call 12; (with_reducible refine (State_any b _ _ hL2).mono ?_); rintro e w4 ⟨rfl, rfl⟩)
                  | (go_at_call 13; (with_reducible refine (k1 _ hF2 hL2).mono ?_); rintro e w5 ⟨rfl, ho5⟩; have hF5 := Fol.kept hF2 ho5 (fun hh => hh); have hL5 := Blk.kept hL2 ho5 (fun hh => hh); have hB5 := hB2.trans (ho5.below hB2.size (fun _ _ hh => hh)))
                  | (go_at_call 14; (with_reducible refine (k2 _ hF5 hL5).mono ?_); rintro e w6 ⟨rfl, ho6⟩; have hF6 := Fol.kept hF5 ho6 (fun hh => hh); have hL6 := Blk.kept hL5 ho6 (fun hh => hh); have hB6 := hB5.trans (ho6.below hB5.size (fun _ _ hh => hh)))
                  | (go_at_call 15; (with_reducible refine (k3 _ hL6).mono ?_); rintro e w7 ⟨rfl, rfl⟩)
                  )
                go_roundw
                case rel => exact ⟨k + 1, 3, t, by omega, by go_num, by go_num, by go_num, by omega, by omega, by unfold rank at *; omega, by omega, hF6, hL6, hB6⟩
                case measure => simp [intOf]; omega
              ·
                have k1 := fun (W : World) (hf : Fol W) (hL : Lf W b (4)) => MaySend_of _ (4) W hf (State_any b (4) W hL)
                have k2 := fun (W : World) (hf : Fol W) (hL : Lf W b (4)) => MayRecv_of _ (4) W hf (State_any b (4) W hL)
                have k3 := fun (W : World) (hL : Lf W b (4)) => Done_of _ (4) W (State_any b (4) W hL)
                have m1 : ∃ q, okB (4) 2 = q := ⟨_, rfl⟩
                go_wp2_with (first
                  | (go_at_call 11; (with_reducible refine (hev _ hF hL).mono ?_); rintro e w2 ⟨rfl, ho2, hL2⟩; have hF2 := Fol.kept hF ho2 hb0; have hB2 := hB.trans (ho2.below hB.size (fun i hi h => by unfold One at h; omega)); have f2 := (hB2.cell (p := ⟨b', off + k, none⟩) hb').trans hc0)
                  | (go_at_call 9; (with_reducible refine (hr _).mono ?_); rintro e w3 ⟨rfl, rfl⟩)
                  | (go_at_call 12; (with_reducible refine (State_any b _ _ hL2).mono ?_); rintro e w4 ⟨rfl, rfl⟩)
                  | (go_at_call 13; (with_reducible refine (k1 _ hF2 hL2).mono ?_); rintro e w5 ⟨rfl, ho5⟩; have hF5 := Fol.kept hF2 ho5 (fun hh => hh); have hL5 := Blk.kept hL2 ho5 (fun hh => hh); have hB5 := hB2.trans (ho5.below hB2.size (fun _ _ hh => hh)))
                  | (go_at_call 14; (with_reducible refine (k2 _ hF5 hL5).mono ?_); rintro e w6 ⟨rfl, ho6⟩; have hF6 := Fol.kept hF5 ho6 (fun hh => hh); have hL6 := Blk.kept hL5 ho6 (fun hh => hh); have hB6 := hB5.trans (ho6.below hB5.size (fun _ _ hh => hh)))
                  | (go_at_call 15; (with_reducible refine (k3 _ hL6).mono ?_); rintro e w7 ⟨rfl, rfl⟩)
                  )
                go_roundw
                case rel => exact ⟨k + 1, 4, t, by omega, by go_num, by go_num, by go_num, by omega, by omega, by unfold rank at *; omega, by omega, hF6, hL6, hB6⟩
                case measure => simp [intOf]; omega
          · clear hr2
            rcases hsc with rfl | rfl | rfl | rfl | rfl
            ·
              have k1 := fun (W : World) (hf : Fol W) (hL : Lf W b (0)) => MaySend_of _ (0) W hf (State_any b (0) W hL)
              have k2 := fun (W : World) (hf : Fol W) (hL : Lf W b (0)) => MayRecv_of _ (0) W hf (State_any b (0) W hL)
              have k3 := fun (W : World) (hL : Lf W b (0)) => Done_of _ (0) W (State_any b (0) W hL)
              have m1 : ∃ q, okB (0) 2 = q := ⟨_, rfl⟩
              go_wp2_with (first
                | (go_at_call 11; (with_reducible refine (hev _ hF hL).mono ?_); rintro e w2 ⟨rfl, ho2, hL2⟩; have hF2 := Fol.kept hF ho2 hb0; have hB2 := hB.trans (ho2.below hB.size (fun i hi h => by unfold One at h; omega)); have f2 := (hB2.cell (p := ⟨b', off + k, none⟩) hb').trans hc0)
                | (go_at_call 9; (with_reducible refine (hr _).mono ?_); rintro e w3 ⟨rfl, rfl⟩)
                | (go_at_call 12; (with_reducible refine (State_any b _ _ hL2).mono ?_); rintro e w4 ⟨rfl, rfl⟩)
                | (go_at_call 13; (with_reducible refine (k1 _ hF2 hL2).mono ?_); rintro e w5 ⟨rfl, ho5⟩; have hF5 := Fol.kept hF2 ho5 (fun hh => hh); have hL5 := Blk.kept hL2 ho5 (fun hh => hh); have hB5 := hB2.trans (ho5.below hB2.size (fun _ _ hh => hh)))
                | (go_at_call 14; (with_reducible refine (k2 _ hF5 hL5).mono ?_); rintro e w6 ⟨rfl, ho6⟩; have hF6 := Fol.kept hF5 ho6 (fun hh => hh); have hL6 := Blk.kept hL5 ho6 (fun hh => hh); have hB6 := hB5.trans (ho6.below hB5.size (fun _ _ hh => hh)))
                | (go_at_call 15; (with_reducible refine (k3 _ hL6).mono ?_); rintro e w7 ⟨rfl, rfl⟩)
                )
              go_roundw
              case rel => exact ⟨k + 1, 0, t, by omega, by go_num, by go_num, by go_num, by omega, by omega, by unfold rank at *; omega, by omega, hF6, hL6, hB6⟩
              case measure => simp [intOf]; omega
            ·
              have k1 := fun (W : World) (hf : Fol W) (hL : Lf W b (1)) => MaySend_of _ (1) W hf (State_any b (1) W hL)
              have k2 := fun (W : World) (hf : Fol W) (hL : Lf W b (1)) => MayRecv_of _ (1) W hf (State_any b (1) W hL)
              have k3 := fun (W : World) (hL : Lf W b (1)) => Done_of _ (1) W (State_any b (1) W hL)
              have m1 : ∃ q, okB (1) 2 = q := ⟨_, rfl⟩
              go_wp2_with (first
                | (go_at_call 11; (with_reducible refine (hev _ hF hL).mono ?_); rintro e w2 ⟨rfl, ho2, hL2⟩; have hF2 := Fol.kept hF ho2 hb0; have hB2 := hB.trans (ho2.below hB.size (fun i hi h => by unfold One at h; omega)); have f2 := (hB2.cell (p := ⟨b', off + k, none⟩) hb').trans hc0)
                | (go_at_call 9; (with_reducible refine (hr _).mono ?_); rintro e w3 ⟨rfl, rfl⟩)
                | (go_at_call 12; (with_reducible refine (State_any b _ _ hL2).mono ?_); rintro e w4 ⟨rfl, rfl⟩)
                | (go_at_call 13; (with_reducible refine (k1 _ hF2 hL2).mono ?_); rintro e w5 ⟨rfl, ho5⟩; have hF5 := Fol.kept hF2 ho5 (fun hh => hh); have hL5 := Blk.kept hL2 ho5 (fun hh => hh); have hB5 := hB2.trans (ho5.below hB2.size (fun _ _ hh => hh)))
                | (go_at_call 14; (with_reducible refine (k2 _ hF5 hL5).mono ?_); rintro e w6 ⟨rfl, ho6⟩; have hF6 := Fol.kept hF5 ho6 (fun hh => hh); have hL6 := Blk.kept hL5 ho6 (fun hh => hh); have hB6 := hB5.trans (ho6.below hB5.size (fun _ _ hh => hh)))
                | (go_at_call 15; (with_reducible refine (k3 _ hL6).mono ?_); rintro e w7 ⟨rfl, rfl⟩)
                )
              go_roundw
              case rel => exact ⟨k + 1, 1, t, by omega, by go_num, by go_num, by go_num, by omega, by omega, by unfold rank at *; omega, by omega, hF6, hL6, hB6⟩
              case measure => simp [intOf]; omega
            ·
              have k1 := fun (W : World) (hf : Fol W) (hL : Lf W b (2)) => MaySend_of _ (2) W hf (State_any b (2) W hL)
              have k2 := fun (W : World) (hf : Fol W) (hL : Lf W b (2)) => MayRecv_of _ (2) W hf (State_any b (2) W hL)
              have k3 := fun (W : World) (hL : Lf W b (2)) => Done_of _ (2) W (State_any b (2) W hL)
              have m1 : ∃ q, okB (2) 2 = q := ⟨_, rfl⟩
              go_wp2_with (first
                | (go_at_call 11; (with_reducible refine (hev _ hF hL).mono ?_); rintro e w2 ⟨rfl, ho2, hL2⟩; have hF2 := Fol.kept hF ho2 hb0; have hB2 := hB.trans (ho2.below hB.size (fun i hi h => by unfold One at h; omega)); have f2 := (hB2.cell (p := ⟨b', off + k, none⟩) hb').trans hc0)
                | (go_at_call 9; (with_reducible refine (hr _).mono ?_); rintro e w3 ⟨rfl, rfl⟩)
                | (go_at_call 12; (with_reducible refine (State_any b _ _ hL2).mono ?_); rintro e w4 ⟨rfl, rfl⟩)
                | (go_at_call 13; (with_reducible refine (k1 _ hF2 hL2).mono ?_); rintro e w5 ⟨rfl, ho5⟩; have hF5 := Fol.kept hF2 ho5 (fun hh => hh); have hL5 := Blk.kept hL2 ho5 (fun hh => hh); have hB5 := hB2.trans (ho5.below hB2.size (fun _ _ hh => hh)))
                | (go_at_call 14; (with_reducible refine (k2 _ hF5 hL5).mono ?_); rintro e w6 ⟨rfl, ho6⟩; have hF6 := Fol.kept hF5 ho6 (fun hh => hh); have hL6 := Blk.kept hL5 ho6 (fun hh => hh); have hB6 := hB5.trans (ho6.below hB5.size (fun _ _ hh => hh)))
                | (go_at_call 15; (with_reducible refine (k3 _ hL6).mono ?_); rintro e w7 ⟨rfl, rfl⟩)
                )
              go_roundw
              case rel => exact ⟨k + 1, 2, t, by omega, by go_num, by go_num, by go_num, by omega, by omega, by unfold rank at *; omega, by omega, hF6, hL6, hB6⟩
              case measure => simp [intOf]; omega
            ·
              have k1 := fun (W : World) (hf : Fol W) (hL : Lf W b (3)) => MaySend_of _ (3) W hf (State_any b (3) W hL)
              have k2 := fun (W : World) (hf : Fol W) (hL : Lf W b (3)) => MayRecv_of _ (3) W hf (State_any b (3) W hL)
              have k3 := fun (W : World) (hL : Lf W b (3)) => Done_of _ (3) W (State_any b (3) W hL)
              have m1 : ∃ q, okB (3) 2 = q := ⟨_, rfl⟩
              go_wp2_with (first
                | (go_at_call 11; (with_reducible refine (hev _ hF hL).mono ?_); rintro e w2 ⟨rfl, ho2, hL2⟩; have hF2 := Fol.kept hF ho2 hb0; have hB2 := hB.trans (ho2.below hB.size (fun i hi h => by unfold One at h; omega)); have f2 := (hB2.cell (p := ⟨b', off + k, none⟩) hb').trans hc0)
                | (go_at_call 9; (with_reducible refine (hr _).mono ?_); rintro e w3 ⟨rfl, rfl⟩)
                | (go_at_call 12; (with_reducible refine (State_any b _ _ hL2).mono ?_); rintro e w4 ⟨rfl, rfl⟩)
                | (go_at_call 13; (with_reducible refine (k1 _ hF2 hL2).mono ?_); rintro e w5 ⟨rfl, ho5⟩; have hF5 := Fol.kept hF2 ho5 (fun hh => hh); have hL5 := Blk.kept hL2 ho5 (fun hh => hh); have hB5 := hB2.trans (ho5.below hB2.size (fun _ _ hh => hh)))
                | (go_at_call 14; (with_reducible refine (k2 _ hF5 hL5).mono ?_); rintro e w6 ⟨rfl, ho6⟩; have hF6 := Fol.kept hF5 ho6 (fun hh => hh); have hL6 := Blk.kept hL5 ho6 (fun hh => hh); have hB6 := hB5.trans (ho6.below hB5.size (fun _ _ hh => hh)))
                | (go_at_call 15; (with_reducible refine (k3 _ hL6).mono ?_); rintro e w7 ⟨rfl, rfl⟩)
                )
              go_roundw
              case rel => exact ⟨k + 1, 3, t, by omega, by go_num, by go_num, by go_num, by omega, by omega, by unfold rank at *; omega, by omega, hF6, hL6, hB6⟩
              case measure => simp [intOf]; omega
            ·
              have k1 := fun (W : World) (hf : Fol W) (hL : Lf W b (4)) => MaySend_of _ (4) W hf (State_any b (4) W hL)
              have k2 := fun (W : World) (hf : Fol W) (hL : Lf W b (4)) => MayRecv_of _ (4) W hf (State_any b (4) W hL)
              have k3 := fun (W : World) (hL : Lf W b (4)) => Done_of _ (4) W (State_any b (4) W hL)
              have m1 : ∃ q, okB (4) 2 = q := ⟨_, rfl⟩
              go_wp2_with (first
                | (go_at_call 11; (with_reducible refine (hev _ hF hL).mono ?_); rintro e w2 ⟨rfl, ho2, hL2⟩; have hF2 := Fol.kept hF ho2 hb0; have hB2 := hB.trans (ho2.below hB.size (fun i hi h => by unfold One at h; omega)); have f2 := (hB2.cell (p := ⟨b', off + k, none⟩) hb').trans hc0)
                | (go_at_call 9; (with_reducible refine (hr _).mono ?_); rintro e w3 ⟨rfl, rfl⟩)
                | (go_at_call 12; (with_reducible refine (State_any b _ _ hL2).mono ?_); rintro e w4 ⟨rfl, rfl⟩)
                | (go_at_call 13; (with_reducible refine (k1 _ hF2 hL2).mono ?_); rintro e w5 ⟨rfl, ho5⟩; have hF5 := Fol.kept hF2 ho5 (fun hh => hh); have hL5 := Blk.kept hL2 ho5 (fun hh => hh); have hB5 := hB2.trans (ho5.below hB2.size (fun _ _ hh => hh)))
                | (go_at_call 14; (with_reducible refine (k2 _ hF5 hL5).mono ?_); rintro e w6 ⟨rfl, ho6⟩; have hF6 := Fol.kept hF5 ho6 (fun hh => hh); have hL6 := Blk.kept hL5 ho6 (fun hh => hh); have hB6 := hB5.trans (ho6.below hB5.size (fun _ _ hh => hh)))
                | (go_at_call 15; (with_reducible refine (k3 _ hL6).mono ?_); rintro e w7 ⟨rfl, rfl⟩)
                )
              go_roundw
              case rel => exact ⟨k + 1, 4, t, by omega, by go_num, by go_num, by go_num, by omega, by omega, by unfold rank at *; omega, by omega, hF6, hL6, hB6⟩
              case measure => simp [intOf]; omega
      · go_wp2
        go_ret
        exact ⟨by first | rfl | (simp; omega), hB⟩
    · go_wp2
      go_ret
      exact ⟨by first | rfl | (simp; omega), hB⟩
/-! The step from the walk to the statement of LifeGoes. -/
namespace frLifeGoes
open Go.ChangeShapes Go.WideShapes Go.ChangeAt Go.RowKit
set_option linter.unusedVariables false
theorem own : ownKnob Tryd.prog.godebug = none := by kernel_rfl
theorem laidOut : laidOutB Tryd.prog = true := by kernel_rfl
theorem shape0 : Kd.ok Tryd.prog (.slc (.int .i64)) 28 = true := by kernel_rfl
theorem tabs {W : World} (h : laidMetH Tryd.prog Rows.lifeGoesRow.laid W) : Tab W 0 tab_life_follows := by
  have h0 : laidMet Tryd.prog [("paternoster/life.follows", Rows.laid_paternoster_life_follows)] W := h
  obtain ⟨t0, h1⟩ := Tab.of_var tab_life_follows_g tab_life_follows_ty tab_life_follows_ok tab_life_follows_vals (by decide) h0
  exact t0
set_option maxRecDepth 100000 in
theorem contract (H : Type) (enc : TypeId × Value → H) (W : World) (base : Nat) (args : Array Value) (ds gs : List (DataW H)) (before : List MemPlace)
    (hval : ∀ (j : Nat) t v, Tryd.f4.params[j]? = some t → args[j]? = some v → Value.okWide Tryd.prog W .any base t v)
    (hW : DataW.Whole enc Tryd.prog Tryd.f4.params.toList Rows.lifeGoesSpec.vars false W args.toList ds gs before) (hL : laidMetH Tryd.prog Rows.lifeGoesRow.laid W) :
    Calls Tryd.prog 4 args W fun e W' => ∃ v, e = .returned v ∧ Rows.lifeGoesSpec.post enc Tryd.prog Tryd.f4 false true false false W args v W' := by
  have hT := tabs hL
  have hW' := hW
  obtain ⟨p, q, hA0, hV, rfl, hfz, hnd⟩ := hW
  have hA : DataW.TrodAll enc Tryd.prog W 0 (fun _ => true) true Tryd.f4.params.toList args.toList ds p := hA0
  rw [Tryd.params4] at hA hval
  obtain ⟨v0, vs0, d0, ds0, p0, q0, hargs, rfl, rfl, h0, r0⟩ := trodAll_cons hA
  obtain ⟨rfl, rfl, rfl⟩ := trodAll_nil r0
  obtain rfl : args = #[v0] := by cases args; simp_all
  obtain ⟨rfl, rfl⟩ := trodVars_none hV
  have k0 := Kd.fit _ shape0 (hval 0 28 v0 rfl rfl) h0
  have lt0 : ∀ x ∈ p0, x.block < W.heap.size := by obtain ⟨m, hm⟩ := h0; exact DataW.trod_lt m _ _ _ hm
  refine (lifeGoes_walk v0 W k0 hT).mono fun e W' ⟨he, bel⟩ => ?_
  subst he
  exact ⟨_, rfl, _, _, _, [], _, [], hW', trodAll_mk1 (shut_bool Tryd.underlying4 _), (trodAll_cons_mk (Below.trod laidOut (by kernel_rfl) (of_decide_eq_true (by kernel_rfl)) h0 bel lt0) trodAll_mk0), rfl, bel.frame _, fun h => by cases h⟩
noncomputable def laidWorld (os : Os) : World := { World.holding Tryd.prog os ⟨#[], #[], []⟩ with heap := ((World.holding Tryd.prog os ⟨#[], #[], []⟩).heap.modify 0 fun | .cells _ t frozen => .cells tab_life_follows t frozen | o => o) }
theorem laid_met (os : Os) : laidMet Tryd.prog Rows.lifeGoesRow.laid ((laidWorld os).forCall (fun _ _ => 0) ⟨#[], #[.slice none 0 0], []⟩).memory :=
  laidMet_of_run' 8 (by kernel_rfl) (by kernel_rfl)
theorem reads (os : Os) {H : Type} (enc : TypeId × Value → H) : ∃ places, DataW.whole enc Tryd.prog ((laidWorld os).forCall (fun _ _ => 0) ⟨#[], #[.slice none 0 0], []⟩).memory Tryd.f4.params.toList Rows.lifeGoesSpec.vars false (#[.slice none 0 0] : Array Value).toList 8 = some ([.nil], [], places) :=
  ⟨[], by kernel_rfl⟩
set_option maxRecDepth 100000 in
theorem lifted (os : Os) (started : os.Started) (H : Type) (enc : TypeId × Value → H) (F : Stop.Interp) :
    ReturnsInHanded {} Tryd.checked os 4 .any ((OpenSpec.ofChange Rows.lifeGoesSpec).preRow enc Tryd.prog Tryd.f4 Rows.lifeGoesRow.domain false Rows.lifeGoesRow.laid) (((OpenSpec.ofChange Rows.lifeGoesSpec).at F).post enc Tryd.prog Tryd.f4 false true false false) := by
  obtain ⟨places, hx⟩ := reads os enc
  refine returnsInHanded_of_row (C := Tryd.checked) (s := (OpenSpec.ofChange Rows.lifeGoesSpec)) own started (by kernel_rfl) Tryd.func4
    (witness_row_at (enc := enc) (C := Tryd.checked) false (laidWorld os) #[.slice none 0 0] rfl (by kernel_rfl) (by kernel_rfl) (by kernel_rfl)
      (OpenSpec.preRow_of_cond 8 hx (by kernel_rfl) (fun k hk => by cases hk) (by kernel_rfl) (laid_met os))) ?_
  intro W base args ds gs before hval hW _ _ _ hL _ _
  exact contract H enc W base args ds gs before hval hW hL
theorem said : Rows.LifeGoesSaid :=
  OpenClaim.holds_of_cond 4 Tryd.f4 rfl rfl rfl rfl rfl rfl rfl ⟨rfl, rfl, rfl, rfl, rfl⟩ rfl rfl rfl rfl rfl (by kernel_rfl) Tryd.func4 (by kernel_rfl)
    (of_decide_eq_true (by kernel_rfl)) (by unfold Func.isWrapper; first | (rw [if_pos (by decide +kernel)]; kernel_rfl) | (rw [if_neg (by decide +kernel)]; exact ⟨rfl, rfl⟩))
    (fun os started H enc _ F => by rw [OpenClaim.pre_eq_preRow]; exact lifted os started H enc F)
theorem plain (f : FuncId) (fn : Func) (hf : Tryd.pinned.checked.prog.funcNamed "paternoster/paternosterlaw12.LifeGoes" = some f) (hfn : Tryd.pinned.checked.prog.funcs[f]? = some fn) :
    false = Tryd.pinned.checked.prog.looks [] ∧ ∀ (j : Nat) t, fn.params[j]? = some t → Tryd.pinned.checked.prog.wantsStandIn t = false := by
  obtain rfl : f = 4 := Option.some.inj ((show Tryd.prog.funcNamed "paternoster/paternosterlaw12.LifeGoes" = some 4 by kernel_rfl).symm.trans hf) |>.symm
  obtain rfl : fn = Tryd.f4 := (Option.some.inj (Tryd.func4.symm.trans hfn)).symm
  refine ⟨by kernel_rfl, fun j t ht => ?_⟩
  rw [Tryd.params4] at ht
  have hm : t ∈ [28] := by simpa using Array.mem_of_getElem? ht
  simp only [List.mem_cons, List.not_mem_nil, or_false] at hm
  subst hm
  exact (show Tryd.prog.wantsStandIn 28 = false by kernel_rfl)
theorem proved : Rows.LifeGoesCardSaid :=
  Claim7.holds_tied_plain_at .later [] _ _ _ _ said (fun _ h => by cases h) (by kernel_rfl) (fun _ h => by cases h) lifeGoes_row_tie rfl ⟨rfl, rfl⟩ (by kernel_rfl) rfl plain (by kernel_rfl)
end frLifeGoes
end Go.Proofs.YtcidpnkdefmaoaaDoor
