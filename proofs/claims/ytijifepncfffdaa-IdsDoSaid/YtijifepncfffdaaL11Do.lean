/- For every side, every list of calls and every number that is asked for: each call of IDs is answered as the document says (the statement IdsDo, as it is given). No condition. -/
import Derived.Test.YtijifepncfffdaaL11None
namespace Go.Proofs.Ytijifepncfffdaa
open Go.RowKit

theorem past_eq {s n l i : Int} (hs : sideOk s) (hn : idsOk n l) : pastB s n l i = ((ofB s i && decide (i < n)) || (ofB (1 - s) i && decide (i ≤ l))) := by
  obtain ⟨s1, s2⟩ := hs
  obtain ⟨n1, n2, l1, l2⟩ := hn
  rw [Bool.eq_iff_iff]
  unfold pastB
  cases h : ofB s i
  · simp [ofB] at h ⊢
    omega
  · simp [ofB] at h ⊢
    omega

theorem peer_cases {s l i : Int} : (peerB s l i = true ∧ ofB (1 - s) i = true ∧ l < i) ∨ (peerB s l i = false ∧ ofB (1 - s) i = true ∧ ¬ l < i) ∨ (peerB s l i = false ∧ ofB (1 - s) i = false) := by
  unfold peerB
  cases ofB (1 - s) i <;> simp
  omega
theorem ofB_le {s i : Int} (h : ofB s i = true) : 1 ≤ i ∧ i ≤ 2147483647 := by
  unfold ofB at h
  simp only [Bool.and_eq_true, decide_eq_true_eq] at h
  exact h.1

set_option maxRecDepth 100000 in
set_option maxHeartbeats 8000000 in
theorem idsDo_walk (v0 v1 v2 : Value) (w : World) (h0 : Kd.Fit w (.int .i64) v0) (h1 : Kd.Fit w (.slc (.agg [.int .i64, .int .i64])) v1) (h2 : Kd.Fit w (.int .i64) v2) :
    Calls Try.prog 3 #[v0, v1, v2] w fun e w' => e = .returned (.bool true) ∧ Below w.heap.size w w' := by
  obtain ⟨s, rfl, _⟩ := Kd.int_fit h0
  obtain ⟨A, len, cap, rfl, hl⟩ := Kd.slc_fit h1
  obtain ⟨ask, rfl, hask⟩ := Kd.int_fit h2
  obtain ⟨ask1, ask2⟩ := i64Ok_of hask
  clear h0 h1 h2 hask
  by_cases hs : sideOk s
  · have hs2 : sideOk (1 - s) := by unfold sideOk at hs ⊢; omega
    obtain ⟨s1, s2⟩ := id hs
    have hsd : ((s != 0) = false ∧ (s != 1) = true) ∨ ((s != 0) = true ∧ (s != 1) = false) := by
      have h : s = 0 ∨ s = 1 := by omega
      rcases h with rfl | rfl
      · exact .inl ⟨by decide, by decide⟩
      · exact .inr ⟨by decide, by decide⟩
    rcases hsd with ⟨hq1, hq2⟩ | ⟨hq1, hq2⟩
    all_goals
      go_enter Try.func3, Try.ntmps3
      go_wp2_with (first
        | (go_at_call 6; (with_reducible refine (New_any _ _ hs).mono ?_); rintro e w1 ⟨b, rfl, hb, ho1, hW1⟩)
        | (go_at_call 7; (with_reducible refine (awake_any _).mono ?_); rintro e w1' ⟨rfl, ho1'⟩; have hW1' := hW1.kept ho1' (fun hh => hh))
        )
      go_loopw [9, 10, 11] (fun nn ll i wr => ∃ (k : Nat) (n l : Int), k ≤ len ∧ i = .int .i64 k ∧ nn = .int .i64 n ∧ ll = .int .i64 l ∧ idsOk n l ∧ Ids wr b s n l ∧ Below w.heap.size w wr) (fun _ _ i _ => len - (intOf i).toNat)
      case atStart => exact ⟨0, s + 1, 0, Nat.zero_le _, rfl, by go_num, rfl, ⟨by omega, by omega, by omega, by omega⟩, hW1', (ho1.trans ho1').below (Nat.le_refl _) (fun _ _ hh => hh)⟩
      case round =>
        obtain ⟨k, n, l, hk, rfl, rfl, rfl, hn, hW, hB⟩ := hrel
        have hmax : len ≤ 9223372036854775807 := Nat.le_trans hl.1 hl.2.1
        by_cases hlt : k < len
        · by_cases h100 : k < 100
          · obtain ⟨b', off, rfl, hb', cs, hcl, hcs, his⟩ := hl.at (by decide) hlt
            obtain ⟨kd, x, rfl, _, hx⟩ := Kd.list_ints2 his
            have f0 := (hB.cell (p := ⟨b', _, none⟩) hb').trans (hcs 0 (by decide))
            have f1 := (hB.cell (p := ⟨b', _, none⟩) hb').trans (hcs 1 (by decide))
            simp [Kd.cells, Kd.cellsL] at f0 f1
            clear his hcs
            obtain ⟨hx1, hx2⟩ := i64Ok_of hx
            obtain ⟨hn1, hn2, hn3, hn4⟩ := id hn
            clear hx hcl
            have hk0 : (kd = 2 ∨ kd = 3) ∨ kd = 4 ∨ (kd ≠ 2 ∧ kd ≠ 3 ∧ kd ≠ 4) := by omega
            rcases hk0 with hk0 | hk0 | hk0
            · have hof := fun (W : World) => of_any (1 - s) x W hs2
              rcases peer_cases (s := s) (l := l) (i := x) with ⟨p1, p2, p3⟩ | ⟨p1, p2, p3⟩ | ⟨p1, p2⟩
              · have hd := fun (W : World) (hW : Ids W b s n l) => Peer_yes b s n l x W hW hs p1
                obtain ⟨q1, q2⟩ := ofB_le p2
                rw [p2] at hof
                clear p1 p2
                rcases hk0 with rfl | rfl
                ·
                  go_wp2_with (first
                    | (go_at_call 8; (with_reducible refine (hd _ hW).mono ?_); rintro e w2 ⟨rfl, ho2, hW2⟩)
                    | (go_at_call 9; (with_reducible refine (hof _).mono ?_); rintro e w3 ⟨rfl, rfl⟩)
                    | (go_at_call 12; (with_reducible refine (Next_any b _ _ _ _ hW2).mono ?_); rintro e w4 ⟨rfl, rfl⟩)
                    | (go_at_call 13; (with_reducible refine (Last_any b _ _ _ _ hW2).mono ?_); rintro e w5 ⟨rfl, rfl⟩)
                    )
                  go_roundw
                  case rel => exact ⟨k + 1, n, x, by omega, by go_num, by go_num, by go_num, ⟨by omega, by omega, by omega, by omega⟩, hW2, hB.trans (ho2.below hB.size (fun i hi h => by unfold One at h; omega))⟩
                  case measure => simp [intOf]; omega
                ·
                  go_wp2_with (first
                    | (go_at_call 8; (with_reducible refine (hd _ hW).mono ?_); rintro e w2 ⟨rfl, ho2, hW2⟩)
                    | (go_at_call 9; (with_reducible refine (hof _).mono ?_); rintro e w3 ⟨rfl, rfl⟩)
                    | (go_at_call 12; (with_reducible refine (Next_any b _ _ _ _ hW2).mono ?_); rintro e w4 ⟨rfl, rfl⟩)
                    | (go_at_call 13; (with_reducible refine (Last_any b _ _ _ _ hW2).mono ?_); rintro e w5 ⟨rfl, rfl⟩)
                    )
                  go_roundw
                  case rel => exact ⟨k + 1, n, x, by omega, by go_num, by go_num, by go_num, ⟨by omega, by omega, by omega, by omega⟩, hW2, hB.trans (ho2.below hB.size (fun i hi h => by unfold One at h; omega))⟩
                  case measure => simp [intOf]; omega
              · have hd := fun (W : World) (hW : Ids W b s n l) => Peer_no b s n l x W hW hs p1
                rw [p2] at hof
                clear p1 p2
                rcases hk0 with rfl | rfl
                ·
                  go_wp2_with (first
                    | (go_at_call 8; (with_reducible refine (hd _ hW).mono ?_); rintro e w2 ⟨rfl, ho2, hW2⟩)
                    | (go_at_call 9; (with_reducible refine (hof _).mono ?_); rintro e w3 ⟨rfl, rfl⟩)
                    | (go_at_call 12; (with_reducible refine (Next_any b _ _ _ _ hW2).mono ?_); rintro e w4 ⟨rfl, rfl⟩)
                    | (go_at_call 13; (with_reducible refine (Last_any b _ _ _ _ hW2).mono ?_); rintro e w5 ⟨rfl, rfl⟩)
                    )
                  go_roundw
                  case rel => exact ⟨k + 1, n, l, by omega, by go_num, by go_num, by go_num, ⟨by omega, by omega, by omega, by omega⟩, hW2, hB.trans (ho2.below hB.size (fun i hi h => by unfold One at h; omega))⟩
                  case measure => simp [intOf]; omega
                ·
                  go_wp2_with (first
                    | (go_at_call 8; (with_reducible refine (hd _ hW).mono ?_); rintro e w2 ⟨rfl, ho2, hW2⟩)
                    | (go_at_call 9; (with_reducible refine (hof _).mono ?_); rintro e w3 ⟨rfl, rfl⟩)
                    | (go_at_call 12; (with_reducible refine (Next_any b _ _ _ _ hW2).mono ?_); rintro e w4 ⟨rfl, rfl⟩)
                    | (go_at_call 13; (with_reducible refine (Last_any b _ _ _ _ hW2).mono ?_); rintro e w5 ⟨rfl, rfl⟩)
                    )
                  go_roundw
                  case rel => exact ⟨k + 1, n, l, by omega, by go_num, by go_num, by go_num, ⟨by omega, by omega, by omega, by omega⟩, hW2, hB.trans (ho2.below hB.size (fun i hi h => by unfold One at h; omega))⟩
                  case measure => simp [intOf]; omega
              · have hd := fun (W : World) (hW : Ids W b s n l) => Peer_no b s n l x W hW hs p1
                rw [p2] at hof
                clear p1 p2
                rcases hk0 with rfl | rfl
                ·
                  go_wp2_with (first
                    | (go_at_call 8; (with_reducible refine (hd _ hW).mono ?_); rintro e w2 ⟨rfl, ho2, hW2⟩)
                    | (go_at_call 9; (with_reducible refine (hof _).mono ?_); rintro e w3 ⟨rfl, rfl⟩)
                    | (go_at_call 12; (with_reducible refine (Next_any b _ _ _ _ hW2).mono ?_); rintro e w4 ⟨rfl, rfl⟩)
                    | (go_at_call 13; (with_reducible refine (Last_any b _ _ _ _ hW2).mono ?_); rintro e w5 ⟨rfl, rfl⟩)
                    )
                  go_roundw
                  case rel => exact ⟨k + 1, n, l, by omega, by go_num, by go_num, by go_num, ⟨by omega, by omega, by omega, by omega⟩, hW2, hB.trans (ho2.below hB.size (fun i hi h => by unfold One at h; omega))⟩
                  case measure => simp [intOf]; omega
                ·
                  go_wp2_with (first
                    | (go_at_call 8; (with_reducible refine (hd _ hW).mono ?_); rintro e w2 ⟨rfl, ho2, hW2⟩)
                    | (go_at_call 9; (with_reducible refine (hof _).mono ?_); rintro e w3 ⟨rfl, rfl⟩)
                    | (go_at_call 12; (with_reducible refine (Next_any b _ _ _ _ hW2).mono ?_); rintro e w4 ⟨rfl, rfl⟩)
                    | (go_at_call 13; (with_reducible refine (Last_any b _ _ _ _ hW2).mono ?_); rintro e w5 ⟨rfl, rfl⟩)
                    )
                  go_roundw
                  case rel => exact ⟨k + 1, n, l, by omega, by go_num, by go_num, by go_num, ⟨by omega, by omega, by omega, by omega⟩, hW2, hB.trans (ho2.below hB.size (fun i hi h => by unfold One at h; omega))⟩
                  case measure => simp [intOf]; omega
            · subst hk0
              have hof := fun (W : World) => of_any s x W hs
              have hd := fun (W : World) (hW : Ids W b s n l) => Skip_any b s n l x W hW hs
              cases p1 : ofB s x
              · have e1 : skipE s n x = 2 := by simp [skipE, p1]
                have e2 : skipN s n x = n := by simp [skipN, p1]
                rw [e1, e2] at hd
                rw [p1] at hof
                clear p1 e1 e2
                go_wp2_with (first
                  | (go_at_call 10; (with_reducible refine (hd _ hW).mono ?_); rintro e w2 ⟨rfl, ho2, hW2⟩)
                  | (go_at_call 9; (with_reducible refine (hof _).mono ?_); rintro e w3 ⟨rfl, rfl⟩)
                  | (go_at_call 12; (with_reducible refine (Next_any b _ _ _ _ hW2).mono ?_); rintro e w4 ⟨rfl, rfl⟩)
                  | (go_at_call 13; (with_reducible refine (Last_any b _ _ _ _ hW2).mono ?_); rintro e w5 ⟨rfl, rfl⟩)
                  )
                go_roundw
                case rel => exact ⟨k + 1, n, l, by omega, by go_num, by go_num, by go_num, ⟨by omega, by omega, by omega, by omega⟩, hW2, hB.trans (ho2.below hB.size (fun i hi h => by unfold One at h; omega))⟩
                case measure => simp [intOf]; omega
              · obtain ⟨q1, q2⟩ := ofB_le p1
                by_cases p3 : x < n
                · have e1 : skipE s n x = 3 := by simp [skipE, p1, p3]
                  have e2 : skipN s n x = n := by simp [skipN, p3]
                  rw [e1, e2] at hd
                  rw [p1] at hof
                  clear p1 e1 e2
                  go_wp2_with (first
                    | (go_at_call 10; (with_reducible refine (hd _ hW).mono ?_); rintro e w2 ⟨rfl, ho2, hW2⟩)
                    | (go_at_call 9; (with_reducible refine (hof _).mono ?_); rintro e w3 ⟨rfl, rfl⟩)
                    | (go_at_call 12; (with_reducible refine (Next_any b _ _ _ _ hW2).mono ?_); rintro e w4 ⟨rfl, rfl⟩)
                    | (go_at_call 13; (with_reducible refine (Last_any b _ _ _ _ hW2).mono ?_); rintro e w5 ⟨rfl, rfl⟩)
                    )
                  go_roundw
                  case rel => exact ⟨k + 1, n, l, by omega, by go_num, by go_num, by go_num, ⟨by omega, by omega, by omega, by omega⟩, hW2, hB.trans (ho2.below hB.size (fun i hi h => by unfold One at h; omega))⟩
                  case measure => simp [intOf]; omega
                · have e1 : skipE s n x = 0 := by simp [skipE, p1, p3]
                  have e2 : skipN s n x = x + 2 := by simp [skipN, p1, p3]
                  rw [e1, e2] at hd
                  rw [p1] at hof
                  clear p1 e1 e2
                  go_wp2_with (first
                    | (go_at_call 10; (with_reducible refine (hd _ hW).mono ?_); rintro e w2 ⟨rfl, ho2, hW2⟩)
                    | (go_at_call 9; (with_reducible refine (hof _).mono ?_); rintro e w3 ⟨rfl, rfl⟩)
                    | (go_at_call 12; (with_reducible refine (Next_any b _ _ _ _ hW2).mono ?_); rintro e w4 ⟨rfl, rfl⟩)
                    | (go_at_call 13; (with_reducible refine (Last_any b _ _ _ _ hW2).mono ?_); rintro e w5 ⟨rfl, rfl⟩)
                    )
                  go_roundw
                  case rel => exact ⟨k + 1, x + 2, l, by omega, by go_num, by go_num, by go_num, ⟨by omega, by omega, by omega, by omega⟩, hW2, hB.trans (ho2.below hB.size (fun i hi h => by unfold One at h; omega))⟩
                  case measure => simp [intOf]; omega
            · obtain ⟨hk1, hk2, hk3⟩ := hk0
              have hof := fun (W : World) => of_any s x W hs
              have hd := fun (W : World) (hW : Ids W b s n l) => Use_any b s n l W hW hn
              by_cases p3 : 2147483647 < n
              · have e1 : useK n = 0 := by simp [useK, p3]
                have e2 : useE n = 16 := by simp [useE, p3]
                have e3 : useN n = n := by simp [useN, p3]
                rw [e1, e2, e3] at hd
                clear e1 e2 e3
                go_wp2_with (first
                  | (go_at_call 11; (with_reducible refine (hd _ hW).mono ?_); rintro e w2 ⟨rfl, ho2, hW2⟩)
                  | (go_at_call 9; (with_reducible refine (hof _).mono ?_); rintro e w3 ⟨rfl, rfl⟩)
                  | (go_at_call 12; (with_reducible refine (Next_any b _ _ _ _ hW2).mono ?_); rintro e w4 ⟨rfl, rfl⟩)
                  | (go_at_call 13; (with_reducible refine (Last_any b _ _ _ _ hW2).mono ?_); rintro e w5 ⟨rfl, rfl⟩)
                  )
                go_roundw
                case rel => exact ⟨k + 1, n, l, by omega, by go_num, by go_num, by go_num, ⟨by omega, by omega, by omega, by omega⟩, hW2, hB.trans (ho2.below hB.size (fun i hi h => by unfold One at h; omega))⟩
                case measure => simp [intOf]; omega
              · have e1 : useK n = n := by simp [useK, p3]
                have e2 : useE n = 0 := by simp [useE, p3]
                have e3 : useN n = n + 2 := by simp [useN, p3]
                rw [e1, e2, e3] at hd
                clear e1 e2 e3
                go_wp2_with (first
                  | (go_at_call 11; (with_reducible refine (hd _ hW).mono ?_); rintro e w2 ⟨rfl, ho2, hW2⟩)
                  | (go_at_call 9; (with_reducible refine (hof _).mono ?_); rintro e w3 ⟨rfl, rfl⟩)
                  | (go_at_call 12; (with_reducible refine (Next_any b _ _ _ _ hW2).mono ?_); rintro e w4 ⟨rfl, rfl⟩)
                  | (go_at_call 13; (with_reducible refine (Last_any b _ _ _ _ hW2).mono ?_); rintro e w5 ⟨rfl, rfl⟩)
                  )
                go_roundw
                case rel => exact ⟨k + 1, n + 2, l, by omega, by go_num, by go_num, by go_num, ⟨by omega, by omega, by omega, by omega⟩, hW2, hB.trans (ho2.below hB.size (fun i hi h => by unfold One at h; omega))⟩
                case measure => simp [intOf]; omega
          ·
            have hp := past_eq (s := s) (n := n) (l := l) (i := ask) hs hn
            have hpa := fun (W : World) (hW : Ids W b s n l) => Past_any b s n l ask W hW hs
            have hmi := fun (W : World) (hW : Ids W b s n l) => Mine_any b s n l ask W hW hs
            have ho1 := fun (W : World) => of_any s ask W hs
            have ho2 := fun (W : World) => of_any (1 - s) ask W hs2
            rw [hp] at hpa
            clear hp
            generalize ofB s ask = q1 at hpa hmi ho1
            generalize ofB (1 - s) ask = q2 at hpa ho2
            cases q1 <;> cases q2 <;> by_cases h3 : ask < n <;> by_cases h4 : ask ≤ l
            all_goals
              simp only [h3, h4, decide_true, decide_false, Bool.and_true, Bool.and_false, Bool.or_false, Bool.or_true] at hpa
              go_wp2_with (first
                | (go_at_call 9; (with_reducible refine (ho1 _).mono ?_); rintro e w3 ⟨rfl, rfl⟩)
                | (go_at_call 9; (with_reducible refine (ho2 _).mono ?_); rintro e w4 ⟨rfl, rfl⟩)
                | (go_at_call 14; (with_reducible refine (hmi _ hW).mono ?_); rintro e w5 ⟨rfl, ho5⟩; have hW5 := hW.kept ho5 (fun hh => hh))
                | (go_at_call 15; (with_reducible refine (hpa _ hW5).mono ?_); rintro e w6 ⟨rfl, ho6⟩)
                )
              go_ret
              exact ⟨by first | rfl | (simp; omega), (hB.trans (ho5.below hB.size (fun _ _ hh => hh))).trans (ho6.below (by have := hB.size; have := ho5.size; omega) (fun _ _ hh => hh))⟩
        ·
          have hp := past_eq (s := s) (n := n) (l := l) (i := ask) hs hn
          have hpa := fun (W : World) (hW : Ids W b s n l) => Past_any b s n l ask W hW hs
          have hmi := fun (W : World) (hW : Ids W b s n l) => Mine_any b s n l ask W hW hs
          have ho1 := fun (W : World) => of_any s ask W hs
          have ho2 := fun (W : World) => of_any (1 - s) ask W hs2
          rw [hp] at hpa
          clear hp
          generalize ofB s ask = q1 at hpa hmi ho1
          generalize ofB (1 - s) ask = q2 at hpa ho2
          cases q1 <;> cases q2 <;> by_cases h3 : ask < n <;> by_cases h4 : ask ≤ l
          all_goals
            simp only [h3, h4, decide_true, decide_false, Bool.and_true, Bool.and_false, Bool.or_false, Bool.or_true] at hpa
            go_wp2_with (first
              | (go_at_call 9; (with_reducible refine (ho1 _).mono ?_); rintro e w3 ⟨rfl, rfl⟩)
              | (go_at_call 9; (with_reducible refine (ho2 _).mono ?_); rintro e w4 ⟨rfl, rfl⟩)
              | (go_at_call 14; (with_reducible refine (hmi _ hW).mono ?_); rintro e w5 ⟨rfl, ho5⟩; have hW5 := hW.kept ho5 (fun hh => hh))
              | (go_at_call 15; (with_reducible refine (hpa _ hW5).mono ?_); rintro e w6 ⟨rfl, ho6⟩)
              )
            go_ret
            exact ⟨by first | rfl | (simp; omega), (hB.trans (ho5.below hB.size (fun _ _ hh => hh))).trans (ho6.below (by have := hB.size; have := ho5.size; omega) (fun _ _ hh => hh))⟩
  · have h0 : (s != 0) = true := by simp; unfold sideOk at hs; omega
    have h1 : (s != 1) = true := by simp; unfold sideOk at hs; omega
    have hb : ¬ (s = 0 ∨ s = 1) := by unfold sideOk at hs; omega
    go_enter Try.func3, Try.ntmps3
    go_wp2_with (first
      | (go_at_call 6; (with_reducible refine (New_bad _ _ hb).mono ?_); rintro e w1 ⟨rfl, rfl⟩)
      | (go_at_call 7; (with_reducible refine (awake_any _).mono ?_); rintro e w2 ⟨rfl, ho2⟩)
      )
    go_ret
    exact ⟨rfl, ho2.below (Nat.le_refl _) (fun _ _ hh => hh)⟩
/-! The step from the walk to the statement of IdsDo. -/
namespace frIdsDo
open Go.ChangeShapes Go.WideShapes Go.ChangeAt Go.RowKit
set_option linter.unusedVariables false
theorem own : ownKnob Try.prog.godebug = none := by kernel_rfl
theorem laidOut : laidOutB Try.prog = true := by kernel_rfl
theorem shape0 : Kd.ok Try.prog (.int .i64) 3 = true := by kernel_rfl
theorem shape1 : Kd.ok Try.prog (.slc (.agg [.int .i64, .int .i64])) 22 = true := by kernel_rfl
theorem shape2 : Kd.ok Try.prog (.int .i64) 3 = true := by kernel_rfl
set_option maxRecDepth 100000 in
theorem contract (H : Type) (enc : TypeId × Value → H) (W : World) (base : Nat) (args : Array Value) (ds gs : List (DataW H)) (before : List MemPlace)
    (hval : ∀ (j : Nat) t v, Try.f3.params[j]? = some t → args[j]? = some v → Value.okWide Try.prog W .any base t v)
    (hW : DataW.Whole enc Try.prog Try.f3.params.toList Rows.idsDoSpec.vars false W args.toList ds gs before) :
    Calls Try.prog 3 args W fun e W' => ∃ v, e = .returned v ∧ Rows.idsDoSpec.post enc Try.prog Try.f3 false true false false W args v W' := by
  have hW' := hW
  obtain ⟨p, q, hA0, hV, rfl, hfz, hnd⟩ := hW
  have hA : DataW.TrodAll enc Try.prog W 0 (fun _ => true) true Try.f3.params.toList args.toList ds p := hA0
  rw [Try.params3] at hA hval
  obtain ⟨v0, vs0, d0, ds0, p0, q0, hargs, rfl, rfl, h0, r0⟩ := trodAll_cons hA
  obtain ⟨v1, vs1, d1, ds1, p1, q1, rfl, rfl, rfl, h1, r1⟩ := trodAll_cons r0
  obtain ⟨v2, vs2, d2, ds2, p2, q2, rfl, rfl, rfl, h2, r2⟩ := trodAll_cons r1
  obtain ⟨rfl, rfl, rfl⟩ := trodAll_nil r2
  obtain rfl : args = #[v0, v1, v2] := by cases args; simp_all
  obtain ⟨rfl, rfl⟩ := trodVars_none hV
  have k0 := Kd.fit _ shape0 (hval 0 3 v0 rfl rfl) h0
  have lt0 : ∀ x ∈ p0, x.block < W.heap.size := by obtain ⟨m, hm⟩ := h0; exact DataW.trod_lt m _ _ _ hm
  have k1 := Kd.fit _ shape1 (hval 1 22 v1 rfl rfl) h1
  have lt1 : ∀ x ∈ p1, x.block < W.heap.size := by obtain ⟨m, hm⟩ := h1; exact DataW.trod_lt m _ _ _ hm
  have k2 := Kd.fit _ shape2 (hval 2 3 v2 rfl rfl) h2
  have lt2 : ∀ x ∈ p2, x.block < W.heap.size := by obtain ⟨m, hm⟩ := h2; exact DataW.trod_lt m _ _ _ hm
  refine (idsDo_walk v0 v1 v2 W k0 k1 k2).mono fun e W' ⟨he, bel⟩ => ?_
  subst he
  exact ⟨_, rfl, _, _, _, [], _, [], hW', trodAll_mk1 (shut_bool Try.underlying4 _), (trodAll_cons_mk (Below.trod laidOut (by kernel_rfl) (of_decide_eq_true (by kernel_rfl)) h0 bel lt0) (trodAll_cons_mk (Below.trod laidOut (by kernel_rfl) (of_decide_eq_true (by kernel_rfl)) h1 bel lt1) (trodAll_cons_mk (Below.trod laidOut (by kernel_rfl) (of_decide_eq_true (by kernel_rfl)) h2 bel lt2) trodAll_mk0))), rfl, bel.frame _, fun h => by cases h⟩
set_option maxRecDepth 100000 in
theorem lifted (os : Os) (started : os.Started) (H : Type) (enc : TypeId × Value → H) :
    ReturnsInHanded {} Try.checked os 3 .any (Rows.idsDoSpec.pre6 enc Try.prog Try.f3 Rows.idsDoRow.domain false) (Rows.idsDoSpec.post enc Try.prog Try.f3 false true false false) := by
  refine returnsInHanded_of_change (C := Try.checked) own started (by kernel_rfl) Try.func3
    (ChangeSpec.witness6 (enc := enc) (C := Try.checked) false ⟨#[], #[.int .i64 0, .slice none 0 0, .int .i64 0], []⟩ 8 (by kernel_rfl) (by kernel_rfl) (by kernel_rfl) (by kernel_rfl)) ?_
  intro W base args ds gs before hval hW _ _
  exact contract H enc W base args ds gs before hval hW
theorem over : Rows.idsDoRow.holds Try.pinned (OpenSpec.ofChange Rows.idsDoSpec) :=
  OpenClaim.holds_of_wide 3 Try.f3 rfl rfl rfl rfl rfl rfl rfl ⟨rfl, rfl, rfl, rfl, rfl⟩ rfl rfl rfl rfl rfl (by kernel_rfl) Try.func3 (by kernel_rfl)
    (of_decide_eq_true (by kernel_rfl)) (by unfold Func.isWrapper; first | (rw [if_pos (by decide +kernel)]; kernel_rfl) | (rw [if_neg (by decide +kernel)]; exact ⟨rfl, rfl⟩))
    (fun os started H enc _ => lifted os started H enc)
theorem proved : Rows.IdsDoSaid := over
end frIdsDo
end Go.Proofs.Ytijifepncfffdaa
