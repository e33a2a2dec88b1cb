/- A trace read: one move. -/
import Derived.Test.YtamocachpjljdaaTrace
namespace Go.Proofs.Ytamocachpjljdaa
open Go.RowKit

theorem Sl.drew {w : World} {b : Nat} {T : List UInt8} {bad : Bool} (h : Sl w b T bad) : Sl w.drew b T bad := by
  unfold Sl Sc at *
  exact h.drew
theorem Sl.far5 {w : World} {b r : Nat} {T : List UInt8} {bad : Bool} {u0 u1 u2 u3 u4 : Value} (h : Sc w b (strOf T) bad) (hn : b ≠ r) : Sl (((((w.setCell ⟨r, 0, none⟩ u0).setCell ⟨r, 1, none⟩ u1).setCell ⟨r, 2, none⟩ u2).setCell ⟨r, 3, none⟩ u3).setCell ⟨r, 4, none⟩ u4) b T bad := by
  unfold Sl
  exact ((((h.far (p := ⟨r, 0, none⟩) hn u0).far (p := ⟨r, 1, none⟩) hn u1).far (p := ⟨r, 2, none⟩) hn u2).far (p := ⟨r, 3, none⟩) hn u3).far (p := ⟨r, 4, none⟩) hn u4
abbrev mv0 : Mv := ⟨0, false, 0, 0, noS⟩
theorem fields_any (p : Option Addr) (w : World) : Calls Try.prog 24 #[.pointer p] w fun x w' => ∃ g, x = .returned (.func (.func 30) #[] #[.pointer (some ⟨g, 0, none⟩)]) ∧ w.heap.size ≤ g ∧ Only Nil w w' ∧ Blk w' g 51 #[.pointer p] := by
  have hmf := mkf Try.prog
  go_enter Try.func24, Try.ntmps24
  go_wp2
  go_ret
  exact ⟨_, rfl, Nat.le_refl _, (Only.refl _ _).alloc _, Blk.new _ _ _⟩
def FPost (w : World) (b : Nat) (T : List UInt8) (x : Ending) (w' : World) : Prop := x = .returned (.tuple #[mvV (if errAt T = 0 then mvAt T else mv0), .int .i64 (errAt T)]) ∧ Only (One b) w w' ∧ (errAt T = 0 → Sl w' b (T.drop (lenAt T)) false)
set_option maxRecDepth 100000 in
set_option maxHeartbeats 8000000 in
theorem fields1_any (g b : Nat) (T : List UInt8) (w : World) (hK : Blk w g 51 #[.pointer (some ⟨b, 0, none⟩)]) (hS : Sl w b T false) : Calls Try.prog 30 #[.pointer (some ⟨g, 0, none⟩)] w (FPost w b T) := by
  have hgb : g ≠ b := fun e => by
    subst e
    have h1 : Blk w g _ _ := hK
    have h2 : Blk w g _ _ := hS
    unfold Blk at h1 h2
    rw [h1] at h2
    injection h2 with h2
    injection h2 with h2 h3
    exact absurd h3 (by decide)
  have hu1 : ∀ W, Sl W b T false → Calls Try.prog 31 #[.pointer (some ⟨b, 0, none⟩), .int .i64 1] W (fun x w' => x = .returned (.int .i64 (fdOf T).v1) ∧ Only (One b) W w' ∧ Sl w' b (fdOf T).T1 (fdOf T).b1) := fun W h => SUt 1 (by decide) (by decide) h
  have hu2 : ∀ W, Sl W b (fdOf T).T1 (fdOf T).b1 → Calls Try.prog 31 #[.pointer (some ⟨b, 0, none⟩), .int .i64 1] W (fun x w' => x = .returned (.int .i64 (fdOf T).v2) ∧ Only (One b) W w' ∧ Sl w' b (fdOf T).T2 (fdOf T).b2) := fun W h => SUt 1 (by decide) (by decide) h
  have hu3 : ∀ W, Sl W b (fdOf T).T2 (fdOf T).b2 → Calls Try.prog 31 #[.pointer (some ⟨b, 0, none⟩), .int .i64 4] W (fun x w' => x = .returned (.int .i64 (fdOf T).v3) ∧ Only (One b) W w' ∧ Sl w' b (fdOf T).T3 (fdOf T).b3) := fun W h => SUt 4 (by decide) (by decide) h
  have hu4 : ∀ W, Sl W b (fdOf T).T3 (fdOf T).b3 → Calls Try.prog 31 #[.pointer (some ⟨b, 0, none⟩), .int .i64 4] W (fun x w' => x = .returned (.int .i64 (fdOf T).v4) ∧ Only (One b) W w' ∧ Sl w' b (fdOf T).T4 (fdOf T).b4) := fun W h => SUt 4 (by decide) (by decide) h
  have hu5 : ∀ W, Sl W b (fdOf T).T4 (fdOf T).b4 → Calls Try.prog 31 #[.pointer (some ⟨b, 0, none⟩), .int .i64 2] W (fun x w' => x = .returned (.int .i64 (fdOf T).v5) ∧ Only (One b) W w' ∧ Sl w' b (fdOf T).T5 (fdOf T).b5) := fun W h => SUt 2 (by decide) (by decide) h
  have hu6 : ∀ W, Sl W b (fdOf T).T5 (fdOf T).b5 → Calls Try.prog 32 #[.pointer (some ⟨b, 0, none⟩), .int .i64 (fdOf T).v5] W (fun x w' => x = .returned (.string (fdOf T).s) ∧ Only (One b) W w' ∧ Sl w' b (fdOf T).T6 (fdOf T).b6) := fun W h => Taket _ (scV_range 2 _ _ (by decide) (by decide)).1 h
  have hno := Lib.hid (@fd_no T)
  have hyes := Lib.hid (@fd_yes T)
  have HPQ : Hid (∀ x w', FPost w b T x w' ↔ FPost w b T x w') := Lib.hid (fun _ _ => Iff.rfl)
  have HU1 := Lib.hid hu1
  have HU2 := Lib.hid hu2
  have HU3 := Lib.hid hu3
  have HU4 := Lib.hid hu4
  have HU5 := Lib.hid hu5
  have HU6 := Lib.hid hu6
  clear hu1 hu2 hu3 hu4 hu5 hu6 HPQ
  generalize fdOf T = F at HU1 HU2 HU3 HU4 HU5 HU6 hno hyes
  obtain ⟨T1, b1, T2, b2, T3, b3, T4, b4, T5, b5, T6, b6, v1, v2, v3, v4, v5, s⟩ := F
  simp only at HU1 HU2 HU3 HU4 HU5 HU6 hno hyes
  obtain ⟨q, hq⟩ : ∃ q, q = FPost w b T := ⟨_, rfl⟩
  rw [← hq]
  have HQ := Lib.hid hq
  clear hq
  cases b6
  · obtain ⟨h12, hle, hT6, hmv, hend⟩ := hno.out rfl
    have HT6 := Lib.hid hT6
    have HM := Lib.hid hmv
    have HEQ : Hid (errAt T = if 1 < endAt T ∨ rightM (mvAt T) = false then 6 else 0) := Lib.hid (by unfold errAt; rw [if_neg (by omega), if_neg (by omega)])
    have HEND := Lib.hid hend
    have hCh := Lib.hid (fun W => Check_any ⟨v1, v2 == 1, v3, v4, s⟩ W)
    clear hno hyes hT6 hmv hend h12 hle
    cases h1 : decide (1 < v2)
    · have h1' : ¬ 1 < v2 := of_decide_eq_false h1
      cases hr : rightM (mvAt T)
      · have HE : Hid (errAt T = 6) := Lib.hid (by rw [HEQ.out, if_pos (.inr hr)])
        have e3 : chkM ⟨v1, v2 == 1, v3, v4, s⟩ = 2 := by unfold chkM; rw [← HM.out, hr]; rfl
        rw [e3] at hCh
        clear e3 hr
        have hS0 : Sl ((w.alloc (.cells (mvC mv0) 28)).alloc (.cells (mvC mv0) 28)) b T false := Blk.alloc (Blk.alloc hS _) _
        have hR0 := (Blk.new w 28 (mvC mv0)).alloc (.cells (mvC mv0) 28)
        have hG0 : Blk ((w.alloc (.cells (mvC mv0) 28)).alloc (.cells (mvC mv0) 28)) (w.heap.size + 1) 28 (mvC mv0) := by
          have := Blk.new (w.alloc (.cells (mvC mv0) 28)) 28 (mvC mv0)
          simpa using this
        have hK0 := (hK.alloc (.cells (mvC mv0) 28)).alloc (.cells (mvC mv0) 28)
        have HO0 := Lib.hid (((Only.refl (One b) w).alloc (.cells (mvC mv0) 28)).alloc (.cells (mvC mv0) 28))
        have hbl : b < w.heap.size := Blk.lt hS
        have hgl : g < w.heap.size := hK.lt
        have k0 := hK0.cell 0
        clear hS hK
        dsimp only [mvC, mv0] at hS0 hR0 hG0 hK0 HO0 k0
        go_enter Try.func30, Try.ntmps30
        go_wp2_with (first
          | (go_at_call 31; have _t := hG3; (with_reducible refine (HU4.out _ hS3).mono ?_); rintro e w4 ⟨rfl, ho4, hSa4⟩; have hGa4 := hG3.kept ho4 (by unfold One; omega); have hRa4 := hR3.kept ho4 (by unfold One; omega); have hKa4 := hK3.kept ho4 (by unfold One; omega); have fg4 := hGa4.frozen 2; have cg4 := hGa4.cell 2; have hG4 := hGa4.set 2 (.int .i64 v4); have hR4 := hRa4.far (p := ⟨(w.heap.size + 1), 2, none⟩) (by show w.heap.size ≠ (w.heap.size + 1); omega) (.int .i64 v4); have hK4 := hKa4.far (p := ⟨(w.heap.size + 1), 2, none⟩) (by show g ≠ (w.heap.size + 1); omega) (.int .i64 v4); have hS4 : Sl _ b T4 b4 := Blk.far hSa4 (p := ⟨(w.heap.size + 1), 2, none⟩) (by show b ≠ (w.heap.size + 1); omega) (.int .i64 v4); have k4 := hK4.cell 0; have HO4 := Lib.hid ((HO3.out.trans ho4).setNew (c := (w.heap.size + 1)) (by omega) 2 (.int .i64 v4)))
          | (go_at_call 31; have _t := hG2; (with_reducible refine (HU3.out _ hS2).mono ?_); rintro e w3 ⟨rfl, ho3, hSa3⟩; have hGa3 := hG2.kept ho3 (by unfold One; omega); have hRa3 := hR2.kept ho3 (by unfold One; omega); have hKa3 := hK2.kept ho3 (by unfold One; omega); have fg3 := hGa3.frozen 1; have cg3 := hGa3.cell 1; have hG3 := hGa3.set 1 (.int .i64 v3); have hR3 := hRa3.far (p := ⟨(w.heap.size + 1), 1, none⟩) (by show w.heap.size ≠ (w.heap.size + 1); omega) (.int .i64 v3); have hK3 := hKa3.far (p := ⟨(w.heap.size + 1), 1, none⟩) (by show g ≠ (w.heap.size + 1); omega) (.int .i64 v3); have hS3 : Sl _ b T3 b3 := Blk.far hSa3 (p := ⟨(w.heap.size + 1), 1, none⟩) (by show b ≠ (w.heap.size + 1); omega) (.int .i64 v3); have k3 := hK3.cell 0; have HO3 := Lib.hid ((HO2.out.trans ho3).setNew (c := (w.heap.size + 1)) (by omega) 1 (.int .i64 v3)))
          | (go_at_call 31; have _t := hG1; (with_reducible refine (HU2.out _ hS1).mono ?_); rintro e w2 ⟨rfl, ho2, hSa2⟩; have hG2 := hG1.kept ho2 (by unfold One; omega); have hR2 := hR1.kept ho2 (by unfold One; omega); have hK2 := hK1.kept ho2 (by unfold One; omega); have hS2 := hSa2; have k2 := hK2.cell 0; have HO2 := Lib.hid (HO1.out.trans ho2))
          | (go_at_call 31; (with_reducible refine (HU1.out _ hS0).mono ?_); rintro e w1 ⟨rfl, ho1, hSa1⟩; have hGa1 := hG0.kept ho1 (by unfold One; omega); have hRa1 := hR0.kept ho1 (by unfold One; omega); have hKa1 := hK0.kept ho1 (by unfold One; omega); have fg1 := hGa1.frozen 0; have cg1 := hGa1.cell 0; have hG1 := hGa1.set 0 (.int .i64 v1); have hR1 := hRa1.far (p := ⟨(w.heap.size + 1), 0, none⟩) (by show w.heap.size ≠ (w.heap.size + 1); omega) (.int .i64 v1); have hK1 := hKa1.far (p := ⟨(w.heap.size + 1), 0, none⟩) (by show g ≠ (w.heap.size + 1); omega) (.int .i64 v1); have hS1 : Sl _ b T1 b1 := Blk.far hSa1 (p := ⟨(w.heap.size + 1), 0, none⟩) (by show b ≠ (w.heap.size + 1); omega) (.int .i64 v1); have k1 := hK1.cell 0; have HO1 := Lib.hid ((HO0.out.trans ho1).setNew (c := (w.heap.size + 1)) (by omega) 0 (.int .i64 v1)))
          )
        go_region_held3 (fun w' => w'.cell? ⟨g, 0, none⟩ = some (.pointer (some ⟨b, 0, none⟩))) (first | exact k6 | exact k6a | exact k5 | exact k4) (first
          | (go_at_call 31; have _t := hG4; (with_reducible refine (HU5.out _ (Sl.drew hS4)).mono ?_); rintro e w5 ⟨rfl, ho5, hSa5⟩; have hG5 := (Blk.drew hG4).kept ho5 (by unfold One; omega); have hR5 := (Blk.drew hR4).kept ho5 (by unfold One; omega); have hK5 := (Blk.drew hK4).kept ho5 (by unfold One; omega); have hS5 := hSa5; have k5 := hK5.cell 0; have HO5 := Lib.hid (HO4.out.drew.trans ho5))
          | (go_at_call 32; have _t := hG5; (with_reducible refine (HU6.out _ hS5).mono ?_); rintro e w6 ⟨rfl, ho6, hSa6⟩; have hGa6 := hG5.kept ho6 (by unfold One; omega); have hRa6 := hR5.kept ho6 (by unfold One; omega); have hKa6 := hK5.kept ho6 (by unfold One; omega); have fg6 := hGa6.frozen 3; have cg6 := hGa6.cell 3; have hG6 := hGa6.set 3 (.string s); have hR6 := hRa6.far (p := ⟨(w.heap.size + 1), 3, none⟩) (by show w.heap.size ≠ (w.heap.size + 1); omega) (.string s); have hK6 := hKa6.far (p := ⟨(w.heap.size + 1), 3, none⟩) (by show g ≠ (w.heap.size + 1); omega) (.string s); have hS6 : Sl _ b T6 _ := Blk.far hSa6 (p := ⟨(w.heap.size + 1), 3, none⟩) (by show b ≠ (w.heap.size + 1); omega) (.string s); have k6 := hK6.cell 0; have HO6 := Lib.hid ((HO5.out.trans ho6).setNew (c := (w.heap.size + 1)) (by omega) 3 (.string s)); have k6a := hKa6.cell 0)

          )
        have fg7 := hG6.frozen 4
        have cg7 := hG6.cell 4
        have hG7 := hG6.set 4 (.bool (v2 == 1))
        have hR7 := hR6.far (p := ⟨w.heap.size + 1, 4, none⟩) (by show w.heap.size ≠ w.heap.size + 1; omega) (.bool (v2 == 1))
        have hS7 : Sc _ b (strOf T6) _ := Blk.far hS6 (p := ⟨w.heap.size + 1, 4, none⟩) (by show b ≠ w.heap.size + 1; omega) (.bool (v2 == 1))
        have hK7 := hK6.far (p := ⟨w.heap.size + 1, 4, none⟩) (by show g ≠ w.heap.size + 1; omega) (.bool (v2 == 1))
        have k7 := hK7.cell 0
        have HO7 := Lib.hid (HO6.out.setNew (c := w.heap.size + 1) (by omega) 4 (.bool (v2 == 1)))
        have m0 := hG7.cell 0
        have m1 := hG7.cell 1
        have m2 := hG7.cell 2
        have m3 := hG7.cell 3
        have m4 := hG7.cell 4
        have fr0 := hR7.frozen 0
        have fr1 := hR7.frozen 1
        have fr2 := hR7.frozen 2
        have fr3 := hR7.frozen 3
        have fr4 := hR7.frozen 4
        have cr0 := hR7.cell 0
        have cr1 := hR7.cell 1
        have cr2 := hR7.cell 2
        have cr3 := hR7.cell 3
        have cr4 := hR7.cell 4
        have zr7 := hR7.lt
        have zg7 := hG7.lt
        go_wp2_with (first
          | (go_at_call 33; (with_reducible refine (Bad_any b _ _ _ hS7).mono ?_); rintro e w8 ⟨rfl, rfl⟩)
          | (go_at_call 9; (with_reducible refine (hCh.out _).mono ?_); rintro e w9 ⟨rfl, ho9⟩; have hR9 := hR7.kept ho9 (fun hh => hh); have pr0 := hR9.frozen 0; have pr1 := hR9.frozen 1; have pr2 := hR9.frozen 2; have pr3 := hR9.frozen 3; have pr4 := hR9.frozen 4; have qr0 := hR9.cell 0; have qr1 := hR9.cell 1; have qr2 := hR9.cell 2; have qr3 := hR9.cell 3; have qr4 := hR9.cell 4; have zr9 := hR9.lt; have HO9 := Lib.hid (HO7.out.trans (ho9.of_nil _)))
          )
        have hR8 := hR9
        have HO8 := HO9
        have hF := ((((hR8.set 0 (.int .i64 0)).set 1 (.int .i64 0)).set 2 (.int .i64 0)).set 3 (.string noS)).set 4 (.bool false)
        have c0 := hF.cell 0
        have c1 := hF.cell 1
        have c2 := hF.cell 2
        have c3 := hF.cell 3
        have c4 := hF.cell 4
        exact bodyPost_ret (v := .tuple #[.agg #[.int .i64 0, .int .i64 0, .int .i64 0, .string noS, .bool false], .int .i64 6]) (by simp [results, Try.results30, go_sem, c0, c1, c2, c3, c4]) rfl (by
          rw [HQ.out]
          exact ⟨by rw [HE.out]; rfl, (((((HO8.out.setNew (Nat.le_refl _) 0 _).setNew (Nat.le_refl _) 1 _).setNew (Nat.le_refl _) 2 _).setNew (Nat.le_refl _) 3 _).setNew (Nat.le_refl _) 4 _), (fun hh => absurd (HE.out.symm.trans hh) (by decide))⟩)
      · have HE : Hid (errAt T = 0) := Lib.hid (by rw [HEQ.out, if_neg]; rintro (hh | hh); exact h1' (HEND.out ▸ hh); rw [hr] at hh; cases hh)
        have e3 : chkM ⟨v1, v2 == 1, v3, v4, s⟩ = 0 := by unfold chkM; rw [← HM.out, hr]; rfl
        rw [e3] at hCh
        clear e3 hr
        have hS0 : Sl ((w.alloc (.cells (mvC mv0) 28)).alloc (.cells (mvC mv0) 28)) b T false := Blk.alloc (Blk.alloc hS _) _
        have hR0 := (Blk.new w 28 (mvC mv0)).alloc (.cells (mvC mv0) 28)
        have hG0 : Blk ((w.alloc (.cells (mvC mv0) 28)).alloc (.cells (mvC mv0) 28)) (w.heap.size + 1) 28 (mvC mv0) := by
          have := Blk.new (w.alloc (.cells (mvC mv0) 28)) 28 (mvC mv0)
          simpa using this
        have hK0 := (hK.alloc (.cells (mvC mv0) 28)).alloc (.cells (mvC mv0) 28)
        have HO0 := Lib.hid (((Only.refl (One b) w).alloc (.cells (mvC mv0) 28)).alloc (.cells (mvC mv0) 28))
        have hbl : b < w.heap.size := Blk.lt hS
        have hgl : g < w.heap.size := hK.lt
        have k0 := hK0.cell 0
        clear hS hK
        dsimp only [mvC, mv0] at hS0 hR0 hG0 hK0 HO0 k0
        go_enter Try.func30, Try.ntmps30
        go_wp2_with (first
          | (go_at_call 31; have _t := hG3; (with_reducible refine (HU4.out _ hS3).mono ?_); rintro e w4 ⟨rfl, ho4, hSa4⟩; have hGa4 := hG3.kept ho4 (by unfold One; omega); have hRa4 := hR3.kept ho4 (by unfold One; omega); have hKa4 := hK3.kept ho4 (by unfold One; omega); have fg4 := hGa4.frozen 2; have cg4 := hGa4.cell 2; have hG4 := hGa4.set 2 (.int .i64 v4); have hR4 := hRa4.far (p := ⟨(w.heap.size + 1), 2, none⟩) (by show w.heap.size ≠ (w.heap.size + 1); omega) (.int .i64 v4); have hK4 := hKa4.far (p := ⟨(w.heap.size + 1), 2, none⟩) (by show g ≠ (w.heap.size + 1); omega) (.int .i64 v4); have hS4 : Sl _ b T4 b4 := Blk.far hSa4 (p := ⟨(w.heap.size + 1), 2, none⟩) (by show b ≠ (w.heap.size + 1); omega) (.int .i64 v4); have k4 := hK4.cell 0; have HO4 := Lib.hid ((HO3.out.trans ho4).setNew (c := (w.heap.size + 1)) (by omega) 2 (.int .i64 v4)))
          | (go_at_call 31; have _t := hG2; (with_reducible refine (HU3.out _ hS2).mono ?_); rintro e w3 ⟨rfl, ho3, hSa3⟩; have hGa3 := hG2.kept ho3 (by unfold One; omega); have hRa3 := hR2.kept ho3 (by unfold One; omega); have hKa3 := hK2.kept ho3 (by unfold One; omega); have fg3 := hGa3.frozen 1; have cg3 := hGa3.cell 1; have hG3 := hGa3.set 1 (.int .i64 v3); have hR3 := hRa3.far (p := ⟨(w.heap.size + 1), 1, none⟩) (by show w.heap.size ≠ (w.heap.size + 1); omega) (.int .i64 v3); have hK3 := hKa3.far (p := ⟨(w.heap.size + 1), 1, none⟩) (by show g ≠ (w.heap.size + 1); omega) (.int .i64 v3); have hS3 : Sl _ b T3 b3 := Blk.far hSa3 (p := ⟨(w.heap.size + 1), 1, none⟩) (by show b ≠ (w.heap.size + 1); omega) (.int .i64 v3); have k3 := hK3.cell 0; have HO3 := Lib.hid ((HO2.out.trans ho3).setNew (c := (w.heap.size + 1)) (by omega) 1 (.int .i64 v3)))
          | (go_at_call 31; have _t := hG1; (with_reducible refine (HU2.out _ hS1).mono ?_); rintro e w2 ⟨rfl, ho2, hSa2⟩; have hG2 := hG1.kept ho2 (by unfold One; omega); have hR2 := hR1.kept ho2 (by unfold One; omega); have hK2 := hK1.kept ho2 (by unfold One; omega); have hS2 := hSa2; have k2 := hK2.cell 0; have HO2 := Lib.hid (HO1.out.trans ho2))
          | (go_at_call 31; (with_reducible refine (HU1.out _ hS0).mono ?_); rintro e w1 ⟨rfl, ho1, hSa1⟩; have hGa1 := hG0.kept ho1 (by unfold One; omega); have hRa1 := hR0.kept ho1 (by unfold One; omega); have hKa1 := hK0.kept ho1 (by unfold One; omega); have fg1 := hGa1.frozen 0; have cg1 := hGa1.cell 0; have hG1 := hGa1.set 0 (.int .i64 v1); have hR1 := hRa1.far (p := ⟨(w.heap.size + 1), 0, none⟩) (by show w.heap.size ≠ (w.heap.size + 1); omega) (.int .i64 v1); have hK1 := hKa1.far (p := ⟨(w.heap.size + 1), 0, none⟩) (by show g ≠ (w.heap.size + 1); omega) (.int .i64 v1); have hS1 : Sl _ b T1 b1 := Blk.far hSa1 (p := ⟨(w.heap.size + 1), 0, none⟩) (by show b ≠ (w.heap.size + 1); omega) (.int .i64 v1); have k1 := hK1.cell 0; have HO1 := Lib.hid ((HO0.out.trans ho1).setNew (c := (w.heap.size + 1)) (by omega) 0 (.int .i64 v1)))
          )
        go_region_held3 (fun w' => w'.cell? ⟨g, 0, none⟩ = some (.pointer (some ⟨b, 0, none⟩))) (first | exact k6 | exact k6a | exact k5 | exact k4) (first
          | (go_at_call 31; have _t := hG4; (with_reducible refine (HU5.out _ (Sl.drew hS4)).mono ?_); rintro e w5 ⟨rfl, ho5, hSa5⟩; have hG5 := (Blk.drew hG4).kept ho5 (by unfold One; omega); have hR5 := (Blk.drew hR4).kept ho5 (by unfold One; omega); have hK5 := (Blk.drew hK4).kept ho5 (by unfold One; omega); have hS5 := hSa5; have k5 := hK5.cell 0; have HO5 := Lib.hid (HO4.out.drew.trans ho5))
          | (go_at_call 32; have _t := hG5; (with_reducible refine (HU6.out _ hS5).mono ?_); rintro e w6 ⟨rfl, ho6, hSa6⟩; have hGa6 := hG5.kept ho6 (by unfold One; omega); have hRa6 := hR5.kept ho6 (by unfold One; omega); have hKa6 := hK5.kept ho6 (by unfold One; omega); have fg6 := hGa6.frozen 3; have cg6 := hGa6.cell 3; have hG6 := hGa6.set 3 (.string s); have hR6 := hRa6.far (p := ⟨(w.heap.size + 1), 3, none⟩) (by show w.heap.size ≠ (w.heap.size + 1); omega) (.string s); have hK6 := hKa6.far (p := ⟨(w.heap.size + 1), 3, none⟩) (by show g ≠ (w.heap.size + 1); omega) (.string s); have hS6 : Sl _ b T6 _ := Blk.far hSa6 (p := ⟨(w.heap.size + 1), 3, none⟩) (by show b ≠ (w.heap.size + 1); omega) (.string s); have k6 := hK6.cell 0; have HO6 := Lib.hid ((HO5.out.trans ho6).setNew (c := (w.heap.size + 1)) (by omega) 3 (.string s)); have k6a := hKa6.cell 0)

          )
        have fg7 := hG6.frozen 4
        have cg7 := hG6.cell 4
        have hG7 := hG6.set 4 (.bool (v2 == 1))
        have hR7 := hR6.far (p := ⟨w.heap.size + 1, 4, none⟩) (by show w.heap.size ≠ w.heap.size + 1; omega) (.bool (v2 == 1))
        have hS7 : Sc _ b (strOf T6) _ := Blk.far hS6 (p := ⟨w.heap.size + 1, 4, none⟩) (by show b ≠ w.heap.size + 1; omega) (.bool (v2 == 1))
        have hK7 := hK6.far (p := ⟨w.heap.size + 1, 4, none⟩) (by show g ≠ w.heap.size + 1; omega) (.bool (v2 == 1))
        have k7 := hK7.cell 0
        have HO7 := Lib.hid (HO6.out.setNew (c := w.heap.size + 1) (by omega) 4 (.bool (v2 == 1)))
        have m0 := hG7.cell 0
        have m1 := hG7.cell 1
        have m2 := hG7.cell 2
        have m3 := hG7.cell 3
        have m4 := hG7.cell 4
        have fr0 := hR7.frozen 0
        have fr1 := hR7.frozen 1
        have fr2 := hR7.frozen 2
        have fr3 := hR7.frozen 3
        have fr4 := hR7.frozen 4
        have cr0 := hR7.cell 0
        have cr1 := hR7.cell 1
        have cr2 := hR7.cell 2
        have cr3 := hR7.cell 3
        have cr4 := hR7.cell 4
        have zr7 := hR7.lt
        have zg7 := hG7.lt
        go_wp2_with (first
          | (go_at_call 33; (with_reducible refine (Bad_any b _ _ _ hS7).mono ?_); rintro e w8 ⟨rfl, rfl⟩)
          | (go_at_call 9; (with_reducible refine (hCh.out _).mono ?_); rintro e w9 ⟨rfl, ho9⟩; have hR9 := hR7.kept ho9 (fun hh => hh); have pr0 := hR9.frozen 0; have pr1 := hR9.frozen 1; have pr2 := hR9.frozen 2; have pr3 := hR9.frozen 3; have pr4 := hR9.frozen 4; have qr0 := hR9.cell 0; have qr1 := hR9.cell 1; have qr2 := hR9.cell 2; have qr3 := hR9.cell 3; have qr4 := hR9.cell 4; have zr9 := hR9.lt; have HO9 := Lib.hid (HO7.out.trans (ho9.of_nil _)); have hG9 := hG7.kept ho9 (fun hh => hh); have n0 := hG9.cell 0; have n1 := hG9.cell 1; have n2 := hG9.cell 2; have n3 := hG9.cell 3; have n4 := hG9.cell 4; have zg9 := hG9.lt; have hS8 := hS7.kept ho9 (fun hh => hh))
          )
        have hR8 := hR9
        have HO8 := HO9
        have hF := ((((hR8.set 0 (.int .i64 v1)).set 1 (.int .i64 v3)).set 2 (.int .i64 v4)).set 3 (.string s)).set 4 (.bool (v2 == 1))
        have c0 := hF.cell 0
        have c1 := hF.cell 1
        have c2 := hF.cell 2
        have c3 := hF.cell 3
        have c4 := hF.cell 4
        exact bodyPost_ret (v := .tuple #[.agg #[.int .i64 v1, .int .i64 v3, .int .i64 v4, .string s, .bool (v2 == 1)], .int .i64 0]) (by simp [results, Try.results30, go_sem, c0, c1, c2, c3, c4]) rfl (by
          rw [HQ.out]
          exact ⟨by rw [HE.out]; rw [HM.out]; rfl, (((((HO8.out.setNew (Nat.le_refl _) 0 _).setNew (Nat.le_refl _) 1 _).setNew (Nat.le_refl _) 2 _).setNew (Nat.le_refl _) 3 _).setNew (Nat.le_refl _) 4 _), (fun _ => by rw [← HT6.out]; exact Sl.far5 hS8 (by omega))⟩)
    · have h1' : 1 < v2 := of_decide_eq_true h1
      have HE : Hid (errAt T = 6) := Lib.hid (by rw [HEQ.out, if_pos (.inl (HEND.out ▸ h1'))])
      clear hCh
      have hS0 : Sl ((w.alloc (.cells (mvC mv0) 28)).alloc (.cells (mvC mv0) 28)) b T false := Blk.alloc (Blk.alloc hS _) _
      have hR0 := (Blk.new w 28 (mvC mv0)).alloc (.cells (mvC mv0) 28)
      have hG0 : Blk ((w.alloc (.cells (mvC mv0) 28)).alloc (.cells (mvC mv0) 28)) (w.heap.size + 1) 28 (mvC mv0) := by
        have := Blk.new (w.alloc (.cells (mvC mv0) 28)) 28 (mvC mv0)
        simpa using this
      have hK0 := (hK.alloc (.cells (mvC mv0) 28)).alloc (.cells (mvC mv0) 28)
      have HO0 := Lib.hid (((Only.refl (One b) w).alloc (.cells (mvC mv0) 28)).alloc (.cells (mvC mv0) 28))
      have hbl : b < w.heap.size := Blk.lt hS
      have hgl : g < w.heap.size := hK.lt
      have k0 := hK0.cell 0
      clear hS hK
      dsimp only [mvC, mv0] at hS0 hR0 hG0 hK0 HO0 k0
      go_enter Try.func30, Try.ntmps30
      go_wp2_with (first
        | (go_at_call 31; have _t := hG3; (with_reducible refine (HU4.out _ hS3).mono ?_); rintro e w4 ⟨rfl, ho4, hSa4⟩; have hGa4 := hG3.kept ho4 (by unfold One; omega); have hRa4 := hR3.kept ho4 (by unfold One; omega); have hKa4 := hK3.kept ho4 (by unfold One; omega); have fg4 := hGa4.frozen 2; have cg4 := hGa4.cell 2; have hG4 := hGa4.set 2 (.int .i64 v4); have hR4 := hRa4.far (p := ⟨(w.heap.size + 1), 2, none⟩) (by show w.heap.size ≠ (w.heap.size + 1); omega) (.int .i64 v4); have hK4 := hKa4.far (p := ⟨(w.heap.size + 1), 2, none⟩) (by show g ≠ (w.heap.size + 1); omega) (.int .i64 v4); have hS4 : Sl _ b T4 b4 := Blk.far hSa4 (p := ⟨(w.heap.size + 1), 2, none⟩) (by show b ≠ (w.heap.size + 1); omega) (.int .i64 v4); have k4 := hK4.cell 0; have HO4 := Lib.hid ((HO3.out.trans ho4).setNew (c := (w.heap.size + 1)) (by omega) 2 (.int .i64 v4)))
        | (go_at_call 31; have _t := hG2; (with_reducible refine (HU3.out _ hS2).mono ?_); rintro e w3 ⟨rfl, ho3, hSa3⟩; have hGa3 := hG2.kept ho3 (by unfold One; omega); have hRa3 := hR2.kept ho3 (by unfold One; omega); have hKa3 := hK2.kept ho3 (by unfold One; omega); have fg3 := hGa3.frozen 1; have cg3 := hGa3.cell 1; have hG3 := hGa3.set 1 (.int .i64 v3); have hR3 := hRa3.far (p := ⟨(w.heap.size + 1), 1, none⟩) (by show w.heap.size ≠ (w.heap.size + 1); omega) (.int .i64 v3); have hK3 := hKa3.far (p := ⟨(w.heap.size + 1), 1, none⟩) (by show g ≠ (w.heap.size + 1); omega) (.int .i64 v3); have hS3 : Sl _ b T3 b3 := Blk.far hSa3 (p := ⟨(w.heap.size + 1), 1, none⟩) (by show b ≠ (w.heap.size + 1); omega) (.int .i64 v3); have k3 := hK3.cell 0; have HO3 := Lib.hid ((HO2.out.trans ho3).setNew (c := (w.heap.size + 1)) (by omega) 1 (.int .i64 v3)))
        | (go_at_call 31; have _t := hG1; (with_reducible refine (HU2.out _ hS1).mono ?_); rintro e w2 ⟨rfl, ho2, hSa2⟩; have hG2 := hG1.kept ho2 (by unfold One; omega); have hR2 := hR1.kept ho2 (by unfold One; omega); have hK2 := hK1.kept ho2 (by unfold One; omega); have hS2 := hSa2; have k2 := hK2.cell 0; have HO2 := Lib.hid (HO1.out.trans ho2))
        | (go_at_call 31; (with_reducible refine (HU1.out _ hS0).mono ?_); rintro e w1 ⟨rfl, ho1, hSa1⟩; have hGa1 := hG0.kept ho1 (by unfold One; omega); have hRa1 := hR0.kept ho1 (by unfold One; omega); have hKa1 := hK0.kept ho1 (by unfold One; omega); have fg1 := hGa1.frozen 0; have cg1 := hGa1.cell 0; have hG1 := hGa1.set 0 (.int .i64 v1); have hR1 := hRa1.far (p := ⟨(w.heap.size + 1), 0, none⟩) (by show w.heap.size ≠ (w.heap.size + 1); omega) (.int .i64 v1); have hK1 := hKa1.far (p := ⟨(w.heap.size + 1), 0, none⟩) (by show g ≠ (w.heap.size + 1); omega) (.int .i64 v1); have hS1 : Sl _ b T1 b1 := Blk.far hSa1 (p := ⟨(w.heap.size + 1), 0, none⟩) (by show b ≠ (w.heap.size + 1); omega) (.int .i64 v1); have k1 := hK1.cell 0; have HO1 := Lib.hid ((HO0.out.trans ho1).setNew (c := (w.heap.size + 1)) (by omega) 0 (.int .i64 v1)))
        )
      go_region_held3 (fun w' => w'.cell? ⟨g, 0, none⟩ = some (.pointer (some ⟨b, 0, none⟩))) (first | exact k6 | exact k6a | exact k5 | exact k4) (first
        | (go_at_call 31; have _t := hG4; (with_reducible refine (HU5.out _ (Sl.drew hS4)).mono ?_); rintro e w5 ⟨rfl, ho5, hSa5⟩; have hG5 := (Blk.drew hG4).kept ho5 (by unfold One; omega); have hR5 := (Blk.drew hR4).kept ho5 (by unfold One; omega); have hK5 := (Blk.drew hK4).kept ho5 (by unfold One; omega); have hS5 := hSa5; have k5 := hK5.cell 0; have HO5 := Lib.hid (HO4.out.drew.trans ho5))
        | (go_at_call 32; have _t := hG5; (with_reducible refine (HU6.out _ hS5).mono ?_); rintro e w6 ⟨rfl, ho6, hSa6⟩; have hGa6 := hG5.kept ho6 (by unfold One; omega); have hRa6 := hR5.kept ho6 (by unfold One; omega); have hKa6 := hK5.kept ho6 (by unfold One; omega); have fg6 := hGa6.frozen 3; have cg6 := hGa6.cell 3; have hG6 := hGa6.set 3 (.string s); have hR6 := hRa6.far (p := ⟨(w.heap.size + 1), 3, none⟩) (by show w.heap.size ≠ (w.heap.size + 1); omega) (.string s); have hK6 := hKa6.far (p := ⟨(w.heap.size + 1), 3, none⟩) (by show g ≠ (w.heap.size + 1); omega) (.string s); have hS6 : Sl _ b T6 _ := Blk.far hSa6 (p := ⟨(w.heap.size + 1), 3, none⟩) (by show b ≠ (w.heap.size + 1); omega) (.string s); have k6 := hK6.cell 0; have HO6 := Lib.hid ((HO5.out.trans ho6).setNew (c := (w.heap.size + 1)) (by omega) 3 (.string s)); have k6a := hKa6.cell 0)

        )
      have fg7 := hG6.frozen 4
      have cg7 := hG6.cell 4
      have hG7 := hG6.set 4 (.bool (v2 == 1))
      have hR7 := hR6.far (p := ⟨w.heap.size + 1, 4, none⟩) (by show w.heap.size ≠ w.heap.size + 1; omega) (.bool (v2 == 1))
      have hS7 : Sc _ b (strOf T6) _ := Blk.far hS6 (p := ⟨w.heap.size + 1, 4, none⟩) (by show b ≠ w.heap.size + 1; omega) (.bool (v2 == 1))
      have hK7 := hK6.far (p := ⟨w.heap.size + 1, 4, none⟩) (by show g ≠ w.heap.size + 1; omega) (.bool (v2 == 1))
      have k7 := hK7.cell 0
      have HO7 := Lib.hid (HO6.out.setNew (c := w.heap.size + 1) (by omega) 4 (.bool (v2 == 1)))
      have m0 := hG7.cell 0
      have m1 := hG7.cell 1
      have m2 := hG7.cell 2
      have m3 := hG7.cell 3
      have m4 := hG7.cell 4
      have fr0 := hR7.frozen 0
      have fr1 := hR7.frozen 1
      have fr2 := hR7.frozen 2
      have fr3 := hR7.frozen 3
      have fr4 := hR7.frozen 4
      have cr0 := hR7.cell 0
      have cr1 := hR7.cell 1
      have cr2 := hR7.cell 2
      have cr3 := hR7.cell 3
      have cr4 := hR7.cell 4
      have zr7 := hR7.lt
      have zg7 := hG7.lt
      go_wp2_with (first
        | (go_at_call 33; (with_reducible refine (Bad_any b _ _ _ hS7).mono ?_); rintro e w8 ⟨rfl, rfl⟩)
        )
      have hR8 := hR7
      have HO8 := HO7
      have hF := ((((hR8.set 0 (.int .i64 0)).set 1 (.int .i64 0)).set 2 (.int .i64 0)).set 3 (.string noS)).set 4 (.bool false)
      have c0 := hF.cell 0
      have c1 := hF.cell 1
      have c2 := hF.cell 2
      have c3 := hF.cell 3
      have c4 := hF.cell 4
      exact bodyPost_ret (v := .tuple #[.agg #[.int .i64 0, .int .i64 0, .int .i64 0, .string noS, .bool false], .int .i64 6]) (by simp [results, Try.results30, go_sem, c0, c1, c2, c3, c4]) rfl (by
        rw [HQ.out]
        exact ⟨by rw [HE.out]; rfl, (((((HO8.out.setNew (Nat.le_refl _) 0 _).setNew (Nat.le_refl _) 1 _).setNew (Nat.le_refl _) 2 _).setNew (Nat.le_refl _) 3 _).setNew (Nat.le_refl _) 4 _), (fun hh => absurd (HE.out.symm.trans hh) (by decide))⟩)
  · have he : errAt T = 5 := by
      unfold errAt
      by_cases h12 : T.length < 12
      · rw [if_pos h12]
      · rw [if_neg h12, if_pos]
        apply Nat.lt_of_not_le
        intro hh
        have := hyes.out (by omega) hh
        cases this
    have HE := Lib.hid he
    clear he hno hyes
    have hS0 : Sl ((w.alloc (.cells (mvC mv0) 28)).alloc (.cells (mvC mv0) 28)) b T false := Blk.alloc (Blk.alloc hS _) _
    have hR0 := (Blk.new w 28 (mvC mv0)).alloc (.cells (mvC mv0) 28)
    have hG0 : Blk ((w.alloc (.cells (mvC mv0) 28)).alloc (.cells (mvC mv0) 28)) (w.heap.size + 1) 28 (mvC mv0) := by
      have := Blk.new (w.alloc (.cells (mvC mv0) 28)) 28 (mvC mv0)
      simpa using this
    have hK0 := (hK.alloc (.cells (mvC mv0) 28)).alloc (.cells (mvC mv0) 28)
    have HO0 := Lib.hid (((Only.refl (One b) w).alloc (.cells (mvC mv0) 28)).alloc (.cells (mvC mv0) 28))
    have hbl : b < w.heap.size := Blk.lt hS
    have hgl : g < w.heap.size := hK.lt
    have k0 := hK0.cell 0
    clear hS hK
    dsimp only [mvC, mv0] at hS0 hR0 hG0 hK0 HO0 k0
    go_enter Try.func30, Try.ntmps30
    go_wp2_with (first
      | (go_at_call 31; have _t := hG3; (with_reducible refine (HU4.out _ hS3).mono ?_); rintro e w4 ⟨rfl, ho4, hSa4⟩; have hGa4 := hG3.kept ho4 (by unfold One; omega); have hRa4 := hR3.kept ho4 (by unfold One; omega); have hKa4 := hK3.kept ho4 (by unfold One; omega); have fg4 := hGa4.frozen 2; have cg4 := hGa4.cell 2; have hG4 := hGa4.set 2 (.int .i64 v4); have hR4 := hRa4.far (p := ⟨(w.heap.size + 1), 2, none⟩) (by show w.heap.size ≠ (w.heap.size + 1); omega) (.int .i64 v4); have hK4 := hKa4.far (p := ⟨(w.heap.size + 1), 2, none⟩) (by show g ≠ (w.heap.size + 1); omega) (.int .i64 v4); have hS4 : Sl _ b T4 b4 := Blk.far hSa4 (p := ⟨(w.heap.size + 1), 2, none⟩) (by show b ≠ (w.heap.size + 1); omega) (.int .i64 v4); have k4 := hK4.cell 0; have HO4 := Lib.hid ((HO3.out.trans ho4).setNew (c := (w.heap.size + 1)) (by omega) 2 (.int .i64 v4)))
      | (go_at_call 31; have _t := hG2; (with_reducible refine (HU3.out _ hS2).mono ?_); rintro e w3 ⟨rfl, ho3, hSa3⟩; have hGa3 := hG2.kept ho3 (by unfold One; omega); have hRa3 := hR2.kept ho3 (by unfold One; omega); have hKa3 := hK2.kept ho3 (by unfold One; omega); have fg3 := hGa3.frozen 1; have cg3 := hGa3.cell 1; have hG3 := hGa3.set 1 (.int .i64 v3); have hR3 := hRa3.far (p := ⟨(w.heap.size + 1), 1, none⟩) (by show w.heap.size ≠ (w.heap.size + 1); omega) (.int .i64 v3); have hK3 := hKa3.far (p := ⟨(w.heap.size + 1), 1, none⟩) (by show g ≠ (w.heap.size + 1); omega) (.int .i64 v3); have hS3 : Sl _ b T3 b3 := Blk.far hSa3 (p := ⟨(w.heap.size + 1), 1, none⟩) (by show b ≠ (w.heap.size + 1); omega) (.int .i64 v3); have k3 := hK3.cell 0; have HO3 := Lib.hid ((HO2.out.trans ho3).setNew (c := (w.heap.size + 1)) (by omega) 1 (.int .i64 v3)))
      | (go_at_call 31; have _t := hG1; (with_reducible refine (HU2.out _ hS1).mono ?_); rintro e w2 ⟨rfl, ho2, hSa2⟩; have hG2 := hG1.kept ho2 (by unfold One; omega); have hR2 := hR1.kept ho2 (by unfold One; omega); have hK2 := hK1.kept ho2 (by unfold One; omega); have hS2 := hSa2; have k2 := hK2.cell 0; have HO2 := Lib.hid (HO1.out.trans ho2))
      | (go_at_call 31; (with_reducible refine (HU1.out _ hS0).mono ?_); rintro e w1 ⟨rfl, ho1, hSa1⟩; have hGa1 := hG0.kept ho1 (by unfold One; omega); have hRa1 := hR0.kept ho1 (by unfold One; omega); have hKa1 := hK0.kept ho1 (by unfold One; omega); have fg1 := hGa1.frozen 0; have cg1 := hGa1.cell 0; have hG1 := hGa1.set 0 (.int .i64 v1); have hR1 := hRa1.far (p := ⟨(w.heap.size + 1), 0, none⟩) (by show w.heap.size ≠ (w.heap.size + 1); omega) (.int .i64 v1); have hK1 := hKa1.far (p := ⟨(w.heap.size + 1), 0, none⟩) (by show g ≠ (w.heap.size + 1); omega) (.int .i64 v1); have hS1 : Sl _ b T1 b1 := Blk.far hSa1 (p := ⟨(w.heap.size + 1), 0, none⟩) (by show b ≠ (w.heap.size + 1); omega) (.int .i64 v1); have k1 := hK1.cell 0; have HO1 := Lib.hid ((HO0.out.trans ho1).setNew (c := (w.heap.size + 1)) (by omega) 0 (.int .i64 v1)))
      )
    go_region_held3 (fun w' => w'.cell? ⟨g, 0, none⟩ = some (.pointer (some ⟨b, 0, none⟩))) (first | exact k6 | exact k6a | exact k5 | exact k4) (first
      | (go_at_call 31; have _t := hG4; (with_reducible refine (HU5.out _ (Sl.drew hS4)).mono ?_); rintro e w5 ⟨rfl, ho5, hSa5⟩; have hG5 := (Blk.drew hG4).kept ho5 (by unfold One; omega); have hR5 := (Blk.drew hR4).kept ho5 (by unfold One; omega); have hK5 := (Blk.drew hK4).kept ho5 (by unfold One; omega); have hS5 := hSa5; have k5 := hK5.cell 0; have HO5 := Lib.hid (HO4.out.drew.trans ho5))
      | (go_at_call 32; have _t := hG5; (with_reducible refine (HU6.out _ hS5).mono ?_); rintro e w6 ⟨rfl, ho6, hSa6⟩; have hGa6 := hG5.kept ho6 (by unfold One; omega); have hRa6 := hR5.kept ho6 (by unfold One; omega); have hKa6 := hK5.kept ho6 (by unfold One; omega); have fg6 := hGa6.frozen 3; have cg6 := hGa6.cell 3; have hG6 := hGa6.set 3 (.string s); have hR6 := hRa6.far (p := ⟨(w.heap.size + 1), 3, none⟩) (by show w.heap.size ≠ (w.heap.size + 1); omega) (.string s); have hK6 := hKa6.far (p := ⟨(w.heap.size + 1), 3, none⟩) (by show g ≠ (w.heap.size + 1); omega) (.string s); have hS6 : Sl _ b T6 _ := Blk.far hSa6 (p := ⟨(w.heap.size + 1), 3, none⟩) (by show b ≠ (w.heap.size + 1); omega) (.string s); have k6 := hK6.cell 0; have HO6 := Lib.hid ((HO5.out.trans ho6).setNew (c := (w.heap.size + 1)) (by omega) 3 (.string s)); have k6a := hKa6.cell 0)

      )
    have fg7 := hG6.frozen 4
    have cg7 := hG6.cell 4
    have hG7 := hG6.set 4 (.bool (v2 == 1))
    have hR7 := hR6.far (p := ⟨w.heap.size + 1, 4, none⟩) (by show w.heap.size ≠ w.heap.size + 1; omega) (.bool (v2 == 1))
    have hS7 : Sc _ b (strOf T6) _ := Blk.far hS6 (p := ⟨w.heap.size + 1, 4, none⟩) (by show b ≠ w.heap.size + 1; omega) (.bool (v2 == 1))
    have hK7 := hK6.far (p := ⟨w.heap.size + 1, 4, none⟩) (by show g ≠ w.heap.size + 1; omega) (.bool (v2 == 1))
    have k7 := hK7.cell 0
    have HO7 := Lib.hid (HO6.out.setNew (c := w.heap.size + 1) (by omega) 4 (.bool (v2 == 1)))
    have m0 := hG7.cell 0
    have m1 := hG7.cell 1
    have m2 := hG7.cell 2
    have m3 := hG7.cell 3
    have m4 := hG7.cell 4
    have fr0 := hR7.frozen 0
    have fr1 := hR7.frozen 1
    have fr2 := hR7.frozen 2
    have fr3 := hR7.frozen 3
    have fr4 := hR7.frozen 4
    have cr0 := hR7.cell 0
    have cr1 := hR7.cell 1
    have cr2 := hR7.cell 2
    have cr3 := hR7.cell 3
    have cr4 := hR7.cell 4
    have zr7 := hR7.lt
    have zg7 := hG7.lt
    go_wp2_with (first
      | (go_at_call 33; (with_reducible refine (Bad_any b _ _ _ hS7).mono ?_); rintro e w8 ⟨rfl, rfl⟩)
      )
    have hR8 := hR7
    have HO8 := HO7
    have hF := ((((hR8.set 0 (.int .i64 0)).set 1 (.int .i64 0)).set 2 (.int .i64 0)).set 3 (.string noS)).set 4 (.bool false)
    have c0 := hF.cell 0
    have c1 := hF.cell 1
    have c2 := hF.cell 2
    have c3 := hF.cell 3
    have c4 := hF.cell 4
    exact bodyPost_ret (v := .tuple #[.agg #[.int .i64 0, .int .i64 0, .int .i64 0, .string noS, .bool false], .int .i64 5]) (by simp [results, Try.results30, go_sem, c0, c1, c2, c3, c4]) rfl (by
      rw [HQ.out]
      exact ⟨by rw [HE.out]; rfl, (((((HO8.out.setNew (Nat.le_refl _) 0 _).setNew (Nat.le_refl _) 1 _).setNew (Nat.le_refl _) 2 _).setNew (Nat.le_refl _) 3 _).setNew (Nat.le_refl _) 4 _), (fun hh => absurd (HE.out.symm.trans hh) (by decide))⟩)
end Go.Proofs.Ytamocachpjljdaa
