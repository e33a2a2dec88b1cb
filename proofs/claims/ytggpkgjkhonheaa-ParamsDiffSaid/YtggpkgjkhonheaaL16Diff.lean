/- For any two settings: what differs is told by rising numbers, and it comes from one to the other (the statement ParamsDiff, as it is given). No condition. -/

import Derived.Test.YtggpkgjkhonheaaAwake16
namespace Go.Proofs.Ytggpkgjkhonheaa
open Go.RowKit

theorem dpre_ids (f t : St) : ∀ (i : Nat) (p : Pr), (dpre f t 3)[i]? = some p → 1 ≤ p.ID ∧ p.ID ≤ 3 ∧ ∀ q, 0 < i → (dpre f t 3)[i - 1]? = some q → q.ID < p.ID := by
  intro i p hp
  unfold dpre allP at *
  simp only [List.take_succ_cons, List.take_zero] at *
  cases h1 : chg f ⟨1, t.a⟩ <;> cases h2 : chg f ⟨2, t.b⟩ <;> cases h3 : chg f ⟨3, t.c⟩ <;> simp only [List.filter, h1, h2, h3] at * <;>
    (rcases i with _ | _ | _ | i <;> simp at hp ⊢ <;> (try subst hp) <;> simp)
theorem dpre_back (f t : St) : (apG (dpre f t 3) f).2 = 0 → (apG (dpre f t 3) f).1 = t := by
  obtain ⟨a, b, c⟩ := f
  obtain ⟨x, y, z⟩ := t
  unfold dpre allP
  simp only [List.take_succ_cons, List.take_zero]
  by_cases h1 : x = a <;> by_cases h2 : y = b <;> by_cases h3 : z = c <;>
    simp [chg, St.wth, pw1, pw2, pw3, List.filter, h1, h2, h3, apG] <;> (repeat' split) <;> simp_all
def cntD (f t : St) : Nat := (if t.a = f.a then 0 else 1) + (if t.b = f.b then 0 else 1) + (if t.c = f.c then 0 else 1)
theorem dpre_cnt (f t : St) : (dpre f t 3).length = cntD f t := by
  obtain ⟨a, b, c⟩ := f
  obtain ⟨x, y, z⟩ := t
  unfold dpre allP cntD
  simp only [List.take_succ_cons, List.take_zero]
  by_cases h1 : x = a <;> by_cases h2 : y = b <;> by_cases h3 : z = c <;>
    simp [chg, St.wth, pw1, pw2, pw3, List.filter, h1, h2, h3]
set_option maxRecDepth 100000 in
set_option maxHeartbeats 16000000 in
theorem paramsDiff_walk (v0 v1 : Value) (w : World) (h0 : Kd.Fit w (.agg [.int .i64, .int .i64, .int .i64]) v0) (h1 : Kd.Fit w (.agg [.int .i64, .int .i64, .int .i64]) v1) :
    Calls Try.prog 4 #[v0, v1] w fun e w' => e = .returned (.bool true) ∧ Below w.heap.size w w' := by
  obtain ⟨a, b, c, rfl, _, _, _⟩ := Kd.ints3 h0
  obtain ⟨x, y, z, rfl, _, _, _⟩ := Kd.ints3 h1
  clear h0 h1
  have hx0 : Only Nil w ((w.alloc (.cells #[.int .i64 a, .int .i64 b, .int .i64 c] 23)).alloc (.cells #[.int .i64 x, .int .i64 y, .int .i64 z] 23)) := ((Only.refl _ _).alloc _).alloc _
  have hF0 : Blk ((w.alloc (.cells #[.int .i64 a, .int .i64 b, .int .i64 c] 23)).alloc (.cells #[.int .i64 x, .int .i64 y, .int .i64 z] 23)) w.heap.size 23 #[.int .i64 a, .int .i64 b, .int .i64 c] := (Blk.new _ _ _).alloc _
  have hT0 : Blk ((w.alloc (.cells #[.int .i64 a, .int .i64 b, .int .i64 c] 23)).alloc (.cells #[.int .i64 x, .int .i64 y, .int .i64 z] 23)) (w.heap.size + 1) 23 #[.int .i64 x, .int .i64 y, .int .i64 z] := by
    have := Blk.new (w.alloc (.cells #[.int .i64 a, .int .i64 b, .int .i64 c] 23)) 23 #[.int .i64 x, .int .i64 y, .int .i64 z]
    simpa using this
  go_enter Try.func4, Try.ntmps4
  go_wp2_with (first
    | (go_at_call 11; (with_reducible refine (Diff_any ⟨a, b, c⟩ ⟨x, y, z⟩ _).mono ?_); rintro e w2 ⟨A, cap, rfl, hO, ho2⟩)
    )
  have hF2 := hF0.kept ho2 (fun hh => hh)
  have hT2 := hT0.kept ho2 (fun hh => hh)
  have hx2 := hx0.trans ho2
  have hx02 := hx2
  have hids := dpre_ids ⟨a, b, c⟩ ⟨x, y, z⟩
  have hback := dpre_back ⟨a, b, c⟩ ⟨x, y, z⟩
  have hcnt := Lib.hid (dpre_cnt ⟨a, b, c⟩ ⟨x, y, z⟩)
  have hs := hO.sq (fun _ _ => rfl) rfl
  have hl3 := dpre_len ⟨a, b, c⟩ ⟨x, y, z⟩ 3
  have hA := fun (W : World) (h : Sq encP 2 W W.heap.size A (dpre ⟨a, b, c⟩ ⟨x, y, z⟩ 3)) => Apply_any ⟨a, b, c⟩ A cap _ W h (by omega)
  have hR := fun (W : World) (h : Sq encP 2 W W.heap.size A (dpre ⟨a, b, c⟩ ⟨x, y, z⟩ 3)) => RApply_any ⟨a, b, c⟩ A cap _ W h (by omega)
  generalize dpre ⟨a, b, c⟩ ⟨x, y, z⟩ 3 = L at *
  obtain ⟨⟨⟨ra, rb, rc⟩, rd⟩, hr⟩ : ∃ r, apG L ⟨a, b, c⟩ = r := ⟨_, rfl⟩
  rw [hr] at hA hR hback
  unfold apV at hA hR
  dsimp only at hback
  have HA := Lib.hid hA
  have HR := Lib.hid hR
  have HI := Lib.hid hids
  have hcm : cap ≤ 9223372036854775807 := by obtain ⟨A', c', h1, h2, h3⟩ := hO.form; injection h1 with _ _ h1; subst h1; exact h3
  clear hA hR hr hids hO
  go_loopw [6] (fun ii wr => ∃ (k : Nat), k ≤ L.length ∧ ii = .int .i64 k ∧ Only Nil w2 wr) (fun ii _ => L.length - (intOf ii).toNat)
  case atStart => exact ⟨0, Nat.zero_le _, rfl, Only.refl _ _⟩
  case round =>
    obtain ⟨k, hk, rfl, hx3⟩ := hrel
    by_cases hlt : k < L.length
    · obtain ⟨b', off, p, rfl, hb', hp, _, hc⟩ := (hs.go hx3).at_ hlt
      have f0 := hc 0 (by decide)
      simp [encP] at f0
      obtain ⟨i1, i3, ip⟩ := HI.out k p hp
      obtain ⟨ID, V⟩ := p
      dsimp only at f0 i1 i3 ip
      clear hc hp
      by_cases hk0 : k = 0
      · subst hk0
        rw [Nat.zero_mul, Nat.add_zero] at f0
        have e1 : decide (ID < 1) = false := by simp; omega
        have e3 : decide (3 < ID) = false := by simp; omega
        clear ip i1 i3
        go_wp2
        go_quiet (fail)
        go_wp2
        go_roundw
        case rel => exact ⟨0 + 1, by omega, rfl, hx3.drewN _⟩
        case measure => simp [intOf]; omega
      · obtain ⟨b2, off2, q, e2, hb2, hq, _, hc2⟩ := (hs.go hx3).at_ (k := k - 1) (by omega)
        injection e2 with e2
        injection e2 with e2 e3
        subst e2 e3
        have g0 := hc2 0 (by decide)
        have hq2 := ip q (by omega) hq
        obtain ⟨ID2, V2⟩ := q
        simp [encP] at g0
        dsimp only at hq2
        have e1 : decide (ID < 1) = false := by simp; omega
        have e3 : decide (3 < ID) = false := by simp; omega
        have ek : decide (0 < k) = true := by simp; omega
        have ek2 : 0 < k := by omega
        have el : decide (ID ≤ ID2) = false := by simp; omega
        have ew : IntKind.i64.wrap ((k : Int) - 1) = (k : Int) - 1 := IntWalk.i64_in _ (by omega)
        have e0 : 0 ≤ (k : Int) - 1 := by omega
        have en : (k : Int) - 1 < L.length := by omega
        have et : ((k : Int) - 1).toNat = k - 1 := by omega
        clear hc2 hq ip i1 i3 hq2
        go_wp2
        go_quiet (fail)
        go_wp2
        clear ew et
        go_roundw
        case rel => exact ⟨k + 1, by omega, by go_num, hx3.drewN _⟩
        case measure => simp [intOf]; omega
    · have hsL := hs
      have hF3 := hF2.kept hx3 (fun hh => hh)
      have hT3 := hT2.kept hx3 (fun hh => hh)
      obtain ⟨c0, c1, c2⟩ := Sb.facts (q := ⟨a, b, c⟩) hF3
      obtain ⟨d0, d1, d2⟩ := Sb.facts (q := ⟨x, y, z⟩) hT3
      have z1 := hF3.lt
      have z2 := hT3.lt
      clear hs HI hF2 hT2 hF0 hT0 hl3 hx2
      unfold cntD at hcnt
      dsimp only at hcnt
      by_cases h1 : x = a <;> by_cases h2 : y = b <;> by_cases h3 : z = c
      ·
        have hn : L.length = 0 := by rw [hcnt.out]; simp [h1, h2, h3]
        have q1 : (a != x) = false := by simp; omega
        have q2 : (b != y) = false := by simp; omega
        have q3 : (c != z) = false := by simp; omega
        have q4 : ((L.length : Int) != 0) = false := by rw [hn]; rfl
        clear hcnt h1 h2 h3 hn
        by_cases hr0 : rd = 0
        · obtain rfl := hr0
          have hst := hback rfl
          simp only [St.mk.injEq] at hst
          obtain ⟨e1, e2, e3⟩ := hst
          obtain rfl := e1.symm
          obtain rfl := e2.symm
          obtain rfl := e3.symm
          clear hback
          go_wp2_with (first
            | (go_at_call 6; (with_reducible refine (HA.out _ (hsL.go hx3)).mono ?_); rintro e w4 ⟨rfl, ho4⟩; have hF4 := Blk.kept hF3 ho4 (fun hh => hh); have hT4 := Blk.kept hT3 ho4 (fun hh => hh); obtain ⟨c0, c1, c2⟩ := Sb.facts (q := ⟨a, b, c⟩) hF4; have z4 := hF4.lt; have z5 := hT4.lt; have hx4 := (hx3.trans ho4).alloc (.cells #[.int .i64 x, .int .i64 y, .int .i64 z] 23); have hP4 := Blk.new w4 23 #[.int .i64 x, .int .i64 y, .int .i64 z])
            | (go_at_call 7; (with_reducible refine (HR.out _ (hsL.go hx4)).mono ?_); rintro e w5 ⟨rfl, ho5⟩; have hT5 := Blk.kept (hT4.alloc _) ho5 (fun hh => hh); have hP5 := Blk.kept hP4 ho5 (fun hh => hh); have hQ5 := Blk.new w5 23 #[.int .i64 x, .int .i64 y, .int .i64 z]; obtain ⟨p0, p1, p2⟩ := Sb.facts (q := ⟨x, y, z⟩) hP5; have z6 := hP5.lt; have hx5 := (hx4.trans ho5).alloc (.cells #[.int .i64 x, .int .i64 y, .int .i64 z] 23))
            | (go_at_call 9; (with_reducible refine (awake_any _).mono ?_); rintro e w6 ⟨rfl, ho6⟩; have hP6 := Blk.kept (hP5.alloc _) ho6 (fun hh => hh); have hT6 := Blk.kept (hT5.alloc _) ho6 (fun hh => hh); obtain ⟨p0, p1, p2⟩ := Sb.facts (q := ⟨x, y, z⟩) hP6; obtain ⟨d0, d1, d2⟩ := Sb.facts (q := ⟨x, y, z⟩) hT6)
            )
          go_ret
          exact ⟨rfl, (hx02.trans (hx5.trans ho6)).below (Nat.le_refl _) (fun _ _ hh => hh)⟩
        · have hr1 : (rd == 0) = false := by simpa using hr0
          have hr2 : (rd != 0) = true := by simpa using hr0
          clear hr0 hback
          go_wp2_with (first
            | (go_at_call 6; (with_reducible refine (HA.out _ (hsL.go hx3)).mono ?_); rintro e w4 ⟨rfl, ho4⟩; have hF4 := Blk.kept hF3 ho4 (fun hh => hh); have hT4 := Blk.kept hT3 ho4 (fun hh => hh); obtain ⟨c0, c1, c2⟩ := Sb.facts (q := ⟨a, b, c⟩) hF4; have z4 := hF4.lt; have z5 := hT4.lt; have hx4 := (hx3.trans ho4).alloc (.cells #[.int .i64 ra, .int .i64 rb, .int .i64 rc] 23); have hP4 := Blk.new w4 23 #[.int .i64 ra, .int .i64 rb, .int .i64 rc])
            | (go_at_call 7; (with_reducible refine (HR.out _ (hsL.go hx4)).mono ?_); rintro e w5 ⟨rfl, ho5⟩; have hT5 := Blk.kept (hT4.alloc _) ho5 (fun hh => hh); have hP5 := Blk.kept hP4 ho5 (fun hh => hh); have hQ5 := Blk.new w5 23 #[.int .i64 ra, .int .i64 rb, .int .i64 rc]; obtain ⟨p0, p1, p2⟩ := Sb.facts (q := ⟨ra, rb, rc⟩) hP5; have z6 := hP5.lt; have hx5 := (hx4.trans ho5).alloc (.cells #[.int .i64 ra, .int .i64 rb, .int .i64 rc] 23))
            | (go_at_call 9; (with_reducible refine (awake_any _).mono ?_); rintro e w6 ⟨rfl, ho6⟩; have hP6 := Blk.kept (hP5.alloc _) ho6 (fun hh => hh); have hT6 := Blk.kept (hT5.alloc _) ho6 (fun hh => hh); obtain ⟨p0, p1, p2⟩ := Sb.facts (q := ⟨ra, rb, rc⟩) hP6; obtain ⟨d0, d1, d2⟩ := Sb.facts (q := ⟨x, y, z⟩) hT6)
            )
          go_ret
          exact ⟨rfl, (hx02.trans (hx5.trans ho6)).below (Nat.le_refl _) (fun _ _ hh => hh)⟩
      ·
        have hn : L.length = 1 := by rw [hcnt.out]; simp [h1, h2, h3]
        have q1 : (a != x) = false := by simp; omega
        have q2 : (b != y) = false := by simp; omega
        have q3 : (c != z) = true := by simp; omega
        have q4 : ((L.length : Int) != 1) = false := by rw [hn]; rfl
        clear hcnt h1 h2 h3 hn
        by_cases hr0 : rd = 0
        · obtain rfl := hr0
          have hst := hback rfl
          simp only [St.mk.injEq] at hst
          obtain ⟨e1, e2, e3⟩ := hst
          obtain rfl := e1.symm
          obtain rfl := e2.symm
          obtain rfl := e3.symm
          clear hback
          go_wp2_with (first
            | (go_at_call 6; (with_reducible refine (HA.out _ (hsL.go hx3)).mono ?_); rintro e w4 ⟨rfl, ho4⟩; have hF4 := Blk.kept hF3 ho4 (fun hh => hh); have hT4 := Blk.kept hT3 ho4 (fun hh => hh); obtain ⟨c0, c1, c2⟩ := Sb.facts (q := ⟨a, b, c⟩) hF4; have z4 := hF4.lt; have z5 := hT4.lt; have hx4 := (hx3.trans ho4).alloc (.cells #[.int .i64 x, .int .i64 y, .int .i64 z] 23); have hP4 := Blk.new w4 23 #[.int .i64 x, .int .i64 y, .int .i64 z])
            | (go_at_call 7; (with_reducible refine (HR.out _ (hsL.go hx4)).mono ?_); rintro e w5 ⟨rfl, ho5⟩; have hT5 := Blk.kept (hT4.alloc _) ho5 (fun hh => hh); have hP5 := Blk.kept hP4 ho5 (fun hh => hh); have hQ5 := Blk.new w5 23 #[.int .i64 x, .int .i64 y, .int .i64 z]; obtain ⟨p0, p1, p2⟩ := Sb.facts (q := ⟨x, y, z⟩) hP5; have z6 := hP5.lt; have hx5 := (hx4.trans ho5).alloc (.cells #[.int .i64 x, .int .i64 y, .int .i64 z] 23))
            | (go_at_call 9; (with_reducible refine (awake_any _).mono ?_); rintro e w6 ⟨rfl, ho6⟩; have hP6 := Blk.kept (hP5.alloc _) ho6 (fun hh => hh); have hT6 := Blk.kept (hT5.alloc _) ho6 (fun hh => hh); obtain ⟨p0, p1, p2⟩ := Sb.facts (q := ⟨x, y, z⟩) hP6; obtain ⟨d0, d1, d2⟩ := Sb.facts (q := ⟨x, y, z⟩) hT6)
            )
          go_ret
          exact ⟨rfl, (hx02.trans (hx5.trans ho6)).below (Nat.le_refl _) (fun _ _ hh => hh)⟩
        · have hr1 : (rd == 0) = false := by simpa using hr0
          have hr2 : (rd != 0) = true := by simpa using hr0
          clear hr0 hback
          go_wp2_with (first
            | (go_at_call 6; (with_reducible refine (HA.out _ (hsL.go hx3)).mono ?_); rintro e w4 ⟨rfl, ho4⟩; have hF4 := Blk.kept hF3 ho4 (fun hh => hh); have hT4 := Blk.kept hT3 ho4 (fun hh => hh); obtain ⟨c0, c1, c2⟩ := Sb.facts (q := ⟨a, b, c⟩) hF4; have z4 := hF4.lt; have z5 := hT4.lt; have hx4 := (hx3.trans ho4).alloc (.cells #[.int .i64 ra, .int .i64 rb, .int .i64 rc] 23); have hP4 := Blk.new w4 23 #[.int .i64 ra, .int .i64 rb, .int .i64 rc])
            | (go_at_call 7; (with_reducible refine (HR.out _ (hsL.go hx4)).mono ?_); rintro e w5 ⟨rfl, ho5⟩; have hT5 := Blk.kept (hT4.alloc _) ho5 (fun hh => hh); have hP5 := Blk.kept hP4 ho5 (fun hh => hh); have hQ5 := Blk.new w5 23 #[.int .i64 ra, .int .i64 rb, .int .i64 rc]; obtain ⟨p0, p1, p2⟩ := Sb.facts (q := ⟨ra, rb, rc⟩) hP5; have z6 := hP5.lt; have hx5 := (hx4.trans ho5).alloc (.cells #[.int .i64 ra, .int .i64 rb, .int .i64 rc] 23))
            | (go_at_call 9; (with_reducible refine (awake_any _).mono ?_); rintro e w6 ⟨rfl, ho6⟩; have hP6 := Blk.kept (hP5.alloc _) ho6 (fun hh => hh); have hT6 := Blk.kept (hT5.alloc _) ho6 (fun hh => hh); obtain ⟨p0, p1, p2⟩ := Sb.facts (q := ⟨ra, rb, rc⟩) hP6; obtain ⟨d0, d1, d2⟩ := Sb.facts (q := ⟨x, y, z⟩) hT6)
            )
          go_ret
          exact ⟨rfl, (hx02.trans (hx5.trans ho6)).below (Nat.le_refl _) (fun _ _ hh => hh)⟩
      ·
        have hn : L.length = 1 := by rw [hcnt.out]; simp [h1, h2, h3]
        have q1 : (a != x) = false := by simp; omega
        have q2 : (b != y) = true := by simp; omega
        have q3 : (c != z) = false := by simp; omega
        have q4 : ((L.length : Int) != 1) = false := by rw [hn]; rfl
        clear hcnt h1 h2 h3 hn
        by_cases hr0 : rd = 0
        · obtain rfl := hr0
          have hst := hback rfl
          simp only [St.mk.injEq] at hst
          obtain ⟨e1, e2, e3⟩ := hst
          obtain rfl := e1.symm
          obtain rfl := e2.symm
          obtain rfl := e3.symm
          clear hback
          go_wp2_with (first
            | (go_at_call 6; (with_reducible refine (HA.out _ (hsL.go hx3)).mono ?_); rintro e w4 ⟨rfl, ho4⟩; have hF4 := Blk.kept hF3 ho4 (fun hh => hh); have hT4 := Blk.kept hT3 ho4 (fun hh => hh); obtain ⟨c0, c1, c2⟩ := Sb.facts (q := ⟨a, b, c⟩) hF4; have z4 := hF4.lt; have z5 := hT4.lt; have hx4 := (hx3.trans ho4).alloc (.cells #[.int .i64 x, .int .i64 y, .int .i64 z] 23); have hP4 := Blk.new w4 23 #[.int .i64 x, .int .i64 y, .int .i64 z])
            | (go_at_call 7; (with_reducible refine (HR.out _ (hsL.go hx4)).mono ?_); rintro e w5 ⟨rfl, ho5⟩; have hT5 := Blk.kept (hT4.alloc _) ho5 (fun hh => hh); have hP5 := Blk.kept hP4 ho5 (fun hh => hh); have hQ5 := Blk.new w5 23 #[.int .i64 x, .int .i64 y, .int .i64 z]; obtain ⟨p0, p1, p2⟩ := Sb.facts (q := ⟨x, y, z⟩) hP5; have z6 := hP5.lt; have hx5 := (hx4.trans ho5).alloc (.cells #[.int .i64 x, .int .i64 y, .int .i64 z] 23))
            | (go_at_call 9; (with_reducible refine (awake_any _).mono ?_); rintro e w6 ⟨rfl, ho6⟩; have hP6 := Blk.kept (hP5.alloc _) ho6 (fun hh => hh); have hT6 := Blk.kept (hT5.alloc _) ho6 (fun hh => hh); obtain ⟨p0, p1, p2⟩ := Sb.facts (q := ⟨x, y, z⟩) hP6; obtain ⟨d0, d1, d2⟩ := Sb.facts (q := ⟨x, y, z⟩) hT6)
            )
          go_ret
          exact ⟨rfl, (hx02.trans (hx5.trans ho6)).below (Nat.le_refl _) (fun _ _ hh => hh)⟩
        · have hr1 : (rd == 0) = false := by simpa using hr0
          have hr2 : (rd != 0) = true := by simpa using hr0
          clear hr0 hback
          go_wp2_with (first
            | (go_at_call 6; (with_reducible refine (HA.out _ (hsL.go hx3)).mono ?_); rintro e w4 ⟨rfl, ho4⟩; have hF4 := Blk.kept hF3 ho4 (fun hh => hh); have hT4 := Blk.kept hT3 ho4 (fun hh => hh); obtain ⟨c0, c1, c2⟩ := Sb.facts (q := ⟨a, b, c⟩) hF4; have z4 := hF4.lt; have z5 := hT4.lt; have hx4 := (hx3.trans ho4).alloc (.cells #[.int .i64 ra, .int .i64 rb, .int .i64 rc] 23); have hP4 := Blk.new w4 23 #[.int .i64 ra, .int .i64 rb, .int .i64 rc])
            | (go_at_call 7; (with_reducible refine (HR.out _ (hsL.go hx4)).mono ?_); rintro e w5 ⟨rfl, ho5⟩; have hT5 := Blk.kept (hT4.alloc _) ho5 (fun hh => hh); have hP5 := Blk.kept hP4 ho5 (fun hh => hh); have hQ5 := Blk.new w5 23 #[.int .i64 ra, .int .i64 rb, .int .i64 rc]; obtain ⟨p0, p1, p2⟩ := Sb.facts (q := ⟨ra, rb, rc⟩) hP5; have z6 := hP5.lt; have hx5 := (hx4.trans ho5).alloc (.cells #[.int .i64 ra, .int .i64 rb, .int .i64 rc] 23))
            | (go_at_call 9; (with_reducible refine (awake_any _).mono ?_); rintro e w6 ⟨rfl, ho6⟩; have hP6 := Blk.kept (hP5.alloc _) ho6 (fun hh => hh); have hT6 := Blk.kept (hT5.alloc _) ho6 (fun hh => hh); obtain ⟨p0, p1, p2⟩ := Sb.facts (q := ⟨ra, rb, rc⟩) hP6; obtain ⟨d0, d1, d2⟩ := Sb.facts (q := ⟨x, y, z⟩) hT6)
            )
          go_ret
          exact ⟨rfl, (hx02.trans (hx5.trans ho6)).below (Nat.le_refl _) (fun _ _ hh => hh)⟩
      ·
        have hn : L.length = 2 := by rw [hcnt.out]; simp [h1, h2, h3]
        have q1 : (a != x) = false := by simp; omega
        have q2 : (b != y) = true := by simp; omega
        have q3 : (c != z) = true := by simp; omega
        have q4 : ((L.length : Int) != 2) = false := by rw [hn]; rfl
        clear hcnt h1 h2 h3 hn
        by_cases hr0 : rd = 0
        · obtain rfl := hr0
          have hst := hback rfl
          simp only [St.mk.injEq] at hst
          obtain ⟨e1, e2, e3⟩ := hst
          obtain rfl := e1.symm
          obtain rfl := e2.symm
          obtain rfl := e3.symm
          clear hback
          go_wp2_with (first
            | (go_at_call 6; (with_reducible refine (HA.out _ (hsL.go hx3)).mono ?_); rintro e w4 ⟨rfl, ho4⟩; have hF4 := Blk.kept hF3 ho4 (fun hh => hh); have hT4 := Blk.kept hT3 ho4 (fun hh => hh); obtain ⟨c0, c1, c2⟩ := Sb.facts (q := ⟨a, b, c⟩) hF4; have z4 := hF4.lt; have z5 := hT4.lt; have hx4 := (hx3.trans ho4).alloc (.cells #[.int .i64 x, .int .i64 y, .int .i64 z] 23); have hP4 := Blk.new w4 23 #[.int .i64 x, .int .i64 y, .int .i64 z])
            | (go_at_call 7; (with_reducible refine (HR.out _ (hsL.go hx4)).mono ?_); rintro e w5 ⟨rfl, ho5⟩; have hT5 := Blk.kept (hT4.alloc _) ho5 (fun hh => hh); have hP5 := Blk.kept hP4 ho5 (fun hh => hh); have hQ5 := Blk.new w5 23 #[.int .i64 x, .int .i64 y, .int .i64 z]; obtain ⟨p0, p1, p2⟩ := Sb.facts (q := ⟨x, y, z⟩) hP5; have z6 := hP5.lt; have hx5 := (hx4.trans ho5).alloc (.cells #[.int .i64 x, .int .i64 y, .int .i64 z] 23))
            | (go_at_call 9; (with_reducible refine (awake_any _).mono ?_); rintro e w6 ⟨rfl, ho6⟩; have hP6 := Blk.kept (hP5.alloc _) ho6 (fun hh => hh); have hT6 := Blk.kept (hT5.alloc _) ho6 (fun hh => hh); obtain ⟨p0, p1, p2⟩ := Sb.facts (q := ⟨x, y, z⟩) hP6; obtain ⟨d0, d1, d2⟩ := Sb.facts (q := ⟨x, y, z⟩) hT6)
            )
          go_ret
          exact ⟨rfl, (hx02.trans (hx5.trans ho6)).below (Nat.le_refl _) (fun _ _ hh => hh)⟩
        · have hr1 : (rd == 0) = false := by simpa using hr0
          have hr2 : (rd != 0) = true := by simpa using hr0
          clear hr0 hback
          go_wp2_with (first
            | (go_at_call 6; (with_reducible refine (HA.out _ (hsL.go hx3)).mono ?_); rintro e w4 ⟨rfl, ho4⟩; have hF4 := Blk.kept hF3 ho4 (fun hh => hh); have hT4 := Blk.kept hT3 ho4 (fun hh => hh); obtain ⟨c0, c1, c2⟩ := Sb.facts (q := ⟨a, b, c⟩) hF4; have z4 := hF4.lt; have z5 := hT4.lt; have hx4 := (hx3.trans ho4).alloc (.cells #[.int .i64 ra, .int .i64 rb, .int .i64 rc] 23); have hP4 := Blk.new w4 23 #[.int .i64 ra, .int .i64 rb, .int .i64 rc])
            | (go_at_call 7; (with_reducible refine (HR.out _ (hsL.go hx4)).mono ?_); rintro e w5 ⟨rfl, ho5⟩; have hT5 := Blk.kept (hT4.alloc _) ho5 (fun hh => hh); have hP5 := Blk.kept hP4 ho5 (fun hh => hh); have hQ5 := Blk.new w5 23 #[.int .i64 ra, .int .i64 rb, .int .i64 rc]; obtain ⟨p0, p1, p2⟩ := Sb.facts (q := ⟨ra, rb, rc⟩) hP5; have z6 := hP5.lt; have hx5 := (hx4.trans ho5).alloc (.cells #[.int .i64 ra, .int .i64 rb, .int .i64 rc] 23))
            | (go_at_call 9; (with_reducible refine (awake_any _).mono ?_); rintro e w6 ⟨rfl, ho6⟩; have hP6 := Blk.kept (hP5.alloc _) ho6 (fun hh => hh); have hT6 := Blk.kept (hT5.alloc _) ho6 (fun hh => hh); obtain ⟨p0, p1, p2⟩ := Sb.facts (q := ⟨ra, rb, rc⟩) hP6; obtain ⟨d0, d1, d2⟩ := Sb.facts (q := ⟨x, y, z⟩) hT6)
            )
          go_ret
          exact ⟨rfl, (hx02.trans (hx5.trans ho6)).below (Nat.le_refl _) (fun _ _ hh => hh)⟩
      ·
        have hn : L.length = 1 := by rw [hcnt.out]; simp [h1, h2, h3]
        have q1 : (a != x) = true := by simp; omega
        have q2 : (b != y) = false := by simp; omega
        have q3 : (c != z) = false := by simp; omega
        have q4 : ((L.length : Int) != 1) = false := by rw [hn]; rfl
        clear hcnt h1 h2 h3 hn
        by_cases hr0 : rd = 0
        · obtain rfl := hr0
          have hst := hback rfl
          simp only [St.mk.injEq] at hst
          obtain ⟨e1, e2, e3⟩ := hst
          obtain rfl := e1.symm
          obtain rfl := e2.symm
          obtain rfl := e3.symm
          clear hback
          go_wp2_with (first
            | (go_at_call 6; (with_reducible refine (HA.out _ (hsL.go hx3)).mono ?_); rintro e w4 ⟨rfl, ho4⟩; have hF4 := Blk.kept hF3 ho4 (fun hh => hh); have hT4 := Blk.kept hT3 ho4 (fun hh => hh); obtain ⟨c0, c1, c2⟩ := Sb.facts (q := ⟨a, b, c⟩) hF4; have z4 := hF4.lt; have z5 := hT4.lt; have hx4 := (hx3.trans ho4).alloc (.cells #[.int .i64 x, .int .i64 y, .int .i64 z] 23); have hP4 := Blk.new w4 23 #[.int .i64 x, .int .i64 y, .int .i64 z])
            | (go_at_call 7; (with_reducible refine (HR.out _ (hsL.go hx4)).mono ?_); rintro e w5 ⟨rfl, ho5⟩; have hT5 := Blk.kept (hT4.alloc _) ho5 (fun hh => hh); have hP5 := Blk.kept hP4 ho5 (fun hh => hh); have hQ5 := Blk.new w5 23 #[.int .i64 x, .int .i64 y, .int .i64 z]; obtain ⟨p0, p1, p2⟩ := Sb.facts (q := ⟨x, y, z⟩) hP5; have z6 := hP5.lt; have hx5 := (hx4.trans ho5).alloc (.cells #[.int .i64 x, .int .i64 y, .int .i64 z] 23))
            | (go_at_call 9; (with_reducible refine (awake_any _).mono ?_); rintro e w6 ⟨rfl, ho6⟩; have hP6 := Blk.kept (hP5.alloc _) ho6 (fun hh => hh); have hT6 := Blk.kept (hT5.alloc _) ho6 (fun hh => hh); obtain ⟨p0, p1, p2⟩ := Sb.facts (q := ⟨x, y, z⟩) hP6; obtain ⟨d0, d1, d2⟩ := Sb.facts (q := ⟨x, y, z⟩) hT6)
            )
          go_ret
          exact ⟨rfl, (hx02.trans (hx5.trans ho6)).below (Nat.le_refl _) (fun _ _ hh => hh)⟩
        · have hr1 : (rd == 0) = false := by simpa using hr0
          have hr2 : (rd != 0) = true := by simpa using hr0
          clear hr0 hback
          go_wp2_with (first
            | (go_at_call 6; (with_reducible refine (HA.out _ (hsL.go hx3)).mono ?_); rintro e w4 ⟨rfl, ho4⟩; have hF4 := Blk.kept hF3 ho4 (fun hh => hh); have hT4 := Blk.kept hT3 ho4 (fun hh => hh); obtain ⟨c0, c1, c2⟩ := Sb.facts (q := ⟨a, b, c⟩) hF4; have z4 := hF4.lt; have z5 := hT4.lt; have hx4 := (hx3.trans ho4).alloc (.cells #[.int .i64 ra, .int .i64 rb, .int .i64 rc] 23); have hP4 := Blk.new w4 23 #[.int .i64 ra, .int .i64 rb, .int .i64 rc])
            | (go_at_call 7; (with_reducible refine (HR.out _ (hsL.go hx4)).mono ?_); rintro e w5 ⟨rfl, ho5⟩; have hT5 := Blk.kept (hT4.alloc _) ho5 (fun hh => hh); have hP5 := Blk.kept hP4 ho5 (fun hh => hh); have hQ5 := Blk.new w5 23 #[.int .i64 ra, .int .i64 rb, .int .i64 rc]; obtain ⟨p0, p1, p2⟩ := Sb.facts (q := ⟨ra, rb, rc⟩) hP5; have z6 := hP5.lt; have hx5 := (hx4.trans ho5).alloc (.cells #[.int .i64 ra, .int .i64 rb, .int .i64 rc] 23))
            | (go_at_call 9; (with_reducible refine (awake_any _).mono ?_); rintro e w6 ⟨rfl, ho6⟩; have hP6 := Blk.kept (hP5.alloc _) ho6 (fun hh => hh); have hT6 := Blk.kept (hT5.alloc _) ho6 (fun hh => hh); obtain ⟨p0, p1, p2⟩ := Sb.facts (q := ⟨ra, rb, rc⟩) hP6; obtain ⟨d0, d1, d2⟩ := Sb.facts (q := ⟨x, y, z⟩) hT6)
            )
          go_ret
          exact ⟨rfl, (hx02.trans (hx5.trans ho6)).below (Nat.le_refl _) (fun _ _ hh => hh)⟩
      ·
        have hn : L.length = 2 := by rw [hcnt.out]; simp [h1, h2, h3]
        have q1 : (a != x) = true := by simp; omega
        have q2 : (b != y) = false := by simp; omega
        have q3 : (c != z) = true := by simp; omega
        have q4 : ((L.length : Int) != 2) = false := by rw [hn]; rfl
        clear hcnt h1 h2 h3 hn
        by_cases hr0 : rd = 0
        · obtain rfl := hr0
          have hst := hback rfl
          simp only [St.mk.injEq] at hst
          obtain ⟨e1, e2, e3⟩ := hst
          obtain rfl := e1.symm
          obtain rfl := e2.symm
          obtain rfl := e3.symm
          clear hback
          go_wp2_with (first
            | (go_at_call 6; (with_reducible refine (HA.out _ (hsL.go hx3)).mono ?_); rintro e w4 ⟨rfl, ho4⟩; have hF4 := Blk.kept hF3 ho4 (fun hh => hh); have hT4 := Blk.kept hT3 ho4 (fun hh => hh); obtain ⟨c0, c1, c2⟩ := Sb.facts (q := ⟨a, b, c⟩) hF4; have z4 := hF4.lt; have z5 := hT4.lt; have hx4 := (hx3.trans ho4).alloc (.cells #[.int .i64 x, .int .i64 y, .int .i64 z] 23); have hP4 := Blk.new w4 23 #[.int .i64 x, .int .i64 y, .int .i64 z])
            | (go_at_call 7; (with_reducible refine (HR.out _ (hsL.go hx4)).mono ?_); rintro e w5 ⟨rfl, ho5⟩; have hT5 := Blk.kept (hT4.alloc _) ho5 (fun hh => hh); have hP5 := Blk.kept hP4 ho5 (fun hh => hh); have hQ5 := Blk.new w5 23 #[.int .i64 x, .int .i64 y, .int .i64 z]; obtain ⟨p0, p1, p2⟩ := Sb.facts (q := ⟨x, y, z⟩) hP5; have z6 := hP5.lt; have hx5 := (hx4.trans ho5).alloc (.cells #[.int .i64 x, .int .i64 y, .int .i64 z] 23))
            | (go_at_call 9; (with_reducible refine (awake_any _).mono ?_); rintro e w6 ⟨rfl, ho6⟩; have hP6 := Blk.kept (hP5.alloc _) ho6 (fun hh => hh); have hT6 := Blk.kept (hT5.alloc _) ho6 (fun hh => hh); obtain ⟨p0, p1, p2⟩ := Sb.facts (q := ⟨x, y, z⟩) hP6; obtain ⟨d0, d1, d2⟩ := Sb.facts (q := ⟨x, y, z⟩) hT6)
            )
          go_ret
          exact ⟨rfl, (hx02.trans (hx5.trans ho6)).below (Nat.le_refl _) (fun _ _ hh => hh)⟩
        · have hr1 : (rd == 0) = false := by simpa using hr0
          have hr2 : (rd != 0) = true := by simpa using hr0
          clear hr0 hback
          go_wp2_with (first
            | (go_at_call 6; (with_reducible refine (HA.out _ (hsL.go hx3)).mono ?_); rintro e w4 ⟨rfl, ho4⟩; have hF4 := Blk.kept hF3 ho4 (fun hh => hh); have hT4 := Blk.kept hT3 ho4 (fun hh => hh); obtain ⟨c0, c1, c2⟩ := Sb.facts (q := ⟨a, b, c⟩) hF4; have z4 := hF4.lt; have z5 := hT4.lt; have hx4 := (hx3.trans ho4).alloc (.cells #[.int .i64 ra, .int .i64 rb, .int .i64 rc] 23); have hP4 := Blk.new w4 23 #[.int .i64 ra, .int .i64 rb, .int .i64 rc])
            | (go_at_call 7; (with_reducible refine (HR.out _ (hsL.go hx4)).mono ?_); rintro e w5 ⟨rfl, ho5⟩; have hT5 := Blk.kept (hT4.alloc _) ho5 (fun hh => hh); have hP5 := Blk.kept hP4 ho5 (fun hh => hh); have hQ5 := Blk.new w5 23 #[.int .i64 ra, .int .i64 rb, .int .i64 rc]; obtain ⟨p0, p1, p2⟩ := Sb.facts (q := ⟨ra, rb, rc⟩) hP5; have z6 := hP5.lt; have hx5 := (hx4.trans ho5).alloc (.cells #[.int .i64 ra, .int .i64 rb, .int .i64 rc] 23))
            | (go_at_call 9; (with_reducible refine (awake_any _).mono ?_); rintro e w6 ⟨rfl, ho6⟩; have hP6 := Blk.kept (hP5.alloc _) ho6 (fun hh => hh); have hT6 := Blk.kept (hT5.alloc _) ho6 (fun hh => hh); obtain ⟨p0, p1, p2⟩ := Sb.facts (q := ⟨ra, rb, rc⟩) hP6; obtain ⟨d0, d1, d2⟩ := Sb.facts (q := ⟨x, y, z⟩) hT6)
            )
          go_ret
          exact ⟨rfl, (hx02.trans (hx5.trans ho6)).below (Nat.le_refl _) (fun _ _ hh => hh)⟩
      ·
        have hn : L.length = 2 := by rw [hcnt.out]; simp [h1, h2, h3]
        have q1 : (a != x) = true := by simp; omega
        have q2 : (b != y) = true := by simp; omega
        have q3 : (c != z) = false := by simp; omega
        have q4 : ((L.length : Int) != 2) = false := by rw [hn]; rfl
        clear hcnt h1 h2 h3 hn
        by_cases hr0 : rd = 0
        · obtain rfl := hr0
          have hst := hback rfl
          simp only [St.mk.injEq] at hst
          obtain ⟨e1, e2, e3⟩ := hst
          obtain rfl := e1.symm
          obtain rfl := e2.symm
          obtain rfl := e3.symm
          clear hback
          go_wp2_with (first
            | (go_at_call 6; (with_reducible refine (HA.out _ (hsL.go hx3)).mono ?_); rintro e w4 ⟨rfl, ho4⟩; have hF4 := Blk.kept hF3 ho4 (fun hh => hh); have hT4 := Blk.kept hT3 ho4 (fun hh => hh); obtain ⟨c0, c1, c2⟩ := Sb.facts (q := ⟨a, b, c⟩) hF4; have z4 := hF4.lt; have z5 := hT4.lt; have hx4 := (hx3.trans ho4).alloc (.cells #[.int .i64 x, .int .i64 y, .int .i64 z] 23); have hP4 := Blk.new w4 23 #[.int .i64 x, .int .i64 y, .int .i64 z])
            | (go_at_call 7; (with_reducible refine (HR.out _ (hsL.go hx4)).mono ?_); rintro e w5 ⟨rfl, ho5⟩; have hT5 := Blk.kept (hT4.alloc _) ho5 (fun hh => hh); have hP5 := Blk.kept hP4 ho5 (fun hh => hh); have hQ5 := Blk.new w5 23 #[.int .i64 x, .int .i64 y, .int .i64 z]; obtain ⟨p0, p1, p2⟩ := Sb.facts (q := ⟨x, y, z⟩) hP5; have z6 := hP5.lt; have hx5 := (hx4.trans ho5).alloc (.cells #[.int .i64 x, .int .i64 y, .int .i64 z] 23))
            | (go_at_call 9; (with_reducible refine (awake_any _).mono ?_); rintro e w6 ⟨rfl, ho6⟩; have hP6 := Blk.kept (hP5.alloc _) ho6 (fun hh => hh); have hT6 := Blk.kept (hT5.alloc _) ho6 (fun hh => hh); obtain ⟨p0, p1, p2⟩ := Sb.facts (q := ⟨x, y, z⟩) hP6; obtain ⟨d0, d1, d2⟩ := Sb.facts (q := ⟨x, y, z⟩) hT6)
            )
          go_ret
          exact ⟨rfl, (hx02.trans (hx5.trans ho6)).below (Nat.le_refl _) (fun _ _ hh => hh)⟩
        · have hr1 : (rd == 0) = false := by simpa using hr0
          have hr2 : (rd != 0) = true := by simpa using hr0
          clear hr0 hback
          go_wp2_with (first
            | (go_at_call 6; (with_reducible refine (HA.out _ (hsL.go hx3)).mono ?_); rintro e w4 ⟨rfl, ho4⟩; have hF4 := Blk.kept hF3 ho4 (fun hh => hh); have hT4 := Blk.kept hT3 ho4 (fun hh => hh); obtain ⟨c0, c1, c2⟩ := Sb.facts (q := ⟨a, b, c⟩) hF4; have z4 := hF4.lt; have z5 := hT4.lt; have hx4 := (hx3.trans ho4).alloc (.cells #[.int .i64 ra, .int .i64 rb, .int .i64 rc] 23); have hP4 := Blk.new w4 23 #[.int .i64 ra, .int .i64 rb, .int .i64 rc])
            | (go_at_call 7; (with_reducible refine (HR.out _ (hsL.go hx4)).mono ?_); rintro e w5 ⟨rfl, ho5⟩; have hT5 := Blk.kept (hT4.alloc _) ho5 (fun hh => hh); have hP5 := Blk.kept hP4 ho5 (fun hh => hh); have hQ5 := Blk.new w5 23 #[.int .i64 ra, .int .i64 rb, .int .i64 rc]; obtain ⟨p0, p1, p2⟩ := Sb.facts (q := ⟨ra, rb, rc⟩) hP5; have z6 := hP5.lt; have hx5 := (hx4.trans ho5).alloc (.cells #[.int .i64 ra, .int .i64 rb, .int .i64 rc] 23))
            | (go_at_call 9; (with_reducible refine (awake_any _).mono ?_); rintro e w6 ⟨rfl, ho6⟩; have hP6 := Blk.kept (hP5.alloc _) ho6 (fun hh => hh); have hT6 := Blk.kept (hT5.alloc _) ho6 (fun hh => hh); obtain ⟨p0, p1, p2⟩ := Sb.facts (q := ⟨ra, rb, rc⟩) hP6; obtain ⟨d0, d1, d2⟩ := Sb.facts (q := ⟨x, y, z⟩) hT6)
            )
          go_ret
          exact ⟨rfl, (hx02.trans (hx5.trans ho6)).below (Nat.le_refl _) (fun _ _ hh => hh)⟩
      ·
        have hn : L.length = 3 := by rw [hcnt.out]; simp [h1, h2, h3]
        have q1 : (a != x) = true := by simp; omega
        have q2 : (b != y) = true := by simp; omega
        have q3 : (c != z) = true := by simp; omega
        have q4 : ((L.length : Int) != 3) = false := by rw [hn]; rfl
        clear hcnt h1 h2 h3 hn
        by_cases hr0 : rd = 0
        · obtain rfl := hr0
          have hst := hback rfl
          simp only [St.mk.injEq] at hst
          obtain ⟨e1, e2, e3⟩ := hst
          obtain rfl := e1.symm
          obtain rfl := e2.symm
          obtain rfl := e3.symm
          clear hback
          go_wp2_with (first
            | (go_at_call 6; (with_reducible refine (HA.out _ (hsL.go hx3)).mono ?_); rintro e w4 ⟨rfl, ho4⟩; have hF4 := Blk.kept hF3 ho4 (fun hh => hh); have hT4 := Blk.kept hT3 ho4 (fun hh => hh); obtain ⟨c0, c1, c2⟩ := Sb.facts (q := ⟨a, b, c⟩) hF4; have z4 := hF4.lt; have z5 := hT4.lt; have hx4 := (hx3.trans ho4).alloc (.cells #[.int .i64 x, .int .i64 y, .int .i64 z] 23); have hP4 := Blk.new w4 23 #[.int .i64 x, .int .i64 y, .int .i64 z])
            | (go_at_call 7; (with_reducible refine (HR.out _ (hsL.go hx4)).mono ?_); rintro e w5 ⟨rfl, ho5⟩; have hT5 := Blk.kept (hT4.alloc _) ho5 (fun hh => hh); have hP5 := Blk.kept hP4 ho5 (fun hh => hh); have hQ5 := Blk.new w5 23 #[.int .i64 x, .int .i64 y, .int .i64 z]; obtain ⟨p0, p1, p2⟩ := Sb.facts (q := ⟨x, y, z⟩) hP5; have z6 := hP5.lt; have hx5 := (hx4.trans ho5).alloc (.cells #[.int .i64 x, .int .i64 y, .int .i64 z] 23))
            | (go_at_call 9; (with_reducible refine (awake_any _).mono ?_); rintro e w6 ⟨rfl, ho6⟩; have hP6 := Blk.kept (hP5.alloc _) ho6 (fun hh => hh); have hT6 := Blk.kept (hT5.alloc _) ho6 (fun hh => hh); obtain ⟨p0, p1, p2⟩ := Sb.facts (q := ⟨x, y, z⟩) hP6; obtain ⟨d0, d1, d2⟩ := Sb.facts (q := ⟨x, y, z⟩) hT6)
            )
          go_ret
          exact ⟨rfl, (hx02.trans (hx5.trans ho6)).below (Nat.le_refl _) (fun _ _ hh => hh)⟩
        · have hr1 : (rd == 0) = false := by simpa using hr0
          have hr2 : (rd != 0) = true := by simpa using hr0
          clear hr0 hback
          go_wp2_with (first
            | (go_at_call 6; (with_reducible refine (HA.out _ (hsL.go hx3)).mono ?_); rintro e w4 ⟨rfl, ho4⟩; have hF4 := Blk.kept hF3 ho4 (fun hh => hh); have hT4 := Blk.kept hT3 ho4 (fun hh => hh); obtain ⟨c0, c1, c2⟩ := Sb.facts (q := ⟨a, b, c⟩) hF4; have z4 := hF4.lt; have z5 := hT4.lt; have hx4 := (hx3.trans ho4).alloc (.cells #[.int .i64 ra, .int .i64 rb, .int .i64 rc] 23); have hP4 := Blk.new w4 23 #[.int .i64 ra, .int .i64 rb, .int .i64 rc])
            | (go_at_call 7; (with_reducible refine (HR.out _ (hsL.go hx4)).mono ?_); rintro e w5 ⟨rfl, ho5⟩; have hT5 := Blk.kept (hT4.alloc _) ho5 (fun hh => hh); have hP5 := Blk.kept hP4 ho5 (fun hh => hh); have hQ5 := Blk.new w5 23 #[.int .i64 ra, .int .i64 rb, .int .i64 rc]; obtain ⟨p0, p1, p2⟩ := Sb.facts (q := ⟨ra, rb, rc⟩) hP5; have z6 := hP5.lt; have hx5 := (hx4.trans ho5).alloc (.cells #[.int .i64 ra, .int .i64 rb, .int .i64 rc] 23))
            | (go_at_call 9; (with_reducible refine (awake_any _).mono ?_); rintro e w6 ⟨rfl, ho6⟩; have hP6 := Blk.kept (hP5.alloc _) ho6 (fun hh => hh); have hT6 := Blk.kept (hT5.alloc _) ho6 (fun hh => hh); obtain ⟨p0, p1, p2⟩ := Sb.facts (q := ⟨ra, rb, rc⟩) hP6; obtain ⟨d0, d1, d2⟩ := Sb.facts (q := ⟨x, y, z⟩) hT6)
            )
          go_ret
          exact ⟨rfl, (hx02.trans (hx5.trans ho6)).below (Nat.le_refl _) (fun _ _ hh => hh)⟩
/-! The step from the walk to the statement of ParamsDiff. -/
namespace frParamsDiff
open Go.ChangeShapes Go.WideShapes Go.ChangeAt Go.RowKit
set_option linter.unusedVariables false
theorem own : ownKnob Try.prog.godebug = none := by kernel_rfl
theorem laidOut : laidOutB Try.prog = true := by kernel_rfl
theorem shape0 : Kd.ok Try.prog (.agg [.int .i64, .int .i64, .int .i64]) 23 = true := by kernel_rfl
theorem shape1 : Kd.ok Try.prog (.agg [.int .i64, .int .i64, .int .i64]) 23 = true := by kernel_rfl
set_option maxRecDepth 100000 in
theorem contract (H : Type) (enc : TypeId × Value → H) (W : World) (base : Nat) (args : Array Value) (ds gs : List (DataW H)) (before : List MemPlace)
    (hval : ∀ (j : Nat) t v, Try.f4.params[j]? = some t → args[j]? = some v → Value.okWide Try.prog W .any base t v)
    (hW : DataW.Whole enc Try.prog Try.f4.params.toList Rows.paramsDiffSpec.vars false W args.toList ds gs before) :
    Calls Try.prog 4 args W fun e W' => ∃ v, e = .returned v ∧ Rows.paramsDiffSpec.post enc Try.prog Try.f4 false true false false W args v W' := by
  have hW' := hW
  obtain ⟨p, q, hA0, hV, rfl, hfz, hnd⟩ := hW
  have hA : DataW.TrodAll enc Try.prog W 0 (fun _ => true) true Try.f4.params.toList args.toList ds p := hA0
  rw [Try.params4] at hA hval
  obtain ⟨v0, vs0, d0, ds0, p0, q0, hargs, rfl, rfl, h0, r0⟩ := trodAll_cons hA
  obtain ⟨v1, vs1, d1, ds1, p1, q1, rfl, rfl, rfl, h1, r1⟩ := trodAll_cons r0
  obtain ⟨rfl, rfl, rfl⟩ := trodAll_nil r1
  obtain rfl : args = #[v0, v1] := by cases args; simp_all
  obtain ⟨rfl, rfl⟩ := trodVars_none hV
  have k0 := Kd.fit _ shape0 (hval 0 23 v0 rfl rfl) h0
  have lt0 : ∀ x ∈ p0, x.block < W.heap.size := by obtain ⟨m, hm⟩ := h0; exact DataW.trod_lt m _ _ _ hm
  have k1 := Kd.fit _ shape1 (hval 1 23 v1 rfl rfl) h1
  have lt1 : ∀ x ∈ p1, x.block < W.heap.size := by obtain ⟨m, hm⟩ := h1; exact DataW.trod_lt m _ _ _ hm
  refine (paramsDiff_walk v0 v1 W k0 k1).mono fun e W' ⟨he, bel⟩ => ?_
  subst he
  exact ⟨_, rfl, _, _, _, [], _, [], hW', trodAll_mk1 (shut_bool Try.underlying4 _), (trodAll_cons_mk (Below.trod laidOut (by kernel_rfl) (of_decide_eq_true (by kernel_rfl)) h0 bel lt0) (trodAll_cons_mk (Below.trod laidOut (by kernel_rfl) (of_decide_eq_true (by kernel_rfl)) h1 bel lt1) trodAll_mk0)), rfl, bel.frame _, fun h => by cases h⟩
set_option maxRecDepth 100000 in
theorem lifted (os : Os) (started : os.Started) (H : Type) (enc : TypeId × Value → H) :
    ReturnsInHanded {} Try.checked os 4 .any (Rows.paramsDiffSpec.pre6 enc Try.prog Try.f4 Rows.paramsDiffRow.domain false) (Rows.paramsDiffSpec.post enc Try.prog Try.f4 false true false false) := by
  refine returnsInHanded_of_change (C := Try.checked) own started (by kernel_rfl) Try.func4
    (ChangeSpec.witness6 (enc := enc) (C := Try.checked) false ⟨#[], #[.agg #[.int .i64 0, .int .i64 0, .int .i64 0], .agg #[.int .i64 0, .int .i64 0, .int .i64 0]], []⟩ 8 (by kernel_rfl) (by kernel_rfl) (by kernel_rfl) (by kernel_rfl)) ?_
  intro W base args ds gs before hval hW _ _
  exact contract H enc W base args ds gs before hval hW
theorem over : Rows.paramsDiffRow.holds Try.pinned (OpenSpec.ofChange Rows.paramsDiffSpec) :=
  OpenClaim.holds_of_wide 4 Try.f4 rfl rfl rfl rfl rfl rfl rfl ⟨rfl, rfl, rfl, rfl, rfl⟩ rfl rfl rfl rfl rfl (by kernel_rfl) Try.func4 (by kernel_rfl)
    (of_decide_eq_true (by kernel_rfl)) (by unfold Func.isWrapper; first | (rw [if_pos (by decide +kernel)]; kernel_rfl) | (rw [if_neg (by decide +kernel)]; exact ⟨rfl, rfl⟩))
    (fun os started H enc _ => lifted os started H enc)
theorem proved : Rows.ParamsDiffSaid := over
end frParamsDiff
end Go.Proofs.Ytggpkgjkhonheaa
