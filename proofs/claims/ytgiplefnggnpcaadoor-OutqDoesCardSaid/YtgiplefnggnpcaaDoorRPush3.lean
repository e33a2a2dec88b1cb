/- The document's own: a frame that waits behind all others. -/
import Derived.Test.YtgiplefnggnpcaaDoorRPush2
namespace Go.Proofs.YtgiplefnggnpcaaDoor
open Go.RowKit Nd

theorem Sq.elF {w : World} {B g o : Nat} {L : List El} (h : Sq encF 12 w B (some ⟨g, o, none⟩) L) {j : Nat} {x : El} (hx : L[j]? = some x) :
    g < B ∧ w.cell? ⟨g, o + j * 12, none⟩ = some (.int .i64 x.f.t) ∧ w.cell? ⟨g, o + j * 12 + 1, none⟩ = some (.int .i64 x.f.s) ∧ w.cell? ⟨g, o + j * 12 + 10, none⟩ = some (.int .i64 x.f.n) := by
  obtain ⟨g', o', y, e, hb, hy, _, hc⟩ := h.at_ (k := j) (List.getElem?_eq_some_iff.1 hx).1
  injection e with e
  injection e with e1 e2
  subst e1 e2
  rw [hx] at hy
  injection hy with hy
  subst hy
  exact ⟨hb, hc 0 (by decide), hc 1 (by decide), hc 10 (by decide)⟩
/-- what is known behind the loop, where nobody is found -/
def Exit1 (w w1 wr : World) : Prop := Only Nil w w1 ∧ Only Nil w1 wr
section
variable {w : World} {Ax : Option Addr} {cx : Nat} {L : List El} {f : Frm} {A : Option Addr} {cap : Nat} {ok : El → Prop}
set_option maxRecDepth 100000 in
set_option maxHeartbeats 1000000 in
theorem RPush_full (w : World) (hS : Sq encF 12 w w.heap.size Ax L) (hc : L.length ≤ cx) (hm : cx ≤ maxLen) (hok : ∀ y ∈ L, ok y) (hrt : ∀ y ∈ L, rightP y.f) (hP : PmIs w (.slice A f.P.length cap) f.P) (hf : rightP f) (h2 : 2 ≤ f.t) (hno : Alone (L.map El.f) f) (hl : L.length = 64) :
    Calls Tryd.prog 12 #[.slice Ax L.length cx, frmV f (.slice A f.P.length cap)] w (RpPost w Ax (L.map El.f) 9 ok) := by
  have hn := (Only.refl Nil w).alloc (.cells (frC f (.slice A f.P.length cap)) 31)
  have hR := Lib.hid (RRight_any f _ (hP.go hn) true ⟨(fun _ => hf), (fun _ => rfl)⟩)
  have hb0 := Blk.new w 31 (frC f (.slice A f.P.length cap))
  have HN := Lib.hid hn
  have HBX := Lib.hid hb0
  have hn4 := hf.n4
  simp only [fourB, Bool.and_eq_true, decide_eq_true_eq] at hn4
  obtain ⟨n0, n1⟩ := hn4
  obtain ⟨g6, o6, _, rfl, hg6, _⟩ := hS.at_ (k := 0) (by omega)
  have HS := Lib.hid hS
  have HRT := Lib.hid hrt
  have HOK := Lib.hid hok
  have HC := Lib.hid (And.intro hc hm)
  have HL := Lib.hid hl
  obtain ⟨m, hm'⟩ : ∃ m, m = L.length := ⟨_, rfl⟩
  have HM := Lib.hid hm'
  have h64 : m = 64 := by omega
  rw [← hm']
  have hmc : m ≤ cx := by omega
  obtain ⟨t, s, en, d, k, on, wt, ex, c, l, n, P⟩ := f
  simp only at h2 hno n0 n1
  have htt : ¬ t < 2 := by omega
  have HF11 := Lib.hid hf.t11
  subst h64
  clear hS hrt hok hP hf hn hb0 hc hm hl hm'
  by_cases ht : t ≠ 10 ∧ t ≠ 11
  · have ht9 : ¬ 10 ≤ t := by have := HF11.out; simp only at this; omega
    have ht10 : decide (10 ≤ t) = false := decide_eq_false ht9
    clear hno ht
    go_enter Tryd.func12, Tryd.ntmps12
    go_wp2_with (first
      | (go_at_call 17; (with_reducible refine (hR.out).mono ?_); rintro e w1 ⟨rfl, ho1⟩; have HO1 := Lib.hid (HN.out.trans ho1); have hb1 := HBX.out.kept ho1 (fun hh => hh); have c0 := hb1.cell 0; have zb := hb1.lt; have HB1 := Lib.hid hb1; clear ho1 hb1)
      )
    go_loopw [6] (fun ii wr => ∃ j : Nat, j ≤ 64 ∧ ii = .int .i64 j ∧ Only Nil w1 wr) (fun ii _ => 64 - (intOf ii).toNat)
    case atStart => exact ⟨0, Nat.zero_le _, rfl, Only.refl _ _⟩
    case round =>
      obtain ⟨j, hj, rfl, ho⟩ := hrel
      have how := HO1.out.trans ho
      have hbr := HB1.out.kept ho (fun hh => hh)
      have b0 := hbr.cell 0
      have bz := hbr.lt
      by_cases hlt : j < 64
      · have hlt' : (j : Int) < 64 := by omega
        clear hbr
        go_wp2
        go_quiet (fail)
        go_wp2
        go_roundw
        case rel => exact ⟨j + 1, by omega, by go_num, ho.drewN _⟩
        case measure => simp [intOf]; omega
      · obtain rfl : j = 64 := by omega
        go_wp2
        go_ret2
        exact ⟨_, cx, L, by rw [← HM.out]; rfl, how, rfl, HS.out.go how, by rw [← HM.out]; exact hmc, HC.out.2, HOK.out, fun _ _ _ => .inl ⟨by decide, rfl⟩⟩
  · have hno' := hno.resolve_left ht
    have HNO := Lib.hid (fun x (hx : x ∈ L) => hno' x.f (List.mem_map.2 ⟨x, hx, rfl⟩))
    have ht' : t = 10 ∨ t = 11 := by omega
    clear hno hno' ht
    rcases ht' with rfl | rfl
    ·
      go_enter Tryd.func12, Tryd.ntmps12
      go_wp2_with (first
        | (go_at_call 17; (with_reducible refine (hR.out).mono ?_); rintro e w1 ⟨rfl, ho1⟩; have HO1 := Lib.hid (HN.out.trans ho1); have hb1 := HBX.out.kept ho1 (fun hh => hh); have c0 := hb1.cell 0; have zb := hb1.lt; have HB1 := Lib.hid hb1; clear ho1 hb1)
        )
      have c1 := HB1.out.cell 1
      have c10 := HB1.out.cell 10
      go_loopw [6] (fun ii wr => ∃ j : Nat, j ≤ 64 ∧ ii = .int .i64 j ∧ Only Nil w1 wr) (fun ii _ => 64 - (intOf ii).toNat)
      case atStart => exact ⟨0, Nat.zero_le _, rfl, Only.refl _ _⟩
      case round =>
        obtain ⟨j, hj, rfl, ho⟩ := hrel
        have how := HO1.out.trans ho
        have hbr := HB1.out.kept ho (fun hh => hh)
        have b0 := hbr.cell 0
        have b1 := hbr.cell 1
        have b10 := hbr.cell 10
        have bz := hbr.lt
        by_cases hlt : j < 64
        · clear hbr
          obtain ⟨x, hx⟩ : ∃ x, L[j]? = some x := ⟨_, List.getElem?_eq_getElem (by rw [← HM.out]; exact hlt)⟩
          have hlt' : (j : Int) < 64 := by omega
          obtain ⟨zg, p0, p1, p10⟩ := (HS.out.go how).elF hx
          have hfx := three (of_decide_eq_false (HNO.out x (List.mem_of_getElem? hx)))
          have hr := HRT.out x (List.mem_of_getElem? hx)
          have hr4 := hr.n4
          simp only [fourB, Bool.and_eq_true, decide_eq_true_eq] at hr4
          obtain ⟨x0, x1⟩ := hr4
          obtain ⟨⟨xt, xs, xen, xd, xk, xon, xwt, xex, xc, xl, xn, xP⟩, xA, xcap⟩ := x
          simp only at p0 p1 p10 hfx x0 x1
          have ew : IntKind.i64.wrap (xn + n) = xn + n := IntWalk.i64_in _ (by omega)
          clear hx hr how
          rcases hfx with e1 | ⟨rfl, e1⟩ | ⟨rfl, rfl, e1⟩
          · have e2 : decide (xt = 10) = false := decide_eq_false e1
            have e3 : (xt == 10) = false := by rw [beq_eq_false_iff_ne]; exact e1
            go_wp2
            go_quiet (fail)
            go_wp2
            go_roundw
            case rel => exact ⟨j + 1, by omega, by go_num, ho.drewN _⟩
            case measure => simp [intOf]; omega
          · have e2 : decide (xs = s) = false := decide_eq_false e1
            have e3 : (xs == s) = false := by rw [beq_eq_false_iff_ne]; exact e1
            go_wp2
            go_quiet (fail)
            go_wp2
            go_roundw
            case rel => exact ⟨j + 1, by omega, by go_num, ho.drewN _⟩
            case measure => simp [intOf]; omega
          · have e2 : decide (xn + n ≤ 2147483647) = false := decide_eq_false e1
            go_wp2
            go_quiet (fail)
            go_wp2
            go_roundw
            case rel => exact ⟨j + 1, by omega, by go_num, ho.drewN _⟩
            case measure => simp [intOf]; omega
        · obtain rfl : j = 64 := by omega
          go_wp2
          go_ret2
          exact ⟨_, cx, L, by rw [← HM.out]; rfl, how, rfl, HS.out.go how, by rw [← HM.out]; exact hmc, HC.out.2, HOK.out, fun _ _ _ => .inl ⟨by decide, rfl⟩⟩
    ·
      go_enter Tryd.func12, Tryd.ntmps12
      go_wp2_with (first
        | (go_at_call 17; (with_reducible refine (hR.out).mono ?_); rintro e w1 ⟨rfl, ho1⟩; have HO1 := Lib.hid (HN.out.trans ho1); have hb1 := HBX.out.kept ho1 (fun hh => hh); have c0 := hb1.cell 0; have zb := hb1.lt; have HB1 := Lib.hid hb1; clear ho1 hb1)
        )
      have c1 := HB1.out.cell 1
      have c10 := HB1.out.cell 10
      go_loopw [6] (fun ii wr => ∃ j : Nat, j ≤ 64 ∧ ii = .int .i64 j ∧ Only Nil w1 wr) (fun ii _ => 64 - (intOf ii).toNat)
      case atStart => exact ⟨0, Nat.zero_le _, rfl, Only.refl _ _⟩
      case round =>
        obtain ⟨j, hj, rfl, ho⟩ := hrel
        have how := HO1.out.trans ho
        have hbr := HB1.out.kept ho (fun hh => hh)
        have b0 := hbr.cell 0
        have b1 := hbr.cell 1
        have b10 := hbr.cell 10
        have bz := hbr.lt
        by_cases hlt : j < 64
        · clear hbr
          obtain ⟨x, hx⟩ : ∃ x, L[j]? = some x := ⟨_, List.getElem?_eq_getElem (by rw [← HM.out]; exact hlt)⟩
          have hlt' : (j : Int) < 64 := by omega
          obtain ⟨zg, p0, p1, p10⟩ := (HS.out.go how).elF hx
          have hfx := three (of_decide_eq_false (HNO.out x (List.mem_of_getElem? hx)))
          have hr := HRT.out x (List.mem_of_getElem? hx)
          have hr4 := hr.n4
          simp only [fourB, Bool.and_eq_true, decide_eq_true_eq] at hr4
          obtain ⟨x0, x1⟩ := hr4
          obtain ⟨⟨xt, xs, xen, xd, xk, xon, xwt, xex, xc, xl, xn, xP⟩, xA, xcap⟩ := x
          simp only at p0 p1 p10 hfx x0 x1
          have ew : IntKind.i64.wrap (xn + n) = xn + n := IntWalk.i64_in _ (by omega)
          clear hx hr how
          rcases hfx with e1 | ⟨rfl, e1⟩ | ⟨rfl, rfl, e1⟩
          · have e2 : decide (xt = 11) = false := decide_eq_false e1
            have e3 : (xt == 11) = false := by rw [beq_eq_false_iff_ne]; exact e1
            go_wp2
            go_quiet (fail)
            go_wp2
            go_roundw
            case rel => exact ⟨j + 1, by omega, by go_num, ho.drewN _⟩
            case measure => simp [intOf]; omega
          · have e2 : decide (xs = s) = false := decide_eq_false e1
            have e3 : (xs == s) = false := by rw [beq_eq_false_iff_ne]; exact e1
            go_wp2
            go_quiet (fail)
            go_wp2
            go_roundw
            case rel => exact ⟨j + 1, by omega, by go_num, ho.drewN _⟩
            case measure => simp [intOf]; omega
          · have e2 : decide (xn + n ≤ 2147483647) = false := decide_eq_false e1
            go_wp2
            go_quiet (fail)
            go_wp2
            go_roundw
            case rel => exact ⟨j + 1, by omega, by go_num, ho.drewN _⟩
            case measure => simp [intOf]; omega
        · obtain rfl : j = 64 := by omega
          go_wp2
          go_ret2
          exact ⟨_, cx, L, by rw [← HM.out]; rfl, how, rfl, HS.out.go how, by rw [← HM.out]; exact hmc, HC.out.2, HOK.out, fun _ _ _ => .inl ⟨by decide, rfl⟩⟩
end
end Go.Proofs.YtgiplefnggnpcaaDoor
