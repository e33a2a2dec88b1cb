/- The document's own: a frame that is put together with one that waits. -/
import Derived.Test.YtgiplefnggnpcaaDoorRPush4
namespace Go.Proofs.YtgiplefnggnpcaaDoor
open Go.RowKit Nd

theorem Sq.elAll {w : World} {B g o : Nat} {L : List El} (h : Sq encF 12 w B (some ⟨g, o, none⟩) L) {j : Nat} {x : El} (hx : L[j]? = some x) :
    w.cell? ⟨g, o + j * 12, none⟩ = some (.int .i64 x.f.t) ∧ w.cell? ⟨g, o + j * 12 + 1, none⟩ = some (.int .i64 x.f.s) ∧ w.cell? ⟨g, o + j * 12 + 2, none⟩ = some (.bool x.f.en) ∧ w.cell? ⟨g, o + j * 12 + 3, none⟩ = some (.string x.f.d) ∧
    w.cell? ⟨g, o + j * 12 + 4, none⟩ = some (.int .i64 x.f.k) ∧ w.cell? ⟨g, o + j * 12 + 5, none⟩ = some (.int .i64 x.f.on) ∧ w.cell? ⟨g, o + j * 12 + 6, none⟩ = some (.int .i64 x.f.wt) ∧ w.cell? ⟨g, o + j * 12 + 7, none⟩ = some (.bool x.f.ex) ∧
    w.cell? ⟨g, o + j * 12 + 8, none⟩ = some (.int .i64 x.f.c) ∧ w.cell? ⟨g, o + j * 12 + 9, none⟩ = some (.int .i64 x.f.l) ∧ w.cell? ⟨g, o + j * 12 + 10, none⟩ = some (.int .i64 x.f.n) ∧ w.cell? ⟨g, o + j * 12 + 11, none⟩ = some x.p ∧ g < B := by
  obtain ⟨g', o', y, e, hb, hy, _, hc⟩ := h.at_ (k := j) (List.getElem?_eq_some_iff.1 hx).1
  injection e with e
  injection e with e1 e2
  subst e1 e2
  rw [hx] at hy
  injection hy with hy
  subst hy
  exact ⟨hc 0 (by decide), hc 1 (by decide), hc 2 (by decide), hc 3 (by decide), hc 4 (by decide), hc 5 (by decide), hc 6 (by decide), hc 7 (by decide), hc 8 (by decide), hc 9 (by decide), hc 10 (by decide), hc 11 (by decide), hb⟩
theorem set12 (w : World) (g o : Nat) (t s n : Int) : w.setCells g o (encF ⟨⟨t, s, false, nilS, 0, 0, 0, false, 0, 0, n, []⟩, none, 0⟩) = (((((((((((w.setCell ⟨g, o, none⟩ (.int .i64 t)).setCell ⟨g, o + 1, none⟩ (.int .i64 s)).setCell ⟨g, o + 2, none⟩ (.bool false)).setCell ⟨g, o + 3, none⟩ (.string nilS)).setCell ⟨g, o + 4, none⟩ (.int .i64 0)).setCell ⟨g, o + 5, none⟩ (.int .i64 0)).setCell ⟨g, o + 6, none⟩ (.int .i64 0)).setCell ⟨g, o + 7, none⟩ (.bool false)).setCell ⟨g, o + 8, none⟩ (.int .i64 0)).setCell ⟨g, o + 9, none⟩ (.int .i64 0)).setCell ⟨g, o + 10, none⟩ (.int .i64 n)).setCell ⟨g, o + 11, none⟩ (.slice none 0 0) := rfl
theorem more_bare {f : Frm} (h : rightP f) (ht : f.t = 10 ∨ f.t = 11) (n : Int) : ({ f with n := n } : Frm) = ⟨f.t, f.s, false, nilS, 0, 0, 0, false, 0, 0, n, []⟩ := by
  have h1 := h.en
  have h2 := h.k
  have h3 := h.c
  have h4 := h.l
  have h5 := h.P
  have h6 := h.dep
  have h7 := h.d
  obtain ⟨t, s, en, d, k, on, wt, ex, c, l, m, P⟩ := f
  simp only at ht h1 h2 h3 h4 h5 h6 h7
  rcases ht with rfl | rfl <;> simp at h1 h2 h3 h4 h5 h6 h7 <;> simp_all
section
variable {w : World} {Ax : Option Addr} {cx : Nat} {L : List El} {f : Frm} {A : Option Addr} {cap : Nat} {ok : El → Prop}
set_option maxRecDepth 100000 in
set_option maxHeartbeats 4000000 in
theorem RPush_join10 (w : World) (hS : Sq encF 12 w w.heap.size Ax L) (hc : L.length ≤ cx) (hm : cx ≤ maxLen) (hok : ∀ y ∈ L, ok y) (hrt : ∀ y ∈ L, rightP y.f) (hP : PmIs w (.slice A f.P.length cap) f.P) (hf : rightP f) (ht : f.t = 10) (hl : L.length ≤ 64)
    (i : Nat) (z : El) (hi : L[i]? = some z) (hfit : fits f z.f = true) (hbf : ∀ j y, j < i → L[j]? = some y → fits f y.f = false) (hnil : ∀ g : Frm, ok ⟨{ g with P := [] }, none, 0⟩) :
    Calls Tryd.prog 12 #[.slice Ax L.length cx, frmV f (.slice A f.P.length cap)] w (RpPost w Ax ((L.map El.f).set i { z.f with n := z.f.n + f.n }) 0 ok) := by
  have hn := (Only.refl Nil w).alloc (.cells (frC f (.slice A f.P.length cap)) 31)
  have hR := Lib.hid (RRight_any f _ (hP.go hn) true ⟨(fun _ => hf), (fun _ => rfl)⟩)
  have hb0 := Blk.new w 31 (frC f (.slice A f.P.length cap))
  have HN := Lib.hid hn
  have HBX := Lib.hid hb0
  have hn4 := hf.n4
  simp only [fourB, Bool.and_eq_true, decide_eq_true_eq] at hn4
  obtain ⟨n0, n1⟩ := hn4
  have hil := (List.getElem?_eq_some_iff.1 hi).1
  obtain ⟨g6, o6, _, rfl, hg6, _⟩ := hS.at_ (k := 0) (by omega)
  have HS := Lib.hid hS
  have HRT := Lib.hid hrt
  have HOK := Lib.hid hok
  have HC := Lib.hid (And.intro hc hm)
  have HBF := Lib.hid hbf
  have HFIT := Lib.hid hfit
  have HI := Lib.hid hi
  have HNIL := Lib.hid hnil
  obtain ⟨m, hm'⟩ : ∃ m, m = L.length := ⟨_, rfl⟩
  have HM := Lib.hid hm'
  have h64 : m ≤ 64 := by omega
  rw [← hm'] at hil ⊢
  obtain ⟨t, s, en, d, k, on, wt, ex, c, l, n, P⟩ := f
  simp only at ht n0 n1 ⊢
  subst ht
  clear hS hrt hok hP hf hn hb0 hc hm hl hm' hbf hfit hi hnil
  go_enter Tryd.func12, Tryd.ntmps12
  go_wp2_with (first
    | (go_at_call 17; (with_reducible refine (hR.out).mono ?_); rintro e w1 ⟨rfl, ho1⟩; have HO1 := Lib.hid (HN.out.trans ho1); have hb1 := HBX.out.kept ho1 (fun hh => hh); have c0 := hb1.cell 0; have zb := hb1.lt; have HB1 := Lib.hid hb1; clear ho1 hb1)
    )
  go_loopw [6] (fun ii wr => ∃ j : Nat, j ≤ i ∧ ii = .int .i64 j ∧ Only Nil w1 wr) (fun ii _ => m - (intOf ii).toNat)
  case atStart => exact ⟨0, Nat.zero_le _, rfl, Only.refl _ _⟩
  case round =>
    obtain ⟨j, hj, rfl, ho⟩ := hrel
    have how := HO1.out.trans ho
    have hbr := HB1.out.kept ho (fun hh => hh)
    have b0 := hbr.cell 0
    have b1 := hbr.cell 1
    have b10 := hbr.cell 10
    have bz := hbr.lt
    by_cases hlt : j < i
    · clear hbr
      obtain ⟨x, hx⟩ : ∃ x, L[j]? = some x := ⟨_, List.getElem?_eq_getElem (by rw [← HM.out]; omega)⟩
      have hlt' : (j : Int) < m := by omega
      obtain ⟨zg, p0, p1, p10⟩ := (HS.out.go how).elF hx
      have hfx := three (of_decide_eq_false (HBF.out j x hlt hx))
      have hr := HRT.out x (List.mem_of_getElem? hx)
      have hr4 := hr.n4
      simp only [fourB, Bool.and_eq_true, decide_eq_true_eq] at hr4
      obtain ⟨x0, x1⟩ := hr4
      obtain ⟨⟨xt, xs, xen, xd, xk, xon, xwt, xex, xc, xl, xn, xP⟩, xA, xcap⟩ := x
      simp only at p0 p1 p10 hfx x0 x1
      have ew : IntKind.i64.wrap (xn + n) = xn + n := IntWalk.i64_in _ (by omega)
      clear hx hr how
      rcases hfx with e1 | ⟨rfl, e1⟩ | ⟨rfl, rfl, e1⟩
      · have e2 : decide (xt = 10) = false := decide_eq_false e1
        have e3 : (xt == 10) = false := by rw [beq_eq_false_iff_ne]; exact e1
        go_wp2
        go_quiet (fail)
        go_wp2
        go_roundw
        case rel => exact ⟨j + 1, by omega, by go_num, ho.drewN _⟩
        case measure => simp [intOf]; omega
      · have e2 : decide (xs = s) = false := decide_eq_false e1
        have e3 : (xs == s) = false := by rw [beq_eq_false_iff_ne]; exact e1
        go_wp2
        go_quiet (fail)
        go_wp2
        go_roundw
        case rel => exact ⟨j + 1, by omega, by go_num, ho.drewN _⟩
        case measure => simp [intOf]; omega
      · have e2 : decide (xn + n ≤ 2147483647) = false := decide_eq_false e1
        go_wp2
        go_quiet (fail)
        go_wp2
        go_roundw
        case rel => exact ⟨j + 1, by omega, by go_num, ho.drewN _⟩
        case measure => simp [intOf]; omega
    · obtain rfl : i = j := by omega
      have hlt' : (i : Int) < m := by omega
      obtain ⟨zg, p0, p1, p10⟩ := (HS.out.go how).elF HI.out
      have hfx := of_decide_eq_true HFIT.out
      have hr4 := (HRT.out z (List.mem_of_getElem? HI.out)).n4
      simp only [fourB, Bool.and_eq_true, decide_eq_true_eq] at hr4
      obtain ⟨x0, x1⟩ := hr4
      have HRZ := Lib.hid (HRT.out z (List.mem_of_getElem? HI.out))
      obtain ⟨⟨xt, xs, xen, xd, xk, xon, xwt, xex, xc, xl, xn, xP⟩, xA, xcap⟩ := z
      simp only at p0 p1 p10 hfx x0 x1
      obtain ⟨rfl, rfl, e1⟩ := hfx
      have ew : IntKind.i64.wrap (xn + n) = xn + n := IntWalk.i64_in _ (by omega)
      have e2 : decide (xn + n ≤ 2147483647) = true := decide_eq_true e1
      have HBR := Lib.hid hbr
      have HW := Lib.hid how
      have HMM : Hid (([] : List El).length + L.length = m) := Lib.hid (by rw [HM.out]; simp)
      have HWZ := Lib.hid how.size
      clear how hbr
      go_wp2
      go_quiet (fail)
      go_wp2_with (first
        | (at_builtin
           refine wpList_app2 rfl (.tmp 56) (.tmp 57) _ _ rfl w.heap.size 31 Tryd.underlying26 fr_info rfl _ [] rfl (Ow.lit (enc := encF) (sz := 12) (e := 31) (base := w.heap.size) _ (cs := #[]) ([] : List El) rfl rfl (by simp [maxLen]) HWZ.out) _ L rfl (Src.sqn (P := Tryd.prog) (tx := 26) Tryd.underlying26 cx m (HS.out.go ((HW.out.drewN _).alloc _)) (fun _ _ => rfl) (fun x _ => encF_one x) (by decide) HM.out.symm) (by rw [HMM.out]; omega) (by decide) (Nat.le_trans HWZ.out (by simp)) m HMM.out L rfl ?_
           intro A7 c7 w7 hown7 ho7 hg7)
        )
      have O7 : Only Nil w w7 := ((HW.out.drewN _).alloc _).trans_new ho7 (fun i hi hh => by have := HWZ.out; have e : some wr.heap.size = some i := hh; injection e with e; omega)
      have hb7 := ((HBR.out.drewN _).alloc (.cells #[] 31)).kept ho7 (fun hh => by have e : some wr.heap.size = some w.heap.size := hh; injection e with e; omega)
      have d0 := hb7.cell 0
      have d1 := hb7.cell 1
      have d10 := hb7.cell 10
      have dz := hb7.lt
      obtain ⟨zg7, q0, q1, q10⟩ := (HS.out.go O7).elF HI.out
      obtain ⟨g7, o7, _, hA7, _⟩ := (hown7.sqn (fun x _ => encF_len x)).at_ (k := 0) (by have := HM.out; omega)
      subst hA7
      obtain ⟨u0, u1, u2, u3, u4, u5, u6, u7, u8, u9, u10, u11, uz⟩ := (hown7.sqn (fun x _ => encF_len x)).elAll HI.out
      have r0 := hown7.frzN (o7 + i * 12)
      have r1 := hown7.frzN (o7 + i * 12 + 1)
      have r2 := hown7.frzN (o7 + i * 12 + 2)
      have r3 := hown7.frzN (o7 + i * 12 + 3)
      have r4 := hown7.frzN (o7 + i * 12 + 4)
      have r5 := hown7.frzN (o7 + i * 12 + 5)
      have r6 := hown7.frzN (o7 + i * 12 + 6)
      have r7 := hown7.frzN (o7 + i * 12 + 7)
      have r8 := hown7.frzN (o7 + i * 12 + 8)
      have r9 := hown7.frzN (o7 + i * 12 + 9)
      have r10 := hown7.frzN (o7 + i * 12 + 10)
      have r11 := hown7.frzN (o7 + i * 12 + 11)
      have hg7b := (hown7.lt (g := g7) rfl).1
      have hset := hown7.setE encF_len i (by rw [← HM.out]; exact hil) ⟨⟨10, xs, false, nilS, 0, 0, 0, false, 0, 0, xn + n, []⟩, none, 0⟩
      have hO9 : Only Nil w (w7.setCells g7 (o7 + i * 12) (encF ⟨⟨10, xs, false, nilS, 0, 0, 0, false, 0, 0, xn + n, []⟩, none, 0⟩)) := Only.setCells _ _ _ O7 (fun h => absurd h (Nat.not_lt.2 hg7b))
      rw [set12] at hset hO9
      have HSET := Lib.hid hset
      have HO9 := Lib.hid hO9
      have HL7 := Lib.hid hown7.len
      clear hown7 ho7 hg7 O7 hb7 hset hO9
      go_region
      go_wp2
      go_ret2
      refine ⟨some ⟨g7, o7, none⟩, c7, L.set i ⟨⟨10, xs, false, nilS, 0, 0, 0, false, 0, 0, xn + n, []⟩, none, 0⟩, ?_, HO9.out.drew, ?_, (HSET.out.drew).sqn (fun x _ => encF_len x), ?_, HL7.out.2.2, fun y hy => ?_, fun g o hA => .inr ⟨rfl, by injection hA with hA; injection hA with h1 h2; subst h1; exact hg7b⟩⟩
      · rw [List.length_set, ← HM.out]
        rfl
      · rw [List.map_set]
        congr 1
        exact (more_bare HRZ.out (by simp) _).symm
      · rw [List.length_set, ← HM.out]
        exact HL7.out.2.1
      · rcases List.mem_or_eq_of_mem_set hy with hy | rfl
        · exact HOK.out y hy
        · exact HNIL.out ⟨10, xs, false, nilS, 0, 0, 0, false, 0, 0, xn + n, []⟩
set_option maxRecDepth 100000 in
set_option maxHeartbeats 4000000 in
theorem RPush_join11 (w : World) (hS : Sq encF 12 w w.heap.size Ax L) (hc : L.length ≤ cx) (hm : cx ≤ maxLen) (hok : ∀ y ∈ L, ok y) (hrt : ∀ y ∈ L, rightP y.f) (hP : PmIs w (.slice A f.P.length cap) f.P) (hf : rightP f) (ht : f.t = 11) (hl : L.length ≤ 64)
    (i : Nat) (z : El) (hi : L[i]? = some z) (hfit : fits f z.f = true) (hbf : ∀ j y, j < i → L[j]? = some y → fits f y.f = false) (hnil : ∀ g : Frm, ok ⟨{ g with P := [] }, none, 0⟩) :
    Calls Tryd.prog 12 #[.slice Ax L.length cx, frmV f (.slice A f.P.length cap)] w (RpPost w Ax ((L.map El.f).set i { z.f with n := z.f.n + f.n }) 0 ok) := by
  have hn := (Only.refl Nil w).alloc (.cells (frC f (.slice A f.P.length cap)) 31)
  have hR := Lib.hid (RRight_any f _ (hP.go hn) true ⟨(fun _ => hf), (fun _ => rfl)⟩)
  have hb0 := Blk.new w 31 (frC f (.slice A f.P.length cap))
  have HN := Lib.hid hn
  have HBX := Lib.hid hb0
  have hn4 := hf.n4
  simp only [fourB, Bool.and_eq_true, decide_eq_true_eq] at hn4
  obtain ⟨n0, n1⟩ := hn4
  have hil := (List.getElem?_eq_some_iff.1 hi).1
  obtain ⟨g6, o6, _, rfl, hg6, _⟩ := hS.at_ (k := 0) (by omega)
  have HS := Lib.hid hS
  have HRT := Lib.hid hrt
  have HOK := Lib.hid hok
  have HC := Lib.hid (And.intro hc hm)
  have HBF := Lib.hid hbf
  have HFIT := Lib.hid hfit
  have HI := Lib.hid hi
  have HNIL := Lib.hid hnil
  obtain ⟨m, hm'⟩ : ∃ m, m = L.length := ⟨_, rfl⟩
  have HM := Lib.hid hm'
  have h64 : m ≤ 64 := by omega
  rw [← hm'] at hil ⊢
  obtain ⟨t, s, en, d, k, on, wt, ex, c, l, n, P⟩ := f
  simp only at ht n0 n1 ⊢
  subst ht
  clear hS hrt hok hP hf hn hb0 hc hm hl hm' hbf hfit hi hnil
  go_enter Tryd.func12, Tryd.ntmps12
  go_wp2_with (first
    | (go_at_call 17; (with_reducible refine (hR.out).mono ?_); rintro e w1 ⟨rfl, ho1⟩; have HO1 := Lib.hid (HN.out.trans ho1); have hb1 := HBX.out.kept ho1 (fun hh => hh); have c0 := hb1.cell 0; have zb := hb1.lt; have HB1 := Lib.hid hb1; clear ho1 hb1)
    )
  go_loopw [6] (fun ii wr => ∃ j : Nat, j ≤ i ∧ ii = .int .i64 j ∧ Only Nil w1 wr) (fun ii _ => m - (intOf ii).toNat)
  case atStart => exact ⟨0, Nat.zero_le _, rfl, Only.refl _ _⟩
  case round =>
    obtain ⟨j, hj, rfl, ho⟩ := hrel
    have how := HO1.out.trans ho
    have hbr := HB1.out.kept ho (fun hh => hh)
    have b0 := hbr.cell 0
    have b1 := hbr.cell 1
    have b10 := hbr.cell 10
    have bz := hbr.lt
    by_cases hlt : j < i
    · clear hbr
      obtain ⟨x, hx⟩ : ∃ x, L[j]? = some x := ⟨_, List.getElem?_eq_getElem (by rw [← HM.out]; omega)⟩
      have hlt' : (j : Int) < m := by omega
      obtain ⟨zg, p0, p1, p10⟩ := (HS.out.go how).elF hx
      have hfx := three (of_decide_eq_false (HBF.out j x hlt hx))
      have hr := HRT.out x (List.mem_of_getElem? hx)
      have hr4 := hr.n4
      simp only [fourB, Bool.and_eq_true, decide_eq_true_eq] at hr4
      obtain ⟨x0, x1⟩ := hr4
      obtain ⟨⟨xt, xs, xen, xd, xk, xon, xwt, xex, xc, xl, xn, xP⟩, xA, xcap⟩ := x
      simp only at p0 p1 p10 hfx x0 x1
      have ew : IntKind.i64.wrap (xn + n) = xn + n := IntWalk.i64_in _ (by omega)
      clear hx hr how
      rcases hfx with e1 | ⟨rfl, e1⟩ | ⟨rfl, rfl, e1⟩
      · have e2 : decide (xt = 11) = false := decide_eq_false e1
        have e3 : (xt == 11) = false := by rw [beq_eq_false_iff_ne]; exact e1
        go_wp2
        go_quiet (fail)
        go_wp2
        go_roundw
        case rel => exact ⟨j + 1, by omega, by go_num, ho.drewN _⟩
        case measure => simp [intOf]; omega
      · have e2 : decide (xs = s) = false := decide_eq_false e1
        have e3 : (xs == s) = false := by rw [beq_eq_false_iff_ne]; exact e1
        go_wp2
        go_quiet (fail)
        go_wp2
        go_roundw
        case rel => exact ⟨j + 1, by omega, by go_num, ho.drewN _⟩
        case measure => simp [intOf]; omega
      · have e2 : decide (xn + n ≤ 2147483647) = false := decide_eq_false e1
        go_wp2
        go_quiet (fail)
        go_wp2
        go_roundw
        case rel => exact ⟨j + 1, by omega, by go_num, ho.drewN _⟩
        case measure => simp [intOf]; omega
    · obtain rfl : i = j := by omega
      have hlt' : (i : Int) < m := by omega
      obtain ⟨zg, p0, p1, p10⟩ := (HS.out.go how).elF HI.out
      have hfx := of_decide_eq_true HFIT.out
      have hr4 := (HRT.out z (List.mem_of_getElem? HI.out)).n4
      simp only [fourB, Bool.and_eq_true, decide_eq_true_eq] at hr4
      obtain ⟨x0, x1⟩ := hr4
      have HRZ := Lib.hid (HRT.out z (List.mem_of_getElem? HI.out))
      obtain ⟨⟨xt, xs, xen, xd, xk, xon, xwt, xex, xc, xl, xn, xP⟩, xA, xcap⟩ := z
      simp only at p0 p1 p10 hfx x0 x1
      obtain ⟨rfl, rfl, e1⟩ := hfx
      have ew : IntKind.i64.wrap (xn + n) = xn + n := IntWalk.i64_in _ (by omega)
      have e2 : decide (xn + n ≤ 2147483647) = true := decide_eq_true e1
      have HBR := Lib.hid hbr
      have HW := Lib.hid how
      have HMM : Hid (([] : List El).length + L.length = m) := Lib.hid (by rw [HM.out]; simp)
      have HWZ := Lib.hid how.size
      clear how hbr
      go_wp2
      go_quiet (fail)
      go_wp2_with (first
        | (at_builtin
           refine wpList_app2 rfl (.tmp 56) (.tmp 57) _ _ rfl w.heap.size 31 Tryd.underlying26 fr_info rfl _ [] rfl (Ow.lit (enc := encF) (sz := 12) (e := 31) (base := w.heap.size) _ (cs := #[]) ([] : List El) rfl rfl (by simp [maxLen]) HWZ.out) _ L rfl (Src.sqn (P := Tryd.prog) (tx := 26) Tryd.underlying26 cx m (HS.out.go ((HW.out.drewN _).alloc _)) (fun _ _ => rfl) (fun x _ => encF_one x) (by decide) HM.out.symm) (by rw [HMM.out]; omega) (by decide) (Nat.le_trans HWZ.out (by simp)) m HMM.out L rfl ?_
           intro A7 c7 w7 hown7 ho7 hg7)
        )
      have O7 : Only Nil w w7 := ((HW.out.drewN _).alloc _).trans_new ho7 (fun i hi hh => by have := HWZ.out; have e : some wr.heap.size = some i := hh; injection e with e; omega)
      have hb7 := ((HBR.out.drewN _).alloc (.cells #[] 31)).kept ho7 (fun hh => by have e : some wr.heap.size = some w.heap.size := hh; injection e with e; omega)
      have d0 := hb7.cell 0
      have d1 := hb7.cell 1
      have d10 := hb7.cell 10
      have dz := hb7.lt
      obtain ⟨zg7, q0, q1, q10⟩ := (HS.out.go O7).elF HI.out
      obtain ⟨g7, o7, _, hA7, _⟩ := (hown7.sqn (fun x _ => encF_len x)).at_ (k := 0) (by have := HM.out; omega)
      subst hA7
      obtain ⟨u0, u1, u2, u3, u4, u5, u6, u7, u8, u9, u10, u11, uz⟩ := (hown7.sqn (fun x _ => encF_len x)).elAll HI.out
      have r0 := hown7.frzN (o7 + i * 12)
      have r1 := hown7.frzN (o7 + i * 12 + 1)
      have r2 := hown7.frzN (o7 + i * 12 + 2)
      have r3 := hown7.frzN (o7 + i * 12 + 3)
      have r4 := hown7.frzN (o7 + i * 12 + 4)
      have r5 := hown7.frzN (o7 + i * 12 + 5)
      have r6 := hown7.frzN (o7 + i * 12 + 6)
      have r7 := hown7.frzN (o7 + i * 12 + 7)
      have r8 := hown7.frzN (o7 + i * 12 + 8)
      have r9 := hown7.frzN (o7 + i * 12 + 9)
      have r10 := hown7.frzN (o7 + i * 12 + 10)
      have r11 := hown7.frzN (o7 + i * 12 + 11)
      have hg7b := (hown7.lt (g := g7) rfl).1
      have hset := hown7.setE encF_len i (by rw [← HM.out]; exact hil) ⟨⟨11, xs, false, nilS, 0, 0, 0, false, 0, 0, xn + n, []⟩, none, 0⟩
      have hO9 : Only Nil w (w7.setCells g7 (o7 + i * 12) (encF ⟨⟨11, xs, false, nilS, 0, 0, 0, false, 0, 0, xn + n, []⟩, none, 0⟩)) := Only.setCells _ _ _ O7 (fun h => absurd h (Nat.not_lt.2 hg7b))
      rw [set12] at hset hO9
      have HSET := Lib.hid hset
      have HO9 := Lib.hid hO9
      have HL7 := Lib.hid hown7.len
      clear hown7 ho7 hg7 O7 hb7 hset hO9
      go_region
      go_wp2
      go_ret2
      refine ⟨some ⟨g7, o7, none⟩, c7, L.set i ⟨⟨11, xs, false, nilS, 0, 0, 0, false, 0, 0, xn + n, []⟩, none, 0⟩, ?_, HO9.out.drew, ?_, (HSET.out.drew).sqn (fun x _ => encF_len x), ?_, HL7.out.2.2, fun y hy => ?_, fun g o hA => .inr ⟨rfl, by injection hA with hA; injection hA with h1 h2; subst h1; exact hg7b⟩⟩
      · rw [List.length_set, ← HM.out]
        rfl
      · rw [List.map_set]
        congr 1
        exact (more_bare HRZ.out (by simp) _).symm
      · rw [List.length_set, ← HM.out]
        exact HL7.out.2.1
      · rcases List.mem_or_eq_of_mem_set hy with hy | rfl
        · exact HOK.out y hy
        · exact HNIL.out ⟨11, xs, false, nilS, 0, 0, 0, false, 0, 0, xn + n, []⟩
end
end Go.Proofs.YtgiplefnggnpcaaDoor
