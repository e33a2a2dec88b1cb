/- The document's own: a frame that waits behind all others, where there is room. -/
import Derived.Test.YtgiplefnggnpcaaDoorRPush3
namespace Go.Proofs.YtgiplefnggnpcaaDoor
open Go.RowKit Nd

theorem newAt (w : World) (t : TypeId) (c : Array Value) (g : Nat) (hg : g = w.heap.size) : Blk (w.alloc (.cells c t)) g t c := by
  subst hg
  exact Blk.new _ _ _
section
variable {w : World} {Ax : Option Addr} {cx : Nat} {L : List El} {f : Frm} {A : Option Addr} {cap : Nat} {ok : El → Prop}
set_option maxRecDepth 100000 in
set_option maxHeartbeats 4000000 in
theorem RPush_add0 (w : World) (hS : Sq encF 12 w w.heap.size Ax L) (hc : L.length ≤ cx) (hm : cx ≤ maxLen) (hok : ∀ y ∈ L, ok y) (hrt : ∀ y ∈ L, rightP y.f) (hP : PmIs w (.slice A f.P.length cap) f.P) (hf : rightP f) (h2 : 2 ≤ f.t) (hno : f.t ≠ 10 ∧ f.t ≠ 11) (hl : L.length < 64) (hl0 : 0 < L.length)
    (hy : ok ⟨f, A, cap⟩) : Calls Tryd.prog 12 #[.slice Ax L.length cx, frmV f (.slice A f.P.length cap)] w (RpPost w Ax (L.map El.f ++ [f]) 0 ok) := by
  have hn := (Only.refl Nil w).alloc (.cells (frC f (.slice A f.P.length cap)) 31)
  have hR := Lib.hid (RRight_any f _ (hP.go hn) true ⟨(fun _ => hf), (fun _ => rfl)⟩)
  have hb0 := Blk.new w 31 (frC f (.slice A f.P.length cap))
  have HN := Lib.hid hn
  have HBX := Lib.hid hb0
  have hn4 := hf.n4
  simp only [fourB, Bool.and_eq_true, decide_eq_true_eq] at hn4
  obtain ⟨n0, n1⟩ := hn4
  obtain ⟨g6, o6, _, rfl, hg6, _⟩ := hS.at_ (k := 0) (by omega)
  have HS := Lib.hid hS
  have HRT := Lib.hid hrt
  have HOK := Lib.hid hok
  have HC := Lib.hid (And.intro hc hm)
  have HL := Lib.hid hl
  have HY := Lib.hid hy
  obtain ⟨m, hm'⟩ : ∃ m, m = L.length := ⟨_, rfl⟩
  have HM := Lib.hid hm'
  have h64 : m < 64 := by omega
  have h64' : (m : Int) < 64 := by omega
  rw [← hm']
  have hmc : m ≤ cx := by omega
  obtain ⟨t, s, en, d, k, on, wt, ex, c, l, n, P⟩ := f
  simp only at h2 hno n0 n1
  have htt : ¬ t < 2 := by omega
  have HF11 := Lib.hid hf.t11
  have ht9 : ¬ 10 ≤ t := by have := HF11.out; simp only at this; omega
  have ht10 : decide (10 ≤ t) = false := decide_eq_false ht9
  clear hS hrt hok hP hf hn hb0 hc hm hl hm' hno hl0 hy
  go_enter Tryd.func12, Tryd.ntmps12
  go_wp2_with (first
    | (go_at_call 17; (with_reducible refine (hR.out).mono ?_); rintro e w1 ⟨rfl, ho1⟩; have HO1 := Lib.hid (HN.out.trans ho1); have hb1 := HBX.out.kept ho1 (fun hh => hh); have c0 := hb1.cell 0; have zb := hb1.lt; have HB1 := Lib.hid hb1; clear ho1 hb1)
    )
  go_loopw [6] (fun ii wr => ∃ j : Nat, j ≤ m ∧ ii = .int .i64 j ∧ Only Nil w1 wr) (fun ii _ => m - (intOf ii).toNat)
  case atStart => exact ⟨0, Nat.zero_le _, rfl, Only.refl _ _⟩
  case round =>
    obtain ⟨j, hj, rfl, ho⟩ := hrel
    have how := HO1.out.trans ho
    by_cases hlt : j < m
    · have hbr := HB1.out.kept ho (fun hh => hh)
      have b0 := hbr.cell 0
      have bz := hbr.lt
      have hlt' : (j : Int) < m := by omega
      clear hbr
      go_wp2
      go_quiet (fail)
      go_wp2
      go_roundw
      case rel => exact ⟨j + 1, by omega, by go_num, ho.drewN _⟩
      case measure => simp [intOf]; omega
    · obtain rfl : m = j := by omega
      have hwz := how.size
      have hbr := HB1.out.kept ho (fun hh => hh)
      obtain ⟨b0, b1, b2, b3, b4, b5, b6, b7, b8, b9, b10, b11⟩ := hbr.frm
      have bz := hbr.lt
      have hsA := HS.out.go ((how.drew).alloc (.cells #[] 31))
      have hsB := HS.out.go (((how.drew).alloc (.cells #[] 31)).alloc (.cells (frC ⟨t, s, en, d, k, on, wt, ex, c, l, n, P⟩ (.slice A P.length cap)) 31))
      have hsC := HS.out.go (((how.drew).alloc (.cells (frC ⟨t, s, en, d, k, on, wt, ex, c, l, n, P⟩ (.slice A P.length cap)) 31)).alloc (.cells #[] 31))
      have hEA := Ow.lit (enc := encF) (sz := 12) (e := 31) (base := w.heap.size) wr.drew (cs := #[]) ([] : List El) rfl rfl (by simp [maxLen]) hwz
      have hEB := hEA.alloc (.cells (frC ⟨t, s, en, d, k, on, wt, ex, c, l, n, P⟩ (.slice A P.length cap)) 31)
      have hEC0 := Ow.lit (enc := encF) (sz := 12) (e := 31) (base := w.heap.size) (wr.drew.alloc (.cells (frC ⟨t, s, en, d, k, on, wt, ex, c, l, n, P⟩ (.slice A P.length cap)) 31)) (cs := #[]) ([] : List El) rfl rfl (by simp [maxLen]) (by simp; omega)
      rw [show (wr.drew.alloc (.cells (frC ⟨t, s, en, d, k, on, wt, ex, c, l, n, P⟩ (.slice A P.length cap)) 31)).heap.size = wr.heap.size + 1 from by simp] at hEC0
      have HEC := Lib.hid hEC0
      clear hEC0
      have HM' := HM.out
      have sA := Lib.hid (Src.sqn (P := Tryd.prog) (tx := 26) Tryd.underlying26 cx m hsA (fun _ _ => rfl) (fun x _ => encF_one x) (by decide) HM'.symm)
      have sB := Lib.hid (Src.sqn (P := Tryd.prog) (tx := 26) Tryd.underlying26 cx m hsB (fun _ _ => rfl) (fun x _ => encF_one x) (by decide) HM'.symm)
      have sC := Lib.hid (Src.sqn (P := Tryd.prog) (tx := 26) Tryd.underlying26 cx m hsC (fun _ _ => rfl) (fun x _ => encF_one x) (by decide) HM'.symm)
      have hmm : ([] : List El).length + L.length = m := by rw [HM']; simp
      have HMM := Lib.hid hmm
      have HEA := Lib.hid hEA
      have HEB := Lib.hid hEB
      have HWZ := Lib.hid hwz
      have HW := Lib.hid how
      have HBR := Lib.hid hbr
      clear hsA hsB hsC hEA hEB HM' hmm hwz how
      go_wp2
      have HM1 : Hid (L.length + [(⟨⟨t, s, en, d, k, on, wt, ex, c, l, n, P⟩, A, cap⟩ : El)].length = m + 1) := Lib.hid (by rw [HM.out]; rfl)
      clear hbr
      go_region_law (first
        | (refine step_app2 (by rfl) (.tmp 80) (.tmp 81) _ _ (by rfl) w.heap.size 31 Tryd.underlying26 fr_info (by rfl) _ [] (by rfl) HEA.out _ L (by rfl) sA.out (by rw [HMM.out]; omega) (by decide) (by have := HWZ.out; simp; omega) m HMM.out L rfl ?_; intro A7 c7 w7 hown7 ho7 hg7; have O7 := Lib.hid (((HW.out.drew).alloc _).own_nil HEA.out ho7); have hb7 := ((HBR.out.drew).alloc (.cells #[] 31)).kept ho7 (fun hh => by simp [ownB, Value.ownBlock] at hh; omega); obtain ⟨e0, e1, e2, e3, e4, e5, e6, e7, e8, e9, e10, e11⟩ := hb7.frm; have z7 := hb7.lt; have hN7 := Lib.hid (Blk.new w7 31 (frC ⟨t, s, en, d, k, on, wt, ex, c, l, n, P⟩ (.slice A P.length cap))); have HOA := Lib.hid (hown7.alloc (.cells (frC ⟨t, s, en, d, k, on, wt, ex, c, l, n, P⟩ (.slice A P.length cap)) 31)); have O7z := Lib.hid ((O7.out.alloc (.cells (frC ⟨t, s, en, d, k, on, wt, ex, c, l, n, P⟩ (.slice A P.length cap)) 31)).size); clear hb7 ho7 hg7 hown7)
        | (refine step_app2 (by rfl) (.tmp 80) (.tmp 81) _ _ (by rfl) w.heap.size 31 Tryd.underlying26 fr_info (by rfl) _ [] (by rfl) HEB.out _ L (by rfl) sB.out (by rw [HMM.out]; omega) (by decide) (by have := HWZ.out; simp; omega) m HMM.out L rfl ?_; intro A7 c7 w7 hown7 ho7 hg7; have O7 := Lib.hid ((((HW.out.drew).alloc _).alloc _).own_nil HEB.out ho7); have hN7 := Lib.hid ((newAt (wr.drew.alloc (.cells #[] 31)) 31 (frC ⟨t, s, en, d, k, on, wt, ex, c, l, n, P⟩ (.slice A P.length cap)) (wr.heap.size + 1) (by simp)).kept ho7 (fun hh => by simp [ownB, Value.ownBlock] at hh)); have HOB := Lib.hid hown7; clear ho7 hg7 hown7)
        | (refine step_app2 (by rfl) (.tmp 80) (.tmp 81) _ _ (by rfl) w.heap.size 31 Tryd.underlying26 fr_info (by rfl) _ [] (by rfl) HEC.out _ L (by rfl) sC.out (by rw [HMM.out]; omega) (by decide) (by have := HWZ.out; simp; omega) m HMM.out L rfl ?_; intro A7 c7 w7 hown7 ho7 hg7; have O7 := Lib.hid ((((HW.out.drew).alloc _).alloc _).own_nil HEC.out ho7); have hN7 := Lib.hid (((newAt wr.drew 31 (frC ⟨t, s, en, d, k, on, wt, ex, c, l, n, P⟩ (.slice A P.length cap)) wr.heap.size rfl).alloc (.cells #[] 31)).kept ho7 (fun hh => by simp [ownB, Value.ownBlock] at hh)); have HOB := Lib.hid hown7; clear ho7 hg7 hown7)
        | (refine step_app2 (by rfl) (.tmp 82) (.tmp 84) _ _ (by rfl) w.heap.size 31 Tryd.underlying26 fr_info (by rfl) _ L (by rfl) HOA.out _ [⟨⟨t, s, en, d, k, on, wt, ex, c, l, n, P⟩, A, cap⟩] (by rfl) (Src.one (P := Tryd.prog) (enc := encF) (tx := 26) Tryd.underlying26 ⟨⟨t, s, en, d, k, on, wt, ex, c, l, n, P⟩, A, cap⟩ 1 rfl hN7.out rfl (encF_one _)) (by rw [HM1.out]; omega) (by decide) O7z.out (m + 1) HM1.out (L ++ [⟨⟨t, s, en, d, k, on, wt, ex, c, l, n, P⟩, A, cap⟩]) rfl ?_; intro A9 c9 w9 hown9 ho9 hg9; have O9 := Lib.hid ((O7.out.alloc _).own_nil HOA.out ho9); have HO9 := Lib.hid hown9; clear ho9 hg9 hown9)
        | (refine step_app2 (by rfl) (.tmp 82) (.tmp 84) _ _ (by rfl) w.heap.size 31 Tryd.underlying26 fr_info (by rfl) _ L (by rfl) HOB.out _ [⟨⟨t, s, en, d, k, on, wt, ex, c, l, n, P⟩, A, cap⟩] (by rfl) (Src.one (P := Tryd.prog) (enc := encF) (tx := 26) Tryd.underlying26 ⟨⟨t, s, en, d, k, on, wt, ex, c, l, n, P⟩, A, cap⟩ 1 rfl hN7.out rfl (encF_one _)) (by rw [HM1.out]; omega) (by decide) O7.out.size (m + 1) HM1.out (L ++ [⟨⟨t, s, en, d, k, on, wt, ex, c, l, n, P⟩, A, cap⟩]) rfl ?_; intro A9 c9 w9 hown9 ho9 hg9; have O9 := Lib.hid (O7.out.own_nil HOB.out ho9); have HO9 := Lib.hid hown9; clear ho9 hg9 hown9)
        )
      all_goals
        go_wp2
        go_ret2
        refine ⟨A9, c9, L ++ [⟨⟨t, s, en, d, k, on, wt, ex, c, l, n, P⟩, A, cap⟩], ?_, O9.out, by simp, HO9.out.sqn (fun x _ => encF_len x), ?_, HO9.out.len.2.2, fun y hy => ?_, fun g o hA => .inr ⟨rfl, (HO9.out.lt (g := g) (by rw [hA]; rfl)).1⟩⟩
        · rw [← HO9.out.len.1]
          rfl
        · rw [← HO9.out.len.1]
          exact HO9.out.len.2.1
        · rcases List.mem_append.1 hy with hy | hy
          · exact HOK.out y hy
          · rw [List.mem_singleton] at hy
            subst hy
            exact HY.out
set_option maxRecDepth 100000 in
set_option maxHeartbeats 4000000 in
theorem RPush_add10 (w : World) (hS : Sq encF 12 w w.heap.size Ax L) (hc : L.length ≤ cx) (hm : cx ≤ maxLen) (hok : ∀ y ∈ L, ok y) (hrt : ∀ y ∈ L, rightP y.f) (hP : PmIs w (.slice A f.P.length cap) f.P) (hf : rightP f) (h2 : 2 ≤ f.t) (ht : f.t = 10) (hno : ∀ g ∈ L.map El.f, fits f g = false) (hl : L.length < 64) (hl0 : 0 < L.length)
    (hy : ok ⟨f, A, cap⟩) : Calls Tryd.prog 12 #[.slice Ax L.length cx, frmV f (.slice A f.P.length cap)] w (RpPost w Ax (L.map El.f ++ [f]) 0 ok) := by
  have hn := (Only.refl Nil w).alloc (.cells (frC f (.slice A f.P.length cap)) 31)
  have hR := Lib.hid (RRight_any f _ (hP.go hn) true ⟨(fun _ => hf), (fun _ => rfl)⟩)
  have hb0 := Blk.new w 31 (frC f (.slice A f.P.length cap))
  have HN := Lib.hid hn
  have HBX := Lib.hid hb0
  have hn4 := hf.n4
  simp only [fourB, Bool.and_eq_true, decide_eq_true_eq] at hn4
  obtain ⟨n0, n1⟩ := hn4
  obtain ⟨g6, o6, _, rfl, hg6, _⟩ := hS.at_ (k := 0) (by omega)
  have HS := Lib.hid hS
  have HRT := Lib.hid hrt
  have HOK := Lib.hid hok
  have HC := Lib.hid (And.intro hc hm)
  have HL := Lib.hid hl
  have HY := Lib.hid hy
  obtain ⟨m, hm'⟩ : ∃ m, m = L.length := ⟨_, rfl⟩
  have HM := Lib.hid hm'
  have h64 : m < 64 := by omega
  have h64' : (m : Int) < 64 := by omega
  rw [← hm']
  have hmc : m ≤ cx := by omega
  obtain ⟨t, s, en, d, k, on, wt, ex, c, l, n, P⟩ := f
  simp only at h2 ht n0 n1
  have htt : ¬ t < 2 := by omega
  have HF11 := Lib.hid hf.t11
  subst ht
  have HNO := Lib.hid (fun x (hx : x ∈ L) => hno x.f (List.mem_map.2 ⟨x, hx, rfl⟩))
  clear hS hrt hok hP hf hn hb0 hc hm hl hm' hno hl0 hy
  go_enter Tryd.func12, Tryd.ntmps12
  go_wp2_with (first
    | (go_at_call 17; (with_reducible refine (hR.out).mono ?_); rintro e w1 ⟨rfl, ho1⟩; have HO1 := Lib.hid (HN.out.trans ho1); have hb1 := HBX.out.kept ho1 (fun hh => hh); have c0 := hb1.cell 0; have zb := hb1.lt; have HB1 := Lib.hid hb1; clear ho1 hb1)
    )
  go_loopw [6] (fun ii wr => ∃ j : Nat, j ≤ m ∧ ii = .int .i64 j ∧ Only Nil w1 wr) (fun ii _ => m - (intOf ii).toNat)
  case atStart => exact ⟨0, Nat.zero_le _, rfl, Only.refl _ _⟩
  case round =>
    obtain ⟨j, hj, rfl, ho⟩ := hrel
    have how := HO1.out.trans ho
    by_cases hlt : j < m
    · have hbr := HB1.out.kept ho (fun hh => hh)
      have b0 := hbr.cell 0
      have b1 := hbr.cell 1
      have b10 := hbr.cell 10
      have bz := hbr.lt
      clear hbr
      obtain ⟨x, hx⟩ : ∃ x, L[j]? = some x := ⟨_, List.getElem?_eq_getElem (by rw [← HM.out]; exact hlt)⟩
      have hlt' : (j : Int) < m := by omega
      obtain ⟨zg, p0, p1, p10⟩ := (HS.out.go how).elF hx
      have hfx := three (of_decide_eq_false (HNO.out x (List.mem_of_getElem? hx)))
      have hr := HRT.out x (List.mem_of_getElem? hx)
      have hr4 := hr.n4
      simp only [fourB, Bool.and_eq_true, decide_eq_true_eq] at hr4
      obtain ⟨x0, x1⟩ := hr4
      obtain ⟨⟨xt, xs, xen, xd, xk, xon, xwt, xex, xc, xl, xn, xP⟩, xA, xcap⟩ := x
      simp only at p0 p1 p10 hfx x0 x1
      have ew : IntKind.i64.wrap (xn + n) = xn + n := IntWalk.i64_in _ (by omega)
      clear hx hr how
      rcases hfx with e1 | ⟨rfl, e1⟩ | ⟨rfl, rfl, e1⟩
      · have e2 : decide (xt = 10) = false := decide_eq_false e1
        have e3 : (xt == 10) = false := by rw [beq_eq_false_iff_ne]; exact e1
        go_wp2
        go_quiet (fail)
        go_wp2
        go_roundw
        case rel => exact ⟨j + 1, by omega, by go_num, ho.drewN _⟩
        case measure => simp [intOf]; omega
      · have e2 : decide (xs = s) = false := decide_eq_false e1
        have e3 : (xs == s) = false := by rw [beq_eq_false_iff_ne]; exact e1
        go_wp2
        go_quiet (fail)
        go_wp2
        go_roundw
        case rel => exact ⟨j + 1, by omega, by go_num, ho.drewN _⟩
        case measure => simp [intOf]; omega
      · have e2 : decide (xn + n ≤ 2147483647) = false := decide_eq_false e1
        go_wp2
        go_quiet (fail)
        go_wp2
        go_roundw
        case rel => exact ⟨j + 1, by omega, by go_num, ho.drewN _⟩
        case measure => simp [intOf]; omega
    · obtain rfl : m = j := by omega
      have hwz := how.size
      have hbr := HB1.out.kept ho (fun hh => hh)
      obtain ⟨b0, b1, b2, b3, b4, b5, b6, b7, b8, b9, b10, b11⟩ := hbr.frm
      have bz := hbr.lt
      have hsA := HS.out.go ((how.drew).alloc (.cells #[] 31))
      have hsB := HS.out.go (((how.drew).alloc (.cells #[] 31)).alloc (.cells (frC ⟨10, s, en, d, k, on, wt, ex, c, l, n, P⟩ (.slice A P.length cap)) 31))
      have hsC := HS.out.go (((how.drew).alloc (.cells (frC ⟨10, s, en, d, k, on, wt, ex, c, l, n, P⟩ (.slice A P.length cap)) 31)).alloc (.cells #[] 31))
      have hEA := Ow.lit (enc := encF) (sz := 12) (e := 31) (base := w.heap.size) wr.drew (cs := #[]) ([] : List El) rfl rfl (by simp [maxLen]) hwz
      have hEB := hEA.alloc (.cells (frC ⟨10, s, en, d, k, on, wt, ex, c, l, n, P⟩ (.slice A P.length cap)) 31)
      have hEC0 := Ow.lit (enc := encF) (sz := 12) (e := 31) (base := w.heap.size) (wr.drew.alloc (.cells (frC ⟨10, s, en, d, k, on, wt, ex, c, l, n, P⟩ (.slice A P.length cap)) 31)) (cs := #[]) ([] : List El) rfl rfl (by simp [maxLen]) (by simp; omega)
      rw [show (wr.drew.alloc (.cells (frC ⟨10, s, en, d, k, on, wt, ex, c, l, n, P⟩ (.slice A P.length cap)) 31)).heap.size = wr.heap.size + 1 from by simp] at hEC0
      have HEC := Lib.hid hEC0
      clear hEC0
      have HM' := HM.out
      have sA := Lib.hid (Src.sqn (P := Tryd.prog) (tx := 26) Tryd.underlying26 cx m hsA (fun _ _ => rfl) (fun x _ => encF_one x) (by decide) HM'.symm)
      have sB := Lib.hid (Src.sqn (P := Tryd.prog) (tx := 26) Tryd.underlying26 cx m hsB (fun _ _ => rfl) (fun x _ => encF_one x) (by decide) HM'.symm)
      have sC := Lib.hid (Src.sqn (P := Tryd.prog) (tx := 26) Tryd.underlying26 cx m hsC (fun _ _ => rfl) (fun x _ => encF_one x) (by decide) HM'.symm)
      have hmm : ([] : List El).length + L.length = m := by rw [HM']; simp
      have HMM := Lib.hid hmm
      have HEA := Lib.hid hEA
      have HEB := Lib.hid hEB
      have HWZ := Lib.hid hwz
      have HW := Lib.hid how
      have HBR := Lib.hid hbr
      clear hsA hsB hsC hEA hEB HM' hmm hwz how
      go_wp2
      have HM1 : Hid (L.length + [(⟨⟨10, s, en, d, k, on, wt, ex, c, l, n, P⟩, A, cap⟩ : El)].length = m + 1) := Lib.hid (by rw [HM.out]; rfl)
      clear hbr
      go_region_law (first
        | (refine step_app2 (by rfl) (.tmp 80) (.tmp 81) _ _ (by rfl) w.heap.size 31 Tryd.underlying26 fr_info (by rfl) _ [] (by rfl) HEA.out _ L (by rfl) sA.out (by rw [HMM.out]; omega) (by decide) (by have := HWZ.out; simp; omega) m HMM.out L rfl ?_; intro A7 c7 w7 hown7 ho7 hg7; have O7 := Lib.hid (((HW.out.drew).alloc _).own_nil HEA.out ho7); have hb7 := ((HBR.out.drew).alloc (.cells #[] 31)).kept ho7 (fun hh => by simp [ownB, Value.ownBlock] at hh; omega); obtain ⟨e0, e1, e2, e3, e4, e5, e6, e7, e8, e9, e10, e11⟩ := hb7.frm; have z7 := hb7.lt; have hN7 := Lib.hid (Blk.new w7 31 (frC ⟨10, s, en, d, k, on, wt, ex, c, l, n, P⟩ (.slice A P.length cap))); have HOA := Lib.hid (hown7.alloc (.cells (frC ⟨10, s, en, d, k, on, wt, ex, c, l, n, P⟩ (.slice A P.length cap)) 31)); have O7z := Lib.hid ((O7.out.alloc (.cells (frC ⟨10, s, en, d, k, on, wt, ex, c, l, n, P⟩ (.slice A P.length cap)) 31)).size); clear hb7 ho7 hg7 hown7)
        | (refine step_app2 (by rfl) (.tmp 80) (.tmp 81) _ _ (by rfl) w.heap.size 31 Tryd.underlying26 fr_info (by rfl) _ [] (by rfl) HEB.out _ L (by rfl) sB.out (by rw [HMM.out]; omega) (by decide) (by have := HWZ.out; simp; omega) m HMM.out L rfl ?_; intro A7 c7 w7 hown7 ho7 hg7; have O7 := Lib.hid ((((HW.out.drew).alloc _).alloc _).own_nil HEB.out ho7); have hN7 := Lib.hid ((newAt (wr.drew.alloc (.cells #[] 31)) 31 (frC ⟨10, s, en, d, k, on, wt, ex, c, l, n, P⟩ (.slice A P.length cap)) (wr.heap.size + 1) (by simp)).kept ho7 (fun hh => by simp [ownB, Value.ownBlock] at hh)); have HOB := Lib.hid hown7; clear ho7 hg7 hown7)
        | (refine step_app2 (by rfl) (.tmp 80) (.tmp 81) _ _ (by rfl) w.heap.size 31 Tryd.underlying26 fr_info (by rfl) _ [] (by rfl) HEC.out _ L (by rfl) sC.out (by rw [HMM.out]; omega) (by decide) (by have := HWZ.out; simp; omega) m HMM.out L rfl ?_; intro A7 c7 w7 hown7 ho7 hg7; have O7 := Lib.hid ((((HW.out.drew).alloc _).alloc _).own_nil HEC.out ho7); have hN7 := Lib.hid (((newAt wr.drew 31 (frC ⟨10, s, en, d, k, on, wt, ex, c, l, n, P⟩ (.slice A P.length cap)) wr.heap.size rfl).alloc (.cells #[] 31)).kept ho7 (fun hh => by simp [ownB, Value.ownBlock] at hh)); have HOB := Lib.hid hown7; clear ho7 hg7 hown7)
        | (refine step_app2 (by rfl) (.tmp 82) (.tmp 84) _ _ (by rfl) w.heap.size 31 Tryd.underlying26 fr_info (by rfl) _ L (by rfl) HOA.out _ [⟨⟨10, s, en, d, k, on, wt, ex, c, l, n, P⟩, A, cap⟩] (by rfl) (Src.one (P := Tryd.prog) (enc := encF) (tx := 26) Tryd.underlying26 ⟨⟨10, s, en, d, k, on, wt, ex, c, l, n, P⟩, A, cap⟩ 1 rfl hN7.out rfl (encF_one _)) (by rw [HM1.out]; omega) (by decide) O7z.out (m + 1) HM1.out (L ++ [⟨⟨10, s, en, d, k, on, wt, ex, c, l, n, P⟩, A, cap⟩]) rfl ?_; intro A9 c9 w9 hown9 ho9 hg9; have O9 := Lib.hid ((O7.out.alloc _).own_nil HOA.out ho9); have HO9 := Lib.hid hown9; clear ho9 hg9 hown9)
        | (refine step_app2 (by rfl) (.tmp 82) (.tmp 84) _ _ (by rfl) w.heap.size 31 Tryd.underlying26 fr_info (by rfl) _ L (by rfl) HOB.out _ [⟨⟨10, s, en, d, k, on, wt, ex, c, l, n, P⟩, A, cap⟩] (by rfl) (Src.one (P := Tryd.prog) (enc := encF) (tx := 26) Tryd.underlying26 ⟨⟨10, s, en, d, k, on, wt, ex, c, l, n, P⟩, A, cap⟩ 1 rfl hN7.out rfl (encF_one _)) (by rw [HM1.out]; omega) (by decide) O7.out.size (m + 1) HM1.out (L ++ [⟨⟨10, s, en, d, k, on, wt, ex, c, l, n, P⟩, A, cap⟩]) rfl ?_; intro A9 c9 w9 hown9 ho9 hg9; have O9 := Lib.hid (O7.out.own_nil HOB.out ho9); have HO9 := Lib.hid hown9; clear ho9 hg9 hown9)
        )
      all_goals
        go_wp2
        go_ret2
        refine ⟨A9, c9, L ++ [⟨⟨10, s, en, d, k, on, wt, ex, c, l, n, P⟩, A, cap⟩], ?_, O9.out, by simp, HO9.out.sqn (fun x _ => encF_len x), ?_, HO9.out.len.2.2, fun y hy => ?_, fun g o hA => .inr ⟨rfl, (HO9.out.lt (g := g) (by rw [hA]; rfl)).1⟩⟩
        · rw [← HO9.out.len.1]
          rfl
        · rw [← HO9.out.len.1]
          exact HO9.out.len.2.1
        · rcases List.mem_append.1 hy with hy | hy
          · exact HOK.out y hy
          · rw [List.mem_singleton] at hy
            subst hy
            exact HY.out
set_option maxRecDepth 100000 in
set_option maxHeartbeats 4000000 in
theorem RPush_add11 (w : World) (hS : Sq encF 12 w w.heap.size Ax L) (hc : L.length ≤ cx) (hm : cx ≤ maxLen) (hok : ∀ y ∈ L, ok y) (hrt : ∀ y ∈ L, rightP y.f) (hP : PmIs w (.slice A f.P.length cap) f.P) (hf : rightP f) (h2 : 2 ≤ f.t) (ht : f.t = 11) (hno : ∀ g ∈ L.map El.f, fits f g = false) (hl : L.length < 64) (hl0 : 0 < L.length)
    (hy : ok ⟨f, A, cap⟩) : Calls Tryd.prog 12 #[.slice Ax L.length cx, frmV f (.slice A f.P.length cap)] w (RpPost w Ax (L.map El.f ++ [f]) 0 ok) := by
  have hn := (Only.refl Nil w).alloc (.cells (frC f (.slice A f.P.length cap)) 31)
  have hR := Lib.hid (RRight_any f _ (hP.go hn) true ⟨(fun _ => hf), (fun _ => rfl)⟩)
  have hb0 := Blk.new w 31 (frC f (.slice A f.P.length cap))
  have HN := Lib.hid hn
  have HBX := Lib.hid hb0
  have hn4 := hf.n4
  simp only [fourB, Bool.and_eq_true, decide_eq_true_eq] at hn4
  obtain ⟨n0, n1⟩ := hn4
  obtain ⟨g6, o6, _, rfl, hg6, _⟩ := hS.at_ (k := 0) (by omega)
  have HS := Lib.hid hS
  have HRT := Lib.hid hrt
  have HOK := Lib.hid hok
  have HC := Lib.hid (And.intro hc hm)
  have HL := Lib.hid hl
  have HY := Lib.hid hy
  obtain ⟨m, hm'⟩ : ∃ m, m = L.length := ⟨_, rfl⟩
  have HM := Lib.hid hm'
  have h64 : m < 64 := by omega
  have h64' : (m : Int) < 64 := by omega
  rw [← hm']
  have hmc : m ≤ cx := by omega
  obtain ⟨t, s, en, d, k, on, wt, ex, c, l, n, P⟩ := f
  simp only at h2 ht n0 n1
  have htt : ¬ t < 2 := by omega
  have HF11 := Lib.hid hf.t11
  subst ht
  have HNO := Lib.hid (fun x (hx : x ∈ L) => hno x.f (List.mem_map.2 ⟨x, hx, rfl⟩))
  clear hS hrt hok hP hf hn hb0 hc hm hl hm' hno hl0 hy
  go_enter Tryd.func12, Tryd.ntmps12
  go_wp2_with (first
    | (go_at_call 17; (with_reducible refine (hR.out).mono ?_); rintro e w1 ⟨rfl, ho1⟩; have HO1 := Lib.hid (HN.out.trans ho1); have hb1 := HBX.out.kept ho1 (fun hh => hh); have c0 := hb1.cell 0; have zb := hb1.lt; have HB1 := Lib.hid hb1; clear ho1 hb1)
    )
  go_loopw [6] (fun ii wr => ∃ j : Nat, j ≤ m ∧ ii = .int .i64 j ∧ Only Nil w1 wr) (fun ii _ => m - (intOf ii).toNat)
  case atStart => exact ⟨0, Nat.zero_le _, rfl, Only.refl _ _⟩
  case round =>
    obtain ⟨j, hj, rfl, ho⟩ := hrel
    have how := HO1.out.trans ho
    by_cases hlt : j < m
    · have hbr := HB1.out.kept ho (fun hh => hh)
      have b0 := hbr.cell 0
      have b1 := hbr.cell 1
      have b10 := hbr.cell 10
      have bz := hbr.lt
      clear hbr
      obtain ⟨x, hx⟩ : ∃ x, L[j]? = some x := ⟨_, List.getElem?_eq_getElem (by rw [← HM.out]; exact hlt)⟩
      have hlt' : (j : Int) < m := by omega
      obtain ⟨zg, p0, p1, p10⟩ := (HS.out.go how).elF hx
      have hfx := three (of_decide_eq_false (HNO.out x (List.mem_of_getElem? hx)))
      have hr := HRT.out x (List.mem_of_getElem? hx)
      have hr4 := hr.n4
      simp only [fourB, Bool.and_eq_true, decide_eq_true_eq] at hr4
      obtain ⟨x0, x1⟩ := hr4
      obtain ⟨⟨xt, xs, xen, xd, xk, xon, xwt, xex, xc, xl, xn, xP⟩, xA, xcap⟩ := x
      simp only at p0 p1 p10 hfx x0 x1
      have ew : IntKind.i64.wrap (xn + n) = xn + n := IntWalk.i64_in _ (by omega)
      clear hx hr how
      rcases hfx with e1 | ⟨rfl, e1⟩ | ⟨rfl, rfl, e1⟩
      · have e2 : decide (xt = 11) = false := decide_eq_false e1
        have e3 : (xt == 11) = false := by rw [beq_eq_false_iff_ne]; exact e1
        go_wp2
        go_quiet (fail)
        go_wp2
        go_roundw
        case rel => exact ⟨j + 1, by omega, by go_num, ho.drewN _⟩
        case measure => simp [intOf]; omega
      · have e2 : decide (xs = s) = false := decide_eq_false e1
        have e3 : (xs == s) = false := by rw [beq_eq_false_iff_ne]; exact e1
        go_wp2
        go_quiet (fail)
        go_wp2
        go_roundw
        case rel => exact ⟨j + 1, by omega, by go_num, ho.drewN _⟩
        case measure => simp [intOf]; omega
      · have e2 : decide (xn + n ≤ 2147483647) = false := decide_eq_false e1
        go_wp2
        go_quiet (fail)
        go_wp2
        go_roundw
        case rel => exact ⟨j + 1, by omega, by go_num, ho.drewN _⟩
        case measure => simp [intOf]; omega
    · obtain rfl : m = j := by omega
      have hwz := how.size
      have hbr := HB1.out.kept ho (fun hh => hh)
      obtain ⟨b0, b1, b2, b3, b4, b5, b6, b7, b8, b9, b10, b11⟩ := hbr.frm
      have bz := hbr.lt
      have hsA := HS.out.go ((how.drew).alloc (.cells #[] 31))
      have hsB := HS.out.go (((how.drew).alloc (.cells #[] 31)).alloc (.cells (frC ⟨11, s, en, d, k, on, wt, ex, c, l, n, P⟩ (.slice A P.length cap)) 31))
      have hsC := HS.out.go (((how.drew).alloc (.cells (frC ⟨11, s, en, d, k, on, wt, ex, c, l, n, P⟩ (.slice A P.length cap)) 31)).alloc (.cells #[] 31))
      have hEA := Ow.lit (enc := encF) (sz := 12) (e := 31) (base := w.heap.size) wr.drew (cs := #[]) ([] : List El) rfl rfl (by simp [maxLen]) hwz
      have hEB := hEA.alloc (.cells (frC ⟨11, s, en, d, k, on, wt, ex, c, l, n, P⟩ (.slice A P.length cap)) 31)
      have hEC0 := Ow.lit (enc := encF) (sz := 12) (e := 31) (base := w.heap.size) (wr.drew.alloc (.cells (frC ⟨11, s, en, d, k, on, wt, ex, c, l, n, P⟩ (.slice A P.length cap)) 31)) (cs := #[]) ([] : List El) rfl rfl (by simp [maxLen]) (by simp; omega)
      rw [show (wr.drew.alloc (.cells (frC ⟨11, s, en, d, k, on, wt, ex, c, l, n, P⟩ (.slice A P.length cap)) 31)).heap.size = wr.heap.size + 1 from by simp] at hEC0
      have HEC := Lib.hid hEC0
      clear hEC0
      have HM' := HM.out
      have sA := Lib.hid (Src.sqn (P := Tryd.prog) (tx := 26) Tryd.underlying26 cx m hsA (fun _ _ => rfl) (fun x _ => encF_one x) (by decide) HM'.symm)
      have sB := Lib.hid (Src.sqn (P := Tryd.prog) (tx := 26) Tryd.underlying26 cx m hsB (fun _ _ => rfl) (fun x _ => encF_one x) (by decide) HM'.symm)
      have sC := Lib.hid (Src.sqn (P := Tryd.prog) (tx := 26) Tryd.underlying26 cx m hsC (fun _ _ => rfl) (fun x _ => encF_one x) (by decide) HM'.symm)
      have hmm : ([] : List El).length + L.length = m := by rw [HM']; simp
      have HMM := Lib.hid hmm
      have HEA := Lib.hid hEA
      have HEB := Lib.hid hEB
      have HWZ := Lib.hid hwz
      have HW := Lib.hid how
      have HBR := Lib.hid hbr
      clear hsA hsB hsC hEA hEB HM' hmm hwz how
      go_wp2
      have HM1 : Hid (L.length + [(⟨⟨11, s, en, d, k, on, wt, ex, c, l, n, P⟩, A, cap⟩ : El)].length = m + 1) := Lib.hid (by rw [HM.out]; rfl)
      clear hbr
      go_region_law (first
        | (refine step_app2 (by rfl) (.tmp 80) (.tmp 81) _ _ (by rfl) w.heap.size 31 Tryd.underlying26 fr_info (by rfl) _ [] (by rfl) HEA.out _ L (by rfl) sA.out (by rw [HMM.out]; omega) (by decide) (by have := HWZ.out; simp; omega) m HMM.out L rfl ?_; intro A7 c7 w7 hown7 ho7 hg7; have O7 := Lib.hid (((HW.out.drew).alloc _).own_nil HEA.out ho7); have hb7 := ((HBR.out.drew).alloc (.cells #[] 31)).kept ho7 (fun hh => by simp [ownB, Value.ownBlock] at hh; omega); obtain ⟨e0, e1, e2, e3, e4, e5, e6, e7, e8, e9, e10, e11⟩ := hb7.frm; have z7 := hb7.lt; have hN7 := Lib.hid (Blk.new w7 31 (frC ⟨11, s, en, d, k, on, wt, ex, c, l, n, P⟩ (.slice A P.length cap))); have HOA := Lib.hid (hown7.alloc (.cells (frC ⟨11, s, en, d, k, on, wt, ex, c, l, n, P⟩ (.slice A P.length cap)) 31)); have O7z := Lib.hid ((O7.out.alloc (.cells (frC ⟨11, s, en, d, k, on, wt, ex, c, l, n, P⟩ (.slice A P.length cap)) 31)).size); clear hb7 ho7 hg7 hown7)
        | (refine step_app2 (by rfl) (.tmp 80) (.tmp 81) _ _ (by rfl) w.heap.size 31 Tryd.underlying26 fr_info (by rfl) _ [] (by rfl) HEB.out _ L (by rfl) sB.out (by rw [HMM.out]; omega) (by decide) (by have := HWZ.out; simp; omega) m HMM.out L rfl ?_; intro A7 c7 w7 hown7 ho7 hg7; have O7 := Lib.hid ((((HW.out.drew).alloc _).alloc _).own_nil HEB.out ho7); have hN7 := Lib.hid ((newAt (wr.drew.alloc (.cells #[] 31)) 31 (frC ⟨11, s, en, d, k, on, wt, ex, c, l, n, P⟩ (.slice A P.length cap)) (wr.heap.size + 1) (by simp)).kept ho7 (fun hh => by simp [ownB, Value.ownBlock] at hh)); have HOB := Lib.hid hown7; clear ho7 hg7 hown7)
        | (refine step_app2 (by rfl) (.tmp 80) (.tmp 81) _ _ (by rfl) w.heap.size 31 Tryd.underlying26 fr_info (by rfl) _ [] (by rfl) HEC.out _ L (by rfl) sC.out (by rw [HMM.out]; omega) (by decide) (by have := HWZ.out; simp; omega) m HMM.out L rfl ?_; intro A7 c7 w7 hown7 ho7 hg7; have O7 := Lib.hid ((((HW.out.drew).alloc _).alloc _).own_nil HEC.out ho7); have hN7 := Lib.hid (((newAt wr.drew 31 (frC ⟨11, s, en, d, k, on, wt, ex, c, l, n, P⟩ (.slice A P.length cap)) wr.heap.size rfl).alloc (.cells #[] 31)).kept ho7 (fun hh => by simp [ownB, Value.ownBlock] at hh)); have HOB := Lib.hid hown7; clear ho7 hg7 hown7)
        | (refine step_app2 (by rfl) (.tmp 82) (.tmp 84) _ _ (by rfl) w.heap.size 31 Tryd.underlying26 fr_info (by rfl) _ L (by rfl) HOA.out _ [⟨⟨11, s, en, d, k, on, wt, ex, c, l, n, P⟩, A, cap⟩] (by rfl) (Src.one (P := Tryd.prog) (enc := encF) (tx := 26) Tryd.underlying26 ⟨⟨11, s, en, d, k, on, wt, ex, c, l, n, P⟩, A, cap⟩ 1 rfl hN7.out rfl (encF_one _)) (by rw [HM1.out]; omega) (by decide) O7z.out (m + 1) HM1.out (L ++ [⟨⟨11, s, en, d, k, on, wt, ex, c, l, n, P⟩, A, cap⟩]) rfl ?_; intro A9 c9 w9 hown9 ho9 hg9; have O9 := Lib.hid ((O7.out.alloc _).own_nil HOA.out ho9); have HO9 := Lib.hid hown9; clear ho9 hg9 hown9)
        | (refine step_app2 (by rfl) (.tmp 82) (.tmp 84) _ _ (by rfl) w.heap.size 31 Tryd.underlying26 fr_info (by rfl) _ L (by rfl) HOB.out _ [⟨⟨11, s, en, d, k, on, wt, ex, c, l, n, P⟩, A, cap⟩] (by rfl) (Src.one (P := Tryd.prog) (enc := encF) (tx := 26) Tryd.underlying26 ⟨⟨11, s, en, d, k, on, wt, ex, c, l, n, P⟩, A, cap⟩ 1 rfl hN7.out rfl (encF_one _)) (by rw [HM1.out]; omega) (by decide) O7.out.size (m + 1) HM1.out (L ++ [⟨⟨11, s, en, d, k, on, wt, ex, c, l, n, P⟩, A, cap⟩]) rfl ?_; intro A9 c9 w9 hown9 ho9 hg9; have O9 := Lib.hid (O7.out.own_nil HOB.out ho9); have HO9 := Lib.hid hown9; clear ho9 hg9 hown9)
        )
      all_goals
        go_wp2
        go_ret2
        refine ⟨A9, c9, L ++ [⟨⟨11, s, en, d, k, on, wt, ex, c, l, n, P⟩, A, cap⟩], ?_, O9.out, by simp, HO9.out.sqn (fun x _ => encF_len x), ?_, HO9.out.len.2.2, fun y hy => ?_, fun g o hA => .inr ⟨rfl, (HO9.out.lt (g := g) (by rw [hA]; rfl)).1⟩⟩
        · rw [← HO9.out.len.1]
          rfl
        · rw [← HO9.out.len.1]
          exact HO9.out.len.2.1
        · rcases List.mem_append.1 hy with hy | hy
          · exact HOK.out y hy
          · rw [List.mem_singleton] at hy
            subst hy
            exact HY.out
set_option maxRecDepth 100000 in
set_option maxHeartbeats 4000000 in
theorem RPush_adde0 (w : World) (hS : Sq encF 12 w w.heap.size Ax L) (hc : L.length ≤ cx) (hm : cx ≤ maxLen) (hok : ∀ y ∈ L, ok y) (hrt : ∀ y ∈ L, rightP y.f) (hP : PmIs w (.slice A f.P.length cap) f.P) (hf : rightP f) (h2 : 2 ≤ f.t) (hno : f.t ≠ 10 ∧ f.t ≠ 11) (hl : L.length < 64) (hl0 : L.length = 0)
    (hy : ok ⟨f, A, cap⟩) : Calls Tryd.prog 12 #[.slice Ax L.length cx, frmV f (.slice A f.P.length cap)] w (RpPost w Ax (L.map El.f ++ [f]) 0 ok) := by
  have hn := (Only.refl Nil w).alloc (.cells (frC f (.slice A f.P.length cap)) 31)
  have hR := Lib.hid (RRight_any f _ (hP.go hn) true ⟨(fun _ => hf), (fun _ => rfl)⟩)
  have hb0 := Blk.new w 31 (frC f (.slice A f.P.length cap))
  have HN := Lib.hid hn
  have HBX := Lib.hid hb0
  have hn4 := hf.n4
  simp only [fourB, Bool.and_eq_true, decide_eq_true_eq] at hn4
  obtain ⟨n0, n1⟩ := hn4
  have HS := Lib.hid hS
  have HRT := Lib.hid hrt
  have HOK := Lib.hid hok
  have HC := Lib.hid (And.intro hc hm)
  have HL := Lib.hid hl
  have HY := Lib.hid hy
  obtain ⟨m, hm'⟩ : ∃ m, m = L.length := ⟨_, rfl⟩
  have HM := Lib.hid hm'
  have h64 : m < 64 := by omega
  have h64' : (m : Int) < 64 := by omega
  rw [← hm']
  have hmc : m ≤ cx := by omega
  obtain ⟨t, s, en, d, k, on, wt, ex, c, l, n, P⟩ := f
  simp only at h2 hno n0 n1
  have htt : ¬ t < 2 := by omega
  have HF11 := Lib.hid hf.t11
  have hm0 : m = 0 := by omega
  have ht9 : ¬ 10 ≤ t := by have := HF11.out; simp only at this; omega
  have ht10 : decide (10 ≤ t) = false := decide_eq_false ht9
  clear hS hrt hok hP hf hn hb0 hc hm hl hm' hno hl0 hy HRT
  subst hm0
  go_enter Tryd.func12, Tryd.ntmps12
  go_wp2_with (first
    | (go_at_call 17; (with_reducible refine (hR.out).mono ?_); rintro e w1 ⟨rfl, ho1⟩; have HO1 := Lib.hid (HN.out.trans ho1); have hb1 := HBX.out.kept ho1 (fun hh => hh); have c0 := hb1.cell 0; have zb := hb1.lt; have HB1 := Lib.hid hb1; clear ho1 hb1)
    )
  go_loopw [6] (fun ii wr => ∃ j : Nat, j ≤ 0 ∧ ii = .int .i64 j ∧ Only Nil w1 wr) (fun ii _ => 0 - (intOf ii).toNat)
  case atStart => exact ⟨0, Nat.zero_le _, rfl, Only.refl _ _⟩
  case round =>
    obtain ⟨j, hj, rfl, ho⟩ := hrel
    have how := HO1.out.trans ho
    by_cases hlt : j < 0
    · exact absurd hlt (Nat.not_lt_zero _)
    · obtain rfl : j = 0 := by omega
      have hwz := how.size
      have hbr := HB1.out.kept ho (fun hh => hh)
      obtain ⟨b0, b1, b2, b3, b4, b5, b6, b7, b8, b9, b10, b11⟩ := hbr.frm
      have bz := hbr.lt
      have hsA := HS.out.go ((how.drew).alloc (.cells #[] 31))
      have hsB := HS.out.go (((how.drew).alloc (.cells #[] 31)).alloc (.cells (frC ⟨t, s, en, d, k, on, wt, ex, c, l, n, P⟩ (.slice A P.length cap)) 31))
      have hsC := HS.out.go (((how.drew).alloc (.cells (frC ⟨t, s, en, d, k, on, wt, ex, c, l, n, P⟩ (.slice A P.length cap)) 31)).alloc (.cells #[] 31))
      have hEA := Ow.lit (enc := encF) (sz := 12) (e := 31) (base := w.heap.size) wr.drew (cs := #[]) ([] : List El) rfl rfl (by simp [maxLen]) hwz
      have hEB := hEA.alloc (.cells (frC ⟨t, s, en, d, k, on, wt, ex, c, l, n, P⟩ (.slice A P.length cap)) 31)
      have hEC0 := Ow.lit (enc := encF) (sz := 12) (e := 31) (base := w.heap.size) (wr.drew.alloc (.cells (frC ⟨t, s, en, d, k, on, wt, ex, c, l, n, P⟩ (.slice A P.length cap)) 31)) (cs := #[]) ([] : List El) rfl rfl (by simp [maxLen]) (by simp; omega)
      rw [show (wr.drew.alloc (.cells (frC ⟨t, s, en, d, k, on, wt, ex, c, l, n, P⟩ (.slice A P.length cap)) 31)).heap.size = wr.heap.size + 1 from by simp] at hEC0
      have HEC := Lib.hid hEC0
      clear hEC0
      have HM' := HM.out
      have sA := Lib.hid (Src.sqn (P := Tryd.prog) (tx := 26) Tryd.underlying26 cx 0 hsA (fun _ _ => rfl) (fun x _ => encF_one x) (by decide) HM'.symm)
      have sB := Lib.hid (Src.sqn (P := Tryd.prog) (tx := 26) Tryd.underlying26 cx 0 hsB (fun _ _ => rfl) (fun x _ => encF_one x) (by decide) HM'.symm)
      have sC := Lib.hid (Src.sqn (P := Tryd.prog) (tx := 26) Tryd.underlying26 cx 0 hsC (fun _ _ => rfl) (fun x _ => encF_one x) (by decide) HM'.symm)
      have hmm : ([] : List El).length + L.length = 0 := by rw [HM']; simp
      have HMM := Lib.hid hmm
      have HEA := Lib.hid hEA
      have HEB := Lib.hid hEB
      have HWZ := Lib.hid hwz
      have HW := Lib.hid how
      have HBR := Lib.hid hbr
      clear hsA hsB hsC hEA hEB HM' hmm hwz how
      go_wp2
      have HM1 : Hid (L.length + [(⟨⟨t, s, en, d, k, on, wt, ex, c, l, n, P⟩, A, cap⟩ : El)].length = 0 + 1) := Lib.hid (by rw [HM.out]; rfl)
      clear hbr
      go_region_law (first
        | (refine step_app2 (by rfl) (.tmp 80) (.tmp 81) _ _ (by rfl) w.heap.size 31 Tryd.underlying26 fr_info (by rfl) _ [] (by rfl) HEA.out _ L (by rfl) sA.out (by rw [HMM.out]; omega) (by decide) (by have := HWZ.out; simp; omega) 0 HMM.out L rfl ?_; intro A7 c7 w7 hown7 ho7 hg7; have O7 := Lib.hid (((HW.out.drew).alloc _).own_nil HEA.out ho7); have hb7 := ((HBR.out.drew).alloc (.cells #[] 31)).kept ho7 (fun hh => by simp [ownB, Value.ownBlock] at hh; omega); obtain ⟨e0, e1, e2, e3, e4, e5, e6, e7, e8, e9, e10, e11⟩ := hb7.frm; have z7 := hb7.lt; have hN7 := Lib.hid (Blk.new w7 31 (frC ⟨t, s, en, d, k, on, wt, ex, c, l, n, P⟩ (.slice A P.length cap))); have HOA := Lib.hid (hown7.alloc (.cells (frC ⟨t, s, en, d, k, on, wt, ex, c, l, n, P⟩ (.slice A P.length cap)) 31)); have O7z := Lib.hid ((O7.out.alloc (.cells (frC ⟨t, s, en, d, k, on, wt, ex, c, l, n, P⟩ (.slice A P.length cap)) 31)).size); clear hb7 ho7 hg7 hown7)
        | (refine step_app2 (by rfl) (.tmp 80) (.tmp 81) _ _ (by rfl) w.heap.size 31 Tryd.underlying26 fr_info (by rfl) _ [] (by rfl) HEB.out _ L (by rfl) sB.out (by rw [HMM.out]; omega) (by decide) (by have := HWZ.out; simp; omega) 0 HMM.out L rfl ?_; intro A7 c7 w7 hown7 ho7 hg7; have O7 := Lib.hid ((((HW.out.drew).alloc _).alloc _).own_nil HEB.out ho7); have hN7 := Lib.hid ((newAt (wr.drew.alloc (.cells #[] 31)) 31 (frC ⟨t, s, en, d, k, on, wt, ex, c, l, n, P⟩ (.slice A P.length cap)) (wr.heap.size + 1) (by simp)).kept ho7 (fun hh => by simp [ownB, Value.ownBlock] at hh)); have HOB := Lib.hid hown7; clear ho7 hg7 hown7)
        | (refine step_app2 (by rfl) (.tmp 80) (.tmp 81) _ _ (by rfl) w.heap.size 31 Tryd.underlying26 fr_info (by rfl) _ [] (by rfl) HEC.out _ L (by rfl) sC.out (by rw [HMM.out]; omega) (by decide) (by have := HWZ.out; simp; omega) 0 HMM.out L rfl ?_; intro A7 c7 w7 hown7 ho7 hg7; have O7 := Lib.hid ((((HW.out.drew).alloc _).alloc _).own_nil HEC.out ho7); have hN7 := Lib.hid (((newAt wr.drew 31 (frC ⟨t, s, en, d, k, on, wt, ex, c, l, n, P⟩ (.slice A P.length cap)) wr.heap.size rfl).alloc (.cells #[] 31)).kept ho7 (fun hh => by simp [ownB, Value.ownBlock] at hh)); have HOB := Lib.hid hown7; clear ho7 hg7 hown7)
        | (refine step_app2 (by rfl) (.tmp 82) (.tmp 84) _ _ (by rfl) w.heap.size 31 Tryd.underlying26 fr_info (by rfl) _ L (by rfl) HOA.out _ [⟨⟨t, s, en, d, k, on, wt, ex, c, l, n, P⟩, A, cap⟩] (by rfl) (Src.one (P := Tryd.prog) (enc := encF) (tx := 26) Tryd.underlying26 ⟨⟨t, s, en, d, k, on, wt, ex, c, l, n, P⟩, A, cap⟩ 1 rfl hN7.out rfl (encF_one _)) (by rw [HM1.out]; omega) (by decide) O7z.out (0 + 1) HM1.out (L ++ [⟨⟨t, s, en, d, k, on, wt, ex, c, l, n, P⟩, A, cap⟩]) rfl ?_; intro A9 c9 w9 hown9 ho9 hg9; have O9 := Lib.hid ((O7.out.alloc _).own_nil HOA.out ho9); have HO9 := Lib.hid hown9; clear ho9 hg9 hown9)
        | (refine step_app2 (by rfl) (.tmp 82) (.tmp 84) _ _ (by rfl) w.heap.size 31 Tryd.underlying26 fr_info (by rfl) _ L (by rfl) HOB.out _ [⟨⟨t, s, en, d, k, on, wt, ex, c, l, n, P⟩, A, cap⟩] (by rfl) (Src.one (P := Tryd.prog) (enc := encF) (tx := 26) Tryd.underlying26 ⟨⟨t, s, en, d, k, on, wt, ex, c, l, n, P⟩, A, cap⟩ 1 rfl hN7.out rfl (encF_one _)) (by rw [HM1.out]; omega) (by decide) O7.out.size (0 + 1) HM1.out (L ++ [⟨⟨t, s, en, d, k, on, wt, ex, c, l, n, P⟩, A, cap⟩]) rfl ?_; intro A9 c9 w9 hown9 ho9 hg9; have O9 := Lib.hid (O7.out.own_nil HOB.out ho9); have HO9 := Lib.hid hown9; clear ho9 hg9 hown9)
        )
      all_goals
        go_wp2
        go_ret2
        refine ⟨A9, c9, L ++ [⟨⟨t, s, en, d, k, on, wt, ex, c, l, n, P⟩, A, cap⟩], ?_, O9.out, by simp, HO9.out.sqn (fun x _ => encF_len x), ?_, HO9.out.len.2.2, fun y hy => ?_, fun g o hA => .inr ⟨rfl, (HO9.out.lt (g := g) (by rw [hA]; rfl)).1⟩⟩
        · rw [← HO9.out.len.1]
          rfl
        · rw [← HO9.out.len.1]
          exact HO9.out.len.2.1
        · rcases List.mem_append.1 hy with hy | hy
          · exact HOK.out y hy
          · rw [List.mem_singleton] at hy
            subst hy
            exact HY.out
set_option maxRecDepth 100000 in
set_option maxHeartbeats 4000000 in
theorem RPush_adde10 (w : World) (hS : Sq encF 12 w w.heap.size Ax L) (hc : L.length ≤ cx) (hm : cx ≤ maxLen) (hok : ∀ y ∈ L, ok y) (hrt : ∀ y ∈ L, rightP y.f) (hP : PmIs w (.slice A f.P.length cap) f.P) (hf : rightP f) (h2 : 2 ≤ f.t) (hno : f.t = 10) (hl : L.length < 64) (hl0 : L.length = 0)
    (hy : ok ⟨f, A, cap⟩) : Calls Tryd.prog 12 #[.slice Ax L.length cx, frmV f (.slice A f.P.length cap)] w (RpPost w Ax (L.map El.f ++ [f]) 0 ok) := by
  have hn := (Only.refl Nil w).alloc (.cells (frC f (.slice A f.P.length cap)) 31)
  have hR := Lib.hid (RRight_any f _ (hP.go hn) true ⟨(fun _ => hf), (fun _ => rfl)⟩)
  have hb0 := Blk.new w 31 (frC f (.slice A f.P.length cap))
  have HN := Lib.hid hn
  have HBX := Lib.hid hb0
  have hn4 := hf.n4
  simp only [fourB, Bool.and_eq_true, decide_eq_true_eq] at hn4
  obtain ⟨n0, n1⟩ := hn4
  have HS := Lib.hid hS
  have HRT := Lib.hid hrt
  have HOK := Lib.hid hok
  have HC := Lib.hid (And.intro hc hm)
  have HL := Lib.hid hl
  have HY := Lib.hid hy
  obtain ⟨m, hm'⟩ : ∃ m, m = L.length := ⟨_, rfl⟩
  have HM := Lib.hid hm'
  have h64 : m < 64 := by omega
  have h64' : (m : Int) < 64 := by omega
  rw [← hm']
  have hmc : m ≤ cx := by omega
  obtain ⟨t, s, en, d, k, on, wt, ex, c, l, n, P⟩ := f
  simp only at h2 hno n0 n1
  have htt : ¬ t < 2 := by omega
  have HF11 := Lib.hid hf.t11
  have hm0 : m = 0 := by omega
  subst hno
  clear hS hrt hok hP hf hn hb0 hc hm hl hm' hl0 hy HRT
  subst hm0
  go_enter Tryd.func12, Tryd.ntmps12
  go_wp2_with (first
    | (go_at_call 17; (with_reducible refine (hR.out).mono ?_); rintro e w1 ⟨rfl, ho1⟩; have HO1 := Lib.hid (HN.out.trans ho1); have hb1 := HBX.out.kept ho1 (fun hh => hh); have c0 := hb1.cell 0; have zb := hb1.lt; have HB1 := Lib.hid hb1; clear ho1 hb1)
    )
  go_loopw [6] (fun ii wr => ∃ j : Nat, j ≤ 0 ∧ ii = .int .i64 j ∧ Only Nil w1 wr) (fun ii _ => 0 - (intOf ii).toNat)
  case atStart => exact ⟨0, Nat.zero_le _, rfl, Only.refl _ _⟩
  case round =>
    obtain ⟨j, hj, rfl, ho⟩ := hrel
    have how := HO1.out.trans ho
    by_cases hlt : j < 0
    · exact absurd hlt (Nat.not_lt_zero _)
    · obtain rfl : j = 0 := by omega
      have hwz := how.size
      have hbr := HB1.out.kept ho (fun hh => hh)
      obtain ⟨b0, b1, b2, b3, b4, b5, b6, b7, b8, b9, b10, b11⟩ := hbr.frm
      have bz := hbr.lt
      have hsA := HS.out.go ((how.drew).alloc (.cells #[] 31))
      have hsB := HS.out.go (((how.drew).alloc (.cells #[] 31)).alloc (.cells (frC ⟨10, s, en, d, k, on, wt, ex, c, l, n, P⟩ (.slice A P.length cap)) 31))
      have hsC := HS.out.go (((how.drew).alloc (.cells (frC ⟨10, s, en, d, k, on, wt, ex, c, l, n, P⟩ (.slice A P.length cap)) 31)).alloc (.cells #[] 31))
      have hEA := Ow.lit (enc := encF) (sz := 12) (e := 31) (base := w.heap.size) wr.drew (cs := #[]) ([] : List El) rfl rfl (by simp [maxLen]) hwz
      have hEB := hEA.alloc (.cells (frC ⟨10, s, en, d, k, on, wt, ex, c, l, n, P⟩ (.slice A P.length cap)) 31)
      have hEC0 := Ow.lit (enc := encF) (sz := 12) (e := 31) (base := w.heap.size) (wr.drew.alloc (.cells (frC ⟨10, s, en, d, k, on, wt, ex, c, l, n, P⟩ (.slice A P.length cap)) 31)) (cs := #[]) ([] : List El) rfl rfl (by simp [maxLen]) (by simp; omega)
      rw [show (wr.drew.alloc (.cells (frC ⟨10, s, en, d, k, on, wt, ex, c, l, n, P⟩ (.slice A P.length cap)) 31)).heap.size = wr.heap.size + 1 from by simp] at hEC0
      have HEC := Lib.hid hEC0
      clear hEC0
      have HM' := HM.out
      have sA := Lib.hid (Src.sqn (P := Tryd.prog) (tx := 26) Tryd.underlying26 cx 0 hsA (fun _ _ => rfl) (fun x _ => encF_one x) (by decide) HM'.symm)
      have sB := Lib.hid (Src.sqn (P := Tryd.prog) (tx := 26) Tryd.underlying26 cx 0 hsB (fun _ _ => rfl) (fun x _ => encF_one x) (by decide) HM'.symm)
      have sC := Lib.hid (Src.sqn (P := Tryd.prog) (tx := 26) Tryd.underlying26 cx 0 hsC (fun _ _ => rfl) (fun x _ => encF_one x) (by decide) HM'.symm)
      have hmm : ([] : List El).length + L.length = 0 := by rw [HM']; simp
      have HMM := Lib.hid hmm
      have HEA := Lib.hid hEA
      have HEB := Lib.hid hEB
      have HWZ := Lib.hid hwz
      have HW := Lib.hid how
      have HBR := Lib.hid hbr
      clear hsA hsB hsC hEA hEB HM' hmm hwz how
      go_wp2
      have HM1 : Hid (L.length + [(⟨⟨10, s, en, d, k, on, wt, ex, c, l, n, P⟩, A, cap⟩ : El)].length = 0 + 1) := Lib.hid (by rw [HM.out]; rfl)
      clear hbr
      go_region_law (first
        | (refine step_app2 (by rfl) (.tmp 80) (.tmp 81) _ _ (by rfl) w.heap.size 31 Tryd.underlying26 fr_info (by rfl) _ [] (by rfl) HEA.out _ L (by rfl) sA.out (by rw [HMM.out]; omega) (by decide) (by have := HWZ.out; simp; omega) 0 HMM.out L rfl ?_; intro A7 c7 w7 hown7 ho7 hg7; have O7 := Lib.hid (((HW.out.drew).alloc _).own_nil HEA.out ho7); have hb7 := ((HBR.out.drew).alloc (.cells #[] 31)).kept ho7 (fun hh => by simp [ownB, Value.ownBlock] at hh; omega); obtain ⟨e0, e1, e2, e3, e4, e5, e6, e7, e8, e9, e10, e11⟩ := hb7.frm; have z7 := hb7.lt; have hN7 := Lib.hid (Blk.new w7 31 (frC ⟨10, s, en, d, k, on, wt, ex, c, l, n, P⟩ (.slice A P.length cap))); have HOA := Lib.hid (hown7.alloc (.cells (frC ⟨10, s, en, d, k, on, wt, ex, c, l, n, P⟩ (.slice A P.length cap)) 31)); have O7z := Lib.hid ((O7.out.alloc (.cells (frC ⟨10, s, en, d, k, on, wt, ex, c, l, n, P⟩ (.slice A P.length cap)) 31)).size); clear hb7 ho7 hg7 hown7)
        | (refine step_app2 (by rfl) (.tmp 80) (.tmp 81) _ _ (by rfl) w.heap.size 31 Tryd.underlying26 fr_info (by rfl) _ [] (by rfl) HEB.out _ L (by rfl) sB.out (by rw [HMM.out]; omega) (by decide) (by have := HWZ.out; simp; omega) 0 HMM.out L rfl ?_; intro A7 c7 w7 hown7 ho7 hg7; have O7 := Lib.hid ((((HW.out.drew).alloc _).alloc _).own_nil HEB.out ho7); have hN7 := Lib.hid ((newAt (wr.drew.alloc (.cells #[] 31)) 31 (frC ⟨10, s, en, d, k, on, wt, ex, c, l, n, P⟩ (.slice A P.length cap)) (wr.heap.size + 1) (by simp)).kept ho7 (fun hh => by simp [ownB, Value.ownBlock] at hh)); have HOB := Lib.hid hown7; clear ho7 hg7 hown7)
        | (refine step_app2 (by rfl) (.tmp 80) (.tmp 81) _ _ (by rfl) w.heap.size 31 Tryd.underlying26 fr_info (by rfl) _ [] (by rfl) HEC.out _ L (by rfl) sC.out (by rw [HMM.out]; omega) (by decide) (by have := HWZ.out; simp; omega) 0 HMM.out L rfl ?_; intro A7 c7 w7 hown7 ho7 hg7; have O7 := Lib.hid ((((HW.out.drew).alloc _).alloc _).own_nil HEC.out ho7); have hN7 := Lib.hid (((newAt wr.drew 31 (frC ⟨10, s, en, d, k, on, wt, ex, c, l, n, P⟩ (.slice A P.length cap)) wr.heap.size rfl).alloc (.cells #[] 31)).kept ho7 (fun hh => by simp [ownB, Value.ownBlock] at hh)); have HOB := Lib.hid hown7; clear ho7 hg7 hown7)
        | (refine step_app2 (by rfl) (.tmp 82) (.tmp 84) _ _ (by rfl) w.heap.size 31 Tryd.underlying26 fr_info (by rfl) _ L (by rfl) HOA.out _ [⟨⟨10, s, en, d, k, on, wt, ex, c, l, n, P⟩, A, cap⟩] (by rfl) (Src.one (P := Tryd.prog) (enc := encF) (tx := 26) Tryd.underlying26 ⟨⟨10, s, en, d, k, on, wt, ex, c, l, n, P⟩, A, cap⟩ 1 rfl hN7.out rfl (encF_one _)) (by rw [HM1.out]; omega) (by decide) O7z.out (0 + 1) HM1.out (L ++ [⟨⟨10, s, en, d, k, on, wt, ex, c, l, n, P⟩, A, cap⟩]) rfl ?_; intro A9 c9 w9 hown9 ho9 hg9; have O9 := Lib.hid ((O7.out.alloc _).own_nil HOA.out ho9); have HO9 := Lib.hid hown9; clear ho9 hg9 hown9)
        | (refine step_app2 (by rfl) (.tmp 82) (.tmp 84) _ _ (by rfl) w.heap.size 31 Tryd.underlying26 fr_info (by rfl) _ L (by rfl) HOB.out _ [⟨⟨10, s, en, d, k, on, wt, ex, c, l, n, P⟩, A, cap⟩] (by rfl) (Src.one (P := Tryd.prog) (enc := encF) (tx := 26) Tryd.underlying26 ⟨⟨10, s, en, d, k, on, wt, ex, c, l, n, P⟩, A, cap⟩ 1 rfl hN7.out rfl (encF_one _)) (by rw [HM1.out]; omega) (by decide) O7.out.size (0 + 1) HM1.out (L ++ [⟨⟨10, s, en, d, k, on, wt, ex, c, l, n, P⟩, A, cap⟩]) rfl ?_; intro A9 c9 w9 hown9 ho9 hg9; have O9 := Lib.hid (O7.out.own_nil HOB.out ho9); have HO9 := Lib.hid hown9; clear ho9 hg9 hown9)
        )
      all_goals
        go_wp2
        go_ret2
        refine ⟨A9, c9, L ++ [⟨⟨10, s, en, d, k, on, wt, ex, c, l, n, P⟩, A, cap⟩], ?_, O9.out, by simp, HO9.out.sqn (fun x _ => encF_len x), ?_, HO9.out.len.2.2, fun y hy => ?_, fun g o hA => .inr ⟨rfl, (HO9.out.lt (g := g) (by rw [hA]; rfl)).1⟩⟩
        · rw [← HO9.out.len.1]
          rfl
        · rw [← HO9.out.len.1]
          exact HO9.out.len.2.1
        · rcases List.mem_append.1 hy with hy | hy
          · exact HOK.out y hy
          · rw [List.mem_singleton] at hy
            subst hy
            exact HY.out
set_option maxRecDepth 100000 in
set_option maxHeartbeats 4000000 in
theorem RPush_adde11 (w : World) (hS : Sq encF 12 w w.heap.size Ax L) (hc : L.length ≤ cx) (hm : cx ≤ maxLen) (hok : ∀ y ∈ L, ok y) (hrt : ∀ y ∈ L, rightP y.f) (hP : PmIs w (.slice A f.P.length cap) f.P) (hf : rightP f) (h2 : 2 ≤ f.t) (hno : f.t = 11) (hl : L.length < 64) (hl0 : L.length = 0)
    (hy : ok ⟨f, A, cap⟩) : Calls Tryd.prog 12 #[.slice Ax L.length cx, frmV f (.slice A f.P.length cap)] w (RpPost w Ax (L.map El.f ++ [f]) 0 ok) := by
  have hn := (Only.refl Nil w).alloc (.cells (frC f (.slice A f.P.length cap)) 31)
  have hR := Lib.hid (RRight_any f _ (hP.go hn) true ⟨(fun _ => hf), (fun _ => rfl)⟩)
  have hb0 := Blk.new w 31 (frC f (.slice A f.P.length cap))
  have HN := Lib.hid hn
  have HBX := Lib.hid hb0
  have hn4 := hf.n4
  simp only [fourB, Bool.and_eq_true, decide_eq_true_eq] at hn4
  obtain ⟨n0, n1⟩ := hn4
  have HS := Lib.hid hS
  have HRT := Lib.hid hrt
  have HOK := Lib.hid hok
  have HC := Lib.hid (And.intro hc hm)
  have HL := Lib.hid hl
  have HY := Lib.hid hy
  obtain ⟨m, hm'⟩ : ∃ m, m = L.length := ⟨_, rfl⟩
  have HM := Lib.hid hm'
  have h64 : m < 64 := by omega
  have h64' : (m : Int) < 64 := by omega
  rw [← hm']
  have hmc : m ≤ cx := by omega
  obtain ⟨t, s, en, d, k, on, wt, ex, c, l, n, P⟩ := f
  simp only at h2 hno n0 n1
  have htt : ¬ t < 2 := by omega
  have HF11 := Lib.hid hf.t11
  have hm0 : m = 0 := by omega
  subst hno
  clear hS hrt hok hP hf hn hb0 hc hm hl hm' hl0 hy HRT
  subst hm0
  go_enter Tryd.func12, Tryd.ntmps12
  go_wp2_with (first
    | (go_at_call 17; (with_reducible refine (hR.out).mono ?_); rintro e w1 ⟨rfl, ho1⟩; have HO1 := Lib.hid (HN.out.trans ho1); have hb1 := HBX.out.kept ho1 (fun hh => hh); have c0 := hb1.cell 0; have zb := hb1.lt; have HB1 := Lib.hid hb1; clear ho1 hb1)
    )
  go_loopw [6] (fun ii wr => ∃ j : Nat, j ≤ 0 ∧ ii = .int .i64 j ∧ Only Nil w1 wr) (fun ii _ => 0 - (intOf ii).toNat)
  case atStart => exact ⟨0, Nat.zero_le _, rfl, Only.refl _ _⟩
  case round =>
    obtain ⟨j, hj, rfl, ho⟩ := hrel
    have how := HO1.out.trans ho
    by_cases hlt : j < 0
    · exact absurd hlt (Nat.not_lt_zero _)
    · obtain rfl : j = 0 := by omega
      have hwz := how.size
      have hbr := HB1.out.kept ho (fun hh => hh)
      obtain ⟨b0, b1, b2, b3, b4, b5, b6, b7, b8, b9, b10, b11⟩ := hbr.frm
      have bz := hbr.lt
      have hsA := HS.out.go ((how.drew).alloc (.cells #[] 31))
      have hsB := HS.out.go (((how.drew).alloc (.cells #[] 31)).alloc (.cells (frC ⟨11, s, en, d, k, on, wt, ex, c, l, n, P⟩ (.slice A P.length cap)) 31))
      have hsC := HS.out.go (((how.drew).alloc (.cells (frC ⟨11, s, en, d, k, on, wt, ex, c, l, n, P⟩ (.slice A P.length cap)) 31)).alloc (.cells #[] 31))
      have hEA := Ow.lit (enc := encF) (sz := 12) (e := 31) (base := w.heap.size) wr.drew (cs := #[]) ([] : List El) rfl rfl (by simp [maxLen]) hwz
      have hEB := hEA.alloc (.cells (frC ⟨11, s, en, d, k, on, wt, ex, c, l, n, P⟩ (.slice A P.length cap)) 31)
      have hEC0 := Ow.lit (enc := encF) (sz := 12) (e := 31) (base := w.heap.size) (wr.drew.alloc (.cells (frC ⟨11, s, en, d, k, on, wt, ex, c, l, n, P⟩ (.slice A P.length cap)) 31)) (cs := #[]) ([] : List El) rfl rfl (by simp [maxLen]) (by simp; omega)
      rw [show (wr.drew.alloc (.cells (frC ⟨11, s, en, d, k, on, wt, ex, c, l, n, P⟩ (.slice A P.length cap)) 31)).heap.size = wr.heap.size + 1 from by simp] at hEC0
      have HEC := Lib.hid hEC0
      clear hEC0
      have HM' := HM.out
      have sA := Lib.hid (Src.sqn (P := Tryd.prog) (tx := 26) Tryd.underlying26 cx 0 hsA (fun _ _ => rfl) (fun x _ => encF_one x) (by decide) HM'.symm)
      have sB := Lib.hid (Src.sqn (P := Tryd.prog) (tx := 26) Tryd.underlying26 cx 0 hsB (fun _ _ => rfl) (fun x _ => encF_one x) (by decide) HM'.symm)
      have sC := Lib.hid (Src.sqn (P := Tryd.prog) (tx := 26) Tryd.underlying26 cx 0 hsC (fun _ _ => rfl) (fun x _ => encF_one x) (by decide) HM'.symm)
      have hmm : ([] : List El).length + L.length = 0 := by rw [HM']; simp
      have HMM := Lib.hid hmm
      have HEA := Lib.hid hEA
      have HEB := Lib.hid hEB
      have HWZ := Lib.hid hwz
      have HW := Lib.hid how
      have HBR := Lib.hid hbr
      clear hsA hsB hsC hEA hEB HM' hmm hwz how
      go_wp2
      have HM1 : Hid (L.length + [(⟨⟨11, s, en, d, k, on, wt, ex, c, l, n, P⟩, A, cap⟩ : El)].length = 0 + 1) := Lib.hid (by rw [HM.out]; rfl)
      clear hbr
      go_region_law (first
        | (refine step_app2 (by rfl) (.tmp 80) (.tmp 81) _ _ (by rfl) w.heap.size 31 Tryd.underlying26 fr_info (by rfl) _ [] (by rfl) HEA.out _ L (by rfl) sA.out (by rw [HMM.out]; omega) (by decide) (by have := HWZ.out; simp; omega) 0 HMM.out L rfl ?_; intro A7 c7 w7 hown7 ho7 hg7; have O7 := Lib.hid (((HW.out.drew).alloc _).own_nil HEA.out ho7); have hb7 := ((HBR.out.drew).alloc (.cells #[] 31)).kept ho7 (fun hh => by simp [ownB, Value.ownBlock] at hh; omega); obtain ⟨e0, e1, e2, e3, e4, e5, e6, e7, e8, e9, e10, e11⟩ := hb7.frm; have z7 := hb7.lt; have hN7 := Lib.hid (Blk.new w7 31 (frC ⟨11, s, en, d, k, on, wt, ex, c, l, n, P⟩ (.slice A P.length cap))); have HOA := Lib.hid (hown7.alloc (.cells (frC ⟨11, s, en, d, k, on, wt, ex, c, l, n, P⟩ (.slice A P.length cap)) 31)); have O7z := Lib.hid ((O7.out.alloc (.cells (frC ⟨11, s, en, d, k, on, wt, ex, c, l, n, P⟩ (.slice A P.length cap)) 31)).size); clear hb7 ho7 hg7 hown7)
        | (refine step_app2 (by rfl) (.tmp 80) (.tmp 81) _ _ (by rfl) w.heap.size 31 Tryd.underlying26 fr_info (by rfl) _ [] (by rfl) HEB.out _ L (by rfl) sB.out (by rw [HMM.out]; omega) (by decide) (by have := HWZ.out; simp; omega) 0 HMM.out L rfl ?_; intro A7 c7 w7 hown7 ho7 hg7; have O7 := Lib.hid ((((HW.out.drew).alloc _).alloc _).own_nil HEB.out ho7); have hN7 := Lib.hid ((newAt (wr.drew.alloc (.cells #[] 31)) 31 (frC ⟨11, s, en, d, k, on, wt, ex, c, l, n, P⟩ (.slice A P.length cap)) (wr.heap.size + 1) (by simp)).kept ho7 (fun hh => by simp [ownB, Value.ownBlock] at hh)); have HOB := Lib.hid hown7; clear ho7 hg7 hown7)
        | (refine step_app2 (by rfl) (.tmp 80) (.tmp 81) _ _ (by rfl) w.heap.size 31 Tryd.underlying26 fr_info (by rfl) _ [] (by rfl) HEC.out _ L (by rfl) sC.out (by rw [HMM.out]; omega) (by decide) (by have := HWZ.out; simp; omega) 0 HMM.out L rfl ?_; intro A7 c7 w7 hown7 ho7 hg7; have O7 := Lib.hid ((((HW.out.drew).alloc _).alloc _).own_nil HEC.out ho7); have hN7 := Lib.hid (((newAt wr.drew 31 (frC ⟨11, s, en, d, k, on, wt, ex, c, l, n, P⟩ (.slice A P.length cap)) wr.heap.size rfl).alloc (.cells #[] 31)).kept ho7 (fun hh => by simp [ownB, Value.ownBlock] at hh)); have HOB := Lib.hid hown7; clear ho7 hg7 hown7)
        | (refine step_app2 (by rfl) (.tmp 82) (.tmp 84) _ _ (by rfl) w.heap.size 31 Tryd.underlying26 fr_info (by rfl) _ L (by rfl) HOA.out _ [⟨⟨11, s, en, d, k, on, wt, ex, c, l, n, P⟩, A, cap⟩] (by rfl) (Src.one (P := Tryd.prog) (enc := encF) (tx := 26) Tryd.underlying26 ⟨⟨11, s, en, d, k, on, wt, ex, c, l, n, P⟩, A, cap⟩ 1 rfl hN7.out rfl (encF_one _)) (by rw [HM1.out]; omega) (by decide) O7z.out (0 + 1) HM1.out (L ++ [⟨⟨11, s, en, d, k, on, wt, ex, c, l, n, P⟩, A, cap⟩]) rfl ?_; intro A9 c9 w9 hown9 ho9 hg9; have O9 := Lib.hid ((O7.out.alloc _).own_nil HOA.out ho9); have HO9 := Lib.hid hown9; clear ho9 hg9 hown9)
        | (refine step_app2 (by rfl) (.tmp 82) (.tmp 84) _ _ (by rfl) w.heap.size 31 Tryd.underlying26 fr_info (by rfl) _ L (by rfl) HOB.out _ [⟨⟨11, s, en, d, k, on, wt, ex, c, l, n, P⟩, A, cap⟩] (by rfl) (Src.one (P := Tryd.prog) (enc := encF) (tx := 26) Tryd.underlying26 ⟨⟨11, s, en, d, k, on, wt, ex, c, l, n, P⟩, A, cap⟩ 1 rfl hN7.out rfl (encF_one _)) (by rw [HM1.out]; omega) (by decide) O7.out.size (0 + 1) HM1.out (L ++ [⟨⟨11, s, en, d, k, on, wt, ex, c, l, n, P⟩, A, cap⟩]) rfl ?_; intro A9 c9 w9 hown9 ho9 hg9; have O9 := Lib.hid (O7.out.own_nil HOB.out ho9); have HO9 := Lib.hid hown9; clear ho9 hg9 hown9)
        )
      all_goals
        go_wp2
        go_ret2
        refine ⟨A9, c9, L ++ [⟨⟨11, s, en, d, k, on, wt, ex, c, l, n, P⟩, A, cap⟩], ?_, O9.out, by simp, HO9.out.sqn (fun x _ => encF_len x), ?_, HO9.out.len.2.2, fun y hy => ?_, fun g o hA => .inr ⟨rfl, (HO9.out.lt (g := g) (by rw [hA]; rfl)).1⟩⟩
        · rw [← HO9.out.len.1]
          rfl
        · rw [← HO9.out.len.1]
          exact HO9.out.len.2.1
        · rcases List.mem_append.1 hy with hy | hy
          · exact HOK.out y hy
          · rw [List.mem_singleton] at hy
            subst hy
            exact HY.out
theorem RPush_add (w : World) (hS : Sq encF 12 w w.heap.size Ax L) (hc : L.length ≤ cx) (hm : cx ≤ maxLen) (hok : ∀ y ∈ L, ok y) (hrt : ∀ y ∈ L, rightP y.f) (hP : PmIs w (.slice A f.P.length cap) f.P) (hf : rightP f) (h2 : 2 ≤ f.t) (hno : Alone (L.map El.f) f) (hl : L.length < 64) 
    (hy : ok ⟨f, A, cap⟩) : Calls Tryd.prog 12 #[.slice Ax L.length cx, frmV f (.slice A f.P.length cap)] w (RpPost w Ax (L.map El.f ++ [f]) 0 ok) := by
  rcases Nat.eq_zero_or_pos L.length with hl0 | hl0
  · by_cases ht : f.t ≠ 10 ∧ f.t ≠ 11
    · exact RPush_adde0 w hS hc hm hok hrt hP hf h2 ht hl hl0 hy
    · have ht' : f.t = 10 ∨ f.t = 11 := by omega
      rcases ht' with h | h
      · exact RPush_adde10 w hS hc hm hok hrt hP hf h2 h hl hl0 hy
      · exact RPush_adde11 w hS hc hm hok hrt hP hf h2 h hl hl0 hy
  · by_cases ht : f.t ≠ 10 ∧ f.t ≠ 11
    · exact RPush_add0 w hS hc hm hok hrt hP hf h2 ht hl hl0 hy
    · have hno' := hno.resolve_left ht
      have ht' : f.t = 10 ∨ f.t = 11 := by omega
      rcases ht' with h | h
      · exact RPush_add10 w hS hc hm hok hrt hP hf h2 h hno' hl hl0 hy
      · exact RPush_add11 w hS hc hm hok hrt hP hf h2 h hno' hl hl0 hy
end
end Go.Proofs.YtgiplefnggnpcaaDoor
