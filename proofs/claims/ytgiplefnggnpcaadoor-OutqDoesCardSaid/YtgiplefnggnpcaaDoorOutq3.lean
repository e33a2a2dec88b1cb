/- A queue of frames of the call's own: a frame is put together with one that waits; Push. -/
import Derived.Test.YtgiplefnggnpcaaDoorOutq2
namespace Go.Proofs.YtgiplefnggnpcaaDoor
open Go.RowKit Nd

/-- a frame that waits, with more -/
def El.more (x : El) (n : Int) : El := ⟨{ x.f with n := x.f.n + n }, x.A, x.cap⟩
theorem right_more {f : Frm} {n : Int} (h : rightP f) (ht : 10 ≤ f.t) (h0 : 0 ≤ f.n + n) (h1 : f.n + n ≤ 2147483647) : rightP { f with n := f.n + n } :=
  ⟨h.t0, h.t11, h.s0, h.sm, h.zero, h.one, h.en, h.k, h.c, h.l, .inl ht, h.P, h.dep, h.d, h.dl, h.d8, h.k2, h.dep2, h.pms, h.c4, h.l4, by simp [fourB, h0, h1]⟩
section
variable {w w' : World} {b base : Nat} {v : Value} {L : List El}
theorem Oq.joined {g o n cap : Nat} (h : Oq w b base (.slice (some ⟨g, o, none⟩) n cap) L) {i : Nat} {x : El} (hx : L[i]? = some x) (m : Int) (ht : 10 ≤ x.f.t) (h0 : 0 ≤ x.f.n + m) (h1 : x.f.n + m ≤ 2147483647) :
    Oq (w.setCell ⟨g, o + i * 12 + 10, none⟩ (.int .i64 (x.f.n + m))) b base (.slice (some ⟨g, o, none⟩) n cap) (L.set i (x.more m)) := by
  have hxm := List.mem_of_getElem? hx
  have hgb : b ≠ g := by
    have := h.own.ne h.blk (by decide)
    exact fun e => this (by rw [e]; rfl)
  have hO : Only (Fp b (.slice (some ⟨g, o, none⟩) n cap)) w (w.setCell ⟨g, o + i * 12 + 10, none⟩ (.int .i64 (x.f.n + m))) := (Only.refl _ _).setCell (p := ⟨g, _, none⟩) (fun _ => .inr rfl) _
  refine ⟨h.blk.far (p := ⟨g, _, none⟩) hgb _, h.own.putC encF_len i 10 hx (by decide) (x.more m) _ rfl, fun y hy => ?_, fun y hy => ?_, h.hb⟩
  · rcases List.mem_or_eq_of_mem_set hy with hy | rfl
    · exact h.pm (h.ps y hy) hO
    · exact h.pm (x := x.more m) (h.ps x hxm) hO
  · rcases List.mem_or_eq_of_mem_set hy with hy | rfl
    · exact h.rt y hy
    · exact right_more (h.rt x hxm) ht h0 h1
set_option maxRecDepth 100000 in
set_option maxHeartbeats 4000000 in
theorem joiner1_yes (f : Frm) (p : Value) {g : Nat} (w : World) (hg : Blk w g 23 #[.pointer (some ⟨b, 0, none⟩)]) (h : Oq w b base v L) (i : Nat) (x : El) (hi : L[i]? = some x) (hfit : fits f x.f = true) (hbf : ∀ j y, j < i → L[j]? = some y → fits f y.f = false)
    (ht : f.t = 10 ∨ f.t = 11) (n0 : 0 ≤ f.n) (n1 : f.n ≤ 2147483647) (hl : L.length ≤ 64) : Calls Tryd.prog 28 #[frmV f p, .pointer (some ⟨g, 0, none⟩)] w (OqPost w b base v (.bool true) (L.set i (x.more f.n))) := by
  have hil := (List.getElem?_eq_some_iff.1 hi).1
  obtain ⟨g6, o6, cap, rfl, hc, hm⟩ := h.some_ (by omega)
  have hn := (Only.refl Nil w).alloc (.cells (frC f p) 31)
  have c0 := hg.cell 0
  have zg := hg.lt
  obtain ⟨t, s, en, d, k, on, wt, ex, c, l, n, P⟩ := f
  simp only at ht n0 n1 ⊢
  have hb := Blk.new w 31 (frC ⟨t, s, en, d, k, on, wt, ex, c, l, n, P⟩ p)
  have HB := Lib.hid (fun W (ho : Only Nil w W) (hb : Blk W w.heap.size 31 (frC ⟨t, s, en, d, k, on, wt, ex, c, l, n, P⟩ p)) => And.intro (hb.cell 0) (And.intro (hb.cell 1) (And.intro (hb.cell 10) hb.lt)))
  have d0 := h.cell
  have zb := h.blk.lt
  have HBF := Lib.hid hbf
  have HFIT := Lib.hid hfit
  have HI := Lib.hid hi
  have HN := Lib.hid hn
  have HBk := Lib.hid hb
  have HG := Lib.hid hg
  obtain ⟨m, hm'⟩ : ∃ m, m = L.length := ⟨_, rfl⟩
  have HM := Lib.hid hm'
  have hm64 : m ≤ 64 := by omega
  rw [← hm'] at d0
  have HQ' : Hid (∀ W, Only Nil w W → Oq W b base (.slice (some ⟨g6, o6, none⟩) m cap) L) := Lib.hid (by rw [hm']; exact fun W ho => h.kept ho)
  have z6 := h.rowLt
  rw [← hm'] at hil ⊢
  clear h hn hb hl hm' hc hbf hfit hi hg
  unfold OqPost
  rcases ht with rfl | rfl
  all_goals
    go_enter Tryd.func28, Tryd.ntmps28
    go_wp2
    go_loopw [19] (fun ii wr => ∃ j : Nat, j ≤ i ∧ ii = .int .i64 j ∧ Only Nil (w.alloc (.cells (frC ⟨_, s, en, d, k, on, wt, ex, c, l, n, P⟩ p) 31)) wr) (fun ii _ => m - (intOf ii).toNat)
    case atStart => exact ⟨0, Nat.zero_le _, rfl, Only.refl _ _⟩
    case round =>
      obtain ⟨j, hj, rfl, ho⟩ := hrel
      have how := HN.out.trans ho
      obtain ⟨a0, a1, a10, za⟩ := HB.out wr how (HBk.out.kept ho (fun hh => hh))
      have zb' : b < wr.heap.size := Nat.lt_of_lt_of_le zb how.size
      have z6' : g6 < wr.heap.size := Nat.lt_of_lt_of_le z6 how.size
      have d0' : wr.cell? ⟨b, 0, none⟩ = some (.slice (some ⟨g6, o6, none⟩) m cap) := (HQ'.out wr how).cell
      have c0' : wr.cell? ⟨g, 0, none⟩ = some (.pointer (some ⟨b, 0, none⟩)) := (HG.out.kept how (fun hh => hh)).cell 0
      have zg' : g < wr.heap.size := Nat.lt_of_lt_of_le zg how.size
      have hjm : j < m := by omega
      have hjm' : (j : Int) < m := by omega
      by_cases hlt : j < i
      · obtain ⟨y, hy⟩ : ∃ y, L[j]? = some y := ⟨_, List.getElem?_eq_getElem (by rw [← HM.out]; exact hjm)⟩
        obtain ⟨p0, p1, p2, p3, p4, p5, p6, p7, p8, p9, p10, p11⟩ := (HQ'.out wr how).el hy
        have hfx := HBF.out j y hlt hy
        have hr := (HQ'.out wr how).rt y (List.mem_of_getElem? hy)
        have x0 : 0 ≤ y.f.n ∧ y.f.n ≤ 2147483647 := by
          have := hr.n4
          simpa [fourB] using this
        obtain ⟨x0, x1⟩ := x0
        obtain ⟨⟨xt, xs, xen, xd, xk, xon, xwt, xex, xc, xl, xn, xP⟩, xA, xcap⟩ := y
        simp only at p0 p1 p2 p3 p4 p5 p6 p7 p8 p9 p10 p11 x0 x1
        have hfx' := three (of_decide_eq_false hfx)
        simp only at hfx'
        clear hfx hy hr how
        rcases hfx' with e1 | ⟨rfl, e1⟩ | ⟨rfl, rfl, e1⟩
        ·
          go_wp2
          go_roundw
          case rel => exact ⟨j + 1, by omega, by go_num, ho.alloc _⟩
          case measure => simp [intOf]; omega
        ·
          go_wp2
          go_roundw
          case rel => exact ⟨j + 1, by omega, by go_num, ho.alloc _⟩
          case measure => simp [intOf]; omega
        have e2 : 2147483647 < xn + n := by omega
        clear e1
        go_wp2
        go_roundw
        case rel => exact ⟨j + 1, by omega, by go_num, ho.alloc _⟩
        case measure => simp [intOf]; omega
      · obtain rfl : j = i := by omega
        obtain ⟨p0, p1, p2, p3, p4, p5, p6, p7, p8, p9, p10, p11⟩ := (HQ'.out wr how).el HI.out
        have hr := (HQ'.out wr how).rt x (List.mem_of_getElem? HI.out)
        have x0 : 0 ≤ x.f.n ∧ x.f.n ≤ 2147483647 := by
          have := hr.n4
          simpa [fourB] using this
        obtain ⟨x0, x1⟩ := x0
        have hfx : x.f.t = _ ∧ x.f.s = s ∧ x.f.n + n ≤ 2147483647 := of_decide_eq_true HFIT.out
        obtain ⟨e1, e2, e3⟩ := hfx
        have hJ := Lib.hid ((HQ'.out wr how).joined HI.out n (by simp only at e1; omega) (by omega) e3)
        have q10 := (HQ'.out wr how).own.frzN (o6 + j * 12 + 10)
        have ew : IntKind.i64.wrap (x.f.n + n) = x.f.n + n := IntWalk.i64_in _ (by omega)
        have HW := Lib.hid how
        obtain ⟨⟨xt, xs, xen, xd, xk, xon, xwt, xex, xc, xl, xn, xP⟩, xA, xcap⟩ := x
        simp only at p0 p1 p2 p3 p4 p5 p6 p7 p8 p9 p10 p11 x0 x1 e1 e2 e3 ew
        subst e1 e2
        clear hr how
        go_wp2
        go_region
        go_wp2
        go_ret
        exact ⟨_, rfl, hJ.out.kept (((Only.refl _ _).alloc _).drew), ((((HW.out.of_nil _).setCell (p := ⟨g6, o6 + j * 12 + 10, none⟩) (fun _ => Or.inr rfl) _).alloc _).drew), fun g hg => Or.inl hg⟩
end
end Go.Proofs.YtgiplefnggnpcaaDoor
