/- A queue of frames of the call's own: a frame is put together with one that waits. -/
import Derived.Test.YtgiplefnggnpcaaDoorOutq
namespace Go.Proofs.YtgiplefnggnpcaaDoor
open Go.RowKit Nd

theorem three {a b c : Prop} (h : ¬ (a ∧ b ∧ c)) : ¬ a ∨ (a ∧ ¬ b) ∨ (a ∧ b ∧ ¬ c) := by
  by_cases h1 : a
  · by_cases h2 : b
    · exact .inr (.inr ⟨h1, h2, fun h3 => h ⟨h1, h2, h3⟩⟩)
    · exact .inr (.inl ⟨h1, h2⟩)
  · exact .inl h1
def fits (f g : Frm) : Bool := decide (g.t = f.t ∧ g.s = f.s ∧ g.n + f.n ≤ 2147483647)
section
variable {w w' : World} {b base : Nat} {v : Value} {L : List El}
theorem Oq.el {g o n cap : Nat} (h : Oq w b base (.slice (some ⟨g, o, none⟩) n cap) L) {j : Nat} {x : El} (hx : L[j]? = some x) :
    w.cell? ⟨g, o + j * 12, none⟩ = some (.int .i64 x.f.t) ∧ w.cell? ⟨g, o + j * 12 + 1, none⟩ = some (.int .i64 x.f.s) ∧ w.cell? ⟨g, o + j * 12 + 2, none⟩ = some (.bool x.f.en) ∧ w.cell? ⟨g, o + j * 12 + 3, none⟩ = some (.string x.f.d) ∧
    w.cell? ⟨g, o + j * 12 + 4, none⟩ = some (.int .i64 x.f.k) ∧ w.cell? ⟨g, o + j * 12 + 5, none⟩ = some (.int .i64 x.f.on) ∧ w.cell? ⟨g, o + j * 12 + 6, none⟩ = some (.int .i64 x.f.wt) ∧ w.cell? ⟨g, o + j * 12 + 7, none⟩ = some (.bool x.f.ex) ∧
    w.cell? ⟨g, o + j * 12 + 8, none⟩ = some (.int .i64 x.f.c) ∧ w.cell? ⟨g, o + j * 12 + 9, none⟩ = some (.int .i64 x.f.l) ∧ w.cell? ⟨g, o + j * 12 + 10, none⟩ = some (.int .i64 x.f.n) ∧ w.cell? ⟨g, o + j * 12 + 11, none⟩ = some x.p := by
  obtain ⟨g', o', y, e, hb, hy, _, hc⟩ := (h.own.sqn (fun x _ => encF_len x)).at_ (k := j) (List.getElem?_eq_some_iff.1 hx).1
  injection e with e
  injection e with e1 e2
  subst e1 e2
  rw [hx] at hy
  injection hy with hy
  subst hy
  exact ⟨hc 0 (by decide), hc 1 (by decide), hc 2 (by decide), hc 3 (by decide), hc 4 (by decide), hc 5 (by decide), hc 6 (by decide), hc 7 (by decide), hc 8 (by decide), hc 9 (by decide), hc 10 (by decide), hc 11 (by decide)⟩
theorem Oq.rowLt {g o n cap : Nat} (h : Oq w b base (.slice (some ⟨g, o, none⟩) n cap) L) : g < w.heap.size := (h.own.lt (g := g) rfl).2
theorem Oq.some_ (h : Oq w b base v L) (hl : 0 < L.length) : ∃ g o cap, v = .slice (some ⟨g, o, none⟩) L.length cap ∧ L.length ≤ cap ∧ cap ≤ maxLen := by
  obtain ⟨A, cap, rfl, hc, hm⟩ := h.own.form
  obtain ⟨g, o, _, rfl, _⟩ := (h.own.sqn (fun x _ => encF_len x)).at_ (k := 0) hl
  exact ⟨g, o, cap, rfl, hc, hm⟩
set_option maxRecDepth 100000 in
set_option maxHeartbeats 4000000 in
theorem joiner1_no (f : Frm) (p : Value) {g : Nat} (w : World) (hg : Blk w g 23 #[.pointer (some ⟨b, 0, none⟩)]) (h : Oq w b base v L) (hno : (f.t ≠ 10 ∧ f.t ≠ 11) ∨ ∀ x ∈ L, fits f x.f = false) (n0 : 0 ≤ f.n) (n1 : f.n ≤ 2147483647) (hl : L.length ≤ 64) :
    Calls Tryd.prog 28 #[frmV f p, .pointer (some ⟨g, 0, none⟩)] w fun x w' => x = .returned (.bool false) ∧ Only Nil w w' := by
  have hn := (Only.refl Nil w).alloc (.cells (frC f p) 31)
  have c0 := hg.cell 0
  have zg := hg.lt
  obtain ⟨t, s, en, d, k, on, wt, ex, c, l, n, P⟩ := f
  simp only at hno n0 n1
  by_cases ht : t ≠ 10 ∧ t ≠ 11
  · obtain ⟨g1, g2⟩ := ht
    have h1 : ¬ t = 10 := g1
    have h2 : ¬ t = 11 := g2
    have h3 : (t != 10) = true := by simpa using h1
    have h4 : (t != 11) = true := by simpa using h2
    clear hno h g1 g2
    go_enter Tryd.func28, Tryd.ntmps28
    go_wp2
    go_ret
    exact ⟨rfl, hn⟩
  have hno' : ∀ x ∈ L, fits ⟨t, s, en, d, k, on, wt, ex, c, l, n, P⟩ x.f = false := hno.resolve_left ht
  have hb := Blk.new w 31 (frC ⟨t, s, en, d, k, on, wt, ex, c, l, n, P⟩ p)
  have HB := Lib.hid (fun W (ho : Only Nil w W) (hb : Blk W w.heap.size 31 (frC ⟨t, s, en, d, k, on, wt, ex, c, l, n, P⟩ p)) => And.intro (hb.cell 0) (And.intro (hb.cell 1) (And.intro (hb.cell 10) hb.lt)))
  have d0 := h.cell
  have zb := h.blk.lt
  have HQ := Lib.hid (fun W (ho : Only Nil w W) => h.kept ho)
  have HNO := Lib.hid hno'
  have HN := Lib.hid hn
  have HBk := Lib.hid hb
  rcases Nat.eq_zero_or_pos L.length with e0 | hpos
  · obtain ⟨A, cap, rfl, -, -⟩ := h.own.form
    rw [e0] at d0
    clear hno h hno' hn hb hl e0
    have ht' : t = 10 ∨ t = 11 := by omega
    rcases ht' with rfl | rfl
    all_goals
      clear ht
      go_enter Tryd.func28, Tryd.ntmps28
      go_wp2
      go_loopw [19] (fun ii wr => ii = .int .i64 0 ∧ Only Nil w wr) (fun _ _ => 0)
      case atStart => exact ⟨rfl, HN.out⟩
      case round =>
        obtain ⟨rfl, ho⟩ := hrel
        go_wp2
        go_ret
        exact ⟨rfl, ho⟩
  · obtain ⟨g6, o6, cap, rfl, hc, hm⟩ := h.some_ hpos
    obtain ⟨m, hm'⟩ : ∃ m, m = L.length := ⟨_, rfl⟩
    have HM := Lib.hid hm'
    have hm64 : m ≤ 64 := by omega
    rw [← hm'] at d0
    have HQ' : Hid (∀ W, Only Nil w W → Oq W b base (.slice (some ⟨g6, o6, none⟩) m cap) L) := Lib.hid (by rw [hm']; exact HQ.out)
    have z6 := h.rowLt
    clear hno h hno' hn hb hl hm' hc HQ hpos
    have ht' : t = 10 ∨ t = 11 := by omega
    rcases ht' with rfl | rfl
    all_goals
      clear ht
      go_enter Tryd.func28, Tryd.ntmps28
      go_wp2
      go_loopw [19] (fun ii wr => ∃ j : Nat, j ≤ m ∧ ii = .int .i64 j ∧ Only Nil (w.alloc (.cells (frC ⟨_, s, en, d, k, on, wt, ex, c, l, n, P⟩ p) 31)) wr) (fun ii _ => m - (intOf ii).toNat)
      case atStart => exact ⟨0, Nat.zero_le _, rfl, Only.refl _ _⟩
      case round =>
        obtain ⟨j, hj, rfl, ho⟩ := hrel
        have how := HN.out.trans ho
        obtain ⟨a0, a1, a10, za⟩ := HB.out wr how (HBk.out.kept ho (fun hh => hh))
        have zb' : b < wr.heap.size := Nat.lt_of_lt_of_le zb how.size
        have z6' : g6 < wr.heap.size := Nat.lt_of_lt_of_le z6 how.size
        by_cases hlt : j < m
        · have hlt' : (j : Int) < m := by omega
          obtain ⟨x, hx⟩ : ∃ x, L[j]? = some x := ⟨_, List.getElem?_eq_getElem (by rw [← HM.out]; exact hlt)⟩
          obtain ⟨p0, p1, p2, p3, p4, p5, p6, p7, p8, p9, p10, p11⟩ := (HQ'.out wr how).el hx
          have hxm := List.mem_of_getElem? hx
          have hfx := HNO.out x hxm
          have hr := (HQ'.out wr how).rt x hxm
          have x0 : 0 ≤ x.f.n ∧ x.f.n ≤ 2147483647 := by
            have := hr.n4
            simpa [fourB] using this
          obtain ⟨x0, x1⟩ := x0
          obtain ⟨⟨xt, xs, xen, xd, xk, xon, xwt, xex, xc, xl, xn, xP⟩, xA, xcap⟩ := x
          simp only at p0 p1 p2 p3 p4 p5 p6 p7 p8 p9 p10 p11 x0 x1
          have hfx' := three (of_decide_eq_false hfx)
          simp only at hfx'
          clear hfx hx hxm hr how
          rcases hfx' with e1 | ⟨rfl, e1⟩ | ⟨rfl, rfl, e1⟩
          ·
            go_wp2
            go_roundw
            case rel => exact ⟨j + 1, by omega, by go_num, ho.alloc _⟩
            case measure => simp [intOf]; omega
          ·
            go_wp2
            go_roundw
            case rel => exact ⟨j + 1, by omega, by go_num, ho.alloc _⟩
            case measure => simp [intOf]; omega
          have e2 : 2147483647 < xn + n := by omega
          clear e1
          go_wp2
          go_roundw
          case rel => exact ⟨j + 1, by omega, by go_num, ho.alloc _⟩
          case measure => simp [intOf]; omega
        · obtain rfl : j = m := by omega
          go_wp2
          go_ret
          exact ⟨rfl, how⟩
end
end Go.Proofs.YtgiplefnggnpcaaDoor
