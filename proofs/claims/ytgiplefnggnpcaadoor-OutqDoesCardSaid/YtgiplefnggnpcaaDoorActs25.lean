/- The calls of a queue of frames that came in; sums; where a frame has room. -/
import Derived.Test.YtgiplefnggnpcaaDoorAwake25
namespace Go.Proofs.YtgiplefnggnpcaaDoor
open Go.RowKit Nd

structure Ac where
  x : El
  many : Int
  nx : Bool
  cl : Bool
def encA (a : Ac) : List Value := [.int .i64 a.x.f.t, .int .i64 a.x.f.s, .bool a.x.f.en, .string a.x.f.d, .int .i64 a.x.f.k, .int .i64 a.x.f.on, .int .i64 a.x.f.wt, .bool a.x.f.ex, .int .i64 a.x.f.c, .int .i64 a.x.f.l, .int .i64 a.x.f.n, a.x.p, .int .u8 a.many, .bool a.nx, .bool a.cl]
abbrev acC (a : Ac) : Array Value := #[.int .i64 a.x.f.t, .int .i64 a.x.f.s, .bool a.x.f.en, .string a.x.f.d, .int .i64 a.x.f.k, .int .i64 a.x.f.on, .int .i64 a.x.f.wt, .bool a.x.f.ex, .int .i64 a.x.f.c, .int .i64 a.x.f.l, .int .i64 a.x.f.n, a.x.p, .int .u8 a.many, .bool a.nx, .bool a.cl]
theorem Blk.act {w : World} {b : Nat} {ty : TypeId} {a : Ac} (h : Blk w b ty (acC a)) :
    w.cell? ⟨b, 0, none⟩ = some (.int .i64 a.x.f.t) ∧ w.cell? ⟨b, 1, none⟩ = some (.int .i64 a.x.f.s) ∧ w.cell? ⟨b, 2, none⟩ = some (.bool a.x.f.en) ∧ w.cell? ⟨b, 3, none⟩ = some (.string a.x.f.d) ∧
    w.cell? ⟨b, 4, none⟩ = some (.int .i64 a.x.f.k) ∧ w.cell? ⟨b, 5, none⟩ = some (.int .i64 a.x.f.on) ∧ w.cell? ⟨b, 6, none⟩ = some (.int .i64 a.x.f.wt) ∧ w.cell? ⟨b, 7, none⟩ = some (.bool a.x.f.ex) ∧
    w.cell? ⟨b, 8, none⟩ = some (.int .i64 a.x.f.c) ∧ w.cell? ⟨b, 9, none⟩ = some (.int .i64 a.x.f.l) ∧ w.cell? ⟨b, 10, none⟩ = some (.int .i64 a.x.f.n) ∧ w.cell? ⟨b, 11, none⟩ = some a.x.p ∧
    w.cell? ⟨b, 12, none⟩ = some (.int .u8 a.many) ∧ w.cell? ⟨b, 13, none⟩ = some (.bool a.nx) ∧ w.cell? ⟨b, 14, none⟩ = some (.bool a.cl) :=
  ⟨h.cell 0, h.cell 1, h.cell 2, h.cell 3, h.cell 4, h.cell 5, h.cell 6, h.cell 7, h.cell 8, h.cell 9, h.cell 10, h.cell 11, h.cell 12, h.cell 13, h.cell 14⟩
theorem PmIs.below {w w' : World} {p : Value} {P : List Prm} (h : PmIs w p P) (hb : Below w.heap.size w w') : PmIs w' p P := by
  obtain ⟨A, cap, hp, h1, h2, h3⟩ := h
  exact ⟨A, cap, hp, h1, h2, (h3.below hb).more hb.size⟩
/-- the list of calls: element k -/
theorem acts_at {w w' : World} {A : Option Addr} {l : List Ac} (h : Sq encA 15 w w.heap.size A l) (hb : Below w.heap.size w w') {k : Nat} (hk : k < l.length) : ∃ b off a, A = some ⟨b, off, none⟩ ∧ b < w'.heap.size ∧ l[k]? = some a ∧
    (w'.cell? ⟨b, off + k * 15, none⟩ = some (.int .i64 a.x.f.t) ∧ w'.cell? ⟨b, off + k * 15 + 1, none⟩ = some (.int .i64 a.x.f.s) ∧ w'.cell? ⟨b, off + k * 15 + 2, none⟩ = some (.bool a.x.f.en) ∧ w'.cell? ⟨b, off + k * 15 + 3, none⟩ = some (.string a.x.f.d) ∧
    w'.cell? ⟨b, off + k * 15 + 4, none⟩ = some (.int .i64 a.x.f.k) ∧ w'.cell? ⟨b, off + k * 15 + 5, none⟩ = some (.int .i64 a.x.f.on) ∧ w'.cell? ⟨b, off + k * 15 + 6, none⟩ = some (.int .i64 a.x.f.wt) ∧ w'.cell? ⟨b, off + k * 15 + 7, none⟩ = some (.bool a.x.f.ex) ∧
    w'.cell? ⟨b, off + k * 15 + 8, none⟩ = some (.int .i64 a.x.f.c) ∧ w'.cell? ⟨b, off + k * 15 + 9, none⟩ = some (.int .i64 a.x.f.l) ∧ w'.cell? ⟨b, off + k * 15 + 10, none⟩ = some (.int .i64 a.x.f.n) ∧ w'.cell? ⟨b, off + k * 15 + 11, none⟩ = some a.x.p ∧
    w'.cell? ⟨b, off + k * 15 + 12, none⟩ = some (.int .u8 a.many) ∧ w'.cell? ⟨b, off + k * 15 + 13, none⟩ = some (.bool a.nx) ∧ w'.cell? ⟨b, off + k * 15 + 14, none⟩ = some (.bool a.cl)) := by
  obtain ⟨b, off, a, rfl, hlt, hx, _, hc⟩ := (h.below hb).at_ hk
  exact ⟨b, off, a, rfl, Nat.lt_of_lt_of_le hlt hb.size, hx, hc 0 (by decide), hc 1 (by decide), hc 2 (by decide), hc 3 (by decide), hc 4 (by decide), hc 5 (by decide), hc 6 (by decide), hc 7 (by decide), hc 8 (by decide), hc 9 (by decide), hc 10 (by decide), hc 11 (by decide), hc 12 (by decide), hc 13 (by decide), hc 14 (by decide)⟩
def okA (w : World) (a : Ac) : Prop := PmIs w a.x.p a.x.f.P ∧ 0 ≤ a.many ∧ a.many ≤ 255
theorem Kd.acts {w : World} {v : Value} (h : Kd.Fit w (.slc (.agg [.agg [.int .i64, .int .i64, .bool, .str, .int .i64, .agg [.int .i64, .int .i64, .bool], .int .i64, .int .i64, .int .i64, .slc (.agg [.int .i64, .int .i64])], .int .u8, .bool, .bool])) v) : ∃ (l : List Ac) (A : Option Addr) (cap : Nat), v = .slice A l.length cap ∧ l.length ≤ cap ∧ cap ≤ maxLen ∧ (∀ a ∈ l, okA w a) ∧ Sq encA 15 w w.heap.size A l := by
  obtain ⟨A, len, cap, rfl, hsl⟩ := Kd.slc_fit h
  obtain ⟨l, hl, hok, hS⟩ := hsl.list (by decide) encA (okA w) (fun cs hcs hi => by
    have hc : Kd.IsL w [.agg [.int .i64, .int .i64, .bool, .str, .int .i64, .agg [.int .i64, .int .i64, .bool], .int .i64, .int .i64, .int .i64, .slc (.agg [.int .i64, .int .i64])], .int .u8, .bool, .bool] cs := hi
    unfold Kd.IsL at hc
    obtain ⟨fs, r, rfl, hfl, hf, hc⟩ := hc
    obtain ⟨u0, r0, rfl, k0, hc⟩ := Kd.headL rfl hc
    obtain ⟨u1, r1, rfl, k1, hc⟩ := Kd.headL rfl hc
    obtain ⟨u2, r2, rfl, k2, hc⟩ := Kd.headL rfl hc
    obtain rfl := Kd.end_ hc
    obtain ⟨many, rfl, hm⟩ := Kd.int_is k0
    obtain ⟨nx, rfl⟩ := Kd.bool_is k1
    obtain ⟨cl, rfl⟩ := Kd.bool_is k2
    have hc : Kd.IsL w [.int .i64, .int .i64, .bool, .str, .int .i64, .agg [.int .i64, .int .i64, .bool], .int .i64, .int .i64, .int .i64, .slc (.agg [.int .i64, .int .i64])] fs := hf
    obtain ⟨v0, c0, rfl, i0, hc⟩ := Kd.headL rfl hc
    obtain ⟨v1, c1, rfl, i1, hc⟩ := Kd.headL rfl hc
    obtain ⟨v2, c2, rfl, i2, hc⟩ := Kd.headL rfl hc
    obtain ⟨v3, c3, rfl, i3, hc⟩ := Kd.headL rfl hc
    obtain ⟨v4, c4, rfl, i4, hc⟩ := Kd.headL rfl hc
    unfold Kd.IsL at hc
    obtain ⟨d, r, rfl, hdl, hd, hc⟩ := hc
    obtain ⟨v6, c6, rfl, i6, hc⟩ := Kd.headL rfl hc
    obtain ⟨v7, c7, rfl, i7, hc⟩ := Kd.headL rfl hc
    obtain ⟨v8, c8, rfl, i8, hc⟩ := Kd.headL rfl hc
    obtain ⟨v9, c9, rfl, i9, hc⟩ := Kd.headL rfl hc
    obtain rfl := Kd.end_ hc
    have hd' : Kd.IsL w [.int .i64, .int .i64, .bool] d := hd
    obtain ⟨d0, e0, rfl, j0, hd'⟩ := Kd.headL rfl hd'
    obtain ⟨d1, e1, rfl, j1, hd'⟩ := Kd.headL rfl hd'
    obtain ⟨d2, e2, rfl, j2, hd'⟩ := Kd.headL rfl hd'
    obtain rfl := Kd.end_ hd'
    obtain ⟨t, rfl, wt⟩ := Kd.int_is i0
    obtain ⟨s, rfl, ws⟩ := Kd.int_is i1
    obtain ⟨en, rfl⟩ := Kd.bool_is i2
    obtain ⟨dd, rfl, hdd⟩ := Kd.str_is i3
    obtain ⟨k, rfl, -⟩ := Kd.int_is i4
    obtain ⟨on, rfl, -⟩ := Kd.int_is j0
    obtain ⟨wtt, rfl, -⟩ := Kd.int_is j1
    obtain ⟨ex, rfl⟩ := Kd.bool_is j2
    obtain ⟨c, rfl, -⟩ := Kd.int_is i6
    obtain ⟨l, rfl, -⟩ := Kd.int_is i7
    obtain ⟨n, rfl, wn⟩ := Kd.int_is i8
    obtain ⟨A, m, cap, rfl, hsl⟩ := Kd.slc_is i9
    obtain ⟨P, hPl, -, hS⟩ := hsl.list (by decide) encPm (fun _ => True) (fun cs hcs hi => by
      obtain ⟨a, b, rfl, -, -⟩ := Kd.list_ints2 hi
      exact ⟨⟨a, b⟩, rfl, trivial⟩)
    subst hPl
    have hm2 := u8_of hm
    exact ⟨⟨⟨⟨t, s, en, dd, k, on, wtt, ex, c, l, n, P⟩, A, cap⟩, many, nx, cl⟩, rfl, ⟨A, cap, rfl, hsl.1, hsl.2.1, hS⟩, hm2.1, hm2.2⟩)
  subst hl
  exact ⟨l, A, cap, rfl, hsl.1, hsl.2.1, hok, hS⟩
def lightB (x : El) : Bool := decide ((x.f.d.size : Int) < 600) && decide ((x.f.P.length : Int) < 20)
theorem Light_any (f : Frm) (A : Option Addr) (cap : Nat) (w : World) (l : Bool) (hl : lightB ⟨f, A, cap⟩ = l) : Calls Tryd.prog 8 #[frmV f (.slice A f.P.length cap)] w fun x w' => x = .returned (.bool l) ∧ Only Nil w w' := by
  unfold lightB at hl
  subst hl
  simp only
  cases h1 : decide ((f.d.size : Int) < 600) <;> cases h2 : decide ((f.P.length : Int) < 20)
  all_goals
    go_enter Tryd.func8, Tryd.ntmps8
    go_wp2
    go_ret
    exact ⟨rfl, (Only.refl _ _).alloc _⟩
/-- where there is one that a frame is put together with, there is a first one -/
theorem fit_dec (f : Frm) (L : List El) : (∀ x ∈ L, fits f x.f = false) ∨ ∃ (i : Nat) (x : El), L[i]? = some x ∧ fits f x.f = true ∧ ∀ j y, j < i → L[j]? = some y → fits f y.f = false := by
  induction L with
  | nil => exact .inl (fun _ h => by cases h)
  | cons y L ih =>
    cases h : fits f y.f
    · rcases ih with ih | ⟨i, x, h1, h2, h3⟩
      · left
        intro x hx
        rcases List.mem_cons.1 hx with rfl | hx
        · exact h
        · exact ih x hx
      · right
        refine ⟨i + 1, x, h1, h2, fun j z hj hz => ?_⟩
        cases j with
        | zero =>
          simp at hz
          subst hz
          exact h
        | succ j => exact h3 j z (by omega) (by simpa using hz)
    · exact .inr ⟨0, y, rfl, h, fun j z hj => absurd hj (Nat.not_lt_zero _)⟩
def sumN : List El → Int
  | [] => 0
  | x :: L => x.f.n + sumN L
theorem sumN_app (L : List El) (y : El) : sumN (L ++ [y]) = sumN L + y.f.n := by
  induction L with
  | nil => simp [sumN]
  | cons x L ih =>
    simp only [List.cons_append, sumN, ih]
    omega
theorem sumN_set (L : List El) (i : Nat) (x : El) (n : Int) (h : L[i]? = some x) : sumN (L.set i (x.more n)) = sumN L + n := by
  induction L generalizing i with
  | nil => simp at h
  | cons y L ih =>
    cases i with
    | zero =>
      simp at h
      subst h
      simp only [List.set_cons_zero, sumN, El.more]
      omega
    | succ i =>
      simp only [List.set_cons_succ, sumN, ih i (by simpa using h)]
      omega
theorem sumN_pos (L : List El) (h : ∀ x ∈ L, rightP x.f) : 0 ≤ sumN L := by
  induction L with
  | nil => exact Int.le_refl _
  | cons y L ih =>
    have h1 := (h y (List.mem_cons_self ..)).n4
    have h2 := ih (fun x hx => h x (List.mem_cons_of_mem _ hx))
    simp only [fourB, Bool.and_eq_true, decide_eq_true_eq] at h1
    simp only [sumN]
    omega
end Go.Proofs.YtgiplefnggnpcaaDoor
