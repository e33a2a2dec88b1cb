/- A frame that came in. No condition. -/
import Derived.Test.YtjhjfgelcbphjaaDoorFrm
import Derived.Test.YtjhjfgelcbphjaaDoorArgs
namespace Go.Proofs.YtjhjfgelcbphjaaDoor
open Go.RowKit

theorem Kd.frame {w : World} {v : Value} (h : Kd.Fit w (.agg [.int .i64, .int .i64, .bool, .str, .int .i64, .agg [.int .i64, .int .i64, .bool], .int .i64, .int .i64, .int .i64, .slc (.agg [.int .i64, .int .i64])]) v) : ∃ (f : Frm) (A : Option Addr) (m cap : Nat), v = frmV f (.slice A m cap) ∧ f.d.size ≤ maxLen ∧ f.P.length = m ∧ PmIs w (.slice A m cap) f.P ∧ i64Ok f.t ∧ i64Ok f.s ∧ i64Ok f.n := by
  obtain ⟨cs, rfl, hc⟩ := h
  obtain ⟨v0, c0, rfl, i0, hc⟩ := Kd.headL rfl hc
  obtain ⟨v1, c1, rfl, i1, hc⟩ := Kd.headL rfl hc
  obtain ⟨v2, c2, rfl, i2, hc⟩ := Kd.headL rfl hc
  obtain ⟨v3, c3, rfl, i3, hc⟩ := Kd.headL rfl hc
  obtain ⟨v4, c4, rfl, i4, hc⟩ := Kd.headL rfl hc
  unfold Kd.IsL at hc
  obtain ⟨d, r, rfl, hdl, hd, hc⟩ := hc
  obtain ⟨v6, c6, rfl, i6, hc⟩ := Kd.headL rfl hc
  obtain ⟨v7, c7, rfl, i7, hc⟩ := Kd.headL rfl hc
  obtain ⟨v8, c8, rfl, i8, hc⟩ := Kd.headL rfl hc
  obtain ⟨v9, c9, rfl, i9, hc⟩ := Kd.headL rfl hc
  obtain rfl := Kd.end_ hc
  have hd' : Kd.IsL w [.int .i64, .int .i64, .bool] d := hd
  obtain ⟨d0, e0, rfl, j0, hd'⟩ := Kd.headL rfl hd'
  obtain ⟨d1, e1, rfl, j1, hd'⟩ := Kd.headL rfl hd'
  obtain ⟨d2, e2, rfl, j2, hd'⟩ := Kd.headL rfl hd'
  obtain rfl := Kd.end_ hd'
  obtain ⟨t, rfl, wt⟩ := Kd.int_is i0
  obtain ⟨s, rfl, ws⟩ := Kd.int_is i1
  obtain ⟨en, rfl⟩ := Kd.bool_is i2
  obtain ⟨dd, rfl, hdd⟩ := Kd.str_is i3
  obtain ⟨k, rfl, -⟩ := Kd.int_is i4
  obtain ⟨on, rfl, -⟩ := Kd.int_is j0
  obtain ⟨wtt, rfl, -⟩ := Kd.int_is j1
  obtain ⟨ex, rfl⟩ := Kd.bool_is j2
  obtain ⟨c, rfl, -⟩ := Kd.int_is i6
  obtain ⟨l, rfl, -⟩ := Kd.int_is i7
  obtain ⟨n, rfl, wn⟩ := Kd.int_is i8
  obtain ⟨A, m, cap, rfl, hsl⟩ := Kd.slc_is i9
  obtain ⟨P, hPl, -, hS⟩ := hsl.list (by decide) encPm (fun _ => True) (fun cs hcs hi => by
    obtain ⟨a, b, rfl, -, -⟩ := Kd.list_ints2 hi
    exact ⟨⟨a, b⟩, rfl, trivial⟩)
  exact ⟨⟨t, s, en, dd, k, on, wtt, ex, c, l, n, P⟩, A, m, cap, rfl, hdd, hPl, ⟨A, cap, by rw [← hPl], by rw [hPl]; exact hsl.1, hsl.2.1, hS⟩, i64Ok_of wt, i64Ok_of ws, i64Ok_of wn⟩
end Go.Proofs.YtjhjfgelcbphjaaDoor
