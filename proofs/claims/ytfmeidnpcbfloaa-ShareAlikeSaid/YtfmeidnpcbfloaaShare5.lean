/- Claims: how much more each gets in a round. -/
import Derived.Test.YtfmeidnpcbfloaaShare4
import Derived.Deep.RegionLaw
namespace Go.Proofs.Ytfmeidnpcbfloaa
open Go.RowKit

theorem Blk.newAt {w : World} {b : Nat} {t : TypeId} {cs : Array Value} (hb : b = w.heap.size) : Blk (w.alloc (.cells cs t)) b t cs := by
  subst hb
  exact Blk.new w t cs
theorem Blk.set0 {w : World} {g : Nat} {t : TypeId} {u0 u : Value} (h : Blk w g t #[u0]) : Blk (w.setCell ⟨g, 0, none⟩ u) g t #[u] := h.set 0 u
section
variable {w : World} {b n : Nat} {l : Int} {W V G : List Int}
set_option maxRecDepth 100000 in
set_option maxHeartbeats 2000000 in
theorem parts_any (w : World) (h : Ts w b l n W V G) (ok : Ok l n W V G) : Calls Try.prog 23 #[.pointer (some ⟨b, 0, none⟩)] w fun x w' => ∃ k1 k3 k4, x = .returned (.func (.func 25) #[] #[.pointer (some ⟨k3, 0, none⟩), .pointer (some ⟨k1, 0, none⟩), .pointer (some ⟨k4, 0, none⟩)]) ∧ Blk w' k1 39 #[.pointer (some ⟨b, 0, none⟩)] ∧ Blk w' k3 3 #[.int .i64 l] ∧ Blk w' k4 3 #[.int .i64 (wantK W V G n)] ∧ Only Nil w w' := by
  have hmf := mkf Try.prog
  have hb0 := Blk.new w 39 #[.pointer (some ⟨b, 0, none⟩)]
  have hx0 := Lib.hid ((Only.refl Nil w).alloc (.cells #[.pointer (some ⟨b, 0, none⟩)] 39))
  have hT0 := h.alloc (.cells #[.pointer (some ⟨b, 0, none⟩)] 39)
  have hWn := Lib.hid (fun W' (q : Ts W' b l n W V G) => wanting_any W' q ok)
  have c0 := hT0.at0
  have zb := hT0.lt
  have k0 := hb0.cell 0
  have HB0 := Lib.hid hb0
  have HT0 := Lib.hid hT0
  generalize wantK W V G n = R at *
  clear h ok hT0 hb0
  have c0a := (HT0.out.alloc (.cells #[.int .i64 0] 3)).at0
  have c0b := ((HT0.out.alloc (.cells #[.int .i64 0] 3)).alloc (.cells #[.int .i64 0] 3)).at0
  have k0a := (HB0.out.alloc (.cells #[.int .i64 0] 3)).cell 0
  have k0b := ((HB0.out.alloc (.cells #[.int .i64 0] 3)).alloc (.cells #[.int .i64 0] 3)).cell 0
  go_enter Try.func23, Try.ntmps23
  go_wp2
  go_region_law (first
    | (go_simp; go_at_call 22; (with_reducible refine (hWn.out _ HT0.out.drew).mono ?_); rintro e w1 ⟨rfl, ho1⟩; have kb := (HB0.out.drew).kept ho1 (fun hh => hh); have kk0 := kb.cell 0; have kz0 := kb.lt; have tt0 := Ts.at0 (Ts.kept HT0.out.drew ho1 (fun hh => hh)); have tz0 := Ts.lt (Ts.kept HT0.out.drew ho1 (fun hh => hh)); have zz := ho1.size; have hx1 := Lib.hid (hx0.out.drew.trans ho1); clear ho1)
    | (go_simp; go_at_call 22; (with_reducible refine (hWn.out _ (HT0.out.alloc (.cells #[.int .i64 0] 3)).drew).mono ?_); rintro e w1 ⟨rfl, ho1⟩; have hA := (Blk.drew (Blk.newAt (w := w.alloc (.cells #[.pointer (some ⟨b, 0, none⟩)] 39)) (b := w.heap.size + 1) (t := 3) (cs := #[.int .i64 0]) (by simp))).kept ho1 (fun hh => hh); have ac := hA.cell 0; have af := hA.frozen 0; have az := hA.lt; have kb := ((HB0.out.alloc (.cells #[.int .i64 0] 3)).drew).kept ho1 (fun hh => hh); have kk0 := kb.cell 0; have kz0 := kb.lt; have tt0 := Ts.at0 (Ts.kept (HT0.out.alloc (.cells #[.int .i64 0] 3)).drew ho1 (fun hh => hh)); have tz0 := Ts.lt (Ts.kept (HT0.out.alloc (.cells #[.int .i64 0] 3)).drew ho1 (fun hh => hh)); have zz := ho1.size; have hx1 := Lib.hid ((hx0.out.alloc (.cells #[.int .i64 0] 3)).drew.trans ho1); clear ho1)
    | (go_simp; go_at_call 22; (with_reducible refine (hWn.out _ ((HT0.out.alloc (.cells #[.int .i64 0] 3)).alloc (.cells #[.int .i64 0] 3)).drew).mono ?_); rintro e w1 ⟨rfl, ho1⟩; have hA := ((Blk.newAt (w := w.alloc (.cells #[.pointer (some ⟨b, 0, none⟩)] 39)) (b := w.heap.size + 1) (t := 3) (cs := #[.int .i64 0]) (by simp)).alloc (.cells #[.int .i64 0] 3)).drew.kept ho1 (fun hh => hh); have ac := hA.cell 0; have af := hA.frozen 0; have az := hA.lt; have hB := (Blk.drew (Blk.newAt (w := (w.alloc (.cells #[.pointer (some ⟨b, 0, none⟩)] 39)).alloc (.cells #[.int .i64 0] 3)) (b := w.heap.size + 2) (t := 3) (cs := #[.int .i64 0]) (by simp))).kept ho1 (fun hh => hh); have bc := hB.cell 0; have bf := hB.frozen 0; have bz := hB.lt; have kb := (((HB0.out.alloc (.cells #[.int .i64 0] 3)).alloc (.cells #[.int .i64 0] 3)).drew).kept ho1 (fun hh => hh); have kk0 := kb.cell 0; have kz0 := kb.lt; have tt0 := Ts.at0 (Ts.kept ((HT0.out.alloc (.cells #[.int .i64 0] 3)).alloc (.cells #[.int .i64 0] 3)).drew ho1 (fun hh => hh)); have tz0 := Ts.lt (Ts.kept ((HT0.out.alloc (.cells #[.int .i64 0] 3)).alloc (.cells #[.int .i64 0] 3)).drew ho1 (fun hh => hh)); have zz := ho1.size; have hx1 := Lib.hid (((hx0.out.alloc (.cells #[.int .i64 0] 3)).alloc (.cells #[.int .i64 0] 3)).drew.trans ho1); clear ho1)
    )
  all_goals
    go_wp2
    go_ret
    refine ⟨_, _, _, rfl, ?_, ?_, ?_, ?_⟩
    ·
      repeat (with_reducible first | exact kb | exact hA | exact hB | exact Blk.newAt (by simp) | refine Blk.drew ?_ | refine Blk.set0 (u0 := .int .i64 0) ?_ | refine Blk.far (p := ⟨_, 0, none⟩) ?_ (by first | omega | (simp; done) | (simp; omega)) _ | refine Blk.alloc ?_ _ | refine Blk.kept ?_ ho1 (fun hh => hh))
    ·
      repeat (with_reducible first | exact kb | exact hA | exact hB | exact Blk.newAt (by simp) | refine Blk.drew ?_ | refine Blk.set0 (u0 := .int .i64 0) ?_ | refine Blk.far (p := ⟨_, 0, none⟩) ?_ (by first | omega | (simp; done) | (simp; omega)) _ | refine Blk.alloc ?_ _ | refine Blk.kept ?_ ho1 (fun hh => hh))
    ·
      repeat (with_reducible first | exact kb | exact hA | exact hB | exact Blk.newAt (by simp) | refine Blk.drew ?_ | refine Blk.set0 (u0 := .int .i64 0) ?_ | refine Blk.far (p := ⟨_, 0, none⟩) ?_ (by first | omega | (simp; done) | (simp; omega)) _ | refine Blk.alloc ?_ _ | refine Blk.kept ?_ ho1 (fun hh => hh))
    ·
      repeat (with_reducible first | exact hx1.out | refine Only.drew ?_ | refine Only.alloc ?_ _ | refine Only.setNew ?_ (by first | omega | (simp; done) | (simp; omega)) _ _)
end
end Go.Proofs.Ytfmeidnpcbfloaa
