/- How a header is laid, and read. -/
import Derived.Test.YtjgoklccnecjcaaDoorRows
import Derived.Test.YtjgoklccnecjcaaDoorLay
import Derived.Test.YtjgoklccnecjcaaDoorScan2
namespace Go.Proofs.YtjgoklccnecjcaaDoor
open Go.RowKit

structure Hd where
  l : Int
  t : Int
  f : Int
  s : Int
deriving DecidableEq
def Hd.ok (h : Hd) : Prop := i64Ok h.l ∧ i64Ok h.t ∧ i64Ok h.f ∧ i64Ok h.s
def Hd.pcs (h : Hd) : List Pc := [⟨h.l, 3, noS⟩, ⟨h.t, 1, noS⟩, ⟨h.f, 1, noS⟩, ⟨h.s, 4, noS⟩]
/-- may it be laid? -/
def Hd.may (h : Hd) : Bool := decide (h.s ≤ 2147483647) && decide (layE h.pcs = 0)
def Hd.S (h : Hd) : ByteArray := if h.may = true then layS h.pcs else noS
def Hd.E (h : Hd) : Int := if h.may = true then 0 else 2
theorem Hd.pcs_ok {h : Hd} (hh : h.ok) : ∀ p ∈ h.pcs, p.ok := by
  obtain ⟨h1, h2, h3, h4⟩ := hh
  intro p hp
  simp [Hd.pcs] at hp
  rcases hp with rfl | rfl | rfl | rfl
  · exact pc_ok h1 (by decide) (by decide)
  · exact pc_ok h2 (by decide) (by decide)
  · exact pc_ok h3 (by decide) (by decide)
  · exact pc_ok h4 (by decide) (by decide)
set_option maxHeartbeats 4000000 in
theorem Put_any (h : Hd) (w : World) (hh : h.ok) : Calls Tryd.prog 6 #[.agg #[.int .i64 h.l, .int .i64 h.t, .int .i64 h.f, .int .i64 h.s]] w fun x w' => x = .returned (.tuple #[.string h.S, .int .i64 h.E]) ∧ Only Nil w w' := by
  have hok := Hd.pcs_ok hh
  have hL := fun (W : World) (A : Option Addr) (cap : Nat) (hq : Sq encPc 3 W W.heap.size A h.pcs) => Lay_known A cap 4 h.pcs _ _ W hq hok rfl (by simp [Hd.pcs]) rfl rfl
  clear hok
  by_cases hs : h.s ≤ 2147483647
  · by_cases he : layE h.pcs = 0
    · have hm : h.may = true := by simp [Hd.may, hs, he]
      have e1 : Hid (h.S = layS h.pcs) := Lib.hid (by unfold Hd.S; rw [if_pos hm])
      have e2 : Hid (h.E = 0) := Lib.hid (by unfold Hd.E; rw [if_pos hm])
      rw [he] at hL
      clear he hm
      generalize layS h.pcs = SS at hL e1
      generalize h.S = S0 at e1 ⊢
      generalize h.E = E0 at e2 ⊢
      obtain ⟨l, t, f, s⟩ := h
      dsimp only [Hd.pcs] at hL hs ⊢
      have HL := Lib.hid hL
      clear hL hh
      have hb0 : Blk (w.alloc (.cells #[.int .i64 l, .int .i64 t, .int .i64 f, .int .i64 s] 23)) w.heap.size 23 #[.int .i64 l, .int .i64 t, .int .i64 f, .int .i64 s] := Blk.new _ _ _
      have hx0 := (Only.refl Nil w).alloc (.cells #[.int .i64 l, .int .i64 t, .int .i64 f, .int .i64 s] 23)
      go_enter Tryd.func6, Tryd.ntmps6
      go_wp2
      go_region_held3 (fun w' => w'.cell? ⟨w.heap.size, 0, none⟩ = some (.int .i64 l) ∧ w'.cell? ⟨w.heap.size, 1, none⟩ = some (.int .i64 t) ∧ w'.cell? ⟨w.heap.size, 2, none⟩ = some (.int .i64 f) ∧ w'.cell? ⟨w.heap.size, 3, none⟩ = some (.int .i64 s)) (first | exact ⟨hb5.cell 0, hb5.cell 1, hb5.cell 2, hb5.cell 3⟩ | exact ⟨(Blk.alloc hb4 _).cell 0, (Blk.alloc hb4 _).cell 1, (Blk.alloc hb4 _).cell 2, (Blk.alloc hb4 _).cell 3⟩ | exact ⟨hb4.cell 0, hb4.cell 1, hb4.cell 2, hb4.cell 3⟩ | exact ⟨hb3.cell 0, hb3.cell 1, hb3.cell 2, hb3.cell 3⟩ | exact ⟨hb2.cell 0, hb2.cell 1, hb2.cell 2, hb2.cell 3⟩ | exact ⟨hb1.cell 0, hb1.cell 1, hb1.cell 2, hb1.cell 3⟩ | exact ⟨hb0.cell 0, hb0.cell 1, hb0.cell 2, hb0.cell 3⟩) (first
        | (go_at_call 17; (with_reducible refine (HL.out _ _ _ hP).mono ?_); rintro e w5 ⟨rfl, ho5⟩; have hb5 := (hb4.alloc (.cells #[.int .i64 l, .int .i64 3, .string noS, .int .i64 t, .int .i64 1, .string noS, .int .i64 f, .int .i64 1, .string noS, .int .i64 s, .int .i64 4, .string noS] 42)).kept ho5 (fun hh => hh))
        | (go_at_call 18; have _t := hb3; (with_reducible refine (U_any s 4 _).mono ?_); rintro e w4 ⟨rfl, ho4⟩; have hb4 := Blk.kept hb3 ho4 (fun hh => hh); have hP := Blk.sq (enc := encPc) (sz := 3) (l := [⟨l, 3, noS⟩, ⟨t, 1, noS⟩, ⟨f, 1, noS⟩, ⟨s, 4, noS⟩]) (Blk.new w4 42 #[.int .i64 l, .int .i64 3, .string noS, .int .i64 t, .int .i64 1, .string noS, .int .i64 f, .int .i64 1, .string noS, .int .i64 s, .int .i64 4, .string noS]) rfl encPc_len)
        | (go_at_call 18; have _t := hb2; (with_reducible refine (U_any f 1 _).mono ?_); rintro e w3 ⟨rfl, ho3⟩; have hb3 := Blk.kept hb2 ho3 (fun hh => hh))
        | (go_at_call 18; have _t := hb1; (with_reducible refine (U_any t 1 _).mono ?_); rintro e w2 ⟨rfl, ho2⟩; have hb2 := Blk.kept hb1 ho2 (fun hh => hh))
        | (go_at_call 18; (with_reducible refine (U_any l 3 _).mono ?_); rintro e w1 ⟨rfl, ho1⟩; have hb1 := Blk.kept (Blk.drew hb0) ho1 (fun hh => hh))
        )
      all_goals
        go_wp2
        go_ret2
        exact ⟨by rw [e1.out, e2.out]; rfl, (((((hx0.drew.trans ho1).trans ho2).trans ho3).trans ho4).alloc _).trans ho5⟩
    · have hm : ¬ h.may = true := by simp [Hd.may, he]
      have e1 : Hid (h.S = noS) := Lib.hid (by unfold Hd.S; rw [if_neg hm])
      have e2 : Hid (h.E = 2) := Lib.hid (by unfold Hd.E; rw [if_neg hm])
      clear hm
      generalize layS h.pcs = SS at hL
      generalize layE h.pcs = EE at hL he
      generalize h.S = S0 at e1 ⊢
      generalize h.E = E0 at e2 ⊢
      obtain ⟨l, t, f, s⟩ := h
      dsimp only [Hd.pcs] at hL hs ⊢
      have HL := Lib.hid hL
      have he1 : (EE != 0) = true := by simpa using he
      clear hL hh he
      have hb0 : Blk (w.alloc (.cells #[.int .i64 l, .int .i64 t, .int .i64 f, .int .i64 s] 23)) w.heap.size 23 #[.int .i64 l, .int .i64 t, .int .i64 f, .int .i64 s] := Blk.new _ _ _
      have hx0 := (Only.refl Nil w).alloc (.cells #[.int .i64 l, .int .i64 t, .int .i64 f, .int .i64 s] 23)
      go_enter Tryd.func6, Tryd.ntmps6
      go_wp2
      go_region_held3 (fun w' => w'.cell? ⟨w.heap.size, 0, none⟩ = some (.int .i64 l) ∧ w'.cell? ⟨w.heap.size, 1, none⟩ = some (.int .i64 t) ∧ w'.cell? ⟨w.heap.size, 2, none⟩ = some (.int .i64 f) ∧ w'.cell? ⟨w.heap.size, 3, none⟩ = some (.int .i64 s)) (first | exact ⟨hb5.cell 0, hb5.cell 1, hb5.cell 2, hb5.cell 3⟩ | exact ⟨(Blk.alloc hb4 _).cell 0, (Blk.alloc hb4 _).cell 1, (Blk.alloc hb4 _).cell 2, (Blk.alloc hb4 _).cell 3⟩ | exact ⟨hb4.cell 0, hb4.cell 1, hb4.cell 2, hb4.cell 3⟩ | exact ⟨hb3.cell 0, hb3.cell 1, hb3.cell 2, hb3.cell 3⟩ | exact ⟨hb2.cell 0, hb2.cell 1, hb2.cell 2, hb2.cell 3⟩ | exact ⟨hb1.cell 0, hb1.cell 1, hb1.cell 2, hb1.cell 3⟩ | exact ⟨hb0.cell 0, hb0.cell 1, hb0.cell 2, hb0.cell 3⟩) (first
        | (go_at_call 17; (with_reducible refine (HL.out _ _ _ hP).mono ?_); rintro e w5 ⟨rfl, ho5⟩; have hb5 := (hb4.alloc (.cells #[.int .i64 l, .int .i64 3, .string noS, .int .i64 t, .int .i64 1, .string noS, .int .i64 f, .int .i64 1, .string noS, .int .i64 s, .int .i64 4, .string noS] 42)).kept ho5 (fun hh => hh))
        | (go_at_call 18; have _t := hb3; (with_reducible refine (U_any s 4 _).mono ?_); rintro e w4 ⟨rfl, ho4⟩; have hb4 := Blk.kept hb3 ho4 (fun hh => hh); have hP := Blk.sq (enc := encPc) (sz := 3) (l := [⟨l, 3, noS⟩, ⟨t, 1, noS⟩, ⟨f, 1, noS⟩, ⟨s, 4, noS⟩]) (Blk.new w4 42 #[.int .i64 l, .int .i64 3, .string noS, .int .i64 t, .int .i64 1, .string noS, .int .i64 f, .int .i64 1, .string noS, .int .i64 s, .int .i64 4, .string noS]) rfl encPc_len)
        | (go_at_call 18; have _t := hb2; (with_reducible refine (U_any f 1 _).mono ?_); rintro e w3 ⟨rfl, ho3⟩; have hb3 := Blk.kept hb2 ho3 (fun hh => hh))
        | (go_at_call 18; have _t := hb1; (with_reducible refine (U_any t 1 _).mono ?_); rintro e w2 ⟨rfl, ho2⟩; have hb2 := Blk.kept hb1 ho2 (fun hh => hh))
        | (go_at_call 18; (with_reducible refine (U_any l 3 _).mono ?_); rintro e w1 ⟨rfl, ho1⟩; have hb1 := Blk.kept (Blk.drew hb0) ho1 (fun hh => hh))
        )
      all_goals
        go_wp2
        go_ret2
        exact ⟨by rw [e1.out, e2.out]; rfl, (((((hx0.drew.trans ho1).trans ho2).trans ho3).trans ho4).alloc _).trans ho5⟩
  · have hm : ¬ h.may = true := by simp [Hd.may]; omega
    have e1 : Hid (h.S = noS) := Lib.hid (by unfold Hd.S; rw [if_neg hm])
    have e2 : Hid (h.E = 2) := Lib.hid (by unfold Hd.E; rw [if_neg hm])
    clear hm hL
    generalize h.S = S0 at e1 ⊢
    generalize h.E = E0 at e2 ⊢
    obtain ⟨l, t, f, s⟩ := h
    dsimp only at hs ⊢
    clear hh
    go_enter Tryd.func6, Tryd.ntmps6
    go_wp2
    go_ret2
    exact ⟨by rw [e1.out, e2.out]; rfl, (Only.refl _ _).alloc _⟩
end Go.Proofs.YtjgoklccnecjcaaDoor
