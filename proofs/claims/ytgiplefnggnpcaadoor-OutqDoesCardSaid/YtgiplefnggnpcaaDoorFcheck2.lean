/- Whether a frame may be: frame.Check. -/
import Derived.Test.YtgiplefnggnpcaaDoorFsplit
import Derived.Test.YtgiplefnggnpcaaDoorFrmF2
import Derived.Test.YtgiplefnggnpcaaDoorNeeds
namespace Go.Proofs.YtgiplefnggnpcaaDoor
open Go.RowKit Nd

structure rightP (f : Frm) : Prop where
  t0 : 0 ≤ f.t
  t11 : f.t ≤ 11
  s0 : 0 ≤ f.s
  sm : f.s ≤ 2147483647
  zero : f.s = 0 → 5 ≤ f.t ∧ f.t ≤ 10
  one : 0 < f.s → f.t ≤ 4 ∨ 10 ≤ f.t
  en : f.t ≤ 1 ∨ f.en = false
  k : f.t = 2 ∨ f.k = 0
  c : f.t = 4 ∨ f.t = 9 ∨ f.c = 0
  l : f.t = 9 ∨ f.l = 0
  n : 10 ≤ f.t ∨ f.n = 0
  P : f.t = 5 ∨ f.P = []
  dep : f.t = 2 ∨ f.t = 3 ∨ (f.on = 0 ∧ f.wt = 0 ∧ f.ex = false)
  d : f.t ≤ 1 ∨ f.t = 7 ∨ f.t = 8 ∨ f.d = nilS
  dl : f.t ≤ 1 → (f.d.size : Int) ≤ 256
  d8 : f.t = 7 ∨ f.t = 8 → (f.d.size : Int) = 8
  k2 : f.t = 2 → f.k = 1 ∨ f.k = 2
  dep2 : f.t = 2 ∨ f.t = 3 → depB f.on f.wt = true
  pms : pmsB f.P = true
  c4 : fourB f.c = true
  l4 : fourB f.l = true
  n4 : fourB f.n = true
abbrev bare (t s : Int) : Frm := ⟨t, s, false, nilS, 0, 0, 0, false, 0, 0, 0, []⟩
def CkPost (w : World) (r : Bool) (x : Ending) (w' : World) : Prop := x = .returned (.int .i64 (if r = true then 0 else 2)) ∧ Only Nil w w'
section
variable {A : Option Addr} {m cap : Nat}
theorem Check_out (f : Frm) (w : World) (hk : f.t < 0 ∨ 11 < f.t) : Calls Tryd.prog 18 #[frmV f (.slice A m cap)] w (CkPost w false) := by
  have hN := Lib.hid (fun W => Needs_out f.t W hk)
  clear hk
  unfold CkPost
  rw [if_neg (by decide)]
  go_enter Tryd.func18, Tryd.ntmps18
  go_wp2_with (first
    | (go_at_call 25; (with_reducible refine (hN.out _).mono ?_); rintro e w1 ⟨rfl, ho1⟩)
    )
  go_ret
  exact ⟨rfl, ((Only.refl _ _).alloc _).trans ho1⟩
theorem Check_s (f : Frm) (w : World) (hT : Nds w) (h0 : 0 ≤ f.t) (h11 : f.t ≤ 11) (hs : f.s < 0 ∨ 2147483647 < f.s ∨ f.s = 0 ∧ nzB f.t = false ∨ 0 < f.s ∧ naB f.t = false) : Calls Tryd.prog 18 #[frmV f (.slice A m cap)] w (CkPost w false) := by
  have hT1 := hT.alloc (.cells (frC f (.slice A m cap)) 31)
  have hN := Lib.hid (Needs_in f.t _ hT1 h0 h11)
  have hb0 := Blk.new w 31 (frC f (.slice A m cap))
  have HO := Lib.hid ((Only.refl Nil w).alloc (.cells (frC f (.slice A m cap)) 31))
  clear hT1 hT h0 h11
  unfold CkPost
  rw [if_neg (by decide)]
  generalize nzB f.t = zz at *
  generalize naB f.t = aa at *
  rcases hs with hs | hs | ⟨hs, rfl⟩ | ⟨hs, rfl⟩
  · go_enter Tryd.func18, Tryd.ntmps18
    go_wp2_with (first
      | (go_at_call 25; (with_reducible refine (hN.out).mono ?_); rintro e w1 ⟨rfl, ho1⟩; have hb1 := hb0.kept ho1 (fun hh => hh); have c1 := hb1.cell 1)
      )
    go_ret
    exact ⟨rfl, HO.out.trans ho1⟩
  · have hs0 : ¬ f.s < 0 := by omega
    go_enter Tryd.func18, Tryd.ntmps18
    go_wp2_with (first
      | (go_at_call 25; (with_reducible refine (hN.out).mono ?_); rintro e w1 ⟨rfl, ho1⟩; have hb1 := hb0.kept ho1 (fun hh => hh); have c1 := hb1.cell 1)
      )
    go_ret
    exact ⟨rfl, HO.out.trans ho1⟩
  · go_enter Tryd.func18, Tryd.ntmps18
    go_wp2_with (first
      | (go_at_call 25; (with_reducible refine (hN.out).mono ?_); rintro e w1 ⟨rfl, ho1⟩; have hb1 := hb0.kept ho1 (fun hh => hh); have c1 := hb1.cell 1)
      )
    go_ret
    exact ⟨rfl, HO.out.trans ho1⟩
  · have hs0 : ¬ f.s < 0 := by omega
    have hs1 : ¬ f.s = 0 := by omega
    by_cases hs2 : 2147483647 < f.s
    · go_enter Tryd.func18, Tryd.ntmps18
      go_wp2_with (first
        | (go_at_call 25; (with_reducible refine (hN.out).mono ?_); rintro e w1 ⟨rfl, ho1⟩; have hb1 := hb0.kept ho1 (fun hh => hh); have c1 := hb1.cell 1)
        )
      go_ret
      exact ⟨rfl, HO.out.trans ho1⟩
    · go_enter Tryd.func18, Tryd.ntmps18
      go_wp2_with (first
        | (go_at_call 25; (with_reducible refine (hN.out).mono ?_); rintro e w1 ⟨rfl, ho1⟩; have hb1 := hb0.kept ho1 (fun hh => hh); have c1 := hb1.cell 1)
        )
      go_ret
      exact ⟨rfl, HO.out.trans ho1⟩
set_option maxHeartbeats 2000000 in
theorem Check_mid (f g : Frm) (w : World) (ok : Bool) (q : Value) (hsp : ∀ W, Only Nil w W → Calls Tryd.prog 26 #[frmV f (.slice A m cap)] W (SpPost W ok g q)) (hg : ∀ W, Only Nil w W → PmIs W q g.P) (hT : Nds w)
    (h0 : 0 ≤ f.t) (h11 : f.t ≤ 11) (hs0 : 0 ≤ f.s) (hsm : f.s ≤ 2147483647) (hz : f.s = 0 → nzB f.t = true) (ha : 0 < f.s → naB f.t = true) (r : Bool) (hr : r = true ↔ ok = true ∧ g = bare f.t f.s) :
    Calls Tryd.prog 18 #[frmV f (.slice A m cap)] w (CkPost w r) := by
  obtain ⟨t, s, en, d, k, on, wt, ex, c, l, n, P⟩ := f
  simp only at h0 h11 hs0 hsm hz ha hr
  have hT1 := hT.alloc (.cells (frC ⟨t, s, en, d, k, on, wt, ex, c, l, n, P⟩ (.slice A m cap)) 31)
  have hN := Lib.hid (Needs_in t _ hT1 h0 h11)
  have hb0 := Blk.new w 31 (frC ⟨t, s, en, d, k, on, wt, ex, c, l, n, P⟩ (.slice A m cap))
  have HO := Lib.hid ((Only.refl Nil w).alloc (.cells (frC ⟨t, s, en, d, k, on, wt, ex, c, l, n, P⟩ (.slice A m cap)) 31))
  obtain ⟨qa, qc, rfl, -⟩ := hg w (Only.refl _ _)
  unfold SpPost at hsp
  have HS := Lib.hid hsp
  have HG := Lib.hid hg
  clear hT1 hT h0 h11 hsp hg
  unfold CkPost
  have hsn : ¬ s < 0 := by omega
  have hsn2 : ¬ 2147483647 < s := by omega
  generalize nzB t = zz at *
  generalize naB t = aa at *
  cases ok
  · obtain rfl : r = false := by
      cases r
      · rfl
      · exact absurd (hr.1 rfl).1 (by decide)
    clear hr
    rw [if_neg (by decide)]
    by_cases h : s = 0
    · obtain rfl := hz h
      subst h
      clear hz ha
      go_enter Tryd.func18, Tryd.ntmps18
      go_wp2_with (first
        | (go_at_call 25; (with_reducible refine (hN.out).mono ?_); rintro e w1 ⟨rfl, ho1⟩; have hb1 := hb0.kept ho1 (fun hh => hh); obtain ⟨c0, c1, c2, c3, c4, c5, c6, c7, c8, c9, c10, c11⟩ := hb1.frm; have z1 := hb1.lt; have HO1 := HO.out.trans ho1)
        | (go_at_call 26; (with_reducible refine (HS.out _ HO1).mono ?_); rintro e w2 ⟨rfl, ho2⟩)
        )
      go_ret
      exact ⟨rfl, (HO1.trans ho2).alloc _⟩
    · obtain rfl := ha (by omega)
      clear hz ha
      have hs1 : 0 < s := by omega
      go_enter Tryd.func18, Tryd.ntmps18
      go_wp2_with (first
        | (go_at_call 25; (with_reducible refine (hN.out).mono ?_); rintro e w1 ⟨rfl, ho1⟩; have hb1 := hb0.kept ho1 (fun hh => hh); obtain ⟨c0, c1, c2, c3, c4, c5, c6, c7, c8, c9, c10, c11⟩ := hb1.frm; have z1 := hb1.lt; have HO1 := HO.out.trans ho1)
        | (go_at_call 26; (with_reducible refine (HS.out _ HO1).mono ?_); rintro e w2 ⟨rfl, ho2⟩)
        )
      go_ret
      exact ⟨rfl, (HO1.trans ho2).alloc _⟩
  · have hr' : r = true ↔ g = bare t s := by
      rw [hr]
      simp
    have HF := Lib.hid (fun W (h : PmIs W (.slice qa g.P.length qc) g.P) => FSame_any (w := W) (p := .slice qa g.P.length qc) (q := .slice none 0 0) g (bare t s) h (PmIs.nil W) r hr')
    clear hr hr'
    by_cases h : s = 0
    · obtain rfl := hz h
      subst h
      clear hz ha
      cases r
      · rw [if_neg (by decide)]
        go_enter Tryd.func18, Tryd.ntmps18
        go_wp2_with (first
          | (go_at_call 25; (with_reducible refine (hN.out).mono ?_); rintro e w1 ⟨rfl, ho1⟩; have hb1 := hb0.kept ho1 (fun hh => hh); obtain ⟨c0, c1, c2, c3, c4, c5, c6, c7, c8, c9, c10, c11⟩ := hb1.frm; have z1 := hb1.lt; have HO1 := HO.out.trans ho1)
          | (go_at_call 26; (with_reducible refine (HS.out _ HO1).mono ?_); rintro e w2 ⟨rfl, ho2⟩; have hb2 := (hb1.kept ho2 (fun hh => hh)); have d0 := hb2.cell 0; have d1 := hb2.cell 1; have z2 := hb2.lt; have HO2 := (HO1.trans ho2).alloc (.cells (frC g (.slice qa g.P.length qc)) 31); have HG2 := HG.out _ HO2)
          | (go_at_call 27; (with_reducible refine (HF.out _ HG2).mono ?_); rintro e w3 ⟨rfl, ho3⟩)
          )
        go_ret
        exact ⟨rfl, HO2.trans ho3⟩
      · rw [if_pos rfl]
        go_enter Tryd.func18, Tryd.ntmps18
        go_wp2_with (first
          | (go_at_call 25; (with_reducible refine (hN.out).mono ?_); rintro e w1 ⟨rfl, ho1⟩; have hb1 := hb0.kept ho1 (fun hh => hh); obtain ⟨c0, c1, c2, c3, c4, c5, c6, c7, c8, c9, c10, c11⟩ := hb1.frm; have z1 := hb1.lt; have HO1 := HO.out.trans ho1)
          | (go_at_call 26; (with_reducible refine (HS.out _ HO1).mono ?_); rintro e w2 ⟨rfl, ho2⟩; have hb2 := (hb1.kept ho2 (fun hh => hh)); have d0 := hb2.cell 0; have d1 := hb2.cell 1; have z2 := hb2.lt; have HO2 := (HO1.trans ho2).alloc (.cells (frC g (.slice qa g.P.length qc)) 31); have HG2 := HG.out _ HO2)
          | (go_at_call 27; (with_reducible refine (HF.out _ HG2).mono ?_); rintro e w3 ⟨rfl, ho3⟩)
          )
        go_ret
        exact ⟨rfl, HO2.trans ho3⟩
    · obtain rfl := ha (by omega)
      clear hz ha
      have hs1 : 0 < s := by omega
      cases r
      · rw [if_neg (by decide)]
        go_enter Tryd.func18, Tryd.ntmps18
        go_wp2_with (first
          | (go_at_call 25; (with_reducible refine (hN.out).mono ?_); rintro e w1 ⟨rfl, ho1⟩; have hb1 := hb0.kept ho1 (fun hh => hh); obtain ⟨c0, c1, c2, c3, c4, c5, c6, c7, c8, c9, c10, c11⟩ := hb1.frm; have z1 := hb1.lt; have HO1 := HO.out.trans ho1)
          | (go_at_call 26; (with_reducible refine (HS.out _ HO1).mono ?_); rintro e w2 ⟨rfl, ho2⟩; have hb2 := (hb1.kept ho2 (fun hh => hh)); have d0 := hb2.cell 0; have d1 := hb2.cell 1; have z2 := hb2.lt; have HO2 := (HO1.trans ho2).alloc (.cells (frC g (.slice qa g.P.length qc)) 31); have HG2 := HG.out _ HO2)
          | (go_at_call 27; (with_reducible refine (HF.out _ HG2).mono ?_); rintro e w3 ⟨rfl, ho3⟩)
          )
        go_ret
        exact ⟨rfl, HO2.trans ho3⟩
      · rw [if_pos rfl]
        go_enter Tryd.func18, Tryd.ntmps18
        go_wp2_with (first
          | (go_at_call 25; (with_reducible refine (hN.out).mono ?_); rintro e w1 ⟨rfl, ho1⟩; have hb1 := hb0.kept ho1 (fun hh => hh); obtain ⟨c0, c1, c2, c3, c4, c5, c6, c7, c8, c9, c10, c11⟩ := hb1.frm; have z1 := hb1.lt; have HO1 := HO.out.trans ho1)
          | (go_at_call 26; (with_reducible refine (HS.out _ HO1).mono ?_); rintro e w2 ⟨rfl, ho2⟩; have hb2 := (hb1.kept ho2 (fun hh => hh)); have d0 := hb2.cell 0; have d1 := hb2.cell 1; have z2 := hb2.lt; have HO2 := (HO1.trans ho2).alloc (.cells (frC g (.slice qa g.P.length qc)) 31); have HG2 := HG.out _ HO2)
          | (go_at_call 27; (with_reducible refine (HF.out _ HG2).mono ?_); rintro e w3 ⟨rfl, ho3⟩)
          )
        go_ret
        exact ⟨rfl, HO2.trans ho3⟩
end
end Go.Proofs.YtgiplefnggnpcaaDoor
