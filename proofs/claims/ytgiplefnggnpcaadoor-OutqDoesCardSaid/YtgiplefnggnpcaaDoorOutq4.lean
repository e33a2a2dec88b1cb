/- A queue of frames of the call's own: Push. -/
import Derived.Test.YtgiplefnggnpcaaDoorOutq3
namespace Go.Proofs.YtgiplefnggnpcaaDoor
open Go.RowKit Nd

section
variable {w w' : World} {b base : Nat} {v : Value} {L : List El}
set_option maxRecDepth 100000 in
set_option maxHeartbeats 4000000 in
theorem Push_join (f : Frm) (A : Option Addr) (m cap : Nat) (w : World) (hP : PmIs w (.slice A m cap) f.P) (hT : Nds w) (hf : rightP f) (h : Oq w b base v L) (i : Nat) (x : El) (hi : L[i]? = some x) (hfit : fits f x.f = true) (hbf : ∀ j y, j < i → L[j]? = some y → fits f y.f = false)
    (ht : f.t = 10 ∨ f.t = 11) (hl : L.length ≤ 64) : Calls Tryd.prog 13 #[.pointer (some ⟨b, 0, none⟩), frmV f (.slice A m cap)] w (OqPost w b base v (.int .i64 0) (L.set i (x.more f.n))) := by
  have hn := (Only.refl Nil w).alloc (.cells (frC f (.slice A m cap)) 31)
  have hC := Lib.hid (Check_any f _ (hP.go hn) (hT.alloc _) true ⟨fun _ => hf, fun _ => rfl⟩)
  unfold CkPost at hC
  rw [if_pos rfl] at hC
  have HN := Lib.hid hn
  have HB := Lib.hid (Blk.new w 31 (frC f (.slice A m cap)))
  have h4 := hf.n4
  have hn0 : 0 ≤ f.n ∧ f.n ≤ 2147483647 := by simpa [fourB] using h4
  have ht0 : ¬ f.t = 0 := by omega
  have ht1 : ¬ f.t = 1 := by omega
  have ht3 : (f.t == 0) = false := by simpa using ht0
  have ht4 : (f.t == 1) = false := by simpa using ht1
  have HQ := Lib.hid (fun W (ho : Only Nil w W) => h.kept ho)
  have hJ := Lib.hid (fun W g (ho : Only Nil w W) (hg : Blk W g 23 #[.pointer (some ⟨b, 0, none⟩)]) => joiner1_yes f (.slice A m cap) W hg (h.kept ho) i x hi hfit hbf ht hn0.1 hn0.2 hl)
  unfold OqPost at hJ
  obtain ⟨t, s, en, d, k, on, wt, ex, c, l, n, P⟩ := f
  simp only at ht0 ht1 ht3 ht4
  clear hP hf h hi hfit hbf ht hn0 h4 hn
  go_enter Tryd.func13, Tryd.ntmps13
  go_wp2_with (first
    | (go_at_call 18; (with_reducible refine (hC.out).mono ?_); rintro e w1 ⟨rfl, ho1⟩; have HO1 := Lib.hid (HN.out.trans ho1); have hb1 := HB.out.kept ho1 (fun hh => hh); obtain ⟨c0, c1, c2, c3, c4, c5, c6, c7, c8, c9, c10, c11⟩ := hb1.frm; have zb := hb1.lt; have H1 := Lib.hid (HQ.out _ HO1.out); clear ho1)
    )
  go_region_law (first
    | (go_simp; go_at_call 19; (with_reducible refine (joiner_any _ _).mono ?_); rintro e w2 ⟨g2, rfl, ho2, hg2⟩; have HO2 := Lib.hid (HO1.out.drew.trans ho2); have hb2 := (hb1.drew).kept ho2 (fun hh => hh); obtain ⟨d0, d1, d2, d3, d4, d5, d6, d7, d8, d9, d10, d11⟩ := hb2.frm; have zd := hb2.lt)
    | (go_simp; go_at_call 28; (with_reducible refine (hJ.out _ _ HO2.out hg2).mono ?_); rintro e w3 ⟨v3, rfl, hQ3, hO3, hG3⟩)
    )
  all_goals
    go_wp2
    go_ret
    exact ⟨v3, rfl, hQ3, ((HO2.out.of_nil _).trans_new hO3 (fun i hi hh => hh)), fun g hg => (hG3 g hg).imp id (fun e => Nat.le_trans HO2.out.size e)⟩
set_option maxRecDepth 100000 in
set_option maxHeartbeats 4000000 in
theorem Push_full (f : Frm) (A : Option Addr) (m cap : Nat) (w : World) (hP : PmIs w (.slice A m cap) f.P) (hT : Nds w) (hf : rightP f) (h : Oq w b base v L) (h2 : 2 ≤ f.t) (hno : (f.t ≠ 10 ∧ f.t ≠ 11) ∨ ∀ x ∈ L, fits f x.f = false)
    (hl : L.length = 64) : Calls Tryd.prog 13 #[.pointer (some ⟨b, 0, none⟩), frmV f (.slice A m cap)] w fun x w' => x = .returned (.int .i64 9) ∧ Only Nil w w' := by
  have hn := (Only.refl Nil w).alloc (.cells (frC f (.slice A m cap)) 31)
  have hC := Lib.hid (Check_any f _ (hP.go hn) (hT.alloc _) true ⟨fun _ => hf, fun _ => rfl⟩)
  unfold CkPost at hC
  rw [if_pos rfl] at hC
  have HN := Lib.hid hn
  have HB := Lib.hid (Blk.new w 31 (frC f (.slice A m cap)))
  have h4 := hf.n4
  have hn0 : 0 ≤ f.n ∧ f.n ≤ 2147483647 := by simpa [fourB] using h4
  have ht0 : ¬ f.t = 0 := by omega
  have ht1 : ¬ f.t = 1 := by omega
  have ht3 : (f.t == 0) = false := by simpa using ht0
  have ht4 : (f.t == 1) = false := by simpa using ht1
  have HQ := Lib.hid (fun W (ho : Only Nil w W) => h.kept ho)
  have hJ := Lib.hid (fun W g (ho : Only Nil w W) (hg : Blk W g 23 #[.pointer (some ⟨b, 0, none⟩)]) => joiner1_no f (.slice A m cap) W hg (h.kept ho) hno hn0.1 hn0.2 (by omega))
  obtain ⟨qA, qcap, rfl, hqc, hqm⟩ := h.own.form
  have HB0 := Lib.hid (fun W (ho : Only Nil w W) => And.intro (h.kept ho).cell (h.kept ho).blk.lt)
  rw [hl] at HB0
  obtain ⟨t, s, en, d, k, on, wt, ex, c, l, n, P⟩ := f
  simp only at ht0 ht1 ht3 ht4
  clear hP hf h hno hn0 h4 hn h2 hl hqc hqm
  go_enter Tryd.func13, Tryd.ntmps13
  go_wp2_with (first
    | (go_at_call 18; (with_reducible refine (hC.out).mono ?_); rintro e w1 ⟨rfl, ho1⟩; have HO1 := Lib.hid (HN.out.trans ho1); have hb1 := HB.out.kept ho1 (fun hh => hh); obtain ⟨c0, c1, c2, c3, c4, c5, c6, c7, c8, c9, c10, c11⟩ := hb1.frm; have zb := hb1.lt; have H1 := Lib.hid (HQ.out _ HO1.out); clear ho1)
    )
  go_region_law (first
    | (go_simp; go_at_call 19; (with_reducible refine (joiner_any _ _).mono ?_); rintro e w2 ⟨g2, rfl, ho2, hg2⟩; have HO2 := Lib.hid (HO1.out.drew.trans ho2); have hb2 := (hb1.drew).kept ho2 (fun hh => hh); obtain ⟨d0, d1, d2, d3, d4, d5, d6, d7, d8, d9, d10, d11⟩ := hb2.frm; have zd := hb2.lt)
    | (go_simp; go_at_call 28; (with_reducible refine (hJ.out _ _ HO2.out hg2).mono ?_); rintro e w3 ⟨rfl, ho3⟩; have HO3 := Lib.hid (HO2.out.trans ho3); obtain ⟨q0, qz⟩ := HB0.out _ HO3.out)
    )
  all_goals
    go_wp2
    go_ret
    exact ⟨rfl, HO3.out⟩
end
end Go.Proofs.YtgiplefnggnpcaaDoor
