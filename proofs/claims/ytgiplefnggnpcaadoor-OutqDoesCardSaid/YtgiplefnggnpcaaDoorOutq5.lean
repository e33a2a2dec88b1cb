/- A queue of frames of the call's own: Push, of one that is laid behind all others. -/
import Derived.Test.YtgiplefnggnpcaaDoorOutq4
namespace Go.Proofs.YtgiplefnggnpcaaDoor
open Go.RowKit Nd

section
variable {w w' : World} {b base : Nat} {v : Value} {L : List El}
def AddPost (w : World) (b base : Nat) (v : Value) (L : List El) (f : Frm) (x : Ending) (w' : World) : Prop := ∃ y : El, y.f = f ∧ OqPost w b base v (.int .i64 0) (L ++ [y]) x w'
set_option maxRecDepth 100000 in
set_option maxHeartbeats 4000000 in
theorem Push_add (f : Frm) (A : Option Addr) (m cap : Nat) (w : World) (hP : PmIs w (.slice A m cap) f.P) (hT : Nds w) (hf : rightP f) (h : Oq w b base v L) (h2 : 2 ≤ f.t) (hno : (f.t ≠ 10 ∧ f.t ≠ 11) ∨ ∀ x ∈ L, fits f x.f = false)
    (hl : L.length < 64) : Calls Tryd.prog 13 #[.pointer (some ⟨b, 0, none⟩), frmV f (.slice A m cap)] w (AddPost w b base v L f) := by
  have hn := (Only.refl Nil w).alloc (.cells (frC f (.slice A m cap)) 31)
  have hC := Lib.hid (Check_any f _ (hP.go hn) (hT.alloc _) true ⟨fun _ => hf, fun _ => rfl⟩)
  unfold CkPost at hC
  rw [if_pos rfl] at hC
  have HN := Lib.hid hn
  have HB := Lib.hid (Blk.new w 31 (frC f (.slice A m cap)))
  have h4 := hf.n4
  have hn0 : 0 ≤ f.n ∧ f.n ≤ 2147483647 := by simpa [fourB] using h4
  have ht0 : ¬ f.t = 0 := by omega
  have ht1 : ¬ f.t = 1 := by omega
  have ht3 : (f.t == 0) = false := by simpa using ht0
  have ht4 : (f.t == 1) = false := by simpa using ht1
  have HQ := Lib.hid (fun W (ho : Only Nil w W) => h.kept ho)
  have hJ := Lib.hid (fun W g (ho : Only Nil w W) (hg : Blk W g 23 #[.pointer (some ⟨b, 0, none⟩)]) => joiner1_no f (.slice A m cap) W hg (h.kept ho) hno hn0.1 hn0.2 (by omega))
  obtain ⟨qA, qcap, rfl, hqc, hqm⟩ := h.own.form
  have HB0 := Lib.hid (fun W (ho : Only Nil w W) => And.intro (h.kept ho).cell (h.kept ho).blk.lt)
  have hp8 : f.P.length ≤ 8 := by
    have := hf.pms
    simp only [pmsB, Bool.and_eq_true, decide_eq_true_eq] at this
    exact this.1
  have hS : Sq encPm 2 w w.heap.size A f.P ∧ m = f.P.length ∧ m ≤ cap ∧ cap ≤ maxLen := by
    obtain ⟨A', cap', e, h1, h2, h3⟩ := hP
    injection e with e1 e2 e3
    subst e1 e2 e3
    exact ⟨h3, rfl, h1, h2⟩
  obtain ⟨hS, rfl, hmc, hmm⟩ := hS
  unfold maxLen at hmm
  have HS := Lib.hid hS
  have hli : ¬ (64 : Int) ≤ L.length := by omega
  have HSZ := Lib.hid h.sz
  have HHB := Lib.hid h.hb
  have HRT := Lib.hid h.rt
  have HF := Lib.hid hf
  have hbw := Lib.hid h.blk.lt
  obtain ⟨t, s, en, d, k, on, wt, ex, c, l, n, P⟩ := f
  simp only at ht0 ht1 ht3 ht4 hp8 hmc HS
  clear hP hf h hno hn0 h4 hn h2 hqc hS
  go_enter Tryd.func13, Tryd.ntmps13
  go_wp2_with (first
    | (go_at_call 18; (with_reducible refine (hC.out).mono ?_); rintro e w1 ⟨rfl, ho1⟩; have HO1 := Lib.hid (HN.out.trans ho1); have hb1 := HB.out.kept ho1 (fun hh => hh); obtain ⟨c0, c1, c2, c3, c4, c5, c6, c7, c8, c9, c10, c11⟩ := hb1.frm; have zb := hb1.lt; have H1 := Lib.hid (HQ.out _ HO1.out); clear ho1)
    )
  go_region_law (first
    | (go_simp; go_at_call 19; (with_reducible refine (joiner_any _ _).mono ?_); rintro e w2 ⟨g2, rfl, ho2, hg2⟩; have HO2 := Lib.hid (HO1.out.drew.trans ho2); have hb2 := (hb1.drew).kept ho2 (fun hh => hh); obtain ⟨d0, d1, d2, d3, d4, d5, d6, d7, d8, d9, d10, d11⟩ := hb2.frm; have zd := hb2.lt)
    | (go_simp; go_at_call 28; (with_reducible refine (hJ.out _ _ HO2.out hg2).mono ?_); rintro e w3 ⟨rfl, ho3⟩; have HO3 := Lib.hid (HO2.out.trans ho3); obtain ⟨q0, qz⟩ := HB0.out _ HO3.out; have hb3 := hb2.kept ho3 (fun hh => hh); obtain ⟨e0, e1, e2, e3, e4, e5, e6, e7, e8, e9, e10, e11⟩ := hb3.frm; have ze := hb3.lt)
    )
  all_goals
    go_wp2_with (first
      | (at_builtin
         refine wpList_app2 rfl (.const (.slice none 0 0)) (.tmp 34) _ _ rfl base 49 Tryd.underlying29 pm_info rfl _ [] rfl Ow.nil _ P rfl (Src.sqn Tryd.underlying29 _ _ (HS.out.go HO3.out) encPm_len encPm_one (by decide) rfl) (by simp; omega) (by decide) (Nat.le_trans HSZ.out HO3.out.size) P.length (by simp) P rfl ?_
         intro A6 c6 w6 hown6 ho6' hg6
         have ho6 : Only Nil w3 w6 := ho6'.weaken fun _ _ hh => by cases hh
         have HO6 := Lib.hid (HO3.out.trans ho6); have hb6 := hb3.kept ho6 (fun hh => hh); obtain ⟨r0, r1, r2, r3, r4, r5, r6, r7, r8, r9, r10, r11⟩ := hb6.frm; have zr := hb6.lt; have r11f := hb6.frozen 11; have HN6 := Lib.hid (hown6.ne hb6 (by decide)); have HB6 := Lib.hid hb6; have HOW6 := Lib.hid hown6; clear hg6 ho6' ho6 hown6 hb6)
      )
    have HO7 := Lib.hid (HO6.out.setNew (Nat.le_refl _) 11 (.slice A6 P.length c6))
    have H7 := HQ.out _ HO7.out
    have hb7 : Blk _ _ 31 (frC ⟨t, s, en, d, k, on, wt, ex, c, l, n, P⟩ (.slice A6 P.length c6)) := HB6.out.set 11 (.slice A6 P.length c6)
    have hpm7 := HOW6.out.set HN6.out 11 (.slice A6 P.length c6)
    obtain ⟨s0, s1', s2, s3, s4, s5, s6, s7, s8, s9, s10, s11⟩ := hb7.frm
    have zs := hb7.lt
    have u0 := (HQ.out _ HO6.out).cell
    have uz := (HQ.out _ HO6.out).blk.lt
    have ub : b < w.heap.size := hbw.out
    have ub1 : ¬ b = w.heap.size := by omega
    have ub2 : ¬ w.heap.size = b := by omega
    have hOC := (H7.own.drew).alloc (.cells (frC ⟨t, s, en, d, k, on, wt, ex, c, l, n, P⟩ (.slice A6 P.length c6)) 31)
    have hN7 : Blk ((w6.setCell ⟨w.heap.size, 11, none⟩ (.slice A6 P.length c6)).drew.alloc (.cells (frC ⟨t, s, en, d, k, on, wt, ex, c, l, n, P⟩ (.slice A6 P.length c6)) 31)) w6.heap.size 31 (frC ⟨t, s, en, d, k, on, wt, ex, c, l, n, P⟩ (.slice A6 P.length c6)) := by
      have hz : (w6.setCell ⟨w.heap.size, 11, none⟩ (.slice A6 P.length c6)).drew.heap.size = w6.heap.size := by simp [World.setCell]
      have := Blk.new (w6.setCell ⟨w.heap.size, 11, none⟩ (.slice A6 P.length c6)).drew 31 (frC ⟨t, s, en, d, k, on, wt, ex, c, l, n, P⟩ (.slice A6 P.length c6))
      rw [hz] at this
      exact this
    have s1 := Src.one (P := Tryd.prog) (enc := encF) (tx := 26) Tryd.underlying26 ⟨⟨t, s, en, d, k, on, wt, ex, c, l, n, P⟩, A6, c6⟩ 1 rfl hN7 rfl (encF_one _)
    have H8 := H7.kept (((Only.refl Nil _).drew).alloc (.cells (frC ⟨t, s, en, d, k, on, wt, ex, c, l, n, P⟩ (.slice A6 P.length c6)) 31))
    have hneC := H8.own.ne H8.blk (by decide)
    have H8h := Lib.hid H8
    have HPM7 := Lib.hid hpm7
    have HO8 := Lib.hid (HO7.out.drew.alloc (.cells (frC ⟨t, s, en, d, k, on, wt, ex, c, l, n, P⟩ (.slice A6 P.length c6)) 31))
    have hszC := H8.sz
    have hB8 := H8.blk
    clear H7 hb7 hpm7 H8
    go_region_law (first
      | (refine step_app2 (by rfl) (.tmp 41) (.tmp 43) _ _ (by rfl) base 31 Tryd.underlying26 fr_info (by rfl) _ L (by rfl) hOC _ [⟨⟨t, s, en, d, k, on, wt, ex, c, l, n, P⟩, A6, c6⟩] (by rfl) s1 (by simp; omega) (by decide) hszC (L.length + 1) (by simp) (L ++ [⟨⟨t, s, en, d, k, on, wt, ex, c, l, n, P⟩, A6, c6⟩]) rfl ?_; intro A9 c9 w9 hown9 ho9 hg9; have hB9 := hB8.kept ho9 hneC; have k0 := hB9.cell 0; have q9 := hB9.frozen 0; have zk := hB9.lt)
      )
    all_goals
      go_wp2
      go_ret
      have hn9 := hown9.ne hB9 (by decide)
      refine ⟨⟨⟨t, s, en, d, k, on, wt, ex, c, l, n, P⟩, A6, c6⟩, rfl, .slice A9 (L.length + 1) c9, rfl, ⟨hB9.set 0 _, hown9.set hn9 0 _, fun x hx => ?_, fun x hx => ?_, HHB.out⟩, (((HO8.out.of_nil _).trans_new ho9.fp (fun i hi hh => hh)).atB 0 _), fun g hg => (hg9 g hg).imp id (fun e => Nat.le_trans HO8.out.size (Nat.le_of_eq e.symm))⟩
      · rcases List.mem_append.1 hx with hx | hx
        · have h9 := H8h.out.pm (H8h.out.ps x hx) ho9.fp
          exact h9.set (h9.ne hB9 (by decide)) 0 _
        · rw [List.mem_singleton] at hx
          subst hx
          have h9 := H8h.out.pm (x := ⟨⟨t, s, en, d, k, on, wt, ex, c, l, n, P⟩, A6, c6⟩) ((HPM7.out.drew).alloc _) ho9.fp
          exact h9.set (h9.ne hB9 (by decide)) 0 _
      · rcases List.mem_append.1 hx with hx | hx
        · exact HRT.out x hx
        · rw [List.mem_singleton] at hx
          subst hx
          exact HF.out
end
end Go.Proofs.YtgiplefnggnpcaaDoor
