/- What Put, Items and Copy of a queue do. -/
import Derived.Test.YtjhjfgelcbphjaaDoorQueue2
namespace Go.Proofs.YtjhjfgelcbphjaaDoor.Qu
open Go.Proofs.YtjhjfgelcbphjaaDoor
open Go.RowKit

theorem conv_both (X : ByteArray) (w : World) : ∃ A n cap w1, (convert 9 131 (.string X)).run Tryd.prog w = .ok (.slice A n cap) w1 ∧ (convert 131 9 (.slice A n cap)).run Tryd.prog w1 = .ok (.string X) w1 ∧ Only Nil w w1 := by
  have h := run_bytes_of_string (P := Tryd.prog) w 9 131 5 X Tryd.underlying9 Tryd.underlying131 Tryd.underlying5
  refine ⟨_, _, _, _, h, run_bytes_and_back 131 5 9 Tryd.underlying131 Tryd.underlying5 Tryd.underlying9 X _ _ _ _ h, (Only.refl _ _).drew.alloc _⟩
section
variable {w w' : World} {b base : Nat} {cp st : Int} {v : Value} {L : List ByteArray} {a t d : Int}
theorem verdicts1_is (r : Int) (hv : vd cp st L.length = r) (g : Nat) (w : World) (hg : Blk w g 105 #[.pointer (some ⟨b, 0, none⟩)]) (h : Qs 135 w b base cp st v L a t d) : Calls Tryd.prog 111 #[.pointer (some ⟨g, 0, none⟩)] w fun x w' => x = .returned (.int .i64 r) ∧ Only Nil w w' := by
  have := verdicts1_any g w hg h
  rw [hv] at this
  exact this
theorem Put_nil (S : ByteArray) (w : World) : Calls Tryd.prog 94 #[.pointer none, .string S] w fun x w' => x = .returned (.int .i64 0) ∧ Only Nil w w' := by
  go_enter Tryd.func94, Tryd.ntmps94
  go_wp2_with (first
    | (go_at_call 106; (with_reducible refine (verdicts_any none _).mono ?_); rintro e w1 ⟨g, rfl, ho1, hg1⟩)
    | (go_at_call 111; (with_reducible refine (verdicts1_nil g _ hg1).mono ?_); rintro e w2 ⟨rfl, ho2⟩)
    )
  go_ret
  exact ⟨rfl, ho1.trans ho2⟩
set_option maxHeartbeats 2000000 in
theorem Put_kept (S : ByteArray) (w : World) (h : Qs 135 w b base cp st v L a t d) (hl : L.length ≤ 1000) (hk : (L.length : Int) < cp) (a0 : 0 ≤ a) (a1 : a ≤ 1000000) : Calls Tryd.prog 94 #[.pointer (some ⟨b, 0, none⟩), .string S] w (QPost 135 w b base cp st v (.int .i64 1) (L ++ [S]) (a + 1) t d) := by
  have hhb := h.hb
  have HVD := Lib.hid (show vd cp st L.length = 1 by unfold vd; rw [if_pos hk])
  obtain ⟨A, cap, rfl, hcp, hm⟩ := h.own.form
  go_enter Tryd.func94, Tryd.ntmps94
  go_wp2_with (first
    | (go_at_call 106; (with_reducible refine (verdicts_any _ _).mono ?_); rintro e w1 ⟨g, rfl, ho1, hg1⟩; have h1 := h.kept ho1)
    | (go_at_call 111; (with_reducible refine (verdicts1_is _ HVD.out g _ hg1 h1).mono ?_); rintro e w2 ⟨rfl, ho2⟩; have h2 := h1.kept ho2; obtain ⟨c0, c1, c2, c3, c4, c5⟩ := h2.facts)
    )
  have ho12 := ho1.trans ho2
  clear h1
  obtain ⟨AC, nC, capC, wC, hc1, hc2, hoC⟩ := conv_both S (w2).drew
  have hQC := (h2.kept ((Only.refl Nil _).drew)).kept hoC
  have hOC := hQC.own.alloc (.cells #[.string S] 9)
  have hBC := hQC.blk.alloc (.cells #[.string S] 9)
  have hCC := hQC.facts.2.2.1
  have zC := hQC.blk.lt
  have hneC := hOC.ne hBC (by decide)
  have s1 := Src.one (P := Tryd.prog) (enc := encS) (tx := 46) Tryd.underlying46 S 1 rfl (Blk.new wC 9 #[.string S]) rfl (encS_one S)
  have hszC := (hQC.kept ((Only.refl Nil wC).alloc (.cells #[.string S] 9))).sz
  have hx := (((Only.refl Nil (w2)).drew).trans hoC).alloc (.cells #[.string S] 9)
  go_region_law (first
    | (refine step_app2 (by rfl) (.tmp 38) (.tmp 42) _ _ (by rfl) base 9 Tryd.underlying46 str_info (by rfl) _ L (by rfl) hOC _ [S] (by rfl) s1 (by simp; omega) (by decide) hszC (L.length + 1) (by simp) (L ++ [S]) rfl ?_; intro A6 c6 w6 hown6 ho6 hg6; have hB6 := hBC.kept ho6 hneC; have k2 := hB6.cell 2; have q2 := hB6.frozen 2; have k3 := hB6.cell 3; have q3 := hB6.frozen 3; have hne6 := hown6.ne hB6 (by decide))
    )
  go_wp2
  all_goals
    go_ret
    have hxx := ho12.trans hx
    exact ⟨_, rfl, ⟨(hB6.set 2 _).set 3 _, (hown6.set hne6 2 _).set hne6 3 _, hhb⟩, (((hxx.of_nil (Fp b (.slice A L.length cap))).trans ho6.fp).atB 2 _).atB 3 _, fun g hg => (hg6 g hg).imp id (fun e => by have := hxx.size; omega)⟩
theorem Put_refused (S : ByteArray) (w : World) (h : Qs 135 w b base cp st v L a t d) (hk : cp ≤ (L.length : Int)) (hst : st = 0) : Calls Tryd.prog 94 #[.pointer (some ⟨b, 0, none⟩), .string S] w (QPost 135 w b base cp st v (.int .i64 0) L a t d) := by
  have HVD := Lib.hid (show vd cp st L.length = 0 by unfold vd; rw [if_neg (by omega), if_pos hst])
  have hh := Lib.hid h
  clear hst
  go_enter Tryd.func94, Tryd.ntmps94
  go_wp2_with (first
    | (go_at_call 106; (with_reducible refine (verdicts_any _ _).mono ?_); rintro e w1 ⟨g, rfl, ho1, hg1⟩; have h1 := h.kept ho1)
    | (go_at_call 111; (with_reducible refine (verdicts1_is _ HVD.out g _ hg1 h1).mono ?_); rintro e w2 ⟨rfl, ho2⟩; have h2 := h1.kept ho2)
    )
  go_ret
  exact ⟨v, rfl, h2, (ho1.trans ho2).of_nil _, fun g hg => .inl hg⟩
theorem Put_dropped (S : ByteArray) (w : World) (h : Qs 135 w b base cp st v L a t d) (hk : cp ≤ (L.length : Int)) (hst : st ≠ 0) (hd : st = 1 ∨ cp = 0) (a0 : 0 ≤ a) (a1 : a ≤ 1000000) (d0 : 0 ≤ d) (d1 : d ≤ 1000000) : Calls Tryd.prog 94 #[.pointer (some ⟨b, 0, none⟩), .string S] w (QPost 135 w b base cp st v (.int .i64 2) L (a + 1) t (d + 1)) := by
  have HVD := Lib.hid (show vd cp st L.length = 2 by unfold vd; rw [if_neg (by omega), if_neg hst, if_pos hd])
  have hhb := h.hb
  clear hst hd
  go_enter Tryd.func94, Tryd.ntmps94
  go_wp2_with (first
    | (go_at_call 106; (with_reducible refine (verdicts_any _ _).mono ?_); rintro e w1 ⟨g, rfl, ho1, hg1⟩; have h1 := h.kept ho1)
    | (go_at_call 111; (with_reducible refine (verdicts1_is _ HVD.out g _ hg1 h1).mono ?_); rintro e w2 ⟨rfl, ho2⟩; have h2 := h1.kept ho2; obtain ⟨c0, c1, c2, c3, c4, c5⟩ := h2.facts; obtain ⟨f2, f3, f4, f5⟩ := h2.thaw)
    )
  go_ret
  have hne := h2.own.ne h2.blk (by decide)
  exact ⟨v, rfl, ⟨(h2.blk.set 5 _).set 3 _, (h2.own.set hne 5 _).set hne 3 _, hhb⟩, (((ho1.trans ho2).of_nil (Fp b v)).atB 5 _).atB 3 _, fun g hg => .inl hg⟩
set_option maxHeartbeats 2000000 in
theorem Put_pushed (S x : ByteArray) (R : List ByteArray) (w : World) (h : Qs 135 w b base cp st v (x :: R) a t d) (hl : R.length ≤ 1000) (hk : cp ≤ ((x :: R).length : Int)) (hst : st ≠ 0) (hd : ¬ (st = 1 ∨ cp = 0)) (a0 : 0 ≤ a) (a1 : a ≤ 1000000) (d0 : 0 ≤ d) (d1 : d ≤ 1000000) :
    Calls Tryd.prog 94 #[.pointer (some ⟨b, 0, none⟩), .string S] w (QPost 135 w b base cp st v (.int .i64 3) (R ++ [S]) (a + 1) t (d + 1)) := by
  have HVD := Lib.hid (show vd cp st (x :: R).length = 3 by unfold vd; rw [if_neg (by omega), if_neg hst, if_neg hd])
  have hhb := h.hb
  have hC := Lib.hid (fun W (k : Qs 135 W b base cp st v (x :: R) a t d) => cut_any x R W k hl)
  clear hst hd hk
  go_enter Tryd.func94, Tryd.ntmps94
  go_wp2_with (first
    | (go_at_call 106; (with_reducible refine (verdicts_any _ _).mono ?_); rintro e w1 ⟨g, rfl, ho1, hg1⟩; have h1 := h.kept ho1)
    | (go_at_call 111; (with_reducible refine (verdicts1_is _ HVD.out g _ hg1 h1).mono ?_); rintro e w2 ⟨rfl, ho2⟩; have h2 := h1.kept ho2)
    | (go_at_call 92; (with_reducible refine (hC.out _ h2).mono ?_); rintro e w3 ⟨v3, rfl, h3, ho3, hg3⟩; obtain ⟨c0, c1, c2, c3, c4, c5⟩ := h3.facts; obtain ⟨f2, f3, f4, f5⟩ := h3.thaw)
    )
  have hne3 := h3.own.ne h3.blk (by decide)
  have h4 : Qs 135 (w3.setCell ⟨b, 5, none⟩ (.int .i64 (d + 1))) b base cp st v3 R a t (d + 1) := ⟨h3.blk.set 5 _, h3.own.set hne3 5 _, hhb⟩
  have ho4 := (((ho1.trans ho2).of_nil (Fp b v)).trans ho3).atB 5 (.int .i64 (d + 1))
  obtain ⟨A, cap, rfl, hcp, hm⟩ := h3.own.form
  clear h1 h2 h3 c0 c1 c2 c3 c4 c5 f2 f3 f4 f5 h hC
  generalize w3.setCell ⟨b, 5, none⟩ (.int .i64 (d + 1)) = w4 at *
  have c24 := h4.facts.2.2.1
  obtain ⟨AC, nC, capC, wC, hc1, hc2, hoC⟩ := conv_both S (w4).drew
  have hQC := (h4.kept ((Only.refl Nil _).drew)).kept hoC
  have hOC := hQC.own.alloc (.cells #[.string S] 9)
  have hBC := hQC.blk.alloc (.cells #[.string S] 9)
  have hCC := hQC.facts.2.2.1
  have zC := hQC.blk.lt
  have hneC := hOC.ne hBC (by decide)
  have s1 := Src.one (P := Tryd.prog) (enc := encS) (tx := 46) Tryd.underlying46 S 1 rfl (Blk.new wC 9 #[.string S]) rfl (encS_one S)
  have hszC := (hQC.kept ((Only.refl Nil wC).alloc (.cells #[.string S] 9))).sz
  have hx := (((Only.refl Nil (w4)).drew).trans hoC).alloc (.cells #[.string S] 9)
  go_region_law (first
    | (refine step_app2 (by rfl) (.tmp 38) (.tmp 42) _ _ (by rfl) base 9 Tryd.underlying46 str_info (by rfl) _ R (by rfl) hOC _ [S] (by rfl) s1 (by simp; omega) (by decide) hszC (R.length + 1) (by simp) (R ++ [S]) rfl ?_; intro A6 c6 w6 hown6 ho6 hg6; have hB6 := hBC.kept ho6 hneC; have k2 := hB6.cell 2; have q2 := hB6.frozen 2; have k3 := hB6.cell 3; have q3 := hB6.frozen 3; have hne6 := hown6.ne hB6 (by decide))
    )
  go_wp2
  all_goals
    go_ret
    have hxx := ho4.trans (hx.of_nil (Fp b v))
    exact ⟨_, rfl, ⟨(hB6.set 2 _).set 3 _, (hown6.set hne6 2 _).set hne6 3 _, hhb⟩, ((hxx.trans (ho6.weaken (fun i _ hh => .inr (hg3 i hh)))).atB 2 _).atB 3 _, fun g hg => (hg6 g hg).imp (hg3 g) (fun e => by have := hxx.size; omega)⟩
end
end Go.Proofs.YtjhjfgelcbphjaaDoor.Qu
