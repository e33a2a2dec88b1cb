/- A queue of frames of the call's own: what lies where; its smaller calls. -/
import Derived.Test.YtgiplefnggnpcaaDoorRows
import Derived.Test.YtgiplefnggnpcaaDoorApp
import Derived.Test.YtgiplefnggnpcaaDoorCopyN
import Derived.Test.YtgiplefnggnpcaaDoorFcheck3
import Derived.Deep.RegionLaw
import Derived.Deep.DeepCutAuto
import Derived.Deep.AppendLies
namespace Go.Proofs.YtgiplefnggnpcaaDoor
open Go.RowKit Nd

/-- a frame as an element of a row: its settings lie behind a slice -/
structure El where
  f : Frm
  A : Option Addr
  cap : Nat
abbrev El.p (x : El) : Value := .slice x.A x.f.P.length x.cap
def encF (x : El) : List Value := [.int .i64 x.f.t, .int .i64 x.f.s, .bool x.f.en, .string x.f.d, .int .i64 x.f.k, .int .i64 x.f.on, .int .i64 x.f.wt, .bool x.f.ex, .int .i64 x.f.c, .int .i64 x.f.l, .int .i64 x.f.n, x.p]
theorem encF_len : ∀ x, (encF x).length = 12 := fun _ => rfl
theorem encF_one : ∀ x, ∀ u ∈ encF x, u.oneCell' = true := fun x u hu => by
  simp only [encF, List.mem_cons, List.not_mem_nil, or_false] at hu
  rcases hu with rfl | rfl | rfl | rfl | rfl | rfl | rfl | rfl | rfl | rfl | rfl | rfl <;> rfl
theorem fr_info : (Tryd.prog.info? 31).map (fun i => (i.zero, i.size, i.bytes)) = some (some (.agg (frC ⟨0, 0, false, nilS, 0, 0, 0, false, 0, 0, 0, []⟩ (.slice none 0 0))), 12, 120) := by kernel_rfl
theorem pm_info : (Tryd.prog.info? 49).map (fun i => (i.zero, i.size, i.bytes)) = some (some (.agg #[.int .i64 0, .int .i64 0]), 2, 16) := by kernel_rfl
structure Oq (w : World) (b base : Nat) (v : Value) (L : List El) : Prop where
  blk : Blk w b 47 #[v]
  own : Ow encF 12 w base 31 v L
  ps : ∀ x ∈ L, Ow encPm 2 w base 49 x.p x.f.P
  rt : ∀ x ∈ L, rightP x.f
  hb : base ≤ b
def Fp (b : Nat) (v : Value) : Nat → Prop := fun k => k = b ∨ v.ownBlock = some k
def OqPost (w : World) (b base : Nat) (v : Value) (r : Value) (L : List El) (x : Ending) (w' : World) : Prop :=
  ∃ v', x = .returned r ∧ Oq w' b base v' L ∧ Only (Fp b v) w w' ∧ ∀ g, v'.ownBlock = some g → v.ownBlock = some g ∨ w.heap.size ≤ g
section
variable {w w' : World} {b base : Nat} {v : Value} {L : List El}
theorem Only.oneFp (ho : Only (One b) w w') : Only (Fp b v) w w' := ho.weaken fun _ _ hh => .inl hh
theorem Only.fp (ho : Only (ownB v) w w') : Only (Fp b v) w w' := ho.weaken fun _ _ hh => .inr hh
theorem Only.atB (ho : Only (Fp b v) w w') (i : Nat) (u : Value) : Only (Fp b v) w (w'.setCell ⟨b, i, none⟩ u) := ho.setCell (p := ⟨b, i, none⟩) (fun _ => .inl rfl) u
theorem Oq.kept (h : Oq w b base v L) (ho : Only Nil w w') : Oq w' b base v L :=
  ⟨h.blk.kept ho (fun hh => hh), h.own.kept ho (fun _ _ hh => hh), fun x hx => (h.ps x hx).kept ho (fun _ _ hh => hh), h.rt, h.hb⟩
theorem Oq.sz (h : Oq w b base v L) : base ≤ w.heap.size := by have := h.hb; have := h.blk.lt; omega
theorem Oq.cell (h : Oq w b base v L) : w.cell? ⟨b, 0, none⟩ = some v := h.blk.cell 0
theorem Oq.fpBase (h : Oq w b base v L) : ∀ i, i < base → ¬ Fp b v i := fun i hi hh => by
  rcases hh with rfl | hh
  · have := h.hb
    omega
  · have := (h.own.lt hh).1
    omega
theorem Oq.below (h : Oq w b base v L) (ho : Only (Fp b v) w w') : Below base w w' := ho.below h.sz h.fpBase
/-- what owns settings is no block of a queue -/
theorem Oq.pm (h : Oq w b base v L) {x : El} (hx : Ow encPm 2 w base 49 x.p x.f.P) (ho : Only (Fp b v) w w') : Ow encPm 2 w' base 49 x.p x.f.P := by
  refine hx.kept ho fun g hg hh => ?_
  rcases hh with rfl | hh
  · exact hx.ne h.blk (by decide) hg
  · rcases h.own.2 with ⟨rfl, _⟩ | ⟨g', off, cap, cur, rfl, _, hB, _⟩
    · simp [Value.ownBlock] at hh
    · simp [Value.ownBlock] at hh
      subst hh
      exact hx.ne hB (by decide) hg
theorem New_any (w : World) : Calls Tryd.prog 6 #[] w fun x w' => ∃ b, x = .returned (.pointer (some ⟨b, 0, none⟩)) ∧ Only Nil w w' ∧ w.heap.size ≤ b ∧ Oq w' b w.heap.size (.slice none 0 0) [] := by
  go_enter Tryd.func6, Tryd.ntmps6
  go_wp2
  go_ret
  exact ⟨_, rfl, (Only.refl _ _).alloc _, Nat.le_refl _, Blk.new _ _ _, Ow.nil, by simp, by simp, Nat.le_refl _⟩
theorem Len_any (w : World) (h : Oq w b base v L) : Calls Tryd.prog 15 #[.pointer (some ⟨b, 0, none⟩)] w fun x w' => x = .returned (.int .i64 L.length) ∧ w = w' := by
  obtain ⟨A, cap, rfl, hc, hm⟩ := h.own.form
  have c0 := h.cell
  go_enter Tryd.func15, Tryd.ntmps15
  go_wp2
  go_ret
  exact ⟨rfl, rfl⟩
theorem Len_nil (w : World) : Calls Tryd.prog 15 #[.pointer none] w fun x w' => x = .returned (.int .i64 0) ∧ w = w' := by
  go_enter Tryd.func15, Tryd.ntmps15
  go_wp2
  go_ret
  exact ⟨rfl, rfl⟩
theorem Room_any (w : World) (h : Oq w b base v L) (hl : L.length ≤ 64) : Calls Tryd.prog 16 #[.pointer (some ⟨b, 0, none⟩)] w fun x w' => x = .returned (.int .i64 (64 - L.length)) ∧ w = w' := by
  obtain ⟨A, cap, rfl, hc, hm⟩ := h.own.form
  have c0 := h.cell
  go_enter Tryd.func16, Tryd.ntmps16
  go_wp2
  go_ret
  exact ⟨rfl, rfl⟩
theorem Room_nil (w : World) : Calls Tryd.prog 16 #[.pointer none] w fun x w' => x = .returned (.int .i64 0) ∧ w = w' := by
  go_enter Tryd.func16, Tryd.ntmps16
  go_wp2
  go_ret
  exact ⟨rfl, rfl⟩
theorem Clear_nil (w : World) : Calls Tryd.prog 9 #[.pointer none] w fun x w' => x = .returned (.int .i64 0) ∧ w = w' := by
  go_enter Tryd.func9, Tryd.ntmps9
  go_wp2_with (first
    | (go_at_call 15; (with_reducible refine (Len_nil _).mono ?_); rintro e w1 ⟨rfl, rfl⟩)
    )
  go_ret
  exact ⟨rfl, rfl⟩
theorem Clear_any (w : World) (h : Oq w b base v L) : Calls Tryd.prog 9 #[.pointer (some ⟨b, 0, none⟩)] w (OqPost w b base v (.int .i64 L.length) []) := by
  have c0 := h.cell
  have z := h.blk.lt
  have f0 := h.blk.frozen 0
  have hL := Lib.hid (Len_any w h)
  by_cases hl : L.length = 0
  · have e : L = [] := List.eq_nil_of_length_eq_zero hl
    have H := Lib.hid h
    rw [e] at H
    rw [hl] at hL ⊢
    clear hl h e
    go_enter Tryd.func9, Tryd.ntmps9
    go_wp2_with (first
      | (go_at_call 15; (with_reducible refine (hL.out).mono ?_); rintro e w1 ⟨rfl, rfl⟩)
      )
    go_ret
    exact ⟨v, rfl, H.out, Only.refl _ _, fun g hg => .inl hg⟩
  · have hl : (0 : Int) < L.length := by omega
    have H := Lib.hid h
    clear h
    go_enter Tryd.func9, Tryd.ntmps9
    go_wp2_with (first
      | (go_at_call 15; (with_reducible refine (hL.out).mono ?_); rintro e w1 ⟨rfl, rfl⟩)
      )
    go_ret
    exact ⟨.slice none 0 0, rfl, ⟨H.out.blk.set 0 _, Ow.nil, by simp, by simp, H.out.hb⟩, (Only.refl _ _).atB 0 _, fun g hg => by simp [Value.ownBlock] at hg⟩
theorem Next_nil (w : World) : Calls Tryd.prog 10 #[.pointer none] w fun x w' => x = .returned (.tuple #[frmV ⟨0, 0, false, nilS, 0, 0, 0, false, 0, 0, 0, []⟩ (.slice none 0 0), .bool false]) ∧ Only Nil w w' := by
  go_enter Tryd.func10, Tryd.ntmps10
  go_wp2_with (first
    | (go_at_call 15; (with_reducible refine (Len_nil _).mono ?_); rintro e w1 ⟨rfl, rfl⟩)
    )
  refine bodyPost_ret (v := .tuple #[frmV ⟨0, 0, false, nilS, 0, 0, 0, false, 0, 0, 0, []⟩ (.slice none 0 0), .bool false]) (by simp [results, Tryd.results10, go_sem]) rfl ⟨rfl, ?_⟩
  exact (Only.refl _ _).alloc _
theorem Next_none (w : World) (h : Oq w b base v []) : Calls Tryd.prog 10 #[.pointer (some ⟨b, 0, none⟩)] w fun x w' => x = .returned (.tuple #[frmV ⟨0, 0, false, nilS, 0, 0, 0, false, 0, 0, 0, []⟩ (.slice none 0 0), .bool false]) ∧ Only Nil w w' := by
  have hL := Lib.hid (fun W (ho : Only Nil w W) => Len_any W (h.kept ho))
  have HO := Lib.hid ((Only.refl Nil w).alloc (.cells (frC ⟨0, 0, false, nilS, 0, 0, 0, false, 0, 0, 0, []⟩ (.slice none 0 0)) 31))
  clear h
  go_enter Tryd.func10, Tryd.ntmps10
  go_wp2_with (first
    | (go_at_call 15; (with_reducible refine (hL.out _ HO.out).mono ?_); rintro e w1 ⟨rfl, rfl⟩)
    )
  refine bodyPost_ret (v := .tuple #[frmV ⟨0, 0, false, nilS, 0, 0, 0, false, 0, 0, 0, []⟩ (.slice none 0 0), .bool false]) (by simp [results, Tryd.results10, go_sem]) rfl ⟨rfl, ?_⟩
  exact (Only.refl _ _).alloc _
def JnPost (p : Option Addr) (w : World) (x : Ending) (w' : World) : Prop := ∃ g, x = .returned (.func (.func 28) #[] #[.pointer (some ⟨g, 0, none⟩)]) ∧ Only Nil w w' ∧ Blk w' g 23 #[.pointer p]
theorem joiner_any (p : Option Addr) (w : World) : Calls Tryd.prog 19 #[.pointer p] w (JnPost p w) := by
  have hmf := mkf Tryd.prog
  go_enter Tryd.func19, Tryd.ntmps19
  go_wp2
  go_ret
  exact ⟨_, rfl, (Only.refl _ _).alloc _, Blk.new _ _ _⟩
theorem Push_nil (f : Frm) (p : Value) (w : World) : Calls Tryd.prog 13 #[.pointer none, frmV f p] w fun x w' => x = .returned (.int .i64 1) ∧ Only Nil w w' := by
  go_enter Tryd.func13, Tryd.ntmps13
  go_wp2
  go_ret
  exact ⟨rfl, (Only.refl _ _).alloc _⟩
theorem Push_bad (f : Frm) (A : Option Addr) (m cap : Nat) (w : World) (p : Addr) (hP : PmIs w (.slice A m cap) f.P) (hT : Nds w) (hf : ¬ rightP f) : Calls Tryd.prog 13 #[.pointer (some p), frmV f (.slice A m cap)] w fun x w' => x = .returned (.int .i64 2) ∧ Only Nil w w' := by
  have hn := (Only.refl Nil w).alloc (.cells (frC f (.slice A m cap)) 31)
  have hC := Lib.hid (Check_any f _ (hP.go hn) (hT.alloc _) false ⟨(fun h => by cases h), (fun h => absurd h hf)⟩)
  unfold CkPost at hC
  rw [if_neg (by decide)] at hC
  have HN := Lib.hid hn
  clear hf hP hn
  go_enter Tryd.func13, Tryd.ntmps13
  go_wp2_with (first
    | (go_at_call 18; (with_reducible refine (hC.out).mono ?_); rintro e w1 ⟨rfl, ho1⟩)
    )
  go_ret
  exact ⟨rfl, HN.out.trans ho1⟩
theorem Push_kind (f : Frm) (A : Option Addr) (m cap : Nat) (w : World) (p : Addr) (hP : PmIs w (.slice A m cap) f.P) (hT : Nds w) (hf : rightP f) (hk : f.t < 2) : Calls Tryd.prog 13 #[.pointer (some p), frmV f (.slice A m cap)] w fun x w' => x = .returned (.int .i64 13) ∧ Only Nil w w' := by
  have hn := (Only.refl Nil w).alloc (.cells (frC f (.slice A m cap)) 31)
  have hC := Lib.hid (Check_any f _ (hP.go hn) (hT.alloc _) true ⟨fun _ => hf, fun _ => rfl⟩)
  unfold CkPost at hC
  rw [if_pos rfl] at hC
  have HN := Lib.hid hn
  have hb := Blk.new w 31 (frC f (.slice A m cap))
  have h0 : f.t = 0 ∨ f.t = 1 := by have := hf.t0; omega
  obtain ⟨t, s, en, d, k, on, wt, ex, c, l, n, P⟩ := f
  clear hf hP hn hk
  simp only at h0
  rcases h0 with rfl | rfl
  all_goals
    go_enter Tryd.func13, Tryd.ntmps13
    go_wp2_with (first
      | (go_at_call 18; (with_reducible refine (hC.out).mono ?_); rintro e w1 ⟨rfl, ho1⟩; have c0 := (hb.kept ho1 (fun hh => hh)).cell 0)
      )
    go_ret
    exact ⟨rfl, HN.out.trans ho1⟩
end
end Go.Proofs.YtgiplefnggnpcaaDoor
