/- What the calls of a queue do. -/
import Derived.Test.YtjhjfgelcbphjaaDoorQueue
namespace Go.Proofs.YtjhjfgelcbphjaaDoor.Qu
open Go.Proofs.YtjhjfgelcbphjaaDoor
open Go.RowKit

theorem _root_.Go.Proofs.YtjhjfgelcbphjaaDoor.Ow.one_on {w : World} {base : Nat} {e : TypeId} {g o m cap : Nat} {x : ByteArray} {R : List ByteArray} (h : Ow encS 1 w base e (.slice (some ⟨g, o, none⟩) (m + 1) cap) (x :: R)) (A : Option Addr) (hA : A = some ⟨g, o + 1, none⟩ ∨ (m = 0 ∧ A = some ⟨g, o, none⟩)) :
    Ow encS 1 w base e (.slice A m m) R := by
  rcases h.2 with ⟨e1, _⟩ | ⟨g', off, cap', cur, e1, hb, hh, hl, hx, hf, hc⟩
  · injection e1 with e1
    cases e1
  · injection e1 with e1 e2 e3
    injection e1 with e1
    injection e1 with e1 e4
    subst e1 e4 e3
    rw [List.length_cons] at e2 hl
    have hm : m = R.length := by omega
    subst hm
    rcases hA with rfl | ⟨h0, rfl⟩
    · refine ⟨by rw [flat1 encS_len]; simp, .inr ⟨g, o + 1, R.length, cur, rfl, hb, hh, Nat.le_refl _, by omega, by omega, fun j hj => ?_⟩⟩
      have := hc (1 + j) (by rw [List.length_cons]; omega)
      rw [show o + 1 + j = o + (1 + j) by omega, this, List.flatMap_cons, List.getElem?_append_right (by rw [encS_len]; omega), encS_len, Nat.add_sub_cancel_left]
    · exact ⟨by rw [flat1 encS_len]; simp, .inr ⟨g, o, R.length, cur, rfl, hb, hh, Nat.le_refl _, by omega, by omega, fun j hj => by omega⟩⟩
def CutPost (T : TypeId) (w : World) (b base : Nat) (cp st : Int) (v : Value) (r : ByteArray) (L : List ByteArray) (a t d : Int) (x : Ending) (w' : World) : Prop :=
  ∃ v', x = .returned (.string r) ∧ Qs T w' b base cp st v' L a t d ∧ Only (Fp b v) w w' ∧ ∀ g, v'.ownBlock = some g → v.ownBlock = some g
section
variable {w w' : World} {b base : Nat} {cp st : Int} {v : Value} {L : List ByteArray} {a t d : Int}
set_option maxHeartbeats 1000000 in
theorem cut_any (x : ByteArray) (R : List ByteArray) (w : World) (h : Qs 135 w b base cp st v (x :: R) a t d) (hl : R.length ≤ 1000) : Calls Tryd.prog 92 #[.pointer (some ⟨b, 0, none⟩)] w (CutPost 135 w b base cp st v x R a t d) := by
  have hO := h.own
  have hB := h.blk
  have hhb := h.hb
  obtain ⟨A, cap, rfl, hc, hm⟩ := h.own.form
  obtain ⟨g, o, x', rfl, hgl, hx', _, _⟩ := (hO.sq (fun _ _ => rfl) rfl).at_ (k := 0) (by simp)
  obtain ⟨c0, c1, c2, c3, c4, c5⟩ := h.facts
  obtain ⟨f2, f3, f4, f5⟩ := h.thaw
  have p0 : w.cell? ⟨g, o, none⟩ = some (.string x) := (hO.sq (fun _ _ => rfl) rfl).cell1 (k := 0) rfl
  have z0 : w.frozen? ⟨g, o, none⟩ = false := by simpa using hO.frz 0
  have hne := hO.ne hB (by decide)
  have ngb : g ≠ b := fun e => hne (by rw [e]; rfl)
  have hO1 := hO.put1 encS_len 0 (by simp) noS (.string noS) rfl
  rw [List.set_cons_zero] at hO1
  have hB1 := hB.far (p := ⟨g, o, none⟩) ngb.symm (.string noS)
  have hF1 := (Only.refl (Fp b (.slice (some ⟨g, o, none⟩) (x :: R).length cap)) w).setCell (p := ⟨g, o, none⟩) (fun _ => .inr rfl) (.string noS)
  rw [List.length_cons] at c2 hc hO1 hF1 hne ⊢
  have hO1' : Ow encS 1 (w.setCell ⟨g, o, none⟩ (.string noS)) base 9 (.slice (some ⟨g, o, none⟩) (R.length + 1) cap) (noS :: R) := hO1
  clear h hO hO1 hx' hm
  generalize hmm : R.length = m at *
  have HM := Lib.hid hmm
  clear hmm
  by_cases hm0 : m = 0
  · subst hm0
    have hO2 := (Ow.one_on hO1' (some ⟨g, o, none⟩) (.inr ⟨rfl, rfl⟩)).set (b := b) (fun hh => ngb (by injection hh)) 2 (.slice (some ⟨g, o, none⟩) 0 0)
    have hci : (1 : Int) ≤ cap := by omega
    go_enter Tryd.func92, Tryd.ntmps92
    go_wp2
    go_ret
    exact ⟨_, rfl, ⟨hB1.set 2 _, hO2, hhb⟩, hF1.atB 2 _, fun g hg => hg⟩
  · have hO2 := (Ow.one_on hO1' (some ⟨g, o + 1, none⟩) (.inl rfl)).set (b := b) (fun hh => ngb (by injection hh)) 2 (.slice (some ⟨g, o + 1, none⟩) m m)
    have hci : (m : Int) + 1 ≤ cap := by omega
    have hmi : (1 : Int) ≤ (m : Int) + 1 := by omega
    go_enter Tryd.func92, Tryd.ntmps92
    go_wp2
    go_ret
    exact ⟨_, rfl, ⟨hB1.set 2 _, hO2, hhb⟩, hF1.atB 2 _, fun g hg => hg⟩
theorem Take_out (w : World) (h : Qs 135 w b base cp st v [] a t d) : Calls Tryd.prog 75 #[.pointer (some ⟨b, 0, none⟩)] w fun x w' => x = .returned (.tuple #[.string noS, .bool false]) ∧ w = w' := by
  have hL := Lib.hid (Len_any w h)
  go_enter Tryd.func75, Tryd.ntmps75
  go_wp2_with (first
    | (go_at_call 52; (with_reducible refine (hL.out).mono ?_); rintro e w1 ⟨rfl, rfl⟩)
    )
  go_ret2
  exact ⟨rfl, rfl⟩
theorem Take_nil (w : World) : Calls Tryd.prog 75 #[.pointer none] w fun x w' => x = .returned (.tuple #[.string noS, .bool false]) ∧ w = w' := by
  go_enter Tryd.func75, Tryd.ntmps75
  go_wp2_with (first
    | (go_at_call 52; (with_reducible refine (Len_nil _).mono ?_); rintro e w1 ⟨rfl, rfl⟩)
    )
  go_ret2
  exact ⟨rfl, rfl⟩
theorem Take_in (x : ByteArray) (R : List ByteArray) (w : World) (h : Qs 135 w b base cp st v (x :: R) a t d) (hl : R.length ≤ 1000) (t0 : 0 ≤ t) (t1 : t ≤ 1000000) : Calls Tryd.prog 75 #[.pointer (some ⟨b, 0, none⟩)] w (QPost 135 w b base cp st v (.tuple #[.string x, .bool true]) R a (t + 1) d) := by
  have hL := Lib.hid (Len_any w h)
  obtain ⟨c0, c1, c2, c3, c4, c5⟩ := h.facts
  obtain ⟨f2, f3, f4, f5⟩ := h.thaw
  have hQ : Qs 135 (w.setCell ⟨b, 4, none⟩ (.int .i64 (t + 1))) b base cp st v (x :: R) a (t + 1) d := ⟨h.blk.set 4 _, h.own.set (h.own.ne h.blk (by decide)) 4 _, h.hb⟩
  have hC := Lib.hid (cut_any x R _ hQ hl)
  rw [List.length_cons] at hL
  have hne : ((R.length : Int) + 1 == 0) = false := by simp; omega
  go_enter Tryd.func75, Tryd.ntmps75
  go_wp2_with (first
    | (go_at_call 52; (with_reducible refine (hL.out).mono ?_); rintro e w1 ⟨rfl, rfl⟩)
    | (go_at_call 92; (with_reducible refine (hC.out).mono ?_); rintro e w2 ⟨v', rfl, hQ2, ho2, hg2⟩)
    )
  go_ret2
  exact ⟨v', rfl, hQ2, ((Only.refl (Fp b v) w).atB 4 _).trans ho2, fun g hg => .inl (hg2 g hg)⟩
theorem Clear_out (w : World) (h : Qs 135 w b base cp st v [] a t d) : Calls Tryd.prog 84 #[.pointer (some ⟨b, 0, none⟩)] w fun x w' => x = .returned (.int .i64 0) ∧ w = w' := by
  have hL := Lib.hid (Len_any w h)
  go_enter Tryd.func84, Tryd.ntmps84
  go_wp2_with (first
    | (go_at_call 52; (with_reducible refine (hL.out).mono ?_); rintro e w1 ⟨rfl, rfl⟩)
    )
  go_ret
  exact ⟨rfl, rfl⟩
theorem Clear_nil (w : World) : Calls Tryd.prog 84 #[.pointer none] w fun x w' => x = .returned (.int .i64 0) ∧ w = w' := by
  go_enter Tryd.func84, Tryd.ntmps84
  go_wp2_with (first
    | (go_at_call 52; (with_reducible refine (Len_nil _).mono ?_); rintro e w1 ⟨rfl, rfl⟩)
    )
  go_ret
  exact ⟨rfl, rfl⟩
theorem Clear_in (w : World) (h : Qs 135 w b base cp st v L a t d) (hp : 0 < L.length) (hl : L.length ≤ 1000) (d0 : 0 ≤ d) (d1 : d ≤ 1000000) : Calls Tryd.prog 84 #[.pointer (some ⟨b, 0, none⟩)] w (QPost 135 w b base cp st v (.int .i64 L.length) [] a t (d + L.length)) := by
  have hL := Lib.hid (Len_any w h)
  obtain ⟨c0, c1, c2, c3, c4, c5⟩ := h.facts
  obtain ⟨f2, f3, f4, f5⟩ := h.thaw
  have hB := (h.blk.set 5 (.int .i64 (d + L.length))).set 2 (.slice none 0 0)
  have hhb := h.hb
  have hpi : (0 : Int) < L.length := by omega
  go_enter Tryd.func84, Tryd.ntmps84
  go_wp2_with (first
    | (go_at_call 52; (with_reducible refine (hL.out).mono ?_); rintro e w1 ⟨rfl, rfl⟩)
    )
  go_ret
  exact ⟨_, rfl, ⟨hB, Ow.nil, hhb⟩, ((Only.refl (Fp b v) w).atB 5 _).atB 2 _, fun g hg => by simp [Value.ownBlock] at hg⟩
end
end Go.Proofs.YtjhjfgelcbphjaaDoor.Qu
