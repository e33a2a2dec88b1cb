/- The document's own: a frame that is to wait, behind a list of such. -/
import Derived.Test.YtgiplefnggnpcaaDoorRPush
namespace Go.Proofs.YtgiplefnggnpcaaDoor
open Go.RowKit Nd

theorem Ow.setE {α : Type} {enc : α → List Value} {sz : Nat} {w : World} {base : Nat} {e : TypeId} {g o n cap : Nat} {l : List α} (h : Ow enc sz w base e (.slice (some ⟨g, o, none⟩) n cap) l) (h1 : ∀ x, (enc x).length = sz) (i : Nat) (hi : i < l.length) (y : α) :
    Ow enc sz (w.setCells g (o + i * sz) (enc y)) base e (.slice (some ⟨g, o, none⟩) n cap) (l.set i y) := by
  refine ⟨flat_len fun z _ => h1 z, ?_⟩
  rcases h.2 with ⟨e1, _⟩ | ⟨g', off, cap', cur, e1, hb, hh, hl, hm, hf, hc⟩
  · injection e1 with e1
    cases e1
  · injection e1 with e1 e3 e4
    injection e1 with e1
    injection e1 with e1 e2
    subst e1 e2 e4
    have q1 : (i + 1) * sz ≤ l.length * sz := Nat.mul_le_mul_right _ hi
    have q3 : l.length * sz ≤ cap * sz := Nat.mul_le_mul_right _ hl
    rw [Nat.add_mul, Nat.one_mul] at q1
    refine .inr ⟨g, o, cap, _, by rw [e3, List.length_set], hb, Blk.setCells _ _ _ _ hh, by rw [List.length_set]; exact hl, hm, by rw [putL_size]; exact hf, fun j hj => ?_⟩
    rw [List.length_set] at hj
    by_cases hpos : 0 < sz
    · have hq : j / sz < l.length := Nat.div_lt_of_lt_mul (by rw [Nat.mul_comm]; exact hj)
      have hr : j % sz < sz := Nat.mod_lt _ hpos
      have hdm : j / sz * sz + j % sz = j := by rw [Nat.mul_comm]; exact Nat.div_add_mod j sz
      by_cases hji : j / sz = i
      · have a1 := flat_at (enc := enc) (sz := sz) (l := l.set i y) (fun z _ => h1 z) (i := i) (x := y) (by rw [List.getElem?_set_self hi]) hr
        rw [← hji, hdm] at a1
        rw [hji] at a1
        rw [a1, ← hdm, hji, ← Nat.add_assoc, putL_in _ _ _ _ (by rw [h1]; omega) (by rw [h1]; exact hr)]
        congr 1
        rw [Nat.add_comm, Nat.add_mul_mod_self_right, Nat.mod_eq_of_lt hr]
      · have a1 := flat_at (enc := enc) (sz := sz) (l := l.set i y) (fun z _ => h1 z) (i := j / sz) (x := l[j / sz]) (by rw [List.getElem?_set_ne (fun e => hji e.symm), List.getElem?_eq_getElem hq]) hr
        have a2 := flat_at (enc := enc) (sz := sz) (l := l) (fun z _ => h1 z) (i := j / sz) (x := l[j / sz]) (List.getElem?_eq_getElem hq) hr
        rw [hdm] at a1 a2
        rw [a1, ← a2, ← hc j hj]
        refine putL_out _ _ _ _ ?_
        rw [h1]
        rcases Nat.lt_or_ge (j / sz) i with hlt | hge
        · left
          have := Nat.mul_le_mul_right sz (show j / sz + 1 ≤ i from hlt)
          rw [Nat.add_mul, Nat.one_mul] at this
          omega
        · right
          have := Nat.mul_le_mul_right sz (show i + 1 ≤ j / sz by omega)
          rw [Nat.add_mul, Nat.one_mul] at this
          omega
    · have : sz = 0 := by omega
      subst this
      simp at hj
def RpPost (w : World) (Ax : Option Addr) (G' : List Frm) (r : Int) (ok : El → Prop) (x : Ending) (w' : World) : Prop :=
  ∃ (A' : Option Addr) (c' : Nat) (Lx' : List El), x = .returned (.tuple #[.slice A' Lx'.length c', .int .i64 r]) ∧ Only Nil w w' ∧ Lx'.map El.f = G' ∧ Sq encF 12 w' w'.heap.size A' Lx' ∧ Lx'.length ≤ c' ∧ c' ≤ maxLen ∧ (∀ y ∈ Lx', ok y) ∧ (∀ g o, A' = some ⟨g, o, none⟩ → (r ≠ 0 ∧ A' = Ax) ∨ (r = 0 ∧ w.heap.size ≤ g))
section
variable {w : World} {Ax : Option Addr} {cx : Nat} {L : List El} {f : Frm} {A : Option Addr} {cap : Nat} {ok : El → Prop}
theorem RPush_bad (w : World) (hS : Sq encF 12 w w.heap.size Ax L) (hc : L.length ≤ cx) (hm : cx ≤ maxLen) (hok : ∀ y ∈ L, ok y) (hP : PmIs w (.slice A f.P.length cap) f.P) (hf : ¬ rightP f) :
    Calls Tryd.prog 12 #[.slice Ax L.length cx, frmV f (.slice A f.P.length cap)] w (RpPost w Ax (L.map El.f) 2 ok) := by
  have hn := (Only.refl Nil w).alloc (.cells (frC f (.slice A f.P.length cap)) 31)
  have hR := Lib.hid (RRight_any f _ (hP.go hn) false ⟨(fun h => by cases h), (fun h => absurd h hf)⟩)
  have HN := Lib.hid hn
  clear hf hP hn
  go_enter Tryd.func12, Tryd.ntmps12
  go_wp2_with (first
    | (go_at_call 17; (with_reducible refine (hR.out).mono ?_); rintro e w1 ⟨rfl, ho1⟩)
    )
  go_ret2
  exact ⟨Ax, cx, L, rfl, HN.out.trans ho1, rfl, hS.go (HN.out.trans ho1), hc, hm, hok, fun _ _ _ => .inl ⟨by decide, rfl⟩⟩
theorem RPush_kind (w : World) (hS : Sq encF 12 w w.heap.size Ax L) (hc : L.length ≤ cx) (hm : cx ≤ maxLen) (hok : ∀ y ∈ L, ok y) (hP : PmIs w (.slice A f.P.length cap) f.P) (hf : rightP f) (h2 : f.t < 2) :
    Calls Tryd.prog 12 #[.slice Ax L.length cx, frmV f (.slice A f.P.length cap)] w (RpPost w Ax (L.map El.f) 13 ok) := by
  have hn := (Only.refl Nil w).alloc (.cells (frC f (.slice A f.P.length cap)) 31)
  have hR := Lib.hid (RRight_any f _ (hP.go hn) true ⟨(fun _ => hf), (fun _ => rfl)⟩)
  have HB := Lib.hid (Blk.new w 31 (frC f (.slice A f.P.length cap)))
  have HN := Lib.hid hn
  clear hf hP hn
  go_enter Tryd.func12, Tryd.ntmps12
  go_wp2_with (first
    | (go_at_call 17; (with_reducible refine (hR.out).mono ?_); rintro e w1 ⟨rfl, ho1⟩; have c0 := (HB.out.kept ho1 (fun hh => hh)).cell 0)
    )
  go_ret2
  exact ⟨Ax, cx, L, rfl, HN.out.trans ho1, rfl, hS.go (HN.out.trans ho1), hc, hm, hok, fun _ _ _ => .inl ⟨by decide, rfl⟩⟩
end
end Go.Proofs.YtgiplefnggnpcaaDoor
