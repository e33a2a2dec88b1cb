/- A queue of frames of the call's own: Next, and the types of all. -/
import Derived.Test.YtgiplefnggnpcaaDoorOutq3
import Derived.Test.YtgiplefnggnpcaaDoorInts
import Derived.Outline
namespace Go.Proofs.YtgiplefnggnpcaaDoor
open Go.RowKit Nd

theorem Ow.head {α : Type} {enc : α → List Value} {sz : Nat} {w : World} {base : Nat} {e : TypeId} {g o n cap : Nat} {x : α} {l : List α} (h : Ow enc sz w base e (.slice (some ⟨g, o, none⟩) n cap) (x :: l)) (h1 : ∀ x, (enc x).length = sz) (y : α) :
    Ow enc sz (w.setCells g o (enc y)) base e (.slice (some ⟨g, o, none⟩) n cap) (y :: l) := by
  refine ⟨flat_len fun z _ => h1 z, ?_⟩
  rcases h.2 with ⟨e1, _⟩ | ⟨g', off, cap', cur, e1, hb, hh, hl, hm, hf, hc⟩
  · injection e1 with e1
    cases e1
  · injection e1 with e1 e3 e4
    injection e1 with e1
    injection e1 with e1 e2
    subst e1 e2 e4
    have q1 : (l.length + 1) * sz = l.length * sz + sz := by rw [Nat.add_mul, Nat.one_mul]
    have q3 : (x :: l).length * sz ≤ cap * sz := Nat.mul_le_mul_right _ hl
    rw [List.length_cons] at q3
    refine .inr ⟨g, o, cap, _, e3 ▸ rfl, hb, Blk.setCells _ _ _ _ hh, hl, hm, by rw [putL_size]; exact hf, fun j hj => ?_⟩
    rw [List.length_cons, q1] at hj
    rw [List.flatMap_cons]
    by_cases hjs : j < sz
    · rw [putL_in _ _ _ _ (by rw [h1]; omega) (by rw [h1]; omega), List.getElem?_append_left (by rw [h1]; omega)]
    · rw [putL_out _ _ _ _ (.inr (by rw [h1]; omega)), hc j (by rw [List.length_cons, q1]; exact hj), List.flatMap_cons, List.getElem?_append_right (by rw [h1]; omega), List.getElem?_append_right (by rw [h1]; omega), h1, h1]
abbrev zel : El := ⟨⟨0, 0, false, nilS, 0, 0, 0, false, 0, 0, 0, []⟩, none, 0⟩
section
variable {w w' : World} {b base : Nat} {v : Value} {L : List El}
def NxPost (w : World) (b base : Nat) (v : Value) (y : El) (L : List El) (x : Ending) (w' : World) : Prop := OqPost w b base v (.tuple #[frmV y.f y.p, .bool true]) L x w' ∧ Ow encPm 2 w' base 49 y.p y.f.P
theorem zero12 (w : World) (g o : Nat) : w.setCells g o (encF zel) = (((((((((((w.setCell ⟨g, o, none⟩ (.int .i64 0)).setCell ⟨g, o + 1, none⟩ (.int .i64 0)).setCell ⟨g, o + 2, none⟩ (.bool false)).setCell ⟨g, o + 3, none⟩ (.string nilS)).setCell ⟨g, o + 4, none⟩ (.int .i64 0)).setCell ⟨g, o + 5, none⟩ (.int .i64 0)).setCell ⟨g, o + 6, none⟩ (.int .i64 0)).setCell ⟨g, o + 7, none⟩ (.bool false)).setCell ⟨g, o + 8, none⟩ (.int .i64 0)).setCell ⟨g, o + 9, none⟩ (.int .i64 0)).setCell ⟨g, o + 10, none⟩ (.int .i64 0)).setCell ⟨g, o + 11, none⟩ (.slice none 0 0) := rfl
theorem Oq.next {g o n cap : Nat} {y : El} (h : Oq w b base (.slice (some ⟨g, o, none⟩) n cap) (y :: L)) (v' : Value) (hv : v' = .slice (if cap = 1 then some ⟨g, o, none⟩ else some ⟨g, o + 12, none⟩) (n - 1) (cap - 1)) :
    Oq ((w.setCells g o (encF zel)).setCell ⟨b, 0, none⟩ v') b base v' L ∧ Only (Fp b (.slice (some ⟨g, o, none⟩) n cap)) w ((w.setCells g o (encF zel)).setCell ⟨b, 0, none⟩ v') ∧
    (∀ g', v'.ownBlock = some g' → (Value.slice (some ⟨g, o, none⟩) n cap).ownBlock = some g') ∧ Ow encPm 2 ((w.setCells g o (encF zel)).setCell ⟨b, 0, none⟩ v') base 49 y.p y.f.P := by
  have o1 : Only (ownB (.slice (some ⟨g, o, none⟩) n cap)) w (w.setCells g o (encF zel)) := Only.setCells _ _ _ (Only.refl _ _) (fun _ => rfl)
  have hne := h.own.ne h.blk (by decide)
  have hB := h.blk.kept o1 hne
  have hO := (h.own.head encF_len zel).drop (fun _ _ => encF_len _) rfl (k := 1) (by simp)
  have hO' : Ow encF 12 (w.setCells g o (encF zel)) base 31 v' L := by
    rw [hv]
    have e : (if cap = 1 then some (⟨g, o, none⟩ : Addr) else some ⟨g, o + 12, none⟩) = (if cap = 1 then some (⟨g, o, none⟩ : Addr) else (some (⟨g, o, none⟩ : Addr)).map (·.add (1 * 12))) := by
      split
      · rfl
      · rfl
    rw [e]
    exact hO
  have hown : ∀ g', v'.ownBlock = some g' → (Value.slice (some ⟨g, o, none⟩) n cap).ownBlock = some g' := fun g' hg => by
    rw [hv] at hg
    split at hg
    · exact hg
    · exact hg
  have hne' : v'.ownBlock ≠ some b := fun e => hne (hown b e)
  have oF : Only (Fp b (.slice (some ⟨g, o, none⟩) n cap)) w ((w.setCells g o (encF zel)).setCell ⟨b, 0, none⟩ v') := o1.fp.atB 0 _
  exact ⟨⟨hB.set 0 _, hO'.set hne' 0 _, fun x hx => h.pm (h.ps x (List.mem_cons_of_mem _ hx)) oF, fun x hx => h.rt x (List.mem_cons_of_mem _ hx), h.hb⟩, oF, hown, h.pm (h.ps y (List.mem_cons_self ..)) oF⟩
set_option maxRecDepth 100000 in
set_option maxHeartbeats 4000000 in
theorem Next_any (y : El) (w : World) (h : Oq w b base v (y :: L)) (hl : L.length < 64) : Calls Tryd.prog 10 #[.pointer (some ⟨b, 0, none⟩)] w (NxPost w b base v y L) := by
  obtain ⟨g6, o6, cap, rfl, hc, hm⟩ := h.some_ (by simp)
  have hL := Lib.hid (fun W (ho : Only Nil w W) => Len_any W (h.kept ho))
  have HO := Lib.hid ((Only.refl Nil w).alloc (.cells (frC zel.f (.slice none 0 0)) 31))
  have hQ := h.kept HO.out
  have c0 := h.cell
  have zb := h.blk.lt
  have f0 := h.blk.frozen 0
  obtain ⟨p0, p1, p2, p3, p4, p5, p6, p7, p8, p9, p10, p11⟩ := h.el (j := 0) (x := y) rfl
  rw [Nat.zero_mul, Nat.add_zero] at p0 p1 p2 p3 p4 p5 p6 p7 p8 p9 p10 p11
  have z6 := h.rowLt
  have fz := h.own.frzN
  have q0 := fz o6
  have q1 := fz (o6 + 1)
  have q2 := fz (o6 + 2)
  have q3 := fz (o6 + 3)
  have q4 := fz (o6 + 4)
  have q5 := fz (o6 + 5)
  have q6 := fz (o6 + 6)
  have q7 := fz (o6 + 7)
  have q8 := fz (o6 + 8)
  have q9 := fz (o6 + 9)
  have q10 := fz (o6 + 10)
  have q11 := fz (o6 + 11)
  have H := Lib.hid h
  have hneb : ¬ g6 = b := fun e => h.own.ne h.blk (by decide) (by rw [e]; rfl)
  have hneb2 : ¬ b = g6 := fun e => hneb e.symm
  simp only [List.length_cons] at hc c0 hL ⊢
  have hcap : (1 : Int) ≤ cap := by omega
  have hlen : (0 : Int) < (L.length : Int) + 1 := by omega
  obtain ⟨⟨yt, ys, yen, yd, yk, yon, ywt, yex, yc, yl, yn, yP⟩, yA, ycap⟩ := y
  simp only at p0 p1 p2 p3 p4 p5 p6 p7 p8 p9 p10 p11
  clear h hQ fz
  by_cases hc1 : cap = 1
  · subst hc1
    have hnx := H.out.next (.slice (some ⟨g6, o6, none⟩) 0 0) (by have : L.length = 0 := by omega
                                                                  simp [this])
    rw [zero12, List.length_cons] at hnx
    have HNX := Lib.hid hnx
    clear hnx
    go_enter Tryd.func10, Tryd.ntmps10
    go_wp2_with (first
      | (go_at_call 15; (with_reducible refine (hL.out _ HO.out).mono ?_); rintro e w1 ⟨rfl, rfl⟩)
      )
    obtain ⟨n1, n2, n3, n4⟩ := HNX.out
    refine bodyPost_ret (v := .tuple #[frmV ⟨yt, ys, yen, yd, yk, yon, ywt, yex, yc, yl, yn, yP⟩ (.slice yA yP.length ycap), .bool true]) (by simp [results, Tryd.results10, go_sem]) rfl ?_
    unfold NxPost OqPost
    with_reducible refine ⟨⟨_, rfl, n1.kept (((Only.refl _ _).alloc _).alloc _), (n2.alloc _).alloc _, fun g hg => Or.inl (n3 g hg)⟩, n4.kept (((Only.refl _ _).alloc _).alloc _) (fun _ _ hh => hh)⟩
  · have hnx := H.out.next (.slice (some ⟨g6, o6 + 12, none⟩) L.length (cap - 1)) (by rw [if_neg hc1]; rfl)
    rw [zero12, List.length_cons] at hnx
    have HNX := Lib.hid hnx
    clear hnx
    go_enter Tryd.func10, Tryd.ntmps10
    go_wp2_with (first
      | (go_at_call 15; (with_reducible refine (hL.out _ HO.out).mono ?_); rintro e w1 ⟨rfl, rfl⟩)
      )
    obtain ⟨n1, n2, n3, n4⟩ := HNX.out
    refine bodyPost_ret (v := .tuple #[frmV ⟨yt, ys, yen, yd, yk, yon, ywt, yex, yc, yl, yn, yP⟩ (.slice yA yP.length ycap), .bool true]) (by simp [results, Tryd.results10, go_sem]) rfl ?_
    unfold NxPost OqPost
    with_reducible refine ⟨⟨_, rfl, n1.kept (((Only.refl _ _).alloc _).alloc _), (n2.alloc _).alloc _, fun g hg => Or.inl (n3 g hg)⟩, n4.kept (((Only.refl _ _).alloc _).alloc _) (fun _ _ hh => hh)⟩
end
end Go.Proofs.YtgiplefnggnpcaaDoor
