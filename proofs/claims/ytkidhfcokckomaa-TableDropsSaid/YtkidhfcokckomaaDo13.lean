/- A call of both, the table and the document's row: they answer alike. -/
import Derived.Test.YtkidhfcokckomaaRow13
namespace Go.Proofs.Ytkidhfcokckomaa
open Go.RowKit

/-! ### lists -/
theorem rising_pw {I : List Int} : rising I ↔ I.Pairwise (· < ·) := by
  rw [List.pairwise_iff_getElem]
  constructor
  · intro h i j hi hj hij
    exact h i j _ _ (List.getElem?_eq_getElem hi) (List.getElem?_eq_getElem hj) hij
  · intro h i j x y hx hy hij
    obtain ⟨hi, rfl⟩ := List.getElem?_eq_some_iff.1 hx
    obtain ⟨hj, rfl⟩ := List.getElem?_eq_some_iff.1 hy
    exact h i j hi hj hij
theorem pt_at {L X Y : List (Int × Int)} {id : Int} {k : Nat} (hL : L = X ++ Y) (hx : ∀ p ∈ X, p.1 < id) (hy : ∀ p ∈ Y, id ≤ p.1) (h : PtIs L id k) : k = X.length := by
  subst hL
  obtain ⟨h1, h2, h3⟩ := h
  rcases Nat.lt_trichotomy k X.length with c | c | c
  · have e : (X ++ Y)[k]? = some X[k] := by rw [List.getElem?_append_left c, List.getElem?_eq_getElem c]
    have := h3 _ e
    have := hx _ (List.getElem_mem c)
    omega
  · exact c
  · have c2 : 0 < Y.length := by rw [List.length_append] at h1; omega
    have e : (X ++ Y)[X.length]? = some Y[0] := by rw [List.getElem?_append_right (Nat.le_refl _), Nat.sub_self, List.getElem?_eq_getElem c2]
    have := h2 _ _ c e
    have := hy _ (List.getElem_mem c2)
    omega
theorem parts {R : List (Int × Int)} (hr : rising (R.map (·.1))) {r : Nat} {id y : Int} (h : R[r]? = some (id, y)) :
    R = R.take r ++ (id, y) :: R.drop (r + 1) ∧ (∀ p ∈ R.take r, p.1 < id) ∧ ∀ p ∈ R.drop (r + 1), id < p.1 := by
  obtain ⟨hlt, he⟩ := List.getElem?_eq_some_iff.1 h
  have e : R = R.take r ++ (id, y) :: R.drop (r + 1) := by
    conv => lhs; rw [← List.take_append_drop r R, List.drop_eq_getElem_cons hlt, he]
  rw [rising_pw] at hr
  have e2 := hr
  rw [e, List.map_append, List.map_cons, List.pairwise_append, List.pairwise_cons] at e2
  exact ⟨e, fun p hp => e2.2.2 _ (List.mem_map_of_mem hp) _ (by simp), fun p hp => e2.2.1.1 _ (List.mem_map_of_mem hp)⟩
theorem wo_in {R : List (Int × Int)} (hr : rising (R.map (·.1))) {r : Nat} {id y : Int} (h : R[r]? = some (id, y)) : wo id R = R.eraseIdx r ∧ wo id R = R.take r ++ R.drop (r + 1) := by
  obtain ⟨e, h1, h2⟩ := parts hr h
  have : wo id R = R.take r ++ R.drop (r + 1) := by
    unfold wo
    conv => lhs; rw [e]
    rw [List.filter_append, List.filter_cons]
    simp only [bne_self_eq_false, Bool.false_eq_true, if_false]
    rw [List.filter_eq_self.2, List.filter_eq_self.2]
    · intro p hp
      have := h2 p hp
      simp
      omega
    · intro p hp
      have := h1 p hp
      simp
      omega
  exact ⟨by rw [this, List.eraseIdx_eq_take_drop_succ], this⟩
theorem set_in {R : List (Int × Int)} (hr : rising (R.map (·.1))) {r k : Nat} {id y v : Int} (h : R[r]? = some (id, y)) (hk : PtIs (wo id R) id k) : ins (wo id R) id v k = R.set r (id, v) := by
  obtain ⟨e, h1, h2⟩ := parts hr h
  obtain ⟨hlt, he⟩ := List.getElem?_eq_some_iff.1 h
  have hl : (R.take r).length = r := by rw [List.length_take]; omega
  have hw := (wo_in hr h).2
  have := pt_at hw h1 (fun p hp => Int.le_of_lt (h2 p hp)) hk
  subst this
  unfold ins
  rw [hw, List.take_left', List.drop_left']
  · conv => rhs; rw [e]
    rw [List.set_append_right _ _ (by omega)]
    rw [hl]
    simp
  · rfl
  · rfl
theorem new_at {R : List (Int × Int)} {id : Int} {r k : Nat} (hp : plc (R.map (·.1)) id r) (hk : PtIs R id k) : k = r := by
  obtain ⟨p1, p2, p3⟩ := hp
  obtain ⟨k1, k2, k3⟩ := hk
  rw [List.length_map] at p1
  rcases Nat.lt_trichotomy k r with c | c | c
  · have hl : k < R.length := by omega
    have e := List.getElem?_eq_getElem hl
    have a := k3 _ e
    have b := p2 k R[k].1 (by rw [List.getElem?_map, e]; rfl) c
    omega
  · exact c
  · have hl : r < R.length := by omega
    have e := List.getElem?_eq_getElem hl
    have a := k2 _ _ c e
    have b := p3 r R[r].1 (by rw [List.getElem?_map, e]; rfl) (Nat.le_refl _)
    omega
theorem rising_new {R : List (Int × Int)} (hr : rising (R.map (·.1))) {id v : Int} {k : Nat} (hk : PtIs R id k) (hid : id ∉ R.map (·.1)) : rising ((ins R id v k).map (·.1)) := by
  rw [rising_pw] at hr ⊢
  unfold ins
  have hr' := hr
  rw [← List.take_append_drop k R, List.map_append, List.pairwise_append] at hr'
  rw [List.map_append, List.map_cons, List.pairwise_append, List.pairwise_cons]
  have a1 : ∀ x ∈ (R.take k).map (·.1), x < id := by
    intro x hx
    obtain ⟨p, hp, rfl⟩ := List.mem_map.1 hx
    obtain ⟨j, hj⟩ := List.mem_iff_getElem?.1 hp
    have hjk : j < k := by have := (List.getElem?_eq_some_iff.1 hj).1; rw [List.length_take] at this; omega
    rw [List.getElem?_take_of_lt hjk] at hj
    exact hk.2.1 j p hjk hj
  have a2 : ∀ x ∈ (R.drop k).map (·.1), id < x := by
    intro x hx
    have hne : id ≠ x := by
      rintro rfl
      exact hid ((List.map_subset _ (List.drop_subset k R)) hx)
    rcases Nat.lt_or_ge k R.length with hl | hl
    · have b1 := hk.2.2 _ (List.getElem?_eq_getElem hl)
      rw [List.drop_eq_getElem_cons hl, List.map_cons] at hx hr'
      rcases List.mem_cons.1 hx with rfl | hx
      · omega
      · have := List.pairwise_cons.1 hr'.2.1
        have := this.1 _ hx
        omega
    · rw [List.drop_of_length_le hl] at hx
      simp at hx
  exact ⟨hr'.1, ⟨a2, hr'.2.1⟩, fun x hx y hy => by
    have b1 := a1 x hx
    rcases List.mem_cons.1 hy with rfl | hy
    · exact b1
    · have := a2 y hy
      omega⟩
theorem rising_wo {R : List (Int × Int)} (hr : rising (R.map (·.1))) (id : Int) : rising ((wo id R).map (·.1)) := by
  rw [rising_pw] at hr ⊢
  exact hr.sublist (List.Sublist.map _ List.filter_sublist)
theorem map_ins (f : Int × Int → Int) (R : List (Int × Int)) (id v : Int) (k : Nat) : (ins R id v k).map f = (R.map f).take k ++ f (id, v) :: (R.map f).drop k := by
  unfold ins
  rw [List.map_append, List.map_cons, List.map_take, List.map_drop]
theorem map_erase (f : Int × Int → Int) (R : List (Int × Int)) (r : Nat) : (R.eraseIdx r).map f = (R.map f).eraseIdx r := by
  rw [List.eraseIdx_eq_take_drop_succ, List.eraseIdx_eq_take_drop_succ, List.map_append, List.map_take, List.map_drop]
theorem mem_of_row {R : List (Int × Int)} {r : Nat} {id y : Int} (h : R[r]? = some (id, y)) : id ∈ R.map (·.1) := List.mem_map.2 ⟨_, List.mem_of_getElem? h, rfl⟩
/-- a number stands in one place -/
theorem place {R : List (Int × Int)} (hr : rising (R.map (·.1))) {r s : Nat} {id y : Int} (h : R[r]? = some (id, y)) (hs : (R.map (·.1))[s]? = some id) : s = r := by
  have h' : (R.map (·.1))[r]? = some id := by rw [List.getElem?_map, h]; rfl
  rcases Nat.lt_trichotomy s r with c | c | c
  · have := hr _ _ _ _ hs h' c
    omega
  · exact c
  · have := hr _ _ _ _ h' hs c
    omega
/-! ### both together -/
structure S13 (w : World) (b base : Nat) (most : Int) (v1 v2 : Value) (A : Option Addr) (c : Nat) (R : List (Int × Int)) : Prop where
  tb : Tb w b base most v1 v2 (R.map (·.1)) (R.map (·.2))
  row : Ow encP 2 w base 47 (.slice A R.length c) R
  ris : rising (R.map (·.1))
theorem Ow.oth {w w' : World} {base : Nat} {v : Value} {R : List (Int × Int)} (h : Ow encP 2 w base 47 v R) (ho : Oth w w') : Ow encP 2 w' base 47 v R := by
  refine ⟨h.1, ?_⟩
  rcases h.2 with h0 | ⟨g, off, cap, cur, rfl, hb, hh, hr⟩
  · exact .inl h0
  · exact .inr ⟨g, off, cap, cur, rfl, hb, ho _ _ _ hh (by decide) (by decide), hr⟩
section
variable {w w' : World} {b base : Nat} {most : Int} {v1 v2 : Value} {A : Option Addr} {c : Nat} {R : List (Int × Int)}
theorem S13.kept (h : S13 w b base most v1 v2 A c R) (ho : Only Nil w w') : S13 w' b base most v1 v2 A c R :=
  ⟨h.tb.kept ho, h.row.kept ho (fun _ _ hh => hh), h.ris⟩
theorem S13.sz (h : S13 w b base most v1 v2 A c R) : base ≤ w.heap.size := by have := h.tb.hb; have := h.tb.blk.lt; omega
theorem Find_in (id y : Int) (r cap : Nat) (w : World) (h : Sq encP 2 w w.heap.size A R) (hn : R.length ≤ 2000) (hr : rising (R.map (·.1))) (hy : R[r]? = some (id, y)) :
    Calls Try.prog 21 #[.agg #[.slice A R.length cap], .int .i64 id] w fun x w' => x = .returned (.int .i64 (r : Nat)) ∧ Only Nil w w' := by
  refine (Find_any id cap w h hn).mono ?_
  rintro x w' ⟨i, rfl, hi, ho⟩
  rcases hi with ⟨_, h1⟩ | ⟨s, z, rfl, hs⟩
  · exact absurd rfl (h1 _ (List.mem_of_getElem? hy))
  · have : s = r := place hr hy (by rw [List.getElem?_map, hs]; rfl)
    subst this
    exact ⟨rfl, ho⟩
theorem Find_out (id : Int) (cap : Nat) (w : World) (h : Sq encP 2 w w.heap.size A R) (hn : R.length ≤ 2000) (hid : id ∉ R.map (·.1)) :
    Calls Try.prog 21 #[.agg #[.slice A R.length cap], .int .i64 id] w fun x w' => x = .returned (.int .i64 (-1)) ∧ Only Nil w w' := by
  refine (Find_any id cap w h hn).mono ?_
  rintro x w' ⟨i, rfl, hi, ho⟩
  rcases hi with ⟨rfl, h1⟩ | ⟨s, z, rfl, hs⟩
  · exact ⟨rfl, ho⟩
  · exact absurd (mem_of_row hs) hid
def DoPost (w : World) (b base : Nat) (most : Int) (R : List (Int × Int)) (x : Ending) (w' : World) : Prop :=
  ∃ A' c' v1' v2' R', x = .returned (.tuple #[.agg #[.slice A' R'.length c'], .bool true]) ∧ S13 w' b base most v1' v2' A' c' R' ∧ R'.length ≤ R.length + 1 ∧ Below base w w' ∧ Oth w w'
end
end Go.Proofs.Ytkidhfcokckomaa
