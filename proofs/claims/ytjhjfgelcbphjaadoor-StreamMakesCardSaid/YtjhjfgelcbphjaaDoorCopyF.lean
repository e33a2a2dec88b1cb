/- copy of a whole slice into one of the same length that the call has made (elements of one cell). No condition. -/
import Derived.Test.YtjhjfgelcbphjaaDoorCopy
namespace Go.Proofs.YtjhjfgelcbphjaaDoor
open Go.RowKit

theorem run_cpyF {α : Type} {enc : α → List Value} {P : Program} {w : World} (dT sT ty : TypeId) (elem : TypeId) (hu : P.underlying dT = some (.slice elem)) (hsz : (P.info? elem).map (·.size) = some 1)
    (h1 : ∀ x, (enc x).length = 1) (hc : ∀ x, ∀ u ∈ enc x, u.oneCell' = true) {base : Nat} {A : Option Addr} {n cap : Nat} {l : List α} (hown : Ow enc 1 w base elem (.slice A n cap) l)
    {B : Nat} {sp : Option Addr} (sCap : Nat) {l2 : List α} (hs : Sq enc 1 w B sp l2) (hl2 : l2.length = n) :
    ∃ w', (Builtin.copy_ #[dT, sT] ty #[.slice A n cap, .slice sp n sCap]).run P w = .ok (goInt (n : Nat)) w' ∧ Ow enc 1 w' base elem (.slice A n cap) l2 ∧ Only (ownB (.slice A n cap)) w w' := by
  have hln : n = l.length := by obtain ⟨A', c', e, _⟩ := hown.form; injection e
  by_cases h0 : n = 0
  · have hrun := run_copy_none (P := P) w dT sT ty elem A sp n cap n sCap hu hsz (by simp [h0])
    have e1 : l = [] := List.eq_nil_of_length_eq_zero (by omega)
    have e2 : l2 = [] := List.eq_nil_of_length_eq_zero (by omega)
    subst e1 e2
    exact ⟨w, by rw [h0] at hrun ⊢; exact hrun, hown, Only.refl _ _⟩
  · rcases hown.2 with ⟨e, rfl⟩ | ⟨g, off, cap', cur, e, hb, hh, hl, hx, hfit, hcur⟩
    · simp at hln
      omega
    · injection e with e1 e2 e3
      subst e1 e3
      obtain ⟨bs, os, rfl, _, hsc⟩ := hs (by omega)
      have hcs : (l2.flatMap enc).length = n := by rw [flat1 h1, hl2]
      have hrun := run_copy_row (P := P) w dT sT ty elem g off n cap ⟨bs, os, none⟩ n sCap cur elem (l2.flatMap enc) hu hsz hh (by rw [hcs]; exact (Nat.min_self n).symm) (by
        intro k u hk
        rw [Addr.add_lit]
        have hk2 := (List.getElem?_eq_some_iff.1 hk).1
        rw [flat1 h1] at hk2
        have h3 := hsc k l2[k] (List.getElem?_eq_getElem hk2) 0 (by decide)
        have h4 := flat_at (enc := enc) (sz := 1) (fun x _ => h1 x) (List.getElem?_eq_getElem hk2) (j := 0) (by decide)
        rw [Nat.mul_one, Nat.add_zero] at h3 h4
        rw [h3, ← h4]
        exact hk) (by rw [hcs]; omega) (by
        intro u hu
        obtain ⟨x, _, hx⟩ := List.mem_flatMap.1 hu
        exact hc x u hx)
      rw [hcs, List.append_assoc] at hrun
      have hB : Blk (w.setRow g (cur.toList.take off ++ (l2.flatMap enc ++ cur.toList.drop (off + n))).toArray) g elem (cur.toList.take off ++ (l2.flatMap enc ++ cur.toList.drop (off + n))).toArray := setRow_heap w g cur _ elem _ hh
      refine ⟨_, hrun, ⟨by rw [flat1 h1]; omega, .inr ⟨g, off, cap, _, by rw [hl2], hb, hB, by omega, hx, ?_, ?_⟩⟩, ?_⟩
      · simp [hcs]
        omega
      · intro k hk
        have ho : (cur.toList.take off).length = off := by rw [List.length_take, Array.length_toList]; omega
        rw [List.getElem?_toArray, List.getElem?_append_right (by rw [ho]; omega), ho, Nat.add_sub_cancel_left, List.getElem?_append_left (by rw [hcs]; omega)]
      · refine ⟨rfl, rfl, rfl, by simp [World.setRow], fun k _ hk => setRow_other w g k _ (fun e => hk ?_)⟩
        subst e
        rfl
theorem wpList_cpyF {α : Type} {enc : α → List Value} {P : Program} {w : World} {ops : Array Oper} {rest : List Oper} {o : Oper} {a : Act} {Q : Exit → Act → World → Prop} (hgd : o.guard = none) (d s : Operand) (dT sT : TypeId)
    (ho : o.op = .call { callee := .builtin .copy, args := #[d, s], argTypes := #[dT, sT] }) (elem : TypeId) (hu : P.underlying dT = some (.slice elem)) (hsz : (P.info? elem).map (·.size) = some 1)
    (h1 : ∀ x, (enc x).length = 1) (hc : ∀ x, ∀ u ∈ enc x, u.oneCell' = true) {base : Nat} {A : Option Addr} {n cap : Nat} {l : List α} (hown : Ow enc 1 w base elem (.slice A n cap) l)
    {B : Nat} (sp : Option Addr) (sCap : Nat) {l2 : List α} (hs : Sq enc 1 w B sp l2) (hl2 : l2.length = n) (hd : a.eval d = .slice A n cap) (hss : a.eval s = .slice sp n sCap)
    (h : ∀ w', Ow enc 1 w' base elem (.slice A n cap) l2 → Only (ownB (.slice A n cap)) w w' → wpList P ops Q rest (a.put o.dst (goInt (n : Nat))) w') : wpList P ops Q (o :: rest) a w := by
  obtain ⟨w', hr, h2, h3⟩ := run_cpyF (P := P) (w := w) dT sT o.type elem hu hsz h1 hc hown sCap hs hl2
  refine wpList_plain hgd fun _ hK => ?_
  unfold Oper.wp execOp
  simp only [ho, resolve, invoke, builtin, Sem.run_bind, Sem.run_pure, Result.andThen_ok, List.map_toArray, List.map_cons, List.map_nil, hd, hss, hr]
  exact hK _ _ (h w' h2 h3)
end Go.Proofs.YtjhjfgelcbphjaaDoor
