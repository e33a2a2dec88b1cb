/- append, with the length and the list that come named. No condition. -/
import Derived.Test.YtjhjfgelcbphjaaDoorSeq
namespace Go.Proofs.YtjhjfgelcbphjaaDoor
open Go.RowKit

theorem Sq.isNil {α : Type} {enc : α → List Value} {sz : Nat} {w : World} {B : Nat} {A : Option Addr} {l : List α} (h : Sq enc sz w B A l) (hA : A = none) : l = [] := by
  rcases Nat.eq_zero_or_pos l.length with h0 | h0
  · exact List.eq_nil_of_length_eq_zero h0
  · obtain ⟨b, off, e, _⟩ := h h0
    rw [hA] at e
    cases e
theorem Src.sqn {α : Type} {enc : α → List Value} {sz : Nat} {P : Program} {w : World} {tx e' : TypeId} (hk : P.underlying tx = some (.slice e')) {B : Nat} {A : Option Addr} {l : List α} (c n : Nat) (h : Sq enc sz w B A l) (hsz : ∀ x ∈ l, (enc x).length = sz)
    (h1 : ∀ x ∈ l, ∀ u ∈ enc x, u.oneCell' = true) (hpos : 0 < sz) (hn : l.length = n) : Src P sz tx (.slice A n c) l.length (l.flatMap enc) w := by
  subst hn
  exact Src.sq hk c h hsz (fun e => h.isNil e) h1 hpos
theorem Sq.dropped {α : Type} {enc : α → List Value} {sz : Nat} {w : World} {B : Nat} {A : Option Addr} {l : List α} (h : Sq enc sz w B A l) (k : Nat) {A' : Option Addr} (hA : k < l.length → A' = A.map (·.add (k * sz))) : Sq enc sz w B A' (l.drop k) := fun hl => by
  rw [List.length_drop] at hl
  obtain ⟨b, off, e, hb, hc⟩ := h (by omega)
  refine ⟨b, off + k * sz, by rw [hA (by omega), e]; simp [Addr.add_lit], hb, fun i x hx j hj => ?_⟩
  rw [List.getElem?_drop] at hx
  have := hc (k + i) x hx j hj
  rw [Nat.add_mul] at this
  rw [← this]
  congr 2
  omega
theorem wpList_app2 {α : Type} {enc : α → List Value} {sz : Nat} {P : Program} {w : World} {ops : Array Oper} {rest : List Oper} {o : Oper} {a : Act} {Q : Exit → Act → World → Prop} (hgd : o.guard = none) (s x : Operand) (t tx : TypeId)
    (ho : o.op = .call { callee := .builtin .append, args := #[s, x], argTypes := #[t, tx] }) (base : Nat) (e : TypeId) (ht : P.underlying t = some (.slice e)) {z : Value} {bytes : Nat}
    (hi : (P.info? e).map (fun i => (i.zero, i.size, i.bytes)) = some (some z, sz, bytes)) (hzs : z.cells.size = sz)
    (v : Value) (l : List α) (hs : a.eval s = v) (hown : Ow enc sz w base e v l) (xv : Value) (ys : List α) (hx : a.eval x = xv) (hsrc : Src P sz tx xv ys.length (ys.flatMap enc) w) (h63 : l.length + ys.length ≤ 1000000000) (hby : bytes ≤ 1000) (hbase : base ≤ w.heap.size)
    (m : Nat) (hm : l.length + ys.length = m) (L : List α) (hL : l ++ ys = L)
    (h : ∀ A' cap' w', Ow enc sz w' base e (.slice A' m cap') L → Only (ownB v) w w' →
      (∀ g, (Value.slice A' m cap').ownBlock = some g → v.ownBlock = some g ∨ g = w.heap.size) → wpList P ops Q rest (a.put o.dst (.slice A' m cap')) w') : wpList P ops Q (o :: rest) a w := by
  subst hm hL
  exact wpList_app hgd s x t tx ho base e ht hi hzs v l hs hown xv ys hx hsrc h63 hby hbase h
theorem step_app2 {α : Type} {enc : α → List Value} {sz : Nat} {P : Program} {w : World} {ops : Array Oper} {o : Oper} {a : Act} {K : Act → World → Prop} {Q : Exit → Act → World → Prop} {E : Prop} (hgd : o.guard = none) (s x : Operand) (t tx : TypeId)
    (ho : o.op = .call { callee := .builtin .append, args := #[s, x], argTypes := #[t, tx] }) (base : Nat) (e : TypeId) (ht : P.underlying t = some (.slice e)) {z : Value} {bytes : Nat}
    (hi : (P.info? e).map (fun i => (i.zero, i.size, i.bytes)) = some (some z, sz, bytes)) (hzs : z.cells.size = sz)
    (v : Value) (l : List α) (hs : a.eval s = v) (hown : Ow enc sz w base e v l) (xv : Value) (ys : List α) (hx : a.eval x = xv) (hsrc : Src P sz tx xv ys.length (ys.flatMap enc) w) (h63 : l.length + ys.length ≤ 1000000000) (hby : bytes ≤ 1000) (hbase : base ≤ w.heap.size)
    (m : Nat) (hm : l.length + ys.length = m) (L : List α) (hL : l ++ ys = L)
    (h : ∀ A' cap' w', Ow enc sz w' base e (.slice A' m cap') L → Only (ownB v) w w' →
      (∀ g, (Value.slice A' m cap').ownBlock = some g → v.ownBlock = some g ∨ g = w.heap.size) → K (a.put o.dst (.slice A' m cap')) w') :
    if Region.wanted o (yielded ops a.tmps) = true then Oper.wp P o a w K Q else E := by
  subst hm hL
  exact step_app hgd s x t tx ho base e ht hi hzs v l hs hown xv ys hx hsrc h63 hby hbase h
/-- an owned slice whose length is named -/
theorem Ow.sqn {α : Type} {enc : α → List Value} {sz : Nat} {w : World} {base : Nat} {e : TypeId} {A : Option Addr} {n cap : Nat} {l : List α} (h : Ow enc sz w base e (.slice A n cap) l) (hsz : ∀ x ∈ l, (enc x).length = sz) : Sq enc sz w w.heap.size A l := h.sq hsz rfl
theorem Ow.len {α : Type} {enc : α → List Value} {sz : Nat} {w : World} {base : Nat} {e : TypeId} {A : Option Addr} {n cap : Nat} {l : List α} (h : Ow enc sz w base e (.slice A n cap) l) : n = l.length ∧ n ≤ cap ∧ cap ≤ maxLen := by
  obtain ⟨A', c', e1, h1, h2⟩ := h.form
  injection e1 with e1 e2 e3
  subst e2 e3
  exact ⟨rfl, h1, h2⟩
/-- what only an owned slice's block may have turned leaves all below its base -/
theorem Only.own_nil {α : Type} {enc : α → List Value} {sz : Nat} {w0 w w' : World} {e : TypeId} {v : Value} {l : List α} (h : Only Nil w0 w) (hO : Ow enc sz w w0.heap.size e v l) (ho : Only (ownB v) w w') : Only Nil w0 w' :=
  h.trans_new ho (fun i hi hh => by have := (hO.lt hh).1; omega)
end Go.Proofs.YtjhjfgelcbphjaaDoor
