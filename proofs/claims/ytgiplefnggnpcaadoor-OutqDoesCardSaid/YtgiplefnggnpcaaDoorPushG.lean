/- Push, the program's and the document's, in the same words. -/
import Derived.Test.YtgiplefnggnpcaaDoorRPush5
namespace Go.Proofs.YtgiplefnggnpcaaDoor
open Go.RowKit Nd

section
variable {w : World} {b base : Nat} {v : Value} {L : List El}
def PgPost (w : World) (b base : Nat) (v : Value) (r : Int) (G' : List Frm) (x : Ending) (w' : World) : Prop :=
  ∃ (v' : Value) (L' : List El), x = .returned (.int .i64 r) ∧ Oq w' b base v' L' ∧ L'.map El.f = G' ∧ Only (Fp b v) w w' ∧ ∀ g, v'.ownBlock = some g → v.ownBlock = some g ∨ w.heap.size ≤ g
theorem joins_of {L : List El} {f : Frm} {i : Nat} {g : Frm} (h : Joins (L.map El.f) f i g) : ∃ x, L[i]? = some x ∧ x.f = g ∧ fits f x.f = true ∧ (f.t = 10 ∨ f.t = 11) ∧ ∀ j y, j < i → L[j]? = some y → fits f y.f = false := by
  obtain ⟨ht, hi, hf, hb⟩ := h
  rw [List.getElem?_map] at hi
  cases hx : L[i]? with
  | none => rw [hx] at hi; cases hi
  | some x =>
    rw [hx] at hi
    injection hi with hi
    exact ⟨x, rfl, hi, by rw [hi]; exact hf, ht, fun j y hj hy => hb j y.f hj (by rw [List.getElem?_map, hy]; rfl)⟩
theorem alone_of {L : List El} {f : Frm} (h : Alone (L.map El.f) f) : (f.t ≠ 10 ∧ f.t ≠ 11) ∨ ∀ x ∈ L, fits f x.f = false :=
  h.imp id (fun h x hx => h x.f (List.mem_map.2 ⟨x, hx, rfl⟩))
theorem PushG (f : Frm) (A : Option Addr) (cap : Nat) (w : World) (hP : PmIs w (.slice A f.P.length cap) f.P) (hT : Nds w) (h : Oq w b base v L) (hl : L.length ≤ 64) {G' : List Frm} {r : Int} (hp : Pushes (L.map El.f) f G' r) :
    Calls Tryd.prog 13 #[.pointer (some ⟨b, 0, none⟩), frmV f (.slice A f.P.length cap)] w (PgPost w b base v r G') := by
  have same : ∀ (r : Int), ∀ x w', x = .returned (.int .i64 r) ∧ Only Nil w w' → PgPost w b base v r (L.map El.f) x w' := fun r x w' ⟨hx, ho'⟩ =>
    ⟨v, L, hx, h.kept ho', rfl, ho'.of_nil _, fun g hg => .inl hg⟩
  cases hp with
  | bad hf => exact (Push_bad f A _ cap w _ hP hT hf).mono (same 2)
  | kind hf h2 => exact (Push_kind f A _ cap w _ hP hT hf h2).mono (same 13)
  | join i g hf h2 hj =>
    obtain ⟨x, hi, rfl, hfit, ht, hbf⟩ := joins_of hj
    refine (Push_join f A _ cap w hP hT hf h i x hi hfit hbf ht hl).mono ?_
    rintro e w' ⟨v', hx, hQ, hO, hG⟩
    exact ⟨v', _, hx, hQ, by rw [List.map_set]; rfl, hO, hG⟩
  | full hf h2 hno h64 => exact (Push_full f A _ cap w hP hT hf h h2 (alone_of hno) (by rw [List.length_map] at h64; omega)).mono (same 9)
  | add hf h2 hno h64 =>
    refine (Push_add f A _ cap w hP hT hf h h2 (alone_of hno) (by rw [List.length_map] at h64; exact h64)).mono ?_
    rintro e w' ⟨y, rfl, v', hx, hQ, hO, hG⟩
    exact ⟨v', _, hx, hQ, by simp, hO, hG⟩
theorem RPushG (f : Frm) (A : Option Addr) (cap : Nat) (w : World) {Ax : Option Addr} {cx : Nat} {Lx : List El} {ok : El → Prop} (hS : Sq encF 12 w w.heap.size Ax Lx) (hc : Lx.length ≤ cx) (hm : cx ≤ maxLen) (hok : ∀ y ∈ Lx, ok y) (hrt : ∀ y ∈ Lx, rightP y.f) (hP : PmIs w (.slice A f.P.length cap) f.P) (hl : Lx.length ≤ 64)
    (hy : ok ⟨f, A, cap⟩) (hnil : ∀ g : Frm, ok ⟨{ g with P := [] }, none, 0⟩) {G' : List Frm} {r : Int} (hp : Pushes (Lx.map El.f) f G' r) : Calls Tryd.prog 12 #[.slice Ax Lx.length cx, frmV f (.slice A f.P.length cap)] w (RpPost w Ax G' r ok) := by
  cases hp with
  | bad hf => exact RPush_bad w hS hc hm hok hP hf
  | kind hf h2 => exact RPush_kind w hS hc hm hok hP hf h2
  | join i g hf h2 hj =>
    obtain ⟨x, hi, rfl, hfit, ht, hbf⟩ := joins_of hj
    rcases ht with ht | ht
    · exact RPush_join10 w hS hc hm hok hrt hP hf ht hl i x hi hfit hbf hnil
    · exact RPush_join11 w hS hc hm hok hrt hP hf ht hl i x hi hfit hbf hnil
  | full hf h2 hno h64 => exact RPush_full w hS hc hm hok hrt hP hf h2 hno (by rw [List.length_map] at h64; omega)
  | add hf h2 hno h64 => exact RPush_add w hS hc hm hok hrt hP hf h2 hno (by rw [List.length_map] at h64; exact h64) hy
theorem Pushes.len {G G' : List Frm} {f : Frm} {r : Int} (h : Pushes G f G' r) (hl : G.length ≤ 64) : G'.length ≤ 64 := by
  cases h with
  | bad _ => exact hl
  | kind _ _ => exact hl
  | join i g _ _ _ => rw [List.length_set]; exact hl
  | full _ _ _ _ => exact hl
  | add _ _ _ h => simp; omega
/-- the queue, and the document's list -/
def St3 (w : World) (b : Nat) (Ax : Option Addr) (nx cx : Nat) (wr : World) : Prop := ∃ (v : Value) (L Lx : List El), Oq wr b w.heap.size v L ∧ L.length ≤ 64 ∧ Lx.length = nx ∧ nx ≤ cx ∧ cx ≤ maxLen ∧ Sq encF 12 wr wr.heap.size Ax Lx ∧ Lx.map El.f = L.map El.f ∧ (∀ y ∈ Lx, PmIs w y.p y.f.P) ∧
  (∀ g o, Ax = some ⟨g, o, none⟩ → 0 < nx → ¬ Fp b v g) ∧ Below w.heap.size w wr
theorem len_of {nx : Nat} {L Lx : List El} (h1 : Lx.length = nx) (h2 : Lx.map El.f = L.map El.f) : L.length = nx := by
  have := congrArg List.length h2
  rw [List.length_map, List.length_map] at this
  omega
end
end Go.Proofs.YtgiplefnggnpcaaDoor
