/- A queue, and two lists of texts beside it: all that came in, all that came out. No condition. -/
import Derived.Test.YtfffaifbfojnpaaL10Does
namespace Go.Proofs.Ytfffaifbfojnpaa
open Go.RowKit

/-- the queue, and the two lists: each in a block of its own -/
structure Od (w : World) (b base : Nat) (cp st : Int) (v : Value) (L : List ByteArray) (a t d : Int) (va vt : Value) (all took : List ByteArray) : Prop where
  q : Qs 50 w b base cp st v L a t d
  oa : Ow encS 1 w base 9 va all
  ot : Ow encS 1 w base 9 vt took
  av : ∀ g, va.ownBlock = some g → v.ownBlock ≠ some g
  tv : ∀ g, vt.ownBlock = some g → v.ownBlock ≠ some g
  ta : ∀ g, vt.ownBlock = some g → va.ownBlock ≠ some g
section
variable {w w' : World} {b base : Nat} {cp st : Int} {v v' : Value} {L L' : List ByteArray} {a t d a' t' d' : Int} {va vt va' vt' : Value} {all took all' took' : List ByteArray}
theorem Od.kept (h : Od w b base cp st v L a t d va vt all took) (ho : Only Nil w w') : Od w' b base cp st v L a t d va vt all took :=
  ⟨h.q.kept ho, h.oa.kept ho (fun _ _ hh => hh), h.ot.kept ho (fun _ _ hh => hh), h.av, h.tv, h.ta⟩
theorem Od.queue (h : Od w b base cp st v L a t d va vt all took) (hq : Qs 50 w' b base cp st v' L' a' t' d') (ho : Only (Fp b v) w w') (hg : ∀ g, v'.ownBlock = some g → v.ownBlock = some g ∨ w.heap.size ≤ g) :
    Od w' b base cp st v' L' a' t' d' va vt all took := by
  refine ⟨hq, h.oa.kept ho ?_, h.ot.kept ho ?_, ?_, ?_, h.ta⟩
  · intro g hg1 hh
    rcases hh with e | e
    · subst e
      exact (h.oa.ne h.q.blk (by decide)) hg1
    · exact h.av g hg1 e
  · intro g hg1 hh
    rcases hh with e | e
    · subst e
      exact (h.ot.ne h.q.blk (by decide)) hg1
    · exact h.tv g hg1 e
  · intro g hg1 hg2
    rcases hg g hg2 with e | e
    · exact h.av g hg1 e
    · have := (h.oa.lt hg1).2
      omega
  · intro g hg1 hg2
    rcases hg g hg2 with e | e
    · exact h.tv g hg1 e
    · have := (h.ot.lt hg1).2
      omega
theorem Od.all_ (h : Od w b base cp st v L a t d va vt all took) (hn : Ow encS 1 w' base 9 va' all') (ho : Only (ownB va) w w') (hg : ∀ g, va'.ownBlock = some g → va.ownBlock = some g ∨ g = w.heap.size) :
    Od w' b base cp st v L a t d va' vt all' took := by
  refine ⟨⟨h.q.blk.kept ho ?_, h.q.own.kept ho ?_, h.q.hb⟩, hn, h.ot.kept ho ?_, ?_, h.tv, ?_⟩
  · intro hh
    exact (h.oa.ne h.q.blk (by decide)) hh
  · intro g hg1 hh
    exact h.av g hh hg1
  · intro g hg1 hh
    exact h.ta g hg1 hh
  · intro g hg1 hg2
    rcases hg g hg1 with e | e
    · exact h.av g e hg2
    · have := (h.q.own.lt hg2).2
      omega
  · intro g hg1 hg2
    rcases hg g hg2 with e | e
    · exact h.ta g hg1 e
    · have := (h.ot.lt hg1).2
      omega
theorem Od.took_ (h : Od w b base cp st v L a t d va vt all took) (hn : Ow encS 1 w' base 9 vt' took') (ho : Only (ownB vt) w w') (hg : ∀ g, vt'.ownBlock = some g → vt.ownBlock = some g ∨ g = w.heap.size) :
    Od w' b base cp st v L a t d va vt' all took' := by
  refine ⟨⟨h.q.blk.kept ho ?_, h.q.own.kept ho ?_, h.q.hb⟩, h.oa.kept ho ?_, hn, h.av, ?_, ?_⟩
  · intro hh
    exact (h.ot.ne h.q.blk (by decide)) hh
  · intro g hg1 hh
    exact h.tv g hh hg1
  · intro g hg1 hh
    exact h.ta g hh hg1
  · intro g hg1 hg2
    rcases hg g hg1 with e | e
    · exact h.tv g e hg2
    · have := (h.q.own.lt hg2).2
      omega
  · intro g hg1 hg2
    rcases hg g hg1 with e | e
    · exact h.ta g e hg2
    · have := (h.oa.lt hg2).2
      omega
theorem Od.below (h : Od w b base cp st v L a t d va vt all took) (ho : Only (Fp b v) w w') : Below base w w' := h.q.below ho
theorem Od.belowA (h : Od w b base cp st v L a t d va vt all took) (ho : Only (ownB va) w w') : Below base w w' := ho.below h.q.sz fun i hi hh => by have := (h.oa.lt hh).1; omega
theorem Od.belowT (h : Od w b base cp st v L a t d va vt all took) (ho : Only (ownB vt) w w') : Below base w w' := ho.below h.q.sz fun i hi hh => by have := (h.ot.lt hh).1; omega
end
/-- what stays true from call to call -/
structure OI (cp st : Int) (k : Nat) (L all took : List ByteArray) (a t d : Int) : Prop where
  i : Inv cp k L a t d
  na : all.length ≤ k
  nt : took.length ≤ k
  s0 : st = 0 → all = took ++ L
  s2 : st = 2 → List.IsSuffix L all
  su : List.Sublist (took ++ L) all
section
variable {cp st : Int} {k : Nat} {L R all took : List ByteArray} {a t d : Int} {x S : ByteArray}
theorem OI.skip (h : OI cp st k L all took a t d) : OI cp st (k + 1) L all took a t d := by
  obtain ⟨i1, i2, i3, i4, i5, i6⟩ := h.i
  exact ⟨⟨i1, i2, i3, i4, i5, by push_cast; omega⟩, by have := h.na; omega, by have := h.nt; omega, h.s0, h.s2, h.su⟩
theorem OI.take (h : OI cp st k (x :: R) all took a t d) : OI cp st (k + 1) R all (took ++ [x]) a (t + 1) d := by
  obtain ⟨i1, i2, i3, i4, i5, i6⟩ := h.i
  simp only [List.length_cons] at i1 i2
  refine ⟨⟨by push_cast at *; omega, by push_cast at *; omega, i3, by omega, i5, by push_cast; omega⟩, by have := h.na; omega, by have := h.nt; simp; omega, fun e => ?_, fun e => ?_, ?_⟩
  · rw [h.s0 e]; simp
  · exact (List.suffix_cons x R).trans (h.s2 e)
  · have := h.su
    simpa using this
theorem OI.put (h : OI cp st k L all took a t d) (hk : (L.length : Int) < cp) : OI cp st (k + 1) (L ++ [S]) (all ++ [S]) took (a + 1) t d := by
  obtain ⟨i1, i2, i3, i4, i5, i6⟩ := h.i
  refine ⟨⟨by simp; omega, by simp; omega, by omega, i4, i5, by push_cast; omega⟩, by have := h.na; simp; omega, by have := h.nt; omega, fun e => ?_, fun e => ?_, ?_⟩
  · rw [h.s0 e]; simp
  · exact (List.suffix_append_self_iff).2 (h.s2 e)
  · rw [← List.append_assoc]
    exact h.su.append (List.Sublist.refl _)
theorem OI.drop (h : OI cp st k L all took a t d) (h0 : st ≠ 0) (hd : st = 1 ∨ cp = 0) : OI cp st (k + 1) L (all ++ [S]) took (a + 1) t (d + 1) := by
  obtain ⟨i1, i2, i3, i4, i5, i6⟩ := h.i
  refine ⟨⟨by omega, i2, by omega, i4, by omega, by push_cast; omega⟩, by have := h.na; simp; omega, by have := h.nt; omega, fun e => absurd e h0, fun e => ?_, ?_⟩
  · have : L = [] := List.eq_nil_of_length_eq_zero (by omega)
    subst this
    exact List.nil_suffix
  · exact h.su.trans (List.sublist_append_left _ _)
theorem OI.push (h : OI cp st k (x :: R) all took a t d) (h0 : st ≠ 0) : OI cp st (k + 1) (R ++ [S]) (all ++ [S]) took (a + 1) t (d + 1) := by
  obtain ⟨i1, i2, i3, i4, i5, i6⟩ := h.i
  simp only [List.length_cons] at i1 i2
  refine ⟨⟨by simp; push_cast at *; omega, by simp; push_cast at *; omega, by omega, i4, by omega, by push_cast; omega⟩, by have := h.na; simp; omega, by have := h.nt; omega, fun e => absurd e h0, fun e => ?_, ?_⟩
  · exact (List.suffix_append_self_iff).2 ((List.suffix_cons x R).trans (h.s2 e))
  · rw [← List.append_assoc]
    exact ((List.Sublist.append (List.Sublist.refl took) (List.sublist_cons_self x R)).trans h.su).append (List.Sublist.refl _)
end
section
variable {w w' : World} {b base : Nat} {cp st : Int} {v : Value} {L all took : List ByteArray} {a t d : Int} {va vt : Value}
def PutIn (w : World) (b base : Nat) (cp st : Int) (k : Nat) (v : Value) (S : ByteArray) (all took : List ByteArray) (x : Ending) (w' : World) : Prop :=
  ∃ r v' L' a' t' d', x = .returned (.int .i64 r) ∧ (r != 0) = true ∧ Qs 50 w' b base cp st v' L' a' t' d' ∧ Only (Fp b v) w w' ∧ (∀ g, v'.ownBlock = some g → v.ownBlock = some g ∨ w.heap.size ≤ g) ∧ OI cp st (k + 1) L' (all ++ [S]) took a' t' d'
theorem put_in {k : Nat} (S : ByteArray) (w : World) (h : Qs 50 w b base cp st v L a t d) (hi : OI cp st k L all took a t d) (hk : k ≤ 1000) (c1 : cp ≤ 64) (hr : ¬ (cp ≤ (L.length : Int) ∧ st = 0)) :
    Calls Try.prog 15 #[.pointer (some ⟨b, 0, none⟩), .string S] w (PutIn w b base cp st k v S all took) := by
  obtain ⟨i1, i2, i3, i4, i5, i6⟩ := hi.i
  have hkk : (k : Int) ≤ 1000 := by omega
  by_cases h1 : (L.length : Int) < cp
  · refine (Put_kept S w h (by omega) h1 i3 (by omega)).mono ?_
    rintro x w' ⟨v', rfl, hq, ho, hg⟩
    exact ⟨1, v', _, _, _, _, rfl, rfl, hq, ho, hg, hi.put h1⟩
  · have h0 : st ≠ 0 := fun e => hr ⟨by omega, e⟩
    by_cases hd : st = 1 ∨ cp = 0
    · refine (Put_dropped S w h (by omega) h0 hd i3 (by omega) i5 (by omega)).mono ?_
      rintro x w' ⟨v', rfl, hq, ho, hg⟩
      exact ⟨2, v', _, _, _, _, rfl, rfl, hq, ho, hg, hi.drop h0 hd⟩
    · cases L with
      | nil => exfalso; simp at h1 i2; omega
      | cons x R =>
        simp only [List.length_cons] at i1 i2 h1
        refine (Put_pushed S x R w h (by push_cast at *; omega) (by simp only [List.length_cons]; omega) h0 hd i3 (by omega) i5 (by omega)).mono ?_
        rintro e w' ⟨v', rfl, hq, ho, hg⟩
        exact ⟨3, v', _, _, _, _, rfl, rfl, hq, ho, hg, hi.push h0⟩
end
end Go.Proofs.Ytfffaifbfojnpaa
