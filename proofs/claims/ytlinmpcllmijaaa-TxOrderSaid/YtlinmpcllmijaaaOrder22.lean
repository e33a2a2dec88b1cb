/- A sender, and two lists of texts beside it: all items that were accepted, all that came out; what stays true of them. -/
import Derived.Test.YtlinmpcllmijaaaLaw22
import Derived.Test.YtlinmpcllmijaaaTexts
namespace Go.Proofs.Ytlinmpcllmijaaa
open Go.RowKit
open Go.Proofs.Ytlinmpcllmijaaa.Qu

structure Ot (w : World) (b base : Nat) (F : Nat → Prop) (kd cp st : Int) (B : List UInt8) (L : List ByteArray) (wn : Int) (en ou : Bool) (A S D : Int) (va vt : Value) (all took : List ByteArray) : Prop where
  p : PT w b base F kd cp st B L wn en ou A S D
  oa : Ow encS 1 w base 9 va all
  ot : Ow encS 1 w base 9 vt took
  av : ∀ g, va.ownBlock = some g → ¬ F g
  tv : ∀ g, vt.ownBlock = some g → ¬ F g
  ta : ∀ g, vt.ownBlock = some g → va.ownBlock ≠ some g
section
variable {w w' : World} {b base : Nat} {F F' : Nat → Prop} {kd cp st : Int} {B B' : List UInt8} {L L' : List ByteArray} {wn A S D wn' A' S' D' : Int} {en ou en' ou' : Bool} {va vt va' vt' : Value} {all took all' took' : List ByteArray}
theorem Ot.kept (h : Ot w b base F kd cp st B L wn en ou A S D va vt all took) (ho : Only Nil w w') : Ot w' b base F kd cp st B L wn en ou A S D va vt all took :=
  ⟨h.p.kept ho, h.oa.kept ho (fun _ _ hh => hh), h.ot.kept ho (fun _ _ hh => hh), h.av, h.tv, h.ta⟩
theorem Ot.step (h : Ot w b base F kd cp st B L wn en ou A S D va vt all took) (hp : PT w' b base F' kd cp st B' L' wn' en' ou' A' S' D') (ho : Only F w w') (hg : Grew w F F') : Ot w' b base F' kd cp st B' L' wn' en' ou' A' S' D' va vt all took := by
  refine ⟨hp, h.oa.kept ho h.av, h.ot.kept ho h.tv, ?_, ?_, h.ta⟩
  · intro g hg1 hg2
    rcases hg g hg2 with e | e
    · exact h.av g hg1 e
    · have := (h.oa.lt hg1).2
      omega
  · intro g hg1 hg2
    rcases hg g hg2 with e | e
    · exact h.tv g hg1 e
    · have := (h.ot.lt hg1).2
      omega
theorem Ot.all_ (h : Ot w b base F kd cp st B L wn en ou A S D va vt all took) (hn : Ow encS 1 w' base 9 va' all') (ho : Only (ownB va) w w') (hg : ∀ g, va'.ownBlock = some g → va.ownBlock = some g ∨ g = w.heap.size) :
    Ot w' b base F kd cp st B L wn en ou A S D va' vt all' took := by
  refine ⟨h.p.off ho (fun k hk hh => h.av k hh hk), hn, h.ot.kept ho (fun g hg1 hh => h.ta g hg1 hh), ?_, h.tv, ?_⟩
  · intro g hg1 hg2
    rcases hg g hg1 with e | e
    · exact h.av g e hg2
    · have := (h.p.fp g hg2).2
      omega
  · intro g hg1 hg2
    rcases hg g hg2 with e | e
    · exact h.ta g hg1 e
    · have := (h.ot.lt hg1).2
      omega
theorem Ot.took_ (h : Ot w b base F kd cp st B L wn en ou A S D va vt all took) (hn : Ow encS 1 w' base 9 vt' took') (ho : Only (ownB vt) w w') (hg : ∀ g, vt'.ownBlock = some g → vt.ownBlock = some g ∨ g = w.heap.size) :
    Ot w' b base F kd cp st B L wn en ou A S D va vt' all took' := by
  refine ⟨h.p.off ho (fun k hk hh => h.tv k hh hk), h.oa.kept ho (fun g hg1 hh => h.ta g hh hg1), hn, h.av, ?_, ?_⟩
  · intro g hg1 hg2
    rcases hg g hg1 with e | e
    · exact h.tv g e hg2
    · have := (h.p.fp g hg2).2
      omega
  · intro g hg1 hg2
    rcases hg g hg1 with e | e
    · exact h.ta g e hg2
    · have := (h.oa.lt hg2).2
      omega
theorem Ot.belowA (h : Ot w b base F kd cp st B L wn en ou A S D va vt all took) (ho : Only (ownB va) w w') : Below base w w' := ho.below h.p.sz fun i hi hh => by have := (h.oa.lt hh).1; omega
theorem Ot.belowT (h : Ot w b base F kd cp st B L wn en ou A S D va vt all took) (ho : Only (ownB vt) w w') : Below base w w' := ho.below h.p.sz fun i hi hh => by have := (h.ot.lt hh).1; omega
end
/-- what stays true from call to call -/
structure Oi (kd st : Int) (k : Nat) (B : List UInt8) (L : List ByteArray) (ou : Bool) (al tk : List UInt8) (items out : List ByteArray) (ends : Int) : Prop where
  n1 : al.length ≤ 600 * k
  n2 : tk.length ≤ 256 * k
  bs : kd = 1 → al = tk ++ B
  ni : items.length ≤ k
  no : out.length ≤ k
  su : List.Sublist (out ++ L) items
  s0 : st = 0 → items = out ++ L
  e0 : 0 ≤ ends
  e1 : 0 < ends → ou = true
  e2 : ends ≤ k
  sz : ∀ x ∈ L, x.size ≤ 256
section
variable {kd st cp : Int} {k : Nat} {B B' : List UInt8} {L L' : List ByteArray} {ou ou' en o is : Bool} {al tk : List UInt8} {items out : List ByteArray} {ends A D A' D' r e wn wn' S S' n m : Int} {X : ByteArray}
theorem Oi.up {k' : Nat} (h : Oi kd st k B L ou al tk items out ends) (hk : k ≤ k') : Oi kd st k' B L ou al tk items out ends :=
  ⟨by have := h.n1; omega, by have := h.n2; omega, h.bs, by have := h.ni; omega, by have := h.no; omega, h.su, h.s0, h.e0, h.e1, by have := h.e2; omega, h.sz⟩
theorem Oi.offer (h : Oi kd st k B L ou al tk items out ends) (hi : TI kd m cp B L wn en ou A S D) (hr : OfR kd cp st X B L A D en r e B' L' A' D') (hX : X.size ≤ 600) :
    ((e == 0) = false ∧ Oi kd st (k + 1) B' L' ou al tk items out ends) ∨ (e = 0 ∧ kd = 1 ∧ ∃ j : Nat, r = j ∧ j ≤ X.size ∧ Oi kd st (k + 1) B' L' ou (al ++ X.data.toList.take j) tk items out ends) ∨ (e = 0 ∧ (kd == 1) = false ∧ Oi kd st (k + 1) B' L' ou al tk (items ++ [X]) out ends) := by
  have hu := h.up (Nat.le_succ k)
  have h1 := h.n1
  have h2 := h.ni
  have hxl : X.data.toList.length = X.size := rfl
  cases hr with
  | ended => exact .inl ⟨rfl, hu⟩
  | bytes j hk ej =>
    have hj : j ≤ X.size := by omega
    refine .inr (.inl ⟨rfl, hk, j, rfl, hj, ⟨?_, hu.n2, fun _ => ?_, hu.ni, hu.no, hu.su, hu.s0, hu.e0, hu.e1, hu.e2, hu.sz⟩⟩)
    · rw [List.length_append, List.length_take]
      omega
    · rw [h.bs hk, List.append_assoc]
  | big hk hX2 => exact .inl ⟨rfl, hu⟩
  | refused hk hX2 hf hs => exact .inl ⟨rfl, hu⟩
  | kept hk hX2 hf =>
    refine .inr (.inr ⟨rfl, by rw [hk]; rfl, ⟨hu.n1, hu.n2, fun e => by rw [hk] at e; exact absurd e (by decide), by simp; omega, hu.no, ?_, fun e => ?_, hu.e0, hu.e1, hu.e2, ?_⟩⟩)
    · rw [← List.append_assoc]
      exact h.su.append (List.Sublist.refl _)
    · rw [h.s0 e]; simp
    · intro x hx
      rcases List.mem_append.1 hx with hx | hx
      · exact h.sz x hx
      · simp at hx
        subst hx
        exact hX2
  | dropped hk hX2 hf hs hd =>
    exact .inr (.inr ⟨rfl, by rw [hk]; rfl, ⟨hu.n1, hu.n2, fun e => by rw [hk] at e; exact absurd e (by decide), by simp; omega, hu.no, h.su.trans (List.sublist_append_left _ _), fun e => absurd e hs, hu.e0, hu.e1, hu.e2, hu.sz⟩⟩)
  | pushed x R eL hk hX2 hf hs hd =>
    subst eL
    refine .inr (.inr ⟨rfl, by rw [hk]; rfl, ⟨hu.n1, hu.n2, fun e => by rw [hk] at e; exact absurd e (by decide), by simp; omega, hu.no, ?_, fun e => absurd e hs, hu.e0, hu.e1, hu.e2, ?_⟩⟩)
    · rw [← List.append_assoc]
      exact ((List.Sublist.append (List.Sublist.refl out) (List.sublist_cons_self x R)).trans h.su).append (List.Sublist.refl _)
    · intro y hy
      rcases List.mem_append.1 hy with hy | hy
      · exact h.sz y (by simp [hy])
      · simp at hy
        subst hy
        exact hX2
theorem Oi.take (h : Oi kd st k B L ou al tk items out ends) (hi : TI kd m cp B L wn en ou A S D) (hr : TkR kd n B L wn en ou S X o is B' L' wn' ou' S') :
    (is = false ∧ o = false ∧ X = noS ∧ Oi kd st (k + 1) B' L' ou' al (tk ++ X.data.toList) items out ends) ∨
    (is = true ∧ o = true ∧ ends = 0 ∧ X.size ≤ 256 ∧ Oi kd st (k + 1) B' L' ou' al (tk ++ X.data.toList) items out 1) ∨
    (is = true ∧ o = false ∧ ends = 0 ∧ X.size ≤ 256 ∧ (kd == 2) = false ∧ Oi kd st (k + 1) B' L' ou' al (tk ++ X.data.toList) items out 0) ∨
    (is = true ∧ o = false ∧ ends = 0 ∧ X.size ≤ 256 ∧ (kd == 2) = true ∧ Oi kd st (k + 1) B' L' ou' al (tk ++ X.data.toList) items (out ++ [X]) 0) := by
  have hu := h.up (Nat.le_succ k)
  have h2 := h.n2
  have h3 := h.no
  have he : rdyF kd n wn (nOf B L) en ou = true → ends = 0 := fun hrd => by
    by_cases h0 : 0 < ends
    · have ho := h.e1 h0
      obtain ⟨_, hz⟩ := hi.o ho
      unfold rdyF at hrd
      rw [if_pos hz, ho] at hrd
      simp at hrd
    · have := h.e0; omega
  cases hr with
  | no hr => exact .inl ⟨rfl, rfl, rfl, by simpa using hu⟩
  | bytes j hk hr ej =>
    have e0 := he hr
    subst e0
    have hj : j ≤ B.length := by rw [ej]; exact outN_le _ _
    have hj2 : j ≤ 256 := by
      rw [ej]
      unfold outN cnt
      split <;> omega
    have hd : (strOf (B.take j)).data.toList = B.take j := rfl
    have hsz : (strOf (B.take j)).size ≤ 256 := by rw [strOf_size, List.length_take]; omega
    have hbs : kd = 1 → al = (tk ++ B.take j) ++ B.drop j := fun e => by rw [List.append_assoc, List.take_append_drop]; exact h.bs e
    have hn2 : (tk ++ B.take j).length ≤ 256 * (k + 1) := by rw [List.length_append, List.length_take]; omega
    have hkd : (kd == 2) = false := by rw [hk]; rfl
    cases ho : (en && decide (B.length = j)) with
    | true => exact .inr (.inl ⟨rfl, rfl, rfl, hsz, ⟨hu.n1, hn2, hbs, hu.ni, hu.no, hu.su, hu.s0, by decide, fun _ => rfl, by omega, hu.sz⟩⟩)
    | false => exact .inr (.inr (.inl ⟨rfl, rfl, rfl, hsz, hkd, ⟨hu.n1, hn2, hbs, hu.ni, hu.no, hu.su, hu.s0, by decide, fun e => absurd e (by decide), by omega, hu.sz⟩⟩))
  | over hk hL he2 ho =>
    subst he2 ho hL
    have hB := hi.k2 hk
    subst hB
    have e0 := he (by rfl)
    subst e0
    exact .inr (.inl ⟨rfl, rfl, rfl, by decide, ⟨hu.n1, by simpa using hu.n2, fun e => by rw [hk] at e; exact absurd e (by decide), hu.ni, hu.no, hu.su, hu.s0, by decide, fun _ => rfl, by omega, hu.sz⟩⟩)
  | item Y R hk eL hw =>
    subst eL
    have hB := hi.k2 hk
    subst hB
    have e0 := he (by unfold rdyF nOf; rw [if_neg (by simp), if_pos hk]; simpa using hw)
    subst e0
    have hs := h.sz X (by simp)
    have hxl : X.data.toList.length = X.size := rfl
    refine .inr (.inr (.inr ⟨rfl, rfl, rfl, hs, by rw [hk]; rfl, ⟨hu.n1, by rw [List.length_append]; omega, fun e => by rw [hk] at e; exact absurd e (by decide), hu.ni, by simp; omega, by have := h.su; simpa using this, fun e => by rw [h.s0 e]; simp, by decide, fun e => absurd e (by decide), by omega, fun x hx => h.sz x (by simp [hx])⟩⟩))
end
end Go.Proofs.Ytlinmpcllmijaaa
