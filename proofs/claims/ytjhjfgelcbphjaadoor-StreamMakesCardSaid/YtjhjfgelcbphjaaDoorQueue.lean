/- A queue of the call's own, and the document's: what lies where. -/
import Derived.Test.YtjhjfgelcbphjaaDoorRows
import Derived.Test.YtjhjfgelcbphjaaDoorApp
import Derived.Test.YtjhjfgelcbphjaaDoorCopy
import Derived.Test.YtjhjfgelcbphjaaDoorBytes
import Derived.Deep.RegionLaw
import Derived.Deep.DeepCutAuto
import Derived.Deep.AppendLies
namespace Go.Proofs.YtjhjfgelcbphjaaDoor.Qu
open Go.Proofs.YtjhjfgelcbphjaaDoor
open Go.RowKit

def encS (s : ByteArray) : List Value := [.string s]
theorem encS_one : ∀ s, ∀ u ∈ encS s, u.oneCell' = true := fun s u hu => by simp [encS] at hu; subst hu; rfl
theorem encS_len : ∀ s, (encS s).length = 1 := fun _ => rfl
theorem str_info : (Tryd.prog.info? 9).map (fun i => (i.zero, i.size, i.bytes)) = some (some (.string ByteArray.empty), 1, 16) := by kernel_rfl
theorem str_size : (Tryd.prog.info? 9).map (·.size) = some 1 := by kernel_rfl
theorem _root_.Go.Proofs.YtjhjfgelcbphjaaDoor.Sq.cell1 {w : World} {B : Nat} {b off : Nat} {l : List ByteArray} (h : Sq encS 1 w B (some ⟨b, off, none⟩) l) {k : Nat} {x : ByteArray} (hx : l[k]? = some x) : w.cell? ⟨b, off + k, none⟩ = some (.string x) := by
  obtain ⟨b', o', y, e, _, hy, _, hc⟩ := h.at_ (k := k) (List.getElem?_eq_some_iff.1 hx).1
  injection e with e
  injection e with e1 e2
  subst e1 e2
  rw [hx] at hy
  injection hy with hy
  subst hy
  simpa [encS] using hc 0 (by decide)
/-- a queue, of either make -/
structure Qs (T : TypeId) (w : World) (b base : Nat) (cp st : Int) (v : Value) (L : List ByteArray) (a t d : Int) : Prop where
  blk : Blk w b T #[.int .i64 cp, .int .i64 st, v, .int .i64 a, .int .i64 t, .int .i64 d]
  own : Ow encS 1 w base 9 v L
  hb : base ≤ b
/-- its blocks -/
def Fp (b : Nat) (v : Value) : Nat → Prop := fun k => k = b ∨ v.ownBlock = some k
/-- what a call leaves: the queue behind it, no other old block turned, what it owns it owned or made -/
def QPost (T : TypeId) (w : World) (b base : Nat) (cp st : Int) (v : Value) (r : Value) (L : List ByteArray) (a t d : Int) (x : Ending) (w' : World) : Prop :=
  ∃ v', x = .returned r ∧ Qs T w' b base cp st v' L a t d ∧ Only (Fp b v) w w' ∧ ∀ g, v'.ownBlock = some g → v.ownBlock = some g ∨ w.heap.size ≤ g
/-- the same of the document's queue, which never writes to the list that it had -/
def QPostR (T : TypeId) (w : World) (b base : Nat) (cp st : Int) (v : Value) (r : Value) (L : List ByteArray) (a t d : Int) (x : Ending) (w' : World) : Prop :=
  ∃ v', x = .returned r ∧ Qs T w' b base cp st v' L a t d ∧ Only (One b) w w' ∧ ∀ g, v'.ownBlock = some g → v.ownBlock = some g ∨ w.heap.size ≤ g
section
variable {T : TypeId} {w w' : World} {b base : Nat} {cp st : Int} {v : Value} {L : List ByteArray} {a t d : Int}
theorem _root_.Go.Proofs.YtjhjfgelcbphjaaDoor.Only.oneFp (ho : Only (One b) w w') : Only (Fp b v) w w' := ho.weaken fun _ _ hh => .inl hh
theorem _root_.Go.Proofs.YtjhjfgelcbphjaaDoor.Only.atOne (ho : Only (One b) w w') (i : Nat) (u : Value) : Only (One b) w (w'.setCell ⟨b, i, none⟩ u) := ho.setCell (p := ⟨b, i, none⟩) (fun _ => rfl) u
theorem Qs.kept (h : Qs T w b base cp st v L a t d) (ho : Only Nil w w') : Qs T w' b base cp st v L a t d := ⟨h.blk.kept ho (fun hh => hh), h.own.kept ho (fun _ _ hh => hh), h.hb⟩
theorem Qs.sz (h : Qs T w b base cp st v L a t d) : base ≤ w.heap.size := by have := h.hb; have := h.blk.lt; omega
theorem Qs.facts (h : Qs T w b base cp st v L a t d) : w.cell? ⟨b, 0, none⟩ = some (.int .i64 cp) ∧ w.cell? ⟨b, 1, none⟩ = some (.int .i64 st) ∧ w.cell? ⟨b, 2, none⟩ = some v ∧ w.cell? ⟨b, 3, none⟩ = some (.int .i64 a) ∧ w.cell? ⟨b, 4, none⟩ = some (.int .i64 t) ∧ w.cell? ⟨b, 5, none⟩ = some (.int .i64 d) :=
  ⟨h.blk.cell 0, h.blk.cell 1, h.blk.cell 2, h.blk.cell 3, h.blk.cell 4, h.blk.cell 5⟩
theorem Qs.thaw (h : Qs T w b base cp st v L a t d) : w.frozen? ⟨b, 2, none⟩ = false ∧ w.frozen? ⟨b, 3, none⟩ = false ∧ w.frozen? ⟨b, 4, none⟩ = false ∧ w.frozen? ⟨b, 5, none⟩ = false :=
  ⟨h.blk.frozen 2, h.blk.frozen 3, h.blk.frozen 4, h.blk.frozen 5⟩
theorem Qs.fpBase (h : Qs T w b base cp st v L a t d) : ∀ i, i < base → ¬ Fp b v i := fun i hi hh => by
  rcases hh with rfl | hh
  · have := h.hb
    omega
  · have := (h.own.lt hh).1
    omega
theorem Qs.below (h : Qs T w b base cp st v L a t d) (ho : Only (Fp b v) w w') : Below base w w' := ho.below h.sz h.fpBase
theorem _root_.Go.Proofs.YtjhjfgelcbphjaaDoor.Only.fp (ho : Only (ownB v) w w') : Only (Fp b v) w w' := ho.weaken fun _ _ hh => .inr hh
theorem _root_.Go.Proofs.YtjhjfgelcbphjaaDoor.Only.atB (ho : Only (Fp b v) w w') (i : Nat) (u : Value) : Only (Fp b v) w (w'.setCell ⟨b, i, none⟩ u) := ho.setCell (p := ⟨b, i, none⟩) (fun _ => .inl rfl) u
/-- another queue, whose blocks are others -/
theorem Qs.apart {T2 : TypeId} {b2 base2 : Nat} {cp2 st2 : Int} {v2 : Value} {L2 : List ByteArray} {a2 t2 d2 : Int} (hT : 9 ≠ T) (hT2 : 9 ≠ T2) (h : Qs T w b base cp st v L a t d) (k : Qs T2 w b2 base2 cp2 st2 v2 L2 a2 t2 d2) (hb : b2 ≠ b)
    (hs : ∀ g, v.ownBlock = some g → v2.ownBlock ≠ some g) (ho : Only (Fp b v) w w') : Qs T2 w' b2 base2 cp2 st2 v2 L2 a2 t2 d2 := by
  refine ⟨k.blk.kept ho ?_, k.own.kept ho ?_, k.hb⟩
  · rintro (e | e)
    · exact hb e
    · exact (h.own.ne k.blk hT2) e
  · intro g hg
    rintro (e | e)
    · subst e
      exact (k.own.ne h.blk hT) hg
    · exact hs g e hg
end
/-! ### the program's -/
section
variable {w w' : World} {b base : Nat} {cp st : Int} {v : Value} {L : List ByteArray} {a t d : Int}
theorem New_any (cp st : Int) (w : World) (h0 : 0 ≤ cp) (h1 : cp ≤ 64) (s0 : 0 ≤ st) (s1 : st ≤ 2) : Calls Tryd.prog 67 #[.int .i64 cp, .int .i64 st] w fun x w' => ∃ b, x = .returned (.tuple #[.pointer (some ⟨b, 0, none⟩), .int .i64 0]) ∧ Only Nil w w' ∧ w.heap.size ≤ b ∧ Qs 135 w' b w.heap.size cp st (.slice none 0 0) [] 0 0 0 := by
  go_enter Tryd.func67, Tryd.ntmps67
  go_wp2
  go_ret2
  exact ⟨_, rfl, (Only.refl _ _).alloc _, Nat.le_refl _, Blk.new _ _ _, Ow.nil, Nat.le_refl _⟩
theorem New_range (cp st : Int) (w : World) (h : cp < 0 ∨ 64 < cp) : Calls Tryd.prog 67 #[.int .i64 cp, .int .i64 st] w fun x w' => x = .returned (.tuple #[.pointer none, .int .i64 3]) ∧ w = w' := by
  by_cases h0 : cp < 0
  · clear h
    go_enter Tryd.func67, Tryd.ntmps67
    go_wp2
    go_ret2
    exact ⟨rfl, rfl⟩
  · have h1 : 64 < cp := by omega
    clear h
    go_enter Tryd.func67, Tryd.ntmps67
    go_wp2
    go_ret2
    exact ⟨rfl, rfl⟩
theorem New_arg (cp st : Int) (w : World) (h0 : 0 ≤ cp) (h1 : cp ≤ 64) (h : st < 0 ∨ 2 < st) : Calls Tryd.prog 67 #[.int .i64 cp, .int .i64 st] w fun x w' => x = .returned (.tuple #[.pointer none, .int .i64 2]) ∧ w = w' := by
  by_cases h0 : st < 0
  · clear h
    go_enter Tryd.func67, Tryd.ntmps67
    go_wp2
    go_ret2
    exact ⟨rfl, rfl⟩
  · have h1 : 2 < st := by omega
    clear h
    go_enter Tryd.func67, Tryd.ntmps67
    go_wp2
    go_ret2
    exact ⟨rfl, rfl⟩
theorem Len_any (w : World) (h : Qs 135 w b base cp st v L a t d) : Calls Tryd.prog 52 #[.pointer (some ⟨b, 0, none⟩)] w fun x w' => x = .returned (.int .i64 L.length) ∧ w = w' := by
  obtain ⟨A, cap, rfl, hc, hm⟩ := h.own.form
  obtain ⟨c0, c1, c2, c3, c4, c5⟩ := h.facts
  go_enter Tryd.func52, Tryd.ntmps52
  go_wp2
  go_ret
  exact ⟨rfl, rfl⟩
theorem Len_nil (w : World) : Calls Tryd.prog 52 #[.pointer none] w fun x w' => x = .returned (.int .i64 0) ∧ w = w' := by
  go_enter Tryd.func52, Tryd.ntmps52
  go_wp2
  go_ret
  exact ⟨rfl, rfl⟩
theorem Full_any (fl : Bool) (w : World) (h : Qs 135 w b base cp st v L a t d) (hf : decide (cp ≤ (L.length : Int)) = fl) : Calls Tryd.prog 112 #[.pointer (some ⟨b, 0, none⟩)] w fun x w' => x = .returned (.bool fl) ∧ Only Nil w w' := by
  obtain ⟨A, cap, rfl, hc, hm⟩ := h.own.form
  obtain ⟨c0, c1, c2, c3, c4, c5⟩ := h.facts
  go_enter Tryd.func112, Tryd.ntmps112
  go_wp2
  go_quiet (fail)
  go_wp2
  go_ret
  exact ⟨rfl, (Only.refl _ _).drewN _⟩
theorem Full_nil (w : World) : Calls Tryd.prog 112 #[.pointer none] w fun x w' => x = .returned (.bool false) ∧ Only Nil w w' := by
  go_enter Tryd.func112, Tryd.ntmps112
  go_wp2
  go_quiet (fail)
  go_wp2
  go_ret
  exact ⟨rfl, (Only.refl _ _).drewN _⟩
def VdPost (p : Option Addr) (w : World) (x : Ending) (w' : World) : Prop := ∃ g, x = .returned (.func (.func 111) #[] #[.pointer (some ⟨g, 0, none⟩)]) ∧ Only Nil w w' ∧ Blk w' g 105 #[.pointer p]
theorem verdicts_any (p : Option Addr) (w : World) : Calls Tryd.prog 106 #[.pointer p] w (VdPost p w) := by
  have hmf := mkf Tryd.prog
  go_enter Tryd.func106, Tryd.ntmps106
  go_wp2
  go_ret
  exact ⟨_, rfl, (Only.refl _ _).alloc _, Blk.new _ _ _⟩
theorem verdicts1_nil (g : Nat) (w : World) (hg : Blk w g 105 #[.pointer none]) : Calls Tryd.prog 111 #[.pointer (some ⟨g, 0, none⟩)] w fun x w' => x = .returned (.int .i64 0) ∧ Only Nil w w' := by
  have c0 := hg.cell 0
  go_enter Tryd.func111, Tryd.ntmps111
  go_wp2
  go_ret
  exact ⟨rfl, Only.refl _ _⟩
/-- the verdict -/
def vd (cp st : Int) (n : Nat) : Int := if (n : Int) < cp then 1 else if st = 0 then 0 else if st = 1 ∨ cp = 0 then 2 else 3
theorem verdicts1_any (g : Nat) (w : World) (hg : Blk w g 105 #[.pointer (some ⟨b, 0, none⟩)]) (h : Qs 135 w b base cp st v L a t d) : Calls Tryd.prog 111 #[.pointer (some ⟨g, 0, none⟩)] w fun x w' => x = .returned (.int .i64 (vd cp st L.length)) ∧ Only Nil w w' := by
  have g0 := hg.cell 0
  have zg := hg.lt
  have zb := h.blk.lt
  have hF := fun fl (hf : decide (cp ≤ (L.length : Int)) = fl) => Full_any fl w h hf
  have hk : ∀ W, Only Nil w W → W.cell? ⟨g, 0, none⟩ = some (.pointer (some ⟨b, 0, none⟩)) ∧ W.cell? ⟨b, 0, none⟩ = some (.int .i64 cp) ∧ W.cell? ⟨b, 1, none⟩ = some (.int .i64 st) := fun W ho => ⟨(hg.kept ho (fun hh => hh)).cell 0, (h.kept ho).facts.1, (h.kept ho).facts.2.1⟩
  have HK := Lib.hid hk
  clear hk hg
  unfold vd
  by_cases h1 : (L.length : Int) < cp
  · have HF := Lib.hid (hF false (by simp; omega))
    rw [if_pos h1]
    clear h1 hF h
    go_enter Tryd.func111, Tryd.ntmps111
    go_wp2_with (first
      | (go_at_call 112; (with_reducible refine (HF.out).mono ?_); rintro e w1 ⟨rfl, ho1⟩)
      )
    go_ret
    exact ⟨rfl, ho1⟩
  · have HF := Lib.hid (hF true (by simp; omega))
    rw [if_neg h1]
    clear h1 hF h
    by_cases h2 : st = 0
    · rw [if_pos h2]
      subst h2
      go_enter Tryd.func111, Tryd.ntmps111
      go_wp2_with (first
        | (go_at_call 112; (with_reducible refine (HF.out).mono ?_); rintro e w1 ⟨rfl, ho1⟩; obtain ⟨d0, d1, d2⟩ := HK.out _ ho1)
        )
      go_ret
      exact ⟨rfl, ho1⟩
    · rw [if_neg h2]
      have h2' : (st == 0) = false := by simpa using h2
      clear h2
      by_cases h3 : st = 1
      · rw [if_pos (.inl h3)]
        subst h3
        go_enter Tryd.func111, Tryd.ntmps111
        go_wp2_with (first
          | (go_at_call 112; (with_reducible refine (HF.out).mono ?_); rintro e w1 ⟨rfl, ho1⟩; obtain ⟨d0, d1, d2⟩ := HK.out _ ho1)
          )
        go_ret
        exact ⟨rfl, ho1⟩
      · have h3' : (st == 1) = false := by simpa using h3
        by_cases h4 : cp = 0
        · rw [if_pos (.inr h4)]
          have h4' : (cp == 0) = true := by simpa using h4
          clear h3 h4
          go_enter Tryd.func111, Tryd.ntmps111
          go_wp2_with (first
            | (go_at_call 112; (with_reducible refine (HF.out).mono ?_); rintro e w1 ⟨rfl, ho1⟩; obtain ⟨d0, d1, d2⟩ := HK.out _ ho1)
            )
          go_ret
          exact ⟨rfl, ho1⟩
        · rw [if_neg (by simp [h3, h4])]
          have h4' : (cp == 0) = false := by simpa using h4
          clear h3 h4
          go_enter Tryd.func111, Tryd.ntmps111
          go_wp2_with (first
            | (go_at_call 112; (with_reducible refine (HF.out).mono ?_); rintro e w1 ⟨rfl, ho1⟩; obtain ⟨d0, d1, d2⟩ := HK.out _ ho1)
            )
          go_ret
          exact ⟨rfl, ho1⟩
end
end Go.Proofs.YtjhjfgelcbphjaaDoor.Qu
