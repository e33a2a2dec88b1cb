/- Frames as plain data, and what holds one. No condition. -/
import Derived.Test.YtjhjfgelcbphjaaDoorRows
import Derived.Test.YtjhjfgelcbphjaaDoorApp
namespace Go.Proofs.YtjhjfgelcbphjaaDoor
open Go.RowKit

abbrev nilS : ByteArray := ⟨#[]⟩
structure Prm where
  ID : Int
  V : Int
def encPm (p : Prm) : List Value := [.int .i64 p.ID, .int .i64 p.V]
theorem encPm_len {l : List Prm} : ∀ x ∈ l, (encPm x).length = 2 := fun _ _ => rfl
theorem encPm_one {l : List Prm} : ∀ x ∈ l, ∀ u ∈ encPm x, u.oneCell' = true := fun _ _ u hu => by
  simp [encPm] at hu
  rcases hu with rfl | rfl <;> rfl
structure Frm where
  t : Int
  s : Int
  en : Bool
  d : ByteArray
  k : Int
  on : Int
  wt : Int
  ex : Bool
  c : Int
  l : Int
  n : Int
  P : List Prm
abbrev frC (f : Frm) (p : Value) : Array Value := #[.int .i64 f.t, .int .i64 f.s, .bool f.en, .string f.d, .int .i64 f.k, .int .i64 f.on, .int .i64 f.wt, .bool f.ex, .int .i64 f.c, .int .i64 f.l, .int .i64 f.n, p]
abbrev frmV (f : Frm) (p : Value) : Value := .agg (frC f p)
/-- a list of settings lies behind a slice -/
def PmIs (w : World) (p : Value) (P : List Prm) : Prop := ∃ A cap, p = .slice A P.length cap ∧ P.length ≤ cap ∧ cap ≤ maxLen ∧ Sq encPm 2 w w.heap.size A P
theorem PmIs.go {w w' : World} {p : Value} {P : List Prm} (h : PmIs w p P) (ho : Only Nil w w') : PmIs w' p P := by
  obtain ⟨A, cap, hp, h1, h2, h3⟩ := h
  exact ⟨A, cap, hp, h1, h2, h3.go ho⟩
theorem PmIs.nil (w : World) : PmIs w (.slice none 0 0) [] := ⟨none, 0, rfl, Nat.le_refl _, by simp [maxLen], Sq.nil⟩
theorem ba_inj {a b : ByteArray} (e : a.toList = b.toList) : a = b := by
  rw [ByteArray.toList_eq, ByteArray.toList_eq] at e
  cases a; cases b
  simp at e
  rw [e]
/-- a frame's cells, of a block that holds it -/
theorem Blk.frm {w : World} {b : Nat} {ty : TypeId} {f : Frm} {p : Value} (h : Blk w b ty (frC f p)) :
    w.cell? ⟨b, 0, none⟩ = some (.int .i64 f.t) ∧ w.cell? ⟨b, 1, none⟩ = some (.int .i64 f.s) ∧ w.cell? ⟨b, 2, none⟩ = some (.bool f.en) ∧ w.cell? ⟨b, 3, none⟩ = some (.string f.d) ∧
    w.cell? ⟨b, 4, none⟩ = some (.int .i64 f.k) ∧ w.cell? ⟨b, 5, none⟩ = some (.int .i64 f.on) ∧ w.cell? ⟨b, 6, none⟩ = some (.int .i64 f.wt) ∧ w.cell? ⟨b, 7, none⟩ = some (.bool f.ex) ∧
    w.cell? ⟨b, 8, none⟩ = some (.int .i64 f.c) ∧ w.cell? ⟨b, 9, none⟩ = some (.int .i64 f.l) ∧ w.cell? ⟨b, 10, none⟩ = some (.int .i64 f.n) ∧ w.cell? ⟨b, 11, none⟩ = some p :=
  ⟨h.cell 0, h.cell 1, h.cell 2, h.cell 3, h.cell 4, h.cell 5, h.cell 6, h.cell 7, h.cell 8, h.cell 9, h.cell 10, h.cell 11⟩
theorem Blk.frmF {w : World} {b : Nat} {ty : TypeId} {cs : Array Value} (h : Blk w b ty cs) :
    w.frozen? ⟨b, 0, none⟩ = false ∧ w.frozen? ⟨b, 1, none⟩ = false ∧ w.frozen? ⟨b, 2, none⟩ = false ∧ w.frozen? ⟨b, 3, none⟩ = false ∧
    w.frozen? ⟨b, 4, none⟩ = false ∧ w.frozen? ⟨b, 5, none⟩ = false ∧ w.frozen? ⟨b, 6, none⟩ = false ∧ w.frozen? ⟨b, 7, none⟩ = false ∧
    w.frozen? ⟨b, 8, none⟩ = false ∧ w.frozen? ⟨b, 9, none⟩ = false ∧ w.frozen? ⟨b, 10, none⟩ = false ∧ w.frozen? ⟨b, 11, none⟩ = false :=
  ⟨h.frozen 0, h.frozen 1, h.frozen 2, h.frozen 3, h.frozen 4, h.frozen 5, h.frozen 6, h.frozen 7, h.frozen 8, h.frozen 9, h.frozen 10, h.frozen 11⟩

/-- two boxes of frames, of which the lists of settings are asked -/
def Two (w wr : World) (A : Option Addr) (m cap : Nat) (A' : Option Addr) (cap' : Nat) : Prop :=
  wr.cell? ⟨w.heap.size, 11, none⟩ = some (.slice A m cap) ∧ wr.cell? ⟨w.heap.size + 1, 11, none⟩ = some (.slice A' m cap') ∧ w.heap.size + 2 ≤ wr.heap.size ∧ Only Nil w wr
theorem Two.go {w wr : World} {A : Option Addr} {m cap : Nat} {A' : Option Addr} {cap' : Nat} (h : Two w wr A m cap A' cap') : ∀ wx, Only Nil wr wx → Two w wx A m cap A' cap' := fun wx ho => by
  obtain ⟨h1, h2, h3, h4⟩ := h
  have hb := ho.below (Nat.le_refl _) (fun _ _ hh => hh)
  exact ⟨(hb.cell (p := ⟨_, 11, none⟩) (show w.heap.size < wr.heap.size by omega)).trans h1, (hb.cell (p := ⟨_, 11, none⟩) (show w.heap.size + 1 < wr.heap.size by omega)).trans h2, Nat.le_trans h3 ho.size, h4.trans ho⟩
theorem take_eq {P P' : List Prm} {j : Nat} {x : Prm} (h : P.take j = P'.take j) (h1 : P[j]? = some x) (h2 : P'[j]? = some x) : P.take (j + 1) = P'.take (j + 1) := by
  rw [List.take_add_one, List.take_add_one, h, h1, h2]
end Go.Proofs.YtjhjfgelcbphjaaDoor
