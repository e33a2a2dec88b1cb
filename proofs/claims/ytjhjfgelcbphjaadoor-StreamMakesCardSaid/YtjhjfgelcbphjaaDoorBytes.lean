/- Rows of bytes that a call has made: from strings, to strings. No condition. -/
import Derived.Test.YtjhjfgelcbphjaaDoorSeq
import Derived.Laws.BytesArg
import Derived.Laws.IdiomStrings
import Derived.Laws.MakeOwn
namespace Go.Proofs.YtjhjfgelcbphjaaDoor
open Go.RowKit

def encB (b : UInt8) : List Value := [.int .u8 b.toNat]
theorem encB_len {l : List UInt8} : ∀ x ∈ l, (encB x).length = 1 := fun _ _ => rfl
theorem encB_flat (l : List UInt8) : l.flatMap encB = l.map fun b => Value.int .u8 b.toNat := by
  induction l with
  | nil => rfl
  | cons b l ih => rw [List.flatMap_cons, ih]; rfl
theorem byteCells_flat (s : ByteArray) : byteCells s = s.data.toList.flatMap encB := (encB_flat _).symm
abbrev noS : ByteArray := ⟨#[]⟩
def strOf (l : List UInt8) : ByteArray := ⟨l.toArray⟩
theorem strOf_toList (l : List UInt8) : (strOf l).data.toList = l := rfl
theorem strOf_size (l : List UInt8) : (strOf l).size = l.length := by simp [strOf, ByteArray.size]
theorem strOf_data (s : ByteArray) : strOf s.data.toList = s := rfl

section
variable {P : Program} {w : World} {base : Nat} {e : TypeId} {v : Value} {l : List UInt8}
/-- 'string(b)' of a row of the call's own -/
theorem Ow.str (h : Ow encB 1 w base e v l) (src t dst : TypeId) (hs : P.underlying src = some (.slice t)) (he : P.underlying t = some (.int .u8)) (hd : P.underlying dst = some .string) :
    (convert src dst v).run P w = .ok (.string (strOf l)) w := by
  rcases h.2 with ⟨rfl, rfl⟩ | ⟨g, off, cap, cur, rfl, hb, hh, hl, hm, hsz, hc⟩
  · exact run_convert_bytes_nil w src t hs he 0 0 dst hd
  · refine run_convert_bytes_back w src dst t ⟨g, off, none⟩ cap l hs he hd (fun j hj => ?_)
    rw [Addr.add_lit, hh.cell, hc j (by omega), encB_flat]
    simp [hj]
/-- what a string yields -/
theorem Src.str {tx : TypeId} (hk : P.underlying tx = some .string) (s : ByteArray) : Src P 1 tx (.string s) s.data.toList.length (s.data.toList.flatMap encB) w := by
  have := Src.ofString (P := P) w hk s
  rw [byteCells_flat] at this
  have e : s.data.toList.length = s.size := by simp
  rw [e]
  exact this
/-- 'string([]byte(s))': a new row, and the string again -/
theorem run_bytes_and_back (src t dst : TypeId) (hs : P.underlying src = some (.slice t)) (he : P.underlying t = some (.int .u8)) (hd : P.underlying dst = some .string) (s : ByteArray) (W : World) (A : Option Addr) (n cap : Nat)
    (h : (convert dst src (.string s)).run P w = .ok (.slice A n cap) W) : (convert src dst (.slice A n cap)).run P W = .ok (.string s) W := by
  rw [run_bytes_of_string w dst src t s hd hs he] at h
  injection h with h1 h2
  injection h1 with hA hn hc
  subst hA hn hc h2
  have e1 : s.size = s.data.toList.length := by simp
  rw [e1]
  have := run_convert_bytes_back (P := P) (w.drew.alloc (.cells (bytesRow s (grownCap w s.size 0 t)) t ((bytesRow s (grownCap w s.size 0 t)).size, (bytesRow s (grownCap w s.size 0 t)).size + 1))) src dst t ⟨w.heap.size, 0, none⟩ (grownCap w s.size 0 t) s.data.toList hs he hd (fun j hj => by
    rw [Addr.add_lit]
    refine (cell_of_row _ w.heap.size (0 + j) _ _ _ (heap_alloc_new w.drew _)).trans ?_
    rw [Nat.zero_add]
    unfold bytesRow
    rw [Array.getElem?_append_left (by simpa using hj)]
    simp at hj ⊢
    exact ⟨_, Array.getElem?_eq_getElem (by simpa using hj), rfl⟩)
  rw [e1] at this
  exact this
end
end Go.Proofs.YtjhjfgelcbphjaaDoor
