/- Scans in the middle of a text. -/
import Derived.Test.YtamocachpjljdaaScan2
namespace Go.Proofs.Ytamocachpjljdaa
open Go.RowKit

theorem ext_size (S : ByteArray) (a : Nat) : (S.extract a S.size).size = S.size - a := by rw [ext_drop, strOf_size, List.length_drop]; simp
theorem ext_mid (S : ByteArray) (a n : Nat) : S.extract a (a + n) = strOf ((S.data.toList.drop a).take n) := by
  apply ByteArray.ext
  apply Array.toList_inj.1
  simp [strOf]
theorem ext_cut (S : ByteArray) (a n : Nat) : (S.extract a S.size).extract 0 n = S.extract a (a + n) := by rw [ext_take, ext_drop, strOf_toList, ext_mid]
theorem ext_rest (S : ByteArray) (a n : Nat) : (S.extract a S.size).extract n (S.extract a S.size).size = S.extract (a + n) S.size := by rw [ext_drop, ext_drop S a, strOf_toList, List.drop_drop, ext_drop]
theorem SU_mid (b : Nat) (S : ByteArray) (a n : Nat) (w : World) (h : Sc w b (S.extract a S.size) false) (h1 : 1 ≤ n) (h4 : n ≤ 4) (hn : a + n ≤ S.size) : Calls Try.prog 31 #[.pointer (some ⟨b, 0, none⟩), .int .i64 n] w (TkPost w b (.int .i64 (decN ((S.data.toList.drop a).take n))) (S.extract (a + n) S.size) false) := by
  have := SU_in b _ n w h h1 h4 (by rw [ext_size]; omega)
  rw [ext_rest, ext_drop S a, strOf_toList] at this
  exact this
end Go.Proofs.Ytamocachpjljdaa
