/- The piece of a text. -/
import Derived.Test.YtamocachpjljdaaLay
namespace Go.Proofs.Ytamocachpjljdaa
open Go.RowKit

theorem T_any (S : ByteArray) (w : World) : Calls Try.prog 21 #[.string S] w fun x w' => x = .returned (.agg #[.int .i64 0, .int .i64 0, .string S]) ∧ Only Nil w w' := by
  go_enter Try.func21, Try.ntmps21
  go_wp2
  exact bodyPost_ret (v := .agg #[.int .i64 0, .int .i64 0, .string S]) (by simp [results, Try.results21, go_sem]) rfl ⟨rfl, (Only.refl _ _).alloc _⟩
end Go.Proofs.Ytamocachpjljdaa
