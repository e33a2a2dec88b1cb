/- What must come at any rate, of link. -/
import Derived.Test.YtkkbjdbfelaedaaLink2
namespace Go.Proofs.Ytkkbjdbfelaedaa
open Go.RowKit

set_option maxHeartbeats 2000000 in
theorem awake_any (w : World) : Calls Try.prog 7 #[] w fun x w' => x = .returned (.bool true) ∧ Only Nil w w' := by
  have h1 : ∀ (W : World) (b base : Nat) (v : Value), Lk W b base v [] 9 0 0 → Calls Try.prog 11 #[.pointer (some ⟨b, 0, none⟩), .string ⟨#[97, 98, 99]⟩] W (LkPost W b base (.int .i64 0) [97, 98, 99] 9 3 0) :=
    fun W b base v h => Push_ok ⟨#[97, 98, 99]⟩ W h (by decide) (by decide) (by decide) (by decide) (by decide)
  have h2 : ∀ (W : World) (b base : Nat) (v : Value), Lk W b base v [97, 98, 99] 9 3 0 → Calls Try.prog 9 #[.pointer (some ⟨b, 0, none⟩), .int .i64 2] W (LkPost W b base (.string ⟨#[97, 98]⟩) [99] 9 3 2) :=
    fun W b base v h => Pull_some 2 2 W h (by decide) (by decide) (by decide) (by decide) (by decide) (by decide)
  have h3 : ∀ (W : World) (b base : Nat) (v : Value), Lk W b base v [99] 9 3 2 → Calls Try.prog 10 #[.pointer (some ⟨b, 0, none⟩), .string ⟨#[120]⟩] W (LkPost W b base (.int .i64 0) [120, 99] 9 4 2) :=
    fun W b base v h => Ahead_ok ⟨#[120]⟩ W h (by decide) (by decide) (by decide) (by decide) (by decide)
  have h4 : ∀ (W : World) (b base : Nat) (v : Value), Lk W b base v [120, 99] 9 4 2 → Calls Try.prog 9 #[.pointer (some ⟨b, 0, none⟩), .int .i64 9] W (LkPost W b base (.string ⟨#[120, 99]⟩) [] 9 4 4) :=
    fun W b base v h => Pull_some 9 2 W h (by decide) (by decide) (by decide) (by decide) (by decide) (by decide)
  have h5 : ∀ (W : World) (b base : Nat) (v : Value), Lk W b base v [] 9 4 4 → Calls Try.prog 14 #[.pointer (some ⟨b, 0, none⟩)] W fun x w' => x = .returned (.int .i64 0) ∧ W = w' := fun W b base v h => Len_any W h
  have H1 := Lib.hid h1
  have H2 := Lib.hid h2
  have H3 := Lib.hid h3
  have H4 := Lib.hid h4
  have H5 := Lib.hid h5
  clear h1 h2 h3 h4 h5
  go_enter Try.func7, Try.ntmps7
  go_wp2_with (first
    | (go_at_call 6; (with_reducible refine (New_any 9 _ (by decide) (by decide) w.heap.size (Nat.le_refl _)).mono ?_); rintro e w1 ⟨b, rfl, ho1, hK1⟩)
    | (go_at_call 11; (with_reducible refine (H1.out _ b _ _ hK1).mono ?_); rintro e w2 ⟨v2, rfl, hK2, hB2, _⟩)
    | (go_at_call 9; (with_reducible refine (H2.out _ b _ _ hK2).mono ?_); rintro e w3 ⟨v3, rfl, hK3, hB3, _⟩)
    | (go_at_call 10; (with_reducible refine (H3.out _ b _ _ hK3).mono ?_); rintro e w4 ⟨v4, rfl, hK4, hB4, _⟩)
    | (go_at_call 9; (with_reducible refine (H4.out _ b _ _ hK4).mono ?_); rintro e w5 ⟨v5, rfl, hK5, hB5, _⟩)
    | (go_at_call 14; (with_reducible refine (H5.out _ b _ _ hK5).mono ?_); rintro e w6 ⟨rfl, rfl⟩)
    )
  go_ret
  exact ⟨rfl, Only.of_below (((((ho1.below (Nat.le_refl _) (fun _ _ hh => hh)).trans hB2).trans hB3).trans hB4).trans hB5)⟩
theorem str_add (I : List UInt8) (S : ByteArray) : strOf I ++ S = strOf (I ++ S.data.toList) := by
  apply ByteArray.ext
  apply Array.toList_inj.1
  simp [strOf, ByteArray.data_append]
end Go.Proofs.Ytkkbjdbfelaedaa
