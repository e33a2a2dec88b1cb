/- What must come at any rate, of queue. -/
import Derived.Test.YtfffaifbfojnpaaDo10
import Derived.Test.YtfffaifbfojnpaaTexts
namespace Go.Proofs.Ytfffaifbfojnpaa
open Go.RowKit

abbrev tA : ByteArray := ⟨#[97]⟩
abbrev tB : ByteArray := ⟨#[98]⟩
abbrev tC : ByteArray := ⟨#[99]⟩
set_option maxHeartbeats 4000000 in
theorem awake_any (w : World) : Calls Try.prog 7 #[] w fun x w' => x = .returned (.bool true) ∧ Below w.heap.size w w' := by
  have h1 := Lib.hid (fun W b v base (h : Qs 50 W b base 2 2 v [] 0 0 0) => (show Calls Try.prog 15 #[.pointer (some ⟨b, 0, none⟩), .string tA] W (QPost 50 W b base 2 2 v (.int .i64 1) [tA] 1 0 0) from Put_kept tA W h (by decide) (by decide) (by decide) (by decide)))
  have h2 := Lib.hid (fun W b v base (h : Qs 50 W b base 2 2 v [tA] 1 0 0) => (show Calls Try.prog 15 #[.pointer (some ⟨b, 0, none⟩), .string tB] W (QPost 50 W b base 2 2 v (.int .i64 1) [tA, tB] 2 0 0) from Put_kept tB W h (by decide) (by decide) (by decide) (by decide)))
  have h3 := Lib.hid (fun W b v base (h : Qs 50 W b base 2 2 v [tA, tB] 2 0 0) => (show Calls Try.prog 15 #[.pointer (some ⟨b, 0, none⟩), .string tC] W (QPost 50 W b base 2 2 v (.int .i64 3) [tB, tC] 3 0 1) from Put_pushed tC tA [tB] W h (by decide) (by decide) (by decide) (by decide) (by decide) (by decide) (by decide) (by decide)))
  have h4 := Lib.hid (fun W b v base (h : Qs 50 W b base 2 2 v [tB, tC] 3 0 1) => (show Calls Try.prog 14 #[.pointer (some ⟨b, 0, none⟩)] W (QPost 50 W b base 2 2 v (.tuple #[.string tB, .bool true]) [tC] 3 1 1) from Take_in tB [tC] W h (by decide) (by decide) (by decide)))
  have h5 := Lib.hid (fun W b v base (h : Qs 50 W b base 2 2 v [tC] 3 1 1) => (show Calls Try.prog 10 #[.pointer (some ⟨b, 0, none⟩)] W fun x w' => x = .returned (.int .i64 1) ∧ W = w' from Len_any W h))
  go_enter Try.func7, Try.ntmps7
  go_wp2_with (first
    | (go_at_call 6; (with_reducible refine (New_any 2 2 _ (by decide) (by decide) (by decide) (by decide)).mono ?_); rintro e w1 ⟨b, rfl, ho1, hb1, hq1⟩)
    | (go_at_call 15; (with_reducible refine (h1.out _ _ _ _ hq1).mono ?_); rintro e w2 ⟨v2, rfl, hq2, ho2, hg2⟩)
    | (go_at_call 15; (with_reducible refine (h2.out _ _ _ _ hq2).mono ?_); rintro e w3 ⟨v3, rfl, hq3, ho3, hg3⟩)
    | (go_at_call 15; (with_reducible refine (h3.out _ _ _ _ hq3).mono ?_); rintro e w4 ⟨v4, rfl, hq4, ho4, hg4⟩)
    | (go_at_call 14; (with_reducible refine (h4.out _ _ _ _ hq4).mono ?_); rintro e w5 ⟨v5, rfl, hq5, ho5, hg5⟩)
    | (go_at_call 10; (with_reducible refine (h5.out _ _ _ _ hq5).mono ?_); rintro e w6 ⟨rfl, rfl⟩)
    )
  go_ret
  exact ⟨rfl, ((((ho1.below (Nat.le_refl _) (fun _ _ hh => hh)).trans (hq1.below ho2)).trans (hq2.below ho3)).trans (hq3.below ho4)).trans (hq4.below ho5)⟩
end Go.Proofs.Ytfffaifbfojnpaa
