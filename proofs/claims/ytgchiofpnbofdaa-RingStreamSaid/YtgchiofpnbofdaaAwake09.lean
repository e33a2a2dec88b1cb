/- What must come at any rate, of rings. -/
import Derived.Test.YtgchiofpnbofdaaDo09
namespace Go.Proofs.Ytgchiofpnbofdaa
open Go.RowKit

theorem Only.rt {w0 w w' : World} {r g : Nat} (h0 : Only Nil w0 w) (hr : w0.heap.size ≤ r) (hg : w0.heap.size ≤ g) (ho : Only (RTwo r g) w w') : Only Nil w0 w' :=
  h0.trans_new ho (fun _ hi hh => by rcases hh with hh | hh <;> omega)
theorem Only.rone {w w' : World} {r g : Nat} (ho : Only (One r) w w') : Only (RTwo r g) w w' := ho.weaken fun _ _ hh => .inl hh
set_option maxHeartbeats 2000000 in
theorem awake_any (w : World) : Calls Try.prog 7 #[] w fun x w' => x = .returned (.bool true) ∧ Only Nil w w' := by
  have hN := Lib.hid (show Calls Try.prog 6 #[.int .i64 4] w _ from New_in 4 w (by decide))
  have hW1 := Lib.hid (fun W r g F row (h : Rg W r g w.heap.size 4 F row []) => (show Calls Try.prog 13 #[.pointer (some ⟨r, 0, none⟩), .string ⟨#[97, 98, 99, 100, 101, 102]⟩] W (WPost W r g w.heap.size 4 F 4 [97, 98, 99, 100]) from Write_any _ W h))
  have hR1 := Lib.hid (fun W r g F row (h : Rg W r g w.heap.size 4 F row [97, 98, 99, 100]) => (show Calls Try.prog 14 #[.pointer (some ⟨r, 0, none⟩), .int .i64 2] W (DPost W r g w.heap.size 4 row (.string ⟨#[97, 98]⟩) [99, 100]) from Read_any 2 W h))
  have hW2 := Lib.hid (fun W r g F row (h : Rg W r g w.heap.size 4 F row [99, 100]) => (show Calls Try.prog 13 #[.pointer (some ⟨r, 0, none⟩), .string ⟨#[103, 104]⟩] W (WPost W r g w.heap.size 4 F 2 [99, 100, 103, 104]) from Write_any _ W h))
  have hR2 := Lib.hid (fun W r g F row (h : Rg W r g w.heap.size 4 F row [99, 100, 103, 104]) => (show Calls Try.prog 14 #[.pointer (some ⟨r, 0, none⟩), .int .i64 9] W (DPost W r g w.heap.size 4 row (.string ⟨#[99, 100, 103, 104]⟩) []) from Read_any 9 W h))
  have hL := Lib.hid (fun W r g F row (h : Rg W r g w.heap.size 4 F row []) => (show Calls Try.prog 9 #[.pointer (some ⟨r, 0, none⟩)] W (fun x w' => x = .returned (.int .i64 0) ∧ W = w') from Len_any W h))
  go_enter Try.func7, Try.ntmps7
  go_wp2_with (first
    | (go_at_call 6; (with_reducible refine (hN.out).mono ?_); rintro e w1 ⟨r, g, row, rfl, h1, ho1⟩; have zr := h1.hb; have zg := h1.gb)
    | (go_at_call 13; (with_reducible refine (hW1.out _ _ _ _ _ h1).mono ?_); rintro e w2 ⟨row2, rfl, h2, ho2⟩)
    | (go_at_call 14; (with_reducible refine (hR1.out _ _ _ _ _ h2).mono ?_); rintro e w3 ⟨F3, rfl, h3, ho3⟩)
    | (go_at_call 13; (with_reducible refine (hW2.out _ _ _ _ _ h3).mono ?_); rintro e w4 ⟨row4, rfl, h4, ho4⟩)
    | (go_at_call 14; (with_reducible refine (hR2.out _ _ _ _ _ h4).mono ?_); rintro e w5 ⟨F5, rfl, h5, ho5⟩)
    | (go_at_call 9; (with_reducible refine (hL.out _ _ _ _ _ h5).mono ?_); rintro e w6 ⟨rfl, rfl⟩)
    )
  go_ret
  exact ⟨rfl, ((((ho1.rt zr zg.1 ho2).rt zr zg.1 ho3.rone).rt zr zg.1 ho4).rt zr zg.1 ho5.rone)⟩
end Go.Proofs.Ytgchiofpnbofdaa
