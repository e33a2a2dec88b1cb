/- What must come at any rate, of senders. -/
import Derived.Test.YtlinmpcllmijaaaTx2
namespace Go.Proofs.Ytlinmpcllmijaaa
open Go.RowKit

theorem Only.thr {w0 w w' : World} {b r g : Nat} (h0 : Only Nil w0 w) (hb : w0.heap.size ≤ b) (hr : w0.heap.size ≤ r) (hg : w0.heap.size ≤ g) (ho : Only (RThr b r g) w w') : Only Nil w0 w' :=
  h0.trans_new ho (fun _ hi hh => by rcases hh with hh | hh | hh <;> omega)
abbrev abcdS : List UInt8 := [97, 98, 99, 100]
set_option maxHeartbeats 2000000 in
theorem awake_any (w : World) : Calls Try.prog 9 #[] w fun x w' => x = .returned (.bool true) ∧ Only Nil w w' := by
  have hN := Lib.hid (show Calls Try.prog 7 #[.int .i64 1, .int .i64 4, .int .i64 0] w _ from TNew_bytes 4 w (by decide) 0)
  have hO := Lib.hid (fun W b r g F row (h : Tb W b r g w.heap.size 4 F row [] 0 0 false false) => (show Calls Try.prog 23 #[.pointer (some ⟨b, 0, none⟩), .string ⟨#[97, 98, 99, 100, 101, 102]⟩] W (TPost W b r g w.heap.size 4 (.tuple #[.int .i64 4, .int .i64 0]) abcdS 4 0 false false) from TOffer_b _ W h 4 rfl (by decide) (by decide)))
  have hT1 := Lib.hid (fun W b r g F row (h : Tb W b r g w.heap.size 4 F row abcdS 4 0 true false) => (show Calls Try.prog 20 #[.pointer (some ⟨b, 0, none⟩), .int .i64 3] W (TPost W b r g w.heap.size 4 (.tuple #[.string ⟨#[97, 98, 99]⟩, .bool false, .bool true]) [100] 4 3 true false) from TTake_b 3 W h rfl (by decide) (by decide) (by decide) (by decide) false (by decide)))
  have hT2 := Lib.hid (fun W b r g F row (h : Tb W b r g w.heap.size 4 F row [100] 4 3 true false) => (show Calls Try.prog 20 #[.pointer (some ⟨b, 0, none⟩), .int .i64 3] W (TPost W b r g w.heap.size 4 (.tuple #[.string ⟨#[100]⟩, .bool true, .bool true]) [] 4 4 true true) from TTake_b 3 W h rfl (by decide) (by decide) (by decide) (by decide) true (by decide)))
  go_enter Try.func9, Try.ntmps9
  go_wp2_with (first
    | (go_at_call 7; (with_reducible refine (hN.out).mono ?_); rintro e w1 ⟨b, r, g, row, rfl, h1, ho1⟩; have zb := h1.hb; have zr := h1.ring.hb; have zg := h1.ring.gb.1)
    | (go_at_call 23; (with_reducible refine (hO.out _ _ _ _ _ _ h1).mono ?_); rintro e w2 ⟨F2, row2, rfl, h2, ho2⟩)
    | (go_at_call 22; (with_reducible refine (TEnd_b _ h2).mono ?_); rintro e w3 ⟨F3, row3, rfl, h3, ho3⟩)
    | (go_at_call 20; (with_reducible refine (hT1.out _ _ _ _ _ _ h3).mono ?_); rintro e w4 ⟨F4, row4, rfl, h4, ho4⟩)
    | (go_at_call 20; (with_reducible refine (hT2.out _ _ _ _ _ _ h4).mono ?_); rintro e w5 ⟨F5, row5, rfl, h5, ho5⟩)
    | (go_at_call 15; (with_reducible refine (TOut_b _ h5).mono ?_); rintro e w6 ⟨rfl, rfl⟩)
    | (go_at_call 11; (with_reducible refine (TTold_b _ h5).mono ?_); rintro e w7 ⟨rfl, ho7⟩)
    )
  go_ret
  exact ⟨rfl, (((((ho1.thr zb zr zg ho2).thr zb zr zg ho3).thr zb zr zg ho4).thr zb zr zg ho5).trans ho7)⟩
end Go.Proofs.Ytlinmpcllmijaaa
