/- What must come at any rate, of chunk. -/
import Derived.Test.YtipcggobcmbomaaChunk3
namespace Go.Proofs.Ytipcggobcmbomaa
open Go.RowKit

theorem Ow.oth {w w' : World} {base : Nat} {v : Value} {R : List ByteArray} (h : Ow encS 1 w base 9 v R) (ho : Oth w w') : Ow encS 1 w' base 9 v R := by
  refine ⟨h.1, ?_⟩
  rcases h.2 with h0 | ⟨g, off, cap, cur, rfl, hb, hh, hr⟩
  · exact .inl h0
  · exact .inr ⟨g, off, cap, cur, rfl, hb, ho _ _ _ hh (by decide) (by decide), hr⟩
abbrev sA : ByteArray := ⟨#[97, 98, 99, 100, 101]⟩
abbrev s1 : ByteArray := ⟨#[1, 97, 98]⟩
abbrev s2 : ByteArray := ⟨#[1, 99, 100]⟩
abbrev s3 : ByteArray := ⟨#[0, 101]⟩
theorem sA_cut : pcs 2 sA.data.toList (mny 2 sA.size) = [s1, s2, s3] := rfl
theorem Cut_A (w : World) : Calls Try.prog 7 #[.string sA, .int .i64 3] w fun x w' => ∃ g o c, x = .returned (.tuple #[.slice (some ⟨g, o, none⟩) 3 c, .int .i64 0]) ∧ Ow encS 1 w' w.heap.size 9 (.slice (some ⟨g, o, none⟩) 3 c) [s1, s2, s3] ∧ Only Nil w w' := by
  have h := Cut_any sA 2 w (by decide) (by decide) (by decide)
  rw [sA_cut] at h
  refine h.mono ?_
  rintro x w' ⟨A, c, rfl, hO, ho⟩
  obtain ⟨g, o, _, rfl, _, _, _, _⟩ := (hO.sqn (fun _ _ => rfl)).at_ (k := 0) (by decide)
  exact ⟨g, o, c, rfl, hO, ho⟩
theorem cells3 {w : World} {base g o c : Nat} (h : Ow encS 1 w base 9 (.slice (some ⟨g, o, none⟩) 3 c) [s1, s2, s3]) :
    w.cell? ⟨g, o, none⟩ = some (.string s1) ∧ w.cell? ⟨g, o + 1, none⟩ = some (.string s2) ∧ w.cell? ⟨g, o + 2, none⟩ = some (.string s3) :=
  ⟨(h.sqn (fun _ _ => rfl)).cell1 (k := 0) rfl, (h.sqn (fun _ _ => rfl)).cell1 (k := 1) rfl, (h.sqn (fun _ _ => rfl)).cell1 (k := 2) rfl⟩
set_option maxHeartbeats 4000000 in
theorem awake_any (w : World) : Calls Try.prog 9 #[] w fun x w' => x = .returned (.bool true) ∧ Below w.heap.size w w' := by
  have hA1 := Lib.hid (fun W b v base (h : Jn W b base 10 v [] false) => Add_more s1 W h (by decide) rfl (by decide) (by decide) (by decide) (by decide) (by decide))
  have hA2 := Lib.hid (fun W b v base (h : Jn W b base 10 v [97, 98] false) => Add_more s2 W h (by decide) rfl (by decide) (by decide) (by decide) (by decide) (by decide))
  have hA3 := Lib.hid (fun W b v base (h : Jn W b base 10 v [97, 98, 99, 100] false) => (show Calls Try.prog 13 #[.pointer (some ⟨b, 0, none⟩), .string s3] W (AdPost W b base 10 sA true 0 [] false) from Add_last s3 W h (by decide) rfl (by decide) (by decide) (by decide) (by decide) (by decide)))
  have hT := Lib.hid (fun W A B ca cb (h1 : Sq encS 1 W W.heap.size A [s1, s2, s3]) (h2 : Sq encS 1 W W.heap.size B [s1, s2, s3]) => (show Calls Try.prog 10 #[.slice A 3 ca, .slice B 3 cb] W fun x w' => x = .returned (.bool true) ∧ Only Nil W w' from Texts_same A B ca cb [s1, s2, s3] W h1 h2 (by decide)))
  have hM := Lib.hid (fun W => (show Calls Try.prog 8 #[.int .i64 5, .int .i64 3] W fun x w' => x = .returned (.int .i64 3) ∧ W = w' from Many_in 5 2 W (by decide) (by decide) (by decide)))
  go_enter Try.func9, Try.ntmps9
  go_wp2_with (first
    | (go_at_call 7; (with_reducible refine (Cut_A _).mono ?_); rintro e w1 ⟨g, o, c1, rfl, hO1, ho1⟩)
    | (go_at_call 12; (with_reducible refine (New_any 10 _ (by decide) (by decide)).mono ?_); rintro e w2 ⟨b, rfl, ho2, hJ2⟩; have hO2 := hO1.kept ho2 (fun _ _ hh => hh); have q1 := (hO2.alloc (.cells #[.string s1, .string s2, .string s3] 9)).sqn (fun _ _ => rfl); have q2 := (Ow.lit (enc := encS) (sz := 1) (e := 9) (base := 0) w2 (cs := #[.string s1, .string s2, .string s3]) [s1, s2, s3] rfl rfl (by decide) (Nat.zero_le _)).sqn (fun _ _ => rfl))
    | (go_at_call 10; (with_reducible refine (hT.out _ _ _ _ _ q1 q2).mono ?_); rintro e w3 ⟨rfl, ho3⟩; have hx3 := ((Only.refl Nil w2).alloc (.cells #[.string s1, .string s2, .string s3] 9)).trans ho3; have hO3 := hO2.kept hx3 (fun _ _ hh => hh); have hJ3 := hJ2.kept hx3; obtain ⟨d1, d2, d3⟩ := cells3 hO3)
    | (go_at_call 13; (with_reducible refine (hA1.out _ _ _ _ hJ3).mono ?_); rintro e w4 ⟨u4, rfl, hJ4, hB4, hT4⟩; have hO4 := hO3.oth hT4; obtain ⟨f1, f2, f3⟩ := cells3 hO4)
    | (go_at_call 13; (with_reducible refine (hA2.out _ _ _ _ hJ4).mono ?_); rintro e w5 ⟨u5, rfl, hJ5, hB5, hT5⟩; have hO5 := hO4.oth hT5; obtain ⟨k1, k2, k3⟩ := cells3 hO5)
    | (go_at_call 13; (with_reducible refine (hA3.out _ _ _ _ hJ5).mono ?_); rintro e w6 ⟨u6, rfl, hJ6, hB6, hT6⟩)
    | (go_at_call 8; (with_reducible refine (hM.out _).mono ?_); rintro e w7 ⟨rfl, rfl⟩)
    )
  go_ret
  have z1 := ho1.below (Nat.le_refl _) (fun _ _ hh => hh)
  exact ⟨rfl, z1.trans (((((ho2.trans hx3).below (Nat.le_refl _) (fun _ _ hh => hh)).trans hB4).trans hB5).trans hB6 |>.mono ho1.size)⟩
end Go.Proofs.Ytipcggobcmbomaa
