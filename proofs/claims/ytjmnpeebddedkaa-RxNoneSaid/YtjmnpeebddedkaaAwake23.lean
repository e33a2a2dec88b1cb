/- What must come at any rate, of receivers. -/
import Derived.Test.YtjmnpeebddedkaaRx2
namespace Go.Proofs.Ytjmnpeebddedkaa
open Go.RowKit

theorem Check_002 (w : World) : Calls Try.prog 27 #[.agg #[.int .i64 0, .int .i64 0, .int .i64 2]] w fun x w' => x = .returned (.int .i64 0) ∧ Only Nil w w' := by
  go_enter Try.func27, Try.ntmps27
  go_wp2
  go_ret
  exact ⟨rfl, (Only.refl _ _).alloc _⟩
set_option maxHeartbeats 2000000 in
theorem RxNew_items (w : World) : Calls Try.prog 7 #[.int .i64 2, .agg #[.int .i64 0, .int .i64 0, .int .i64 2]] w fun x w' => ∃ b q d v, x = .returned (.tuple #[.pointer (some ⟨b, 0, none⟩), .int .i64 0]) ∧ Ri w' b q d w.heap.size v [] 2 0 0 0 0 0 false ∧ Only Nil w w' := by
  have hs := Lib.hid (Blk.new w 23 #[.int .i64 0, .int .i64 0, .int .i64 2])
  have HO := Lib.hid ((Only.refl Nil w).alloc (.cells #[.int .i64 0, .int .i64 0, .int .i64 2] 23))
  have hQ := Lib.hid (fun W => Qu.New_any 64 0 W (by decide) (by decide) (by decide) (by decide))
  have hD := Lib.hid (fun W => Dem.New_any 2147483647 W (by decide) (by decide))
  go_enter Try.func7, Try.ntmps7
  go_wp2_with (first
    | (go_at_call 27; (with_reducible refine (Check_002 _).mono ?_); rintro e w1 ⟨rfl, ho1⟩; have HO1 := Lib.hid (HO.out.trans ho1); have hs1 := hs.out.kept ho1 (fun hh => hh); have hb1 := Lib.hid (Blk.new w1 56 #[.int .i64 2, .pointer none, .pointer none, .pointer none, .pointer none, .int .i64 0, .int .i64 0, .bool false]); clear ho1)
    | (go_at_call 30; (with_reducible refine (hQ.out _).mono ?_); rintro e w2 ⟨q, rfl, ho2, hzq, hQ2⟩; have HO2 := Lib.hid ((HO1.out.alloc _).trans ho2); have hb2 := hb1.out.kept ho2 (fun hh => hh); have zb2 := hb2.lt; have k3 := hb2.cell 3; have f3 := hb2.frozen 3; have hb3 := Lib.hid (hb2.set 3 (.pointer (some ⟨q, 0, none⟩))); have hs2 := (hs1.alloc _).kept ho2 (fun hh => hh); have HS2 := Lib.hid hs2; have HQ2 := Lib.hid hQ2; have HZQ := Lib.hid hzq; clear ho2 hb2 hs2 hQ2 hzq)
    | (go_at_call 31; (with_reducible refine (hD.out _).mono ?_); rintro e w3 ⟨d, rfl, hzd, ho3, hD3⟩; have HO3 := Lib.hid ho3; have hb4 := hb3.out.kept ho3 (fun hh => hh); have zb4 := hb4.lt; have k4 := hb4.cell 4; have f4 := hb4.frozen 4; have k5 := hb4.cell 5; have f5 := hb4.frozen 5; have HB4 := Lib.hid hb4; have HD3 := Lib.hid hD3; have HZD := Lib.hid hzd; have hs3 := (HS2.out.far (p := ⟨w1.heap.size, 3, none⟩) (by have := hs1.lt; show w.heap.size ≠ w1.heap.size; omega) (.pointer (some ⟨q, 0, none⟩))).kept ho3 (fun hh => hh); have s2 := hs3.cell 2; have zs := hs3.lt; clear ho3 hb4 hD3 hzd)
    )
  go_ret2
  have z1 := HO1.out.size
  have hzq := HZQ.out
  have hzd := HZD.out
  have z2 := (HQ2.out.blk).lt
  simp [World.setCell] at hzq hzd
  have hqb : q ≠ w1.heap.size := by omega
  have hdb : d ≠ w1.heap.size := by omega
  have hB := (HB4.out.set 4 (.pointer (some ⟨d, 0, none⟩))).set 5 (.int .i64 2)
  have hQb := (((HQ2.out.blk.far (p := ⟨w1.heap.size, 3, none⟩) hqb (.pointer (some ⟨q, 0, none⟩))).kept HO3.out (fun hh => hh)).far (p := ⟨w1.heap.size, 4, none⟩) hqb (.pointer (some ⟨d, 0, none⟩))).far (p := ⟨w1.heap.size, 5, none⟩) hqb (.int .i64 2)
  have hDb := (Blk.far (p := ⟨w1.heap.size, 4, none⟩) HD3.out hdb (.pointer (some ⟨d, 0, none⟩))).far (p := ⟨w1.heap.size, 5, none⟩) hdb (.int .i64 2)
  exact ⟨w1.heap.size, q, d, .slice none 0 0, rfl, ⟨hB, ⟨hQb, Ow.nil, by omega⟩, hDb, z1, by omega⟩, (((HO2.out.setNew z1 3 _).trans HO3.out).setNew z1 4 _).setNew z1 5 _⟩
set_option maxHeartbeats 4000000 in
theorem awake_any (w : World) : Calls Try.prog 8 #[] w fun x w' => x = .returned (.bool true) ∧ Only Nil w w' := by
  have hN := Lib.hid (RxNew_items w)
  have hG1 := Lib.hid (fun W b q d v (h : Ri W b q d w.heap.size v [] 2 0 (0 + 5) 0 0 0 false) => (show Calls Try.prog 18 #[.pointer (some ⟨b, 0, none⟩)] W (RiPost W b q d w.heap.size v (.int .i64 2) [] 2 2 3 0 0 0 false) from by simpa using RGrant_i W h 0 rfl (by decide) (by decide) (by decide) (by decide) (by decide) (by decide) (by decide) 2 rfl (by decide) (by decide) (by decide)))
  have hA1 := Lib.hid (fun W b q d v (h : Ri W b q d w.heap.size v [] 2 2 3 0 0 0 false) => (show Calls Try.prog 20 #[.pointer (some ⟨b, 0, none⟩), .string ⟨#[120]⟩, .bool false] W (RiPost W b q d w.heap.size v (.tuple #[.int .i64 0, .bool true]) [⟨#[120]⟩] 2 1 3 1 0 0 false) from by simpa using RArrive_i _ W h (by decide) (by decide) (by decide) (by decide) (by decide)))
  have hA2 := Lib.hid (fun W b q d v (h : Ri W b q d w.heap.size v [⟨#[120]⟩] 2 1 3 1 0 0 false) => (show Calls Try.prog 20 #[.pointer (some ⟨b, 0, none⟩), .string ⟨#[121]⟩, .bool false] W (RiPost W b q d w.heap.size v (.tuple #[.int .i64 0, .bool true]) [⟨#[120]⟩, ⟨#[121]⟩] 2 0 3 2 0 0 false) from by simpa using RArrive_i _ W h (by decide) (by decide) (by decide) (by decide) (by decide)))
  have hG2 := Lib.hid (fun W b q d v (h : Ri W b q d w.heap.size v [⟨#[120]⟩, ⟨#[121]⟩] 2 0 3 2 0 0 false) => (show Calls Try.prog 18 #[.pointer (some ⟨b, 0, none⟩)] W (RiPost W b q d w.heap.size v (.int .i64 0) [⟨#[120]⟩, ⟨#[121]⟩] 2 0 3 2 0 0 false) from by simpa using RGrant_0 W h 2 rfl (by decide) (by decide) (by decide) (by decide) (by decide) (by decide) rfl))
  have hI := Lib.hid (fun W b q d v (h : Ri W b q d w.heap.size v [⟨#[120]⟩, ⟨#[121]⟩] 2 0 3 2 0 0 false) => (show Calls Try.prog 16 #[.pointer (some ⟨b, 0, none⟩)] W (RiPost W b q d w.heap.size v (.tuple #[.string ⟨#[120]⟩, .bool true, .int .i64 0]) [⟨#[121]⟩] 2 0 3 2 1 0 false) from by simpa using RItem_i _ W h (by decide) (by decide) (by decide)))
  have hG3 := Lib.hid (fun W b q d v (h : Ri W b q d w.heap.size v [⟨#[121]⟩] 2 0 3 2 1 0 false) => (show Calls Try.prog 18 #[.pointer (some ⟨b, 0, none⟩)] W (RiPost W b q d w.heap.size v (.int .i64 1) [⟨#[121]⟩] 2 1 2 2 1 0 false) from by simpa using RGrant_i W h 1 rfl (by decide) (by decide) (by decide) (by decide) (by decide) (by decide) (by decide) 1 rfl (by decide) (by decide) (by decide)))
  go_enter Try.func8, Try.ntmps8
  go_wp2_with (first
    | (go_at_call 7; (with_reducible refine (hN.out).mono ?_); rintro e w1 ⟨b, q, d, v1, rfl, h1, ho1⟩; have hB1 := ho1.below (Nat.le_refl _) (fun _ _ hh => hh))
    | (go_at_call 17; (with_reducible refine (RAsk_i 5 _ h1 (by decide) (by decide) (by decide)).mono ?_); rintro e w2 ⟨v2, rfl, h2, hB2⟩)
    | (go_at_call 18; (with_reducible refine (hG1.out _ b q d _ h2).mono ?_); rintro e w3 ⟨v3, rfl, h3, hB3⟩)
    | (go_at_call 20; (with_reducible refine (hA1.out _ b q d _ h3).mono ?_); rintro e w4 ⟨v4, rfl, h4, hB4⟩)
    | (go_at_call 20; (with_reducible refine (hA2.out _ b q d _ h4).mono ?_); rintro e w5 ⟨v5, rfl, h5, hB5⟩)
    | (go_at_call 20; (with_reducible refine (RArrive_0 ⟨#[122]⟩ _ h5).mono ?_); rintro e w6 ⟨rfl, rfl⟩)
    | (go_at_call 18; (with_reducible refine (hG2.out _ b q d _ h5).mono ?_); rintro e w6 ⟨v6, rfl, h6, hB6⟩)
    | (go_at_call 16; (with_reducible refine (hI.out _ b q d _ h6).mono ?_); rintro e w7 ⟨v7, rfl, h7, hB7⟩)
    | (go_at_call 18; (with_reducible refine (hG3.out _ b q d _ h7).mono ?_); rintro e w8 ⟨v8, rfl, h8, hB8⟩)
    | (go_at_call 14; (with_reducible refine (ROpen_i _ h8).mono ?_); rintro e w9 ⟨rfl, rfl⟩)
    | (go_at_call 13; (with_reducible refine (RKept_i _ h8 1 rfl (by decide)).mono ?_); rintro e w9 ⟨rfl, kk, rfl⟩)
    )
  go_ret
  exact ⟨rfl, (Only.of_below (((((((hB1.trans hB2).trans hB3).trans hB4).trans hB5).trans hB6).trans hB7).trans hB8)).drewN kk⟩
end Go.Proofs.Ytjmnpeebddedkaa
