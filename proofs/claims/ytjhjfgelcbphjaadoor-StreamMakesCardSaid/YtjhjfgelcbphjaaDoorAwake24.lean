/- What must come at any rate, of streams. -/
import Derived.Test.YtjhjfgelcbphjaaDoorStrm4
namespace Go.Proofs.YtjhjfgelcbphjaaDoor
open Go.RowKit

abbrev abcB : ByteArray := ⟨#[97, 98, 99]⟩
abbrev abcL : List UInt8 := [97, 98, 99]
abbrev abcF : Frm := ⟨0, 3, true, abcB, 0, 0, 0, false, 0, 0, 0, []⟩
set_option maxRecDepth 100000 in
set_option maxHeartbeats 4000000 in
theorem awake_any (w : World) (h : Fol w) : Calls Tryd.prog 10 #[] w fun x w' => x = .returned (.bool true) ∧ Below w.heap.size w w' := by
  have h0 := h.lt
  have hN := Lib.hid (fun W (hf : Fol W) => SNew_ok 3 1 true 10 8 4 20 5 0 0 0 0 20 W hf (by decide) (by decide) (.inl ⟨rfl, rfl⟩) (by decide) (by decide))
  unfold NewSm at hN
  have hO := Lib.hid (fun W s l t r base F (k : Sm W s l t r base F 3 1 true 1 20 0 [] [] 0 false false 0 0 0) (hf : Fol W) => (show Calls Tryd.prog 28 #[.pointer (some ⟨s, 0, none⟩), .string abcB] W (SmPost W s l t r base F (.tuple #[.int .i64 3, .int .i64 0]) 3 1 true 1 20 0 abcL [] 0 false false 3 0 0) from
    SOffer_s abcB k hf (by decide) (.bytes 3 rfl (by decide)) (by refine ⟨?_, ?_, ?_, ?_, ?_⟩ <;> decide) (fun e => absurd e (by decide))))
  have hFi := Lib.hid (fun W s l t r base F (k : Sm W s l t r base F 3 1 true 1 20 0 abcL [] 0 false false 3 0 0) (hf : Fol W) => SFinish_s k hf (by decide))
  have hT := Lib.hid (fun W s l t r base F (k : Sm W s l t r base F 3 1 true 1 20 0 abcL [] 0 true false 3 0 0) (hf : Fol W) (hg : 0 < base) => (show Calls Tryd.prog 35 #[.pointer (some ⟨s, 0, none⟩), .int .i64 9] W fun x w' => ∃ F', x = .returned (.tuple #[frmV abcF (.slice none 0 0), .bool true]) ∧ Sm w' s l t r base F' 3 1 true 2 20 0 [] [] 0 true true 3 3 0 ∧ Below base W w' from
    STake_o (n := 9) (X := abcB) k hf hg (.bytes 3 rfl (by decide) (by decide)) (by refine ⟨?_, ?_, ?_, ?_, ?_⟩ <;> decide) (fun e => absurd e (by decide)) (by decide)))
  unfold SmPost at hO hFi
  go_enter Tryd.func10, Tryd.ntmps10
  go_wp2_with (first
    | (go_at_call 42; (with_reducible refine (conf_any _).mono ?_); rintro e w1 ⟨rfl, ho1⟩; have hf1 := Lib.hid (h.kept ho1 (fun hh => hh)); have HO1 := Lib.hid ho1; clear ho1)
    | (go_at_call 8; (with_reducible refine (hN.out _ hf1.out).mono ?_); rintro e w2 ⟨s, l, t, r, F, rfl, hs2, ho2⟩; have hf2 := Lib.hid (hf1.out.kept ho2 (fun hh => hh)); have HB2 := Lib.hid (ho2.below (Nat.le_refl _) (fun _ _ hh => hh)); have HS2 := Lib.hid hs2; have hg := Nat.lt_of_lt_of_le h0 HO1.out.size; clear hs2 ho2)
    | (go_at_call 28; (with_reducible refine (hO.out _ s l t r _ F HS2.out hf2.out).mono ?_); rintro e w3 ⟨F3, rfl, hs3, hb3, hg3⟩; have hf3 := Lib.hid (hf2.out.kept (Only.ofB hb3) (fun hh => by omega)); have HS3 := Lib.hid hs3; have HB3 := Lib.hid (HB2.out.trans hb3); clear hs3 hb3 hg3)
    | (go_at_call 36; (with_reducible refine (hFi.out _ s l t r _ F3 HS3.out hf3.out).mono ?_); rintro e w4 ⟨F4, rfl, hs4, hb4, hg4⟩; have hf4 := Lib.hid (hf3.out.kept (Only.ofB hb4) (fun hh => by omega)); have HS4 := Lib.hid hs4; have HB4 := Lib.hid (HB3.out.trans hb4); clear hs4 hb4 hg4)
    | (go_at_call 35; (with_reducible refine (hT.out _ s l t r _ F4 HS4.out hf4.out hg).mono ?_); rintro e w5 ⟨F5, rfl, hs5, hb5⟩; have HS5 := Lib.hid hs5; have HB5 := Lib.hid (HB4.out.trans hb5); have HN5 := Lib.hid ((Only.refl Nil w5).alloc (.cells (frC abcF (.slice none 0 0)) 62)); clear hs5 hb5)
    | (go_at_call 37; (with_reducible refine (FSame_any abcF abcF (PmIs.nil _) (PmIs.nil _) true (by simp)).mono ?_); rintro e w6 ⟨rfl, ho6⟩; have HO6 := Lib.hid (HN5.out.trans ho6); have HS6 := Lib.hid (HS5.out.kept HO6.out); obtain ⟨g0, g1, g2, g3, g4, zg⟩ := HS6.out.facts; clear ho6)
    | (go_at_call 9; (with_reducible refine (State_any l 2 _ HS6.out.life).mono ?_); rintro e w7 ⟨rfl, rfl⟩)
    | (go_at_call 34; (with_reducible refine (SGone_s HS6.out).mono ?_); rintro e w8 ⟨rfl, rfl⟩)
    )
  go_ret
  exact ⟨rfl, (HO1.out.below (Nat.le_refl _) (fun _ _ hh => hh)).trans ((HB5.out.trans (HO6.out.below HB5.out.size (fun _ _ hh => hh))).mono HO1.out.size)⟩
end Go.Proofs.YtjhjfgelcbphjaaDoor
