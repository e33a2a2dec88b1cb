/- What must come at any rate, of a queue of frames; the types of a nil one's. -/
import Derived.Test.YtgiplefnggnpcaaDoorOutq5
import Derived.Test.YtgiplefnggnpcaaDoorOutq6
namespace Go.Proofs.YtgiplefnggnpcaaDoor
open Go.RowKit Nd

abbrev fq1 : Frm := ⟨10, 3, false, nilS, 0, 0, 0, false, 0, 0, 5, []⟩
abbrev fq2 : Frm := ⟨6, 0, false, nilS, 0, 0, 0, false, 0, 0, 0, []⟩
abbrev fq3 : Frm := ⟨10, 3, false, nilS, 0, 0, 0, false, 0, 0, 2, []⟩
theorem right1 : rightP fq1 := (right_10 3 0 false nilS 0 0 0 0 5 false [] (by decide) (by decide) (fun h => by cases h) (fun _ => rfl)).2 ⟨rfl, rfl⟩
theorem right2 : rightP fq2 := (right_6 0 0 false nilS 0 0 0 0 0 false [] (by decide) (by decide) (fun _ => rfl) (fun h => by cases h)).2 ⟨rfl, rfl⟩
theorem right3 : rightP fq3 := (right_10 3 0 false nilS 0 0 0 0 2 false [] (by decide) (by decide) (fun h => by cases h) (fun _ => rfl)).2 ⟨rfl, rfl⟩
theorem no1 : ∀ x ∈ ([] : List El), fits fq1 x.f = false := fun _ h => by cases h
theorem before0 {L : List El} {f : Frm} : ∀ j y, j < 0 → L[j]? = some y → fits f y.f = false := fun _ _ h => absurd h (Nat.not_lt_zero _)
theorem Types_nil (w : World) : Calls Tryd.prog 14 #[.pointer none] w fun x w' => x = .returned (.slice (some ⟨w.heap.size, 0, none⟩) 0 0) ∧ Only Nil w w' := by
  have hmk : ∀ w, (Instr.makeSlice 43 (.int .i64 0) (.int .i64 0)).run Tryd.prog w = .ok (.slice (some ⟨w.heap.size, 0, none⟩) 0 0) (w.alloc (.cells (madeCells #[.int .i64 0] 0) 3)) := fun w => hmake0 0 (by omega) w
  go_enter Tryd.func14, Tryd.ntmps14
  go_wp2_with (first
    | (go_at_call 15; (with_reducible refine (Len_nil _).mono ?_); rintro e w1 ⟨rfl, rfl⟩)
    )
  go_ret
  exact ⟨rfl, (Only.refl _ _).alloc _⟩
set_option maxRecDepth 100000 in
set_option maxHeartbeats 4000000 in
theorem awake_any (w : World) (hT : Nds w) : Calls Tryd.prog 7 #[] w fun x w' => x = .returned (.bool true) ∧ Only Nil w w' := by
  have HT := Lib.hid hT
  have hlt := hT.lt
  have t1 := Lib.hid (fun w1 b (hQ1 : Oq w1 b w.heap.size (.slice none 0 0) []) (h : Nds w1) => Push_add fq1 none 0 0 w1 (PmIs.nil _) h right1 hQ1 (by decide) (.inr no1) (by decide))
  have t2 := Lib.hid (fun w2 b A1 c1 v2 (hQ2 : Oq w2 b w.heap.size v2 ([] ++ [⟨fq1, A1, c1⟩])) (h : Nds w2) => Push_add fq2 none 0 0 w2 (PmIs.nil _) h right2 hQ2 (by decide) (.inl ⟨by decide, by decide⟩) (by simp))
  have t3 := Lib.hid (fun w3 b A1 c1 A2 c2 v3 (hQ3 : Oq w3 b w.heap.size v3 ([] ++ [⟨fq1, A1, c1⟩] ++ [⟨fq2, A2, c2⟩])) (h : Nds w3) => Push_join fq3 none 0 0 w3 (PmIs.nil _) h right3 hQ3 0 ⟨fq1, A1, c1⟩ rfl (show fits fq3 fq1 = true by decide) before0 (.inl rfl) (by simp))
  go_enter Tryd.func7, Tryd.ntmps7
  go_wp2_with (first
    | (go_at_call 6; (with_reducible refine (New_any _).mono ?_); rintro e w1 ⟨b, rfl, ho1, hzb, hQ1⟩; have hB1 := ho1.below (Nat.le_refl _) (fun _ _ hh => hh))
    | (go_at_call 13; (with_reducible refine (t1.out w1 b hQ1 (HT.out.below hB1 hlt)).mono ?_); rintro e w2 ⟨⟨_, A1, c1⟩, rfl, v2, rfl, hQ2, hO2, hG2⟩; have hB2 := hB1.trans (hQ1.below hO2))
    | (go_at_call 13; (with_reducible refine (t2.out w2 b A1 c1 v2 hQ2 (HT.out.below hB2 hlt)).mono ?_); rintro e w3 ⟨⟨_, A2, c2⟩, rfl, v3, rfl, hQ3, hO3, hG3⟩; have hB3 := hB2.trans (hQ2.below hO3))
    | (go_at_call 13; (with_reducible refine (t3.out w3 b A1 c1 A2 c2 v3 hQ3 (HT.out.below hB3 hlt)).mono ?_); rintro e w4 ⟨v4, rfl, hQ4, hO4, hG4⟩; have hB4 := hB3.trans (hQ3.below hO4); have hQ4' : Oq w4 b w.heap.size v4 [El.more ⟨fq1, A1, c1⟩ 2, ⟨fq2, A2, c2⟩] := hQ4)
    | (go_at_call 10; (with_reducible refine (Next_any (El.more ⟨fq1, A1, c1⟩ 2) w4 hQ4' (by simp)).mono ?_); rintro e w5 ⟨⟨v5, rfl, hQ5, hO5, hG5⟩, hP5⟩; have hB5 := hB4.trans (hQ4'.below hO5))
    | (go_at_call 15; (with_reducible refine (Len_any _ (hQ5.kept ((Only.refl Nil _).alloc _))).mono ?_); rintro e w6 ⟨rfl, rfl⟩)
    )
  go_ret
  exact ⟨rfl, (Only.of_below hB5).alloc _⟩
end Go.Proofs.YtgiplefnggnpcaaDoor
