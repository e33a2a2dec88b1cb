/- What the smaller calls of package shake do. -/
import Derived.Test.YtjbemhfhhedlpaaParams2
namespace Go.Proofs.Ytjbemhfhhedlpaa
open Go.RowKit

theorem Waiting_nil (w : World) : Calls Try.prog 15 #[.pointer none] w fun x w' => x = .returned (.int .i64 0) ∧ w = w' := by
  go_enter Try.func15, Try.ntmps15
  go_wp2
  go_ret
  exact ⟨rfl, rfl⟩
theorem Holds_nil (w : World) : Calls Try.prog 12 #[.pointer none] w fun x w' => x = .returned (stV 0 0 0) ∧ Only Nil w w' := by
  go_enter Try.func12, Try.ntmps12
  go_wp2
  exact bodyPost_ret (v := stV 0 0 0) (by simp [results, Try.results12, go_sem]) rfl ⟨rfl, (Only.refl _ _).alloc _⟩
theorem Most_nil (w : World) : Calls Try.prog 14 #[.pointer none] w fun x w' => x = .returned (stV 0 0 0) ∧ Only Nil w w' := by
  go_enter Try.func14, Try.ntmps14
  go_wp2
  exact bodyPost_ret (v := stV 0 0 0) (by simp [results, Try.results14, go_sem]) rfl ⟨rfl, (Only.refl _ _).alloc _⟩
theorem Latest_nil (w : World) : Calls Try.prog 13 #[.pointer none] w fun x w' => x = .returned (stV 0 0 0) ∧ Only Nil w w' := by
  have hR0 : Sb (w.alloc (.cells #[.int .i64 0, .int .i64 0, .int .i64 0] 27)) w.heap.size ⟨0, 0, 0⟩ := Blk.new _ _ _
  have hx0 := (Only.refl Nil w).alloc (.cells #[.int .i64 0, .int .i64 0, .int .i64 0] 27)
  go_enter Try.func13, Try.ntmps13
  go_wp2_with (first
    | (go_at_call 15; (with_reducible refine (Waiting_nil _).mono ?_); rintro e w1 ⟨rfl, rfl⟩)
    | (go_at_call 12; (with_reducible refine (Holds_nil _).mono ?_); rintro e w2 ⟨rfl, ho2⟩; have hR2 : Sb w2 w.heap.size ⟨0, 0, 0⟩ := Blk.kept hR0 ho2 (fun hh => hh); obtain ⟨c0, c1, c2⟩ := Sb.facts hR2; obtain ⟨f0, f1, f2⟩ := Sb.loose hR2)
    )
  obtain ⟨k0, k1, k2⟩ := Sb.facts (q := ⟨0, 0, 0⟩) (Sb.put hR2 0 0 0)
  exact bodyPost_ret (v := stV 0 0 0) (by simp [results, Try.results13, go_sem, k0, k1, k2]) rfl ⟨rfl, (((hx0.trans ho2).setNew (Nat.le_refl _) 0 _).setNew (Nat.le_refl _) 1 _).setNew (Nat.le_refl _) 2 _⟩
theorem Send_nil (s : St) (w : World) : Calls Try.prog 8 #[.pointer none, stV s.a s.b s.c] w fun x w' => x = .returned (.tuple #[.slice none 0 0, .int .i64 1]) ∧ Only Nil w w' := by
  go_enter Try.func8, Try.ntmps8
  go_wp2
  go_ret2
  exact ⟨rfl, (Only.refl _ _).alloc _⟩
theorem Ack_nil (w : World) : Calls Try.prog 7 #[.pointer none] w fun x w' => x = .returned (.tuple #[stV 0 0 0, stV 0 0 0, .int .i64 2]) ∧ Only Nil w w' := by
  go_enter Try.func7, Try.ntmps7
  go_wp2
  exact bodyPost_ret (v := .tuple #[stV 0 0 0, stV 0 0 0, .int .i64 2]) (by simp [results, Try.results7, go_sem]) rfl ⟨rfl, ((Only.refl _ _).alloc _).alloc _⟩

/-- settings in a list -/
def encS (s : St) : List Value := [.int .i64 s.a, .int .i64 s.b, .int .i64 s.c]
/-- a shake of the call's own: what holds, the greatest values, what is on its way -/
structure Sk (w : World) (b base : Nat) (v : Value) (h m : St) (L : List St) : Prop where
  blk : Blk w b 45 #[.int .i64 h.a, .int .i64 h.b, .int .i64 h.c, .int .i64 m.a, .int .i64 m.b, .int .i64 m.c, v]
  own : Ow encS 3 w base 27 v L
  hb : base ≤ b
theorem Sk.kept {w w' : World} {b base : Nat} {v : Value} {h m : St} {L : List St} (k : Sk w b base v h m L) (ho : Only Nil w w') : Sk w' b base v h m L :=
  ⟨k.blk.kept ho (fun hh => hh), k.own.kept ho (fun _ _ hh => hh), k.hb⟩
theorem New_any (w : World) : Calls Try.prog 5 #[] w fun x w' => ∃ b, x = .returned (.pointer (some ⟨b, 0, none⟩)) ∧ Only Nil w w' ∧ Sk w' b w.heap.size (.slice none 0 0) ⟨64, 8, 4⟩ ⟨64, 8, 4⟩ [] := by
  go_enter Try.func5, Try.ntmps5
  go_wp2_with (first
    | (go_at_call 16; have _t := ho1; (with_reducible refine (First_any _).mono ?_); rintro e w2 ⟨rfl, ho2⟩)
    | (go_at_call 16; (with_reducible refine (First_any _).mono ?_); rintro e w1 ⟨rfl, ho1⟩)
    )
  go_ret
  exact ⟨_, rfl, (ho1.trans ho2).alloc _, Blk.new _ _ _, Ow.nil, (ho1.trans ho2).size⟩
section
variable {w : World} {b base : Nat} {v : Value} {h m : St} {L : List St}
theorem Waiting_any (w : World) (k : Sk w b base v h m L) : Calls Try.prog 15 #[.pointer (some ⟨b, 0, none⟩)] w fun x w' => x = .returned (.int .i64 L.length) ∧ w = w' := by
  obtain ⟨A, cap, rfl, hc, hm⟩ := k.own.form
  have c6 := k.blk.cell 6
  go_enter Try.func15, Try.ntmps15
  go_wp2
  go_ret
  exact ⟨rfl, rfl⟩
theorem Sk.facts (w : World) (k : Sk w b base v h m L) : (w.cell? ⟨b, 0, none⟩ = some (.int .i64 h.a) ∧ w.cell? ⟨b, 1, none⟩ = some (.int .i64 h.b) ∧ w.cell? ⟨b, 2, none⟩ = some (.int .i64 h.c)) ∧
    (w.cell? ⟨b, 3, none⟩ = some (.int .i64 m.a) ∧ w.cell? ⟨b, 4, none⟩ = some (.int .i64 m.b) ∧ w.cell? ⟨b, 5, none⟩ = some (.int .i64 m.c)) ∧ w.cell? ⟨b, 6, none⟩ = some v :=
  ⟨⟨k.blk.cell 0, k.blk.cell 1, k.blk.cell 2⟩, ⟨k.blk.cell 3, k.blk.cell 4, k.blk.cell 5⟩, k.blk.cell 6⟩
theorem Holds_any (w : World) (k : Sk w b base v h m L) : Calls Try.prog 12 #[.pointer (some ⟨b, 0, none⟩)] w fun x w' => x = .returned (stV h.a h.b h.c) ∧ Only Nil w w' := by
  obtain ⟨⟨c0, c1, c2⟩, ⟨d0, d1, d2⟩, c6⟩ := Sk.facts w k
  have z := k.blk.lt
  have hR0 : Sb (w.alloc (.cells #[.int .i64 0, .int .i64 0, .int .i64 0] 27)) w.heap.size ⟨0, 0, 0⟩ := Blk.new _ _ _
  obtain ⟨f0, f1, f2⟩ := Sb.loose hR0
  obtain ⟨e0, e1, e2⟩ := Sb.facts hR0
  go_enter Try.func12, Try.ntmps12
  go_wp2
  exact bodyPost_ret (v := stV h.a h.b h.c) (by simp [results, Try.results12, go_sem]) rfl ⟨rfl, (Only.refl _ _).alloc _⟩
theorem Most_any (w : World) (k : Sk w b base v h m L) : Calls Try.prog 14 #[.pointer (some ⟨b, 0, none⟩)] w fun x w' => x = .returned (stV m.a m.b m.c) ∧ Only Nil w w' := by
  obtain ⟨⟨c0, c1, c2⟩, ⟨d0, d1, d2⟩, c6⟩ := Sk.facts w k
  have z := k.blk.lt
  have hR0 : Sb (w.alloc (.cells #[.int .i64 0, .int .i64 0, .int .i64 0] 27)) w.heap.size ⟨0, 0, 0⟩ := Blk.new _ _ _
  obtain ⟨f0, f1, f2⟩ := Sb.loose hR0
  obtain ⟨e0, e1, e2⟩ := Sb.facts hR0
  go_enter Try.func14, Try.ntmps14
  go_wp2
  exact bodyPost_ret (v := stV m.a m.b m.c) (by simp [results, Try.results14, go_sem]) rfl ⟨rfl, (Only.refl _ _).alloc _⟩
theorem Latest_none (w : World) (k : Sk w b base v h m []) : Calls Try.prog 13 #[.pointer (some ⟨b, 0, none⟩)] w fun x w' => x = .returned (stV h.a h.b h.c) ∧ Only Nil w w' := by
  have hR0 : Sb (w.alloc (.cells #[.int .i64 0, .int .i64 0, .int .i64 0] 27)) w.heap.size ⟨0, 0, 0⟩ := Blk.new _ _ _
  have hx0 := (Only.refl Nil w).alloc (.cells #[.int .i64 0, .int .i64 0, .int .i64 0] 27)
  have k0' := k.kept hx0
  have hw : ∀ W, Sk W b base v h m [] → Calls Try.prog 15 #[.pointer (some ⟨b, 0, none⟩)] W fun x w' => x = .returned (.int .i64 0) ∧ W = w' := fun W k => Waiting_any W k
  go_enter Try.func13, Try.ntmps13
  go_wp2_with (first
    | (go_at_call 15; (with_reducible refine (hw _ k0').mono ?_); rintro e w1 ⟨rfl, rfl⟩)
    | (go_at_call 12; (with_reducible refine (Holds_any _ k0').mono ?_); rintro e w2 ⟨rfl, ho2⟩; have hR2 : Sb w2 w.heap.size ⟨0, 0, 0⟩ := Blk.kept hR0 ho2 (fun hh => hh); obtain ⟨c0, c1, c2⟩ := Sb.facts hR2; obtain ⟨f0, f1, f2⟩ := Sb.loose hR2)
    )
  obtain ⟨k0, k1, k2⟩ := Sb.facts (q := h) (Sb.put hR2 h.a h.b h.c)
  exact bodyPost_ret (v := stV h.a h.b h.c) (by simp [results, Try.results13, go_sem, k0, k1, k2]) rfl ⟨rfl, (((hx0.trans ho2).setNew (Nat.le_refl _) 0 _).setNew (Nat.le_refl _) 1 _).setNew (Nat.le_refl _) 2 _⟩
end
end Go.Proofs.Ytjbemhfhhedlpaa
