/- What Get and Put do to a table of the call's own. -/
import Derived.Test.YtkidhfcokckomaaTable
namespace Go.Proofs.Ytkidhfcokckomaa
open Go.RowKit

theorem plc_in {I : List Int} {id : Int} {r : Nat} (hs : rising I) (hp : plc I id r) (hid : id ∈ I) : I[r]? = some id := by
  obtain ⟨hr, h1, h2⟩ := hp
  obtain ⟨j, hj⟩ := List.mem_iff_getElem?.1 hid
  have hjl := (List.getElem?_eq_some_iff.1 hj).1
  rcases Nat.lt_trichotomy j r with h | h | h
  · have := h1 j id hj h
    omega
  · subst h
    exact hj
  · obtain ⟨x, hx⟩ : ∃ x, I[r]? = some x := ⟨_, List.getElem?_eq_getElem (by omega)⟩
    have a := h2 r x hx (Nat.le_refl _)
    have c := hs r j x id hx hj h
    omega
section
variable {w w' : World} {b base : Nat} {most : Int} {v1 v2 : Value} {I V : List Int}
theorem finder1_in (g : Nat) (id : Int) (w : World) (hg : Blk w g 23 #[.pointer (some ⟨b, 0, none⟩)]) (h : Tb w b base most v1 v2 I V) (hs : rising I) (hn : I.length ≤ 2000) (hid : id ∈ I) :
    Calls Try.prog 25 #[.int .i64 id, .pointer (some ⟨g, 0, none⟩)] w fun x w' => ∃ r, x = .returned (.tuple #[.int .i64 (r : Nat), .bool true]) ∧ I[r]? = some id ∧ Only Nil w w' := by
  refine (finder1_any g id w hg h hs hn).mono ?_
  rintro x w' ⟨r, rfl, hp, ho⟩
  have e := plc_in hs hp hid
  exact ⟨r, by rw [e]; simp, e, ho⟩
theorem finder1_out (g : Nat) (id : Int) (w : World) (hg : Blk w g 23 #[.pointer (some ⟨b, 0, none⟩)]) (h : Tb w b base most v1 v2 I V) (hs : rising I) (hn : I.length ≤ 2000) (hid : id ∉ I) :
    Calls Try.prog 25 #[.int .i64 id, .pointer (some ⟨g, 0, none⟩)] w fun x w' => ∃ r, x = .returned (.tuple #[.int .i64 (r : Nat), .bool false]) ∧ plc I id r ∧ Only Nil w w' := by
  refine (finder1_any g id w hg h hs hn).mono ?_
  rintro x w' ⟨r, rfl, hp, ho⟩
  have e : (I[r]? == some id) = false := by
    rw [beq_eq_false_iff_ne]
    exact fun e => hid (List.mem_of_getElem? e)
  exact ⟨r, by rw [e], hp, ho⟩
theorem Get_in (id : Int) (w : World) (h : Tb w b base most v1 v2 I V) (hs : rising I) (hn : I.length ≤ 2000) (hid : id ∈ I) :
    Calls Try.prog 16 #[.pointer (some ⟨b, 0, none⟩), .int .i64 id] w fun x w' => ∃ (r : Nat) (y : Int), x = .returned (.tuple #[.int .i64 y, .bool true]) ∧ I[r]? = some id ∧ V[r]? = some y ∧ Only Nil w w' := by
  obtain ⟨A, cap, rfl, hc, hm⟩ := h.o2.form
  have hsq := h.o2.sq (fun _ _ => rfl) rfl
  have hlen := h.len
  have c2 := h.blk.cell 2
  generalize hnn : V.length = n at *
  go_enter Try.func16, Try.ntmps16
  go_wp2_with (first
    | (go_at_call 24; (with_reducible refine (finder_any _ _).mono ?_); rintro e w1 ⟨g, rfl, ho1, hg1⟩; have h1 := h.kept ho1)
    | (go_at_call 25; (with_reducible refine (finder1_in g id _ hg1 h1 hs (by omega) hid).mono ?_); rintro e w2 ⟨r, rfl, hr, ho2⟩; have h2 := h1.kept ho2; have c2' := h2.blk.cell 2; have hrl := (List.getElem?_eq_some_iff.1 hr).1; obtain ⟨bb, off, x, hA, hbb, hx, _, hcs⟩ := (h2.o2.sq (fun _ _ => rfl) rfl).at_ (k := r) (by omega); have e1 : w2.cell? ⟨bb, off + r, none⟩ = some (.int .i64 x) := (by simpa [encZ] using hcs 0 (by decide)); subst hA; have hri : (r : Int) < n := (by omega))
    )
  go_ret2
  exact ⟨r, x, rfl, hr, hx, ho1.trans ho2⟩
theorem Get_out (id : Int) (w : World) (h : Tb w b base most v1 v2 I V) (hs : rising I) (hn : I.length ≤ 2000) (hid : id ∉ I) :
    Calls Try.prog 16 #[.pointer (some ⟨b, 0, none⟩), .int .i64 id] w fun x w' => x = .returned (.tuple #[.int .i64 0, .bool false]) ∧ Only Nil w w' := by
  go_enter Try.func16, Try.ntmps16
  go_wp2_with (first
    | (go_at_call 24; (with_reducible refine (finder_any _ _).mono ?_); rintro e w1 ⟨g, rfl, ho1, hg1⟩; have h1 := h.kept ho1)
    | (go_at_call 25; (with_reducible refine (finder1_out g id _ hg1 h1 hs hn hid).mono ?_); rintro e w2 ⟨r, rfl, hr, ho2⟩)
    )
  go_ret2
  exact ⟨rfl, ho1.trans ho2⟩
theorem Get_nil (id : Int) (w : World) : Calls Try.prog 16 #[.pointer none, .int .i64 id] w fun x w' => x = .returned (.tuple #[.int .i64 0, .bool false]) ∧ Only Nil w w' := by
  go_enter Try.func16, Try.ntmps16
  go_wp2_with (first
    | (go_at_call 24; (with_reducible refine (finder_any _ _).mono ?_); rintro e w1 ⟨g, rfl, ho1, hg1⟩)
    | (go_at_call 25; (with_reducible refine (finder1_nil g id _ hg1).mono ?_); rintro e w2 ⟨rfl, ho2⟩)
    )
  go_ret2
  exact ⟨rfl, ho1.trans ho2⟩
theorem Put_nil (id v : Int) (w : World) : Calls Try.prog 19 #[.pointer none, .int .i64 id, .int .i64 v] w fun x w' => x = .returned (.int .i64 1) ∧ w = w' := by
  go_enter Try.func19, Try.ntmps19
  go_wp2
  go_ret
  exact ⟨rfl, rfl⟩
theorem Put_there (id v : Int) (w : World) (h : Tb w b base most v1 v2 I V) (hs : rising I) (hn : I.length ≤ 2000) (hid : id ∈ I) :
    Calls Try.prog 19 #[.pointer (some ⟨b, 0, none⟩), .int .i64 id, .int .i64 v] w fun x w' => x = .returned (.int .i64 8) ∧ Only Nil w w' := by
  go_enter Try.func19, Try.ntmps19
  go_wp2_with (first
    | (go_at_call 24; (with_reducible refine (finder_any _ _).mono ?_); rintro e w1 ⟨g, rfl, ho1, hg1⟩; have h1 := h.kept ho1)
    | (go_at_call 25; (with_reducible refine (finder1_in g id _ hg1 h1 hs hn hid).mono ?_); rintro e w2 ⟨r, rfl, hr, ho2⟩)
    )
  go_ret
  exact ⟨rfl, ho1.trans ho2⟩
theorem Put_full (id v : Int) (w : World) (h : Tb w b base most v1 v2 I V) (hs : rising I) (hn : I.length ≤ 2000) (hid : id ∉ I) (hf : most ≤ I.length) :
    Calls Try.prog 19 #[.pointer (some ⟨b, 0, none⟩), .int .i64 id, .int .i64 v] w fun x w' => x = .returned (.int .i64 16) ∧ Only Nil w w' := by
  obtain ⟨A, cap, rfl, hc, hm⟩ := h.o1.form
  generalize hnn : I.length = n at *
  have hd : decide (most ≤ (n : Int)) = true := by simpa using hf
  go_enter Try.func19, Try.ntmps19
  go_wp2_with (first
    | (go_at_call 24; (with_reducible refine (finder_any _ _).mono ?_); rintro e w1 ⟨g, rfl, ho1, hg1⟩; have h1 := h.kept ho1)
    | (go_at_call 25; (with_reducible refine (finder1_out g id _ hg1 h1 hs (by omega) hid).mono ?_); rintro e w2 ⟨r, rfl, hr, ho2⟩; have h2 := h1.kept ho2; have c0 := h2.blk.cell 0; have c1 := h2.blk.cell 1)
    )
  go_quiet (fail)
  go_wp2
  go_ret
  exact ⟨rfl, (ho1.trans ho2).drewN _⟩
end
end Go.Proofs.Ytkidhfcokckomaa
