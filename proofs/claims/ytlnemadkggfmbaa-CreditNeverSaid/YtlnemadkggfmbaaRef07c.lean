/- What Open and Resize of the document's own ledger do. -/
import Derived.Test.YtlnemadkggfmbaaRef07b
namespace Go.Proofs.Ytlnemadkggfmbaa
open Go.RowKit

section
variable {w w' : World} {xb base : Nat} {C S : Int} {v : Value} {L : List Gn}
theorem ROpen_arg (id n : Int) (w : World) (hid : id < 1 ∨ 2147483647 < id) : Calls Try.prog 22 #[.pointer (some ⟨xb, 0, none⟩), .int .i64 id, .int .i64 n] w fun e w' => e = .returned (.int .i64 2) ∧ w = w' := by
  by_cases h1 : id < 1
  · clear hid
    go_enter Try.func22, Try.ntmps22
    go_wp2
    go_ret
    exact ⟨rfl, rfl⟩
  · have h2 : 2147483647 < id := by omega
    clear hid
    go_enter Try.func22, Try.ntmps22
    go_wp2
    go_ret
    exact ⟨rfl, rfl⟩
theorem ROpen_range (id n : Int) (w : World) (h1 : 1 ≤ id) (h2 : id ≤ 2147483647) (hn : szB n = false) : Calls Try.prog 22 #[.pointer (some ⟨xb, 0, none⟩), .int .i64 id, .int .i64 n] w fun e w' => e = .returned (.int .i64 3) ∧ w = w' := by
  have HR := fun W => Right_any n W
  rw [hn] at HR
  clear hn
  go_enter Try.func22, Try.ntmps22
  go_wp2_with (first
    | (go_at_call 7; (with_reducible refine (HR _).mono ?_); rintro e w1 ⟨rfl, rfl⟩)
    )
  go_ret
  exact ⟨rfl, rfl⟩
theorem ROpen_there (i : Nat) (x : Gn) (id n : Int) (w : World) (h : Rl w xb base C S v L) (hl : L.length ≤ 1000) (hr : rise L) (hx : L[i]? = some x) (hid : x.id = id) (h1 : 1 ≤ id) (h2 : id ≤ 2147483647) (hn : szB n = true) :
    Calls Try.prog 22 #[.pointer (some ⟨xb, 0, none⟩), .int .i64 id, .int .i64 n] w fun e w' => e = .returned (.int .i64 8) ∧ w = w' := by
  have hP := Lib.hid (fun W (k : Rl W xb base C S v L) => Find_in i x id W k hl hr hx hid)
  have HR := fun W => Right_any n W
  rw [hn] at HR
  clear hn hx hr hid
  go_enter Try.func22, Try.ntmps22
  go_wp2_with (first
    | (go_at_call 7; (with_reducible refine (HR _).mono ?_); rintro e w1 ⟨rfl, rfl⟩)
    | (go_at_call 29; (with_reducible refine (hP.out _ h).mono ?_); rintro e w1 ⟨rfl, rfl⟩)
    )
  go_ret
  exact ⟨rfl, rfl⟩
theorem ROpen_full (id n : Int) (w : World) (h : Rl w xb base C S v L) (hl : L.length ≤ 1000) (ho : outL L id) (hf : 64 ≤ L.length) (h1 : 1 ≤ id) (h2 : id ≤ 2147483647) (hn : szB n = true) :
    Calls Try.prog 22 #[.pointer (some ⟨xb, 0, none⟩), .int .i64 id, .int .i64 n] w fun e w' => e = .returned (.int .i64 16) ∧ w = w' := by
  obtain ⟨A, cap, rfl, hcp, hm⟩ := h.own.form
  rw [List.length_map] at h hcp
  have hP := Lib.hid (fun W (k : Rl W xb base C S (.slice A L.length cap) L) => Find_out id W k hl ho)
  have HR := fun W => Right_any n W
  rw [hn] at HR
  obtain ⟨c0, c1, c2⟩ := h.facts
  generalize L.length = k at *
  clear hn ho
  go_enter Try.func22, Try.ntmps22
  go_wp2_with (first
    | (go_at_call 7; (with_reducible refine (HR _).mono ?_); rintro e w1 ⟨rfl, rfl⟩)
    | (go_at_call 29; (with_reducible refine (hP.out _ h).mono ?_); rintro e w1 ⟨rfl, rfl⟩)
    )
  go_ret
  exact ⟨rfl, rfl⟩
def ROpPost (w : World) (xb base : Nat) (C S : Int) (L : List Gn) (id n : Int) (nb : Nat) (x : Ending) (w' : World) : Prop :=
  ∃ r : Nat, Pc L id r ∧ RPost w xb base (.int .i64 0) C S (L.take r ++ ⟨id, 0, n, nb⟩ :: L.drop r) x w'
theorem lns_ins (L : List Gn) (r nb : Nat) (id n : Int) : lns (L.take r ++ ⟨id, 0, n, nb⟩ :: L.drop r) = ((lns L).take r ++ [⟨id, n, 0⟩]) ++ (lns L).drop r := by
  simp [lns, List.map_take, List.map_drop, Gn.ln]
set_option maxHeartbeats 4000000 in
theorem ROpen_new (id n : Int) (nb : Nat) (w : World) (h : Rl w xb base C S v L) (ho : outL L id) (hf : L.length < 64) (h1 : 1 ≤ id) (h2 : id ≤ 2147483647) (hn : szB n = true) :
    Calls Try.prog 22 #[.pointer (some ⟨xb, 0, none⟩), .int .i64 id, .int .i64 n] w (ROpPost w xb base C S L id n nb) := by
  obtain ⟨A, cap, rfl, hcp, hm⟩ := h.own.form
  rw [List.length_map] at h hcp
  have hP := Lib.hid (fun W (k : Rl W xb base C S (.slice A L.length cap) L) => Find_out id W k (by omega) ho)
  have HR := fun W => Right_any n W
  rw [hn] at HR
  obtain ⟨c0, c1, c2⟩ := h.facts
  have HL : Hid ((lns L).length = L.length) := Lib.hid (by simp [lns])
  have hsq := h.own.sqn (fun x _ => encL_len x)
  have hRow := Lib.hid (fun i (x : Gn) (hx : L[i]? = some x) => h.row hx)
  have hhb := h.hb
  have hsz := h.sz
  generalize hm' : L.length = m at *
  have HM := Lib.hid hm'
  clear hn ho hm'
  go_enter Try.func22, Try.ntmps22
  go_wp2_with (first
    | (go_at_call 7; (with_reducible refine (HR _).mono ?_); rintro e w1 ⟨rfl, rfl⟩)
    | (go_at_call 29; (with_reducible refine (hP.out _ h).mono ?_); rintro e w1 ⟨rfl, rfl⟩)
    )
  go_loop [7] (fun ii => ∃ k : Nat, k ≤ m ∧ ii = .int .i64 k ∧ ∀ (j : Nat) x, L[j]? = some x → j < k → x.id < id) (fun ii => m - (intOf ii).toNat)
  case atStart => exact ⟨0, Nat.zero_le _, rfl, fun j x _ hj => absurd hj (Nat.not_lt_zero _)⟩
  case round =>
    obtain ⟨k, hk, rfl, hlo⟩ := hrel
    by_cases hgo : k < m ∧ ∃ x, L[k]? = some x ∧ x.id < id
    · obtain ⟨hlt, x, hx, hxi⟩ := hgo
      obtain ⟨g, o, rfl, hg, e0, e1, e2⟩ := hRow.out k x hx
      have hki : (k : Int) < m := by omega
      have hnew : Hid (∀ (j : Nat) y, L[j]? = some y → j < k + 1 → y.id < id) := Lib.hid fun j y hy hj => by
        rcases Nat.eq_or_lt_of_le (Nat.le_of_lt_succ hj) with e | e
        · subst e
          rw [hx] at hy
          injection hy with hy
          subst hy
          exact hxi
        · exact hlo j y hy e
      clear hlo hx
      go_wp2
      go_round
      case rel => exact ⟨k + 1, by omega, by go_num, hnew.out⟩
      case measure => simp [intOf]; omega
    · have hpt : Hid (Pc L id k) := Lib.hid ⟨by have := HM.out; omega, hlo, fun x hx => by
        rcases Int.lt_or_le x.id id with h1 | h1
        · exact absurd ⟨by have := (List.getElem?_eq_some_iff.1 hx).1; have := HM.out; omega, x, hx, h1⟩ hgo
        · exact h1⟩
      have hcell : k < m → ∃ g o y, A = some ⟨g, o, none⟩ ∧ w.cell? ⟨g, o + k * 3, none⟩ = some (.int .i64 y) ∧ id ≤ y := fun hlt => by
        obtain ⟨x, hx⟩ : ∃ x, L[k]? = some x := ⟨_, List.getElem?_eq_getElem (by have := HM.out; omega)⟩
        obtain ⟨g, o, e, hg, e0, e1, e2⟩ := hRow.out k x hx
        exact ⟨g, o, x.id, e, e0, hpt.out.2.2 x hx⟩
      have HE := Lib.hid (lns_ins L k nb id n)
      have hk1 := (Only.refl Nil w).alloc (.cells #[] 57)
      have hr1 := h.kept hk1
      have g2 := hr1.facts.2.2
      have zb := h.blk.lt
      have hO1 := Ow.lit (enc := encL) (sz := 3) (e := 57) (base := w.heap.size) w (cs := #[]) [] rfl rfl (by decide) (Nat.le_refl _)
      have hl1 : Hid (((lns L).take k).length = k) := Lib.hid (by rw [List.length_take]; have := HL.out; omega)
      have hl2 : Hid (((lns L).drop k).length = m - k) := Lib.hid (by rw [List.length_drop]; have := HL.out; omega)
      have hl4 : Hid (((lns L).take k ++ [(⟨id, n, 0⟩ : Ln)]).length = k + 1) := Lib.hid (by rw [List.length_append, hl1.out]; rfl)
      have s1 := Src.sqn (P := Try.prog) (tx := 30) Try.underlying30 cap k ((hsq.go hk1).take k) (fun x _ => encL_len x) (fun x _ => encL_one x) (by decide) hl1.out
      have T3 : Hid (∀ (W : World) (A' : Option Addr), Only Nil w W → (k < m → A' = A.map (·.add (k * 3))) → Src Try.prog 3 30 (.slice A' (m - k) (cap - k)) ((lns L).drop k).length (((lns L).drop k).flatMap encL) W) :=
        Lib.hid fun W A' hW hA => Src.sqn Try.underlying30 _ _ ((hsq.go hW).dropped k (fun hl => hA (by have := HL.out; omega))) (fun x _ => encL_len x) (fun x _ => encL_one x) (by decide) hl2.out
      have hi1 : (k : Int) ≤ cap := by omega
      have hi3 : (k : Int) ≤ (m : Int) := by omega
      have hck : k ≤ cap := by omega
      clear hsq hlo hgo
      by_cases hlt : k < m
      · obtain ⟨g, o, y, rfl, e1, hxi⟩ := hcell hlt
        have hki : (k : Int) < m := by omega
        clear hcell
        go_wp2_with (first
          | (at_builtin
             refine wpList_app2 rfl (.tmp 49) (.tmp 55) _ _ rfl w.heap.size 57 Try.underlying30 line_info rfl _ _ rfl hO1 _ ((lns L).take k) rfl s1 (by rw [la0 hl1.out]; omega) (by decide) hk1.size k (la0 hl1.out) ((lns L).take k) rfl ?_
             intro A6 c6 w6 hown6 ho6 hg6
             have ho6' := hk1.own_nil hO1 ho6
             have hr6 := h.kept ho6'
             have hN6 : Blk (w6.alloc (.cells #[.int .i64 id, .int .i64 n, .int .i64 0] 57)) w6.heap.size 57 #[.int .i64 id, .int .i64 n, .int .i64 0] := Blk.new _ _ _
             have s2 := Src.one (P := Try.prog) (enc := encL) (tx := 30) Try.underlying30 (⟨id, n, 0⟩ : Ln) 1 rfl hN6 rfl (encL_one _)
             have hown6' := hown6.alloc (.cells #[.int .i64 id, .int .i64 n, .int .i64 0] 57)
             have ho6n := ho6'.alloc (.cells #[.int .i64 id, .int .i64 n, .int .i64 0] 57))
          | (at_builtin
             refine wpList_app2 rfl (.tmp 57) (.tmp 61) _ _ rfl w.heap.size 57 Try.underlying30 line_info rfl _ _ rfl hown6' _ [(⟨id, n, 0⟩ : Ln)] rfl s2 (by rw [la2' hl1.out]; omega) (by decide) ho6n.size (k + 1) (la2' hl1.out) ((lns L).take k ++ [⟨id, n, 0⟩]) rfl ?_
             intro A7 c7 w7 hown7 ho7 hg7
             have ho7' := ho6n.own_nil hown6' ho7
             have hr7 := h.kept ho7'
             have k72 := hr7.facts.2.2)
          | (at_builtin
             refine wpList_app2 rfl (.tmp 64) (.tmp 70) _ _ rfl w.heap.size 57 Try.underlying30 line_info rfl _ _ rfl hown7 _ ((lns L).drop k) rfl (T3.out _ _ ho7' (by intro hh; first | (exfalso; omega) | (rw [if_neg (by omega)]; simp [Addr.add_lit]) | simp [Addr.add_lit])) (by rw [la3 hl4.out hl2.out]; omega) (by decide) ho7'.size (k + 1 + (m - k)) (la3 hl4.out hl2.out) (((lns L).take k ++ [⟨id, n, 0⟩]) ++ (lns L).drop k) rfl ?_
             intro A8 c8 w8 hown8 ho8 hg8
             have ho8' := ho7'.own_nil hown7 ho8
             have hr8 := h.kept ho8'
             have k82 := hr8.blk.cell 2
             have f82 := hr8.blk.frozen 2
             have hne8 := hown8.ne hr8.blk (by decide))
          )
        all_goals go_ret
        all_goals
          refine ⟨k, hpt.out, _, rfl, ⟨hr8.blk.set 2 _, ?_, hhb⟩, (ho8'.of_nil (One xb)).setCell (p := ⟨xb, 2, none⟩) (fun _ => rfl) _⟩
          rw [HE.out]
          exact (hown8.mono hsz).set hne8 2 _
      · have hki : ¬ (k : Int) < m := by omega
        clear hcell
        go_wp2_with (first
          | (at_builtin
             refine wpList_app2 rfl (.tmp 49) (.tmp 55) _ _ rfl w.heap.size 57 Try.underlying30 line_info rfl _ _ rfl hO1 _ ((lns L).take k) rfl s1 (by rw [la0 hl1.out]; omega) (by decide) hk1.size k (la0 hl1.out) ((lns L).take k) rfl ?_
             intro A6 c6 w6 hown6 ho6 hg6
             have ho6' := hk1.own_nil hO1 ho6
             have hr6 := h.kept ho6'
             have hN6 : Blk (w6.alloc (.cells #[.int .i64 id, .int .i64 n, .int .i64 0] 57)) w6.heap.size 57 #[.int .i64 id, .int .i64 n, .int .i64 0] := Blk.new _ _ _
             have s2 := Src.one (P := Try.prog) (enc := encL) (tx := 30) Try.underlying30 (⟨id, n, 0⟩ : Ln) 1 rfl hN6 rfl (encL_one _)
             have hown6' := hown6.alloc (.cells #[.int .i64 id, .int .i64 n, .int .i64 0] 57)
             have ho6n := ho6'.alloc (.cells #[.int .i64 id, .int .i64 n, .int .i64 0] 57))
          | (at_builtin
             refine wpList_app2 rfl (.tmp 57) (.tmp 61) _ _ rfl w.heap.size 57 Try.underlying30 line_info rfl _ _ rfl hown6' _ [(⟨id, n, 0⟩ : Ln)] rfl s2 (by rw [la2' hl1.out]; omega) (by decide) ho6n.size (k + 1) (la2' hl1.out) ((lns L).take k ++ [⟨id, n, 0⟩]) rfl ?_
             intro A7 c7 w7 hown7 ho7 hg7
             have ho7' := ho6n.own_nil hown6' ho7
             have hr7 := h.kept ho7'
             have k72 := hr7.facts.2.2)
          | (at_builtin
             refine wpList_app2 rfl (.tmp 64) (.tmp 70) _ _ rfl w.heap.size 57 Try.underlying30 line_info rfl _ _ rfl hown7 _ ((lns L).drop k) rfl (T3.out _ _ ho7' (by intro hh; first | (exfalso; omega) | (rw [if_neg (by omega)]; simp [Addr.add_lit]) | simp [Addr.add_lit])) (by rw [la3 hl4.out hl2.out]; omega) (by decide) ho7'.size (k + 1 + (m - k)) (la3 hl4.out hl2.out) (((lns L).take k ++ [⟨id, n, 0⟩]) ++ (lns L).drop k) rfl ?_
             intro A8 c8 w8 hown8 ho8 hg8
             have ho8' := ho7'.own_nil hown7 ho8
             have hr8 := h.kept ho8'
             have k82 := hr8.blk.cell 2
             have f82 := hr8.blk.frozen 2
             have hne8 := hown8.ne hr8.blk (by decide))
          )
        all_goals go_ret
        all_goals
          refine ⟨k, hpt.out, _, rfl, ⟨hr8.blk.set 2 _, ?_, hhb⟩, (ho8'.of_nil (One xb)).setCell (p := ⟨xb, 2, none⟩) (fun _ => rfl) _⟩
          rw [HE.out]
          exact (hown8.mono hsz).set hne8 2 _
/-! ### Resize -/
theorem resE_or (n f t : Int) (h : (szB f && szB t) = true) : resE n f t = 0 ∨ resE n f t = 10 := by
  unfold resE chE
  rw [if_pos h]
  split
  · exact .inl rfl
  · exact .inr rfl
def rzG (f t : Int) (x : Gn) : Gn := ⟨x.id, x.s, resN x.n f t, x.b⟩
abbrev rzL (f t : Int) (L : List Gn) : List Gn := L.map (rzG f t)
theorem RResize_arg (f t : Int) (w : World) (h : (szB f && szB t) = false) : Calls Try.prog 25 #[.pointer (some ⟨xb, 0, none⟩), .int .i64 f, .int .i64 t] w fun e w' => e = .returned (.int .i64 2) ∧ w = w' := by
  have h1 := fun W => Right_any f W
  have h2 := fun W => Right_any t W
  cases e1 : szB f with
  | false =>
    rw [e1] at h1
    clear h e1
    go_enter Try.func25, Try.ntmps25
    go_wp2_with (first
      | (go_at_call 7; (with_reducible refine (h1 _).mono ?_); rintro e w1 ⟨rfl, rfl⟩)
      )
    go_ret
    exact ⟨rfl, rfl⟩
  | true =>
    have e2 : szB t = false := by rw [e1] at h; simpa using h
    rw [e1] at h1
    rw [e2] at h2
    clear h e1 e2
    go_enter Try.func25, Try.ntmps25
    go_wp2_with (first
      | (go_at_call 7; (with_reducible refine (h1 _).mono ?_); rintro e w1 ⟨rfl, rfl⟩)
      | (go_at_call 7; (with_reducible refine (h2 _).mono ?_); rintro e w1 ⟨rfl, rfl⟩)
      )
    go_ret
    exact ⟨rfl, rfl⟩
/-- how far the first error is -/
def rzTo (f t : Int) (L : List Gn) (i : Nat) : Prop := i ≤ L.length ∧ (∀ (j : Nat) x, L[j]? = some x → j < i → resE x.n f t = 0) ∧ ∀ x, L[i]? = some x → resE x.n f t = 10
theorem rzTo_ex (f t : Int) (h : (szB f && szB t) = true) : ∀ L : List Gn, ∃ i, rzTo f t L i
  | [] => ⟨0, Nat.le_refl _, fun j x hx => by simp at hx, fun x hx => by simp at hx⟩
  | y :: L => by
    rcases resE_or y.n f t h with h0 | h0
    · obtain ⟨i, h1, h2, h3⟩ := rzTo_ex f t h L
      refine ⟨i + 1, by simp; omega, fun j x hx hj => ?_, fun x hx => h3 x (by simpa using hx)⟩
      cases j with
      | zero =>
        simp at hx
        subst hx
        exact h0
      | succ j => exact h2 j x (by simpa using hx) (by omega)
    · exact ⟨0, by simp, fun j x _ hj => absurd hj (Nat.not_lt_zero _), fun x hx => by
        simp at hx
        subst hx
        exact h0⟩
theorem lns_take (L : List Gn) (f t : Int) (k : Nat) (x : Gn) (hx : L[k]? = some x) : (lns (rzL f t L)).take k ++ [(⟨x.id, resN x.n f t, x.s⟩ : Ln)] = (lns (rzL f t L)).take (k + 1) := by
  have e : (lns (rzL f t L))[k]? = some (⟨x.id, resN x.n f t, x.s⟩ : Ln) := by simp [lns, rzL, hx, Gn.ln, rzG]
  rw [List.take_add_one, e]
  rfl
def RzPost (w : World) (xb base : Nat) (C S : Int) (v : Value) (f t : Int) (L : List Gn) (i : Nat) (x : Ending) (w' : World) : Prop :=
  if i < L.length then x = .returned (.int .i64 10) ∧ Rl w' xb base C S v L ∧ Only (One xb) w w' else RPost w xb base (.int .i64 0) C S (rzL f t L) x w'
set_option maxHeartbeats 4000000 in
theorem RResize_any (f t : Int) (i : Nat) (w : World) (h : Rl w xb base C S v L) (hl : L.length ≤ 1000) (hs : (szB f && szB t) = true) (hg : gOk C L) (hf : i64Ok f) (ht : i64Ok t) (hi : rzTo f t L i) :
    Calls Try.prog 25 #[.pointer (some ⟨xb, 0, none⟩), .int .i64 f, .int .i64 t] w (RzPost w xb base C S v f t L i) := by
  have HP1 : Hid (i < L.length → RzPost w xb base C S v f t L i = fun x w' => x = .returned (.int .i64 10) ∧ Rl w' xb base C S v L ∧ Only (One xb) w w') := Lib.hid fun hlt => by funext x w'; exact if_pos hlt
  have HP2 : Hid (¬ i < L.length → RzPost w xb base C S v f t L i = RPost w xb base (.int .i64 0) C S (rzL f t L)) := Lib.hid fun hlt => by funext x w'; exact if_neg hlt
  obtain ⟨A, cap, rfl, hcp, hm⟩ := h.own.form
  rw [List.length_map] at h hcp HP1 HP2 ⊢
  have h1 := fun W => Right_any f W
  have h2 := fun W => Right_any t W
  simp only [Bool.and_eq_true] at hs
  rw [hs.1] at h1
  rw [hs.2] at h2
  have hRz := Lib.hid (fun (i : Nat) (x : Gn) W (hx : L[i]? = some x) => rresize_any x.n f t W (hg.2 x (List.mem_of_getElem? hx)) hf ht)
  have HL : Hid ((lns (rzL f t L)).length = L.length) := Lib.hid (by simp [lns, rzL])
  have HLL : Hid (lns (rzL f t L) = lns (rzL f t L)) := Lib.hid rfl
  have hTk := Lib.hid (fun k x hx => lns_take L f t k x hx)
  have hfull : Hid ((lns (rzL f t L)).take L.length = lns (rzL f t L)) := Lib.hid (by rw [← HL.out, List.take_length])
  have hRow := Lib.hid (fun W i (x : Gn) (q : Rl W xb base C S (.slice A L.length cap) L) (hx : L[i]? = some x) => q.row hx)
  have HI := Lib.hid hi
  have hil := hi.1
  have hhb := h.hb
  have hsz := h.sz
  generalize hm' : L.length = m at *
  have HM := Lib.hid hm'
  obtain ⟨c0, c1, c2⟩ := h.facts
  clear hs hg hf ht hi hm'
  go_enter Try.func25, Try.ntmps25
  go_wp2_with (first
    | (go_at_call 7; (with_reducible refine (h1 _).mono ?_); rintro e w1 ⟨rfl, rfl⟩)
    | (go_at_call 7; (with_reducible refine (h2 _).mono ?_); rintro e w1 ⟨rfl, rfl⟩)
    )
  go_loopw [7, 8] (fun vv ii wr => ∃ (k : Nat) (Av : Option Addr) (cv : Nat), k ≤ i ∧ ii = .int .i64 k ∧ vv = .slice Av k cv ∧ Only Nil w wr ∧ Ow encL 3 wr w.heap.size 57 (.slice Av k cv) ((lns (rzL f t L)).take k)) (fun _ ii _ => m - (intOf ii).toNat)
  case atStart => exact ⟨0, none, 0, Nat.zero_le _, rfl, rfl, Only.refl _ _, Ow.nil⟩
  case round =>
    obtain ⟨k, Av, cv, hk, rfl, rfl, ho, hO⟩ := hrel
    have hr := h.kept ho
    have k2 := hr.facts.2.2
    by_cases hlt : k < m
    · obtain ⟨x, hx⟩ : ∃ x, L[k]? = some x := ⟨_, List.getElem?_eq_getElem (by have := HM.out; omega)⟩
      have hki : (k : Int) < m := by omega
      obtain ⟨g, o, rfl, hg', e0, e1, e2⟩ := hRow.out _ _ _ hr hx
      have hT := Lib.hid (hTk.out _ _ hx)
      have hz := Lib.hid (fun W => hRz.out _ _ W hx)
      by_cases hki2 : k < i
      · have hE0 : Hid (resE x.n f t = 0) := Lib.hid (HI.out.2.1 _ _ hx hki2)
        have HZ : Hid (∀ W, Calls Try.prog 39 #[.int .i64 x.n, .int .i64 f, .int .i64 t] W fun e w' => e = .returned (.tuple #[.int .i64 (resN x.n f t), .int .i64 0]) ∧ W = w') := Lib.hid fun W => by have := hz.out W; rwa [hE0.out] at this
        have HS : Hid (∀ W, Rl W xb base C S (.slice (some ⟨g, o, none⟩) m cap) L → W.cell? ⟨xb, 2, none⟩ = some (.slice (some ⟨g, o, none⟩) m cap) ∧ W.cell? ⟨g, o + k * 3, none⟩ = some (.int .i64 x.id) ∧ W.cell? ⟨g, o + k * 3 + 2, none⟩ = some (.int .i64 x.s)) := Lib.hid fun W q => by
          obtain ⟨g', o', hA', _, q0, q1, q2⟩ := hRow.out _ _ _ q hx
          injection hA' with hA'
          injection hA' with hA1 hA2
          subst hA1 hA2
          exact ⟨q.facts.2.2, q0, q2⟩
        have hl1 : Hid (((lns (rzL f t L)).take k).length = k) := Lib.hid (by rw [List.length_take]; have := HL.out; omega)
        clear hx hz hE0 HI
        generalize resN x.n f t = N at *
        generalize lns (rzL f t L) = LL at *
        have hrd := hr.kept (Only.refl Nil wr).drew
        have hra := hr.kept (((Only.refl Nil wr).alloc (.cells #[.int .i64 x.id, .int .i64 N, .int .i64 x.s] 57)).drew)
        have hoa := (ho.alloc (.cells #[.int .i64 x.id, .int .i64 N, .int .i64 x.s] 57)).drew
        have hO1 := (hO.alloc (.cells #[.int .i64 x.id, .int .i64 N, .int .i64 x.s] 57)).drew
        have hN1 : Blk ((wr.alloc (.cells #[.int .i64 x.id, .int .i64 N, .int .i64 x.s] 57)).drew) wr.heap.size 57 #[.int .i64 x.id, .int .i64 N, .int .i64 x.s] := Blk.new wr _ _
        have s1 := Src.one (P := Try.prog) (enc := encL) (tx := 30) Try.underlying30 (⟨x.id, N, x.s⟩ : Ln) 1 rfl hN1 rfl (encL_one _)
        go_wp2_with (first
          | (go_at_call 39; (with_reducible refine (HZ.out _).mono ?_); rintro e w2 ⟨rfl, rfl⟩)
          )
        have b1 := HS.out _ hrd
        have b2 := HS.out _ hra
        go_region_held3 (fun w' => w'.cell? ⟨xb, 2, none⟩ = some (.slice (some ⟨g, o, none⟩) m cap) ∧ w'.cell? ⟨g, o + k * 3, none⟩ = some (.int .i64 x.id) ∧ w'.cell? ⟨g, o + k * 3 + 2, none⟩ = some (.int .i64 x.s)) (with_reducible (first | exact b1 | exact b2 | exact b3)) (first
          | (refine step_app2 (by rfl) (.tmp 45) (.tmp 64) _ _ (by rfl) w.heap.size 57 Try.underlying30 line_info (by rfl) _ _ (by rfl) hO1 _ [(⟨x.id, N, x.s⟩ : Ln)] (by rfl) s1 (by rw [la2' hl1.out]; omega) (by decide) hoa.size (k + 1) (la2' hl1.out) _ hT.out ?_; intro A6 c6 w6 hown6 ho6 hg6; have ho6' := hoa.own_nil hO1 ho6; have hr6 := h.kept ho6'; have b3 := HS.out _ hr6)
          )
        all_goals
          go_wp2
          go_roundw
          case rel => exact ⟨k + 1, A6, c6, by omega, by go_num, rfl, ho6', hown6⟩
          case measure => simp [intOf]; omega
      · obtain rfl : k = i := by omega
        have hE0 : Hid (resE x.n f t = 10) := Lib.hid (HI.out.2.2 _ hx)
        have HZ : Hid (∀ W, Calls Try.prog 39 #[.int .i64 x.n, .int .i64 f, .int .i64 t] W fun e w' => e = .returned (.tuple #[.int .i64 (resN x.n f t), .int .i64 10]) ∧ W = w') := Lib.hid fun W => by have := hz.out W; rwa [hE0.out] at this
        have HPP := Lib.hid (HP1.out hlt)
        clear hx hz hE0 HI
        generalize resN x.n f t = N at *
        go_wp2_with (first
          | (go_at_call 39; (with_reducible refine (HZ.out _).mono ?_); rintro e w2 ⟨rfl, rfl⟩)
          )
        go_ret
        rw [HPP.out]
        exact ⟨rfl, hr, ho.of_nil _⟩
    · obtain rfl : k = m := by omega
      have HPP := Lib.hid (HP2.out (by omega))
      rw [hfull.out] at hO
      have hne := hO.ne hr.blk (by decide)
      have f2 := hr.blk.frozen 2
      go_wp2
      go_ret
      rw [HPP.out]
      exact ⟨_, rfl, ⟨hr.blk.set 2 _, (hO.mono hsz).set hne 2 _, hhb⟩, (ho.of_nil (One xb)).setCell (p := ⟨xb, 2, none⟩) (fun _ => rfl) _⟩
end
end Go.Proofs.Ytlnemadkggfmbaa
