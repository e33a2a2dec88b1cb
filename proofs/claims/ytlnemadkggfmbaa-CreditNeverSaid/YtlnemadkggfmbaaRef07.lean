/- The document's own ledger: what lies where, what it tells. -/
import Derived.Test.YtlnemadkggfmbaaCredit4
namespace Go.Proofs.Ytlnemadkggfmbaa
open Go.RowKit

theorem High_any (a b : Int) (w : World) : Calls Try.prog 40 #[.int .i64 a, .int .i64 b] w fun x w' => x = .returned (.int .i64 (max a b)) ∧ w = w' := by
  by_cases h : b < a
  · rw [show max a b = a by omega]
    go_enter Try.func40, Try.ntmps40
    go_wp2
    go_ret
    exact ⟨rfl, rfl⟩
  · rw [show max a b = b by omega]
    go_enter Try.func40, Try.ntmps40
    go_wp2
    go_ret
    exact ⟨rfl, rfl⟩
theorem Low_any (a b : Int) (w : World) : Calls Try.prog 41 #[.int .i64 a, .int .i64 b] w fun x w' => x = .returned (.int .i64 (min a b)) ∧ w = w' := by
  by_cases h : a < b
  · rw [show min a b = a by omega]
    go_enter Try.func41, Try.ntmps41
    go_wp2
    go_ret
    exact ⟨rfl, rfl⟩
  · rw [show min a b = b by omega]
    go_enter Try.func41, Try.ntmps41
    go_wp2
    go_ret
    exact ⟨rfl, rfl⟩
theorem Right_any (n : Int) (w : World) : Calls Try.prog 7 #[.int .i64 n] w fun e w' => e = .returned (.bool (szB n)) ∧ w = w' := by
  by_cases h1 : 0 ≤ n
  · have e1 : szB n = decide (n ≤ 2147483647) := by simp [szB, h1]
    rw [e1]
    go_enter Try.func7, Try.ntmps7
    go_wp2
    go_ret
    exact ⟨rfl, rfl⟩
  · have e1 : szB n = false := by simp [szB, h1]
    rw [e1]
    go_enter Try.func7, Try.ntmps7
    go_wp2
    go_ret
    exact ⟨rfl, rfl⟩
structure Ln where
  id : Int
  n : Int
  s : Int
def encL (x : Ln) : List Value := [.int .i64 x.id, .int .i64 x.n, .int .i64 x.s]
theorem encL_len : ∀ x, (encL x).length = 3 := fun _ => rfl
theorem encL_one : ∀ x, ∀ u ∈ encL x, u.oneCell' = true := fun x u hu => by simp [encL] at hu; rcases hu with rfl | rfl | rfl <;> rfl
theorem line_info : (Try.prog.info? 57).map (fun i => (i.zero, i.size, i.bytes)) = some (some (.agg #[.int .i64 0, .int .i64 0, .int .i64 0]), 3, 24) := by kernel_rfl
def Gn.ln (g : Gn) : Ln := ⟨g.id, g.n, g.s⟩
abbrev lns (L : List Gn) : List Ln := L.map Gn.ln
structure Rl (w : World) (xb base : Nat) (C S : Int) (v : Value) (L : List Gn) : Prop where
  blk : Blk w xb 32 #[.int .i64 C, .int .i64 S, v]
  own : Ow encL 3 w base 57 v (lns L)
  hb : base ≤ xb
section
variable {w w' : World} {xb base : Nat} {C S : Int} {v : Value} {L : List Gn}
theorem Rl.kept (h : Rl w xb base C S v L) (ho : Only Nil w w') : Rl w' xb base C S v L := ⟨h.blk.kept ho (fun hh => hh), h.own.kept ho (fun _ _ hh => hh), h.hb⟩
theorem Rl.sz (h : Rl w xb base C S v L) : base ≤ w.heap.size := by have := h.hb; have := h.blk.lt; omega
theorem Rl.facts (h : Rl w xb base C S v L) : w.cell? ⟨xb, 0, none⟩ = some (.int .i64 C) ∧ w.cell? ⟨xb, 1, none⟩ = some (.int .i64 S) ∧ w.cell? ⟨xb, 2, none⟩ = some v :=
  ⟨h.blk.cell 0, h.blk.cell 1, h.blk.cell 2⟩
theorem Rl.oth (h : Rl w xb base C S v L) (ho : Oth w w') : Rl w' xb base C S v L := by
  refine ⟨ho _ _ _ h.blk (by unfold myT; decide), ⟨h.own.1, ?_⟩, h.hb⟩
  rcases h.own.2 with h0 | ⟨g, off, cap, cur, e, hb, hh, hr⟩
  · exact .inl h0
  · exact .inr ⟨g, off, cap, cur, e, hb, ho _ _ _ hh (by unfold myT; decide), hr⟩
theorem Rl.row {A : Option Addr} {n cap : Nat} (h : Rl w xb base C S (.slice A n cap) L) {i : Nat} {x : Gn} (hx : L[i]? = some x) : ∃ g o, A = some ⟨g, o, none⟩ ∧ g < w.heap.size ∧
    w.cell? ⟨g, o + i * 3, none⟩ = some (.int .i64 x.id) ∧ w.cell? ⟨g, o + i * 3 + 1, none⟩ = some (.int .i64 x.n) ∧ w.cell? ⟨g, o + i * 3 + 2, none⟩ = some (.int .i64 x.s) := by
  obtain ⟨g, o, y, rfl, hg, hy, _, hc⟩ := (h.own.sq (fun x _ => encL_len x) rfl).at_ (k := i) (by have := (List.getElem?_eq_some_iff.1 hx).1; simpa using this)
  have e : (lns L)[i]? = some x.ln := by simp [lns, hx]
  rw [e] at hy
  injection hy with hy
  subst hy
  exact ⟨g, o, rfl, hg, hc 0 (by decide), hc 1 (by decide), hc 2 (by decide)⟩
/-- the first place of a number -/
def fdI (L : List Gn) (id i : Int) : Prop := (i = -1 ∧ outL L id) ∨ ∃ (r : Nat) (x : Gn), i = r ∧ L[r]? = some x ∧ x.id = id
def FdPost (w : World) (L : List Gn) (id : Int) (x : Ending) (w' : World) : Prop := ∃ i : Int, x = .returned (.int .i64 i) ∧ fdI L id i ∧ w = w'
theorem Find_any (id : Int) (w : World) (h : Rl w xb base C S v L) (hl : L.length ≤ 1000) : Calls Try.prog 29 #[.pointer (some ⟨xb, 0, none⟩), .int .i64 id] w (FdPost w L id) := by
  obtain ⟨A, cap, rfl, hcp, hm⟩ := h.own.form
  rw [List.length_map] at h hcp
  obtain ⟨c0, c1, c2⟩ := h.facts
  generalize hn : L.length = n at *
  go_enter Try.func29, Try.ntmps29
  go_wp2
  go_loop [5] (fun ii => ∃ k : Nat, k ≤ n ∧ ii = .int .i64 k ∧ ∀ (j : Nat) x, j < k → L[j]? = some x → x.id ≠ id) (fun ii => n - (intOf ii).toNat)
  case atStart => exact ⟨0, Nat.zero_le _, rfl, fun j x hj => absurd hj (Nat.not_lt_zero _)⟩
  case round =>
    obtain ⟨k, hk, rfl, hno⟩ := hrel
    by_cases hlt : k < n
    · obtain ⟨x, hx⟩ : ∃ x, L[k]? = some x := ⟨_, List.getElem?_eq_getElem (by omega)⟩
      obtain ⟨g, o, rfl, hg, e0, e1, e2⟩ := h.row hx
      have hki : (k : Int) < n := by omega
      by_cases he : x.id = id
      · have hfin : Hid (fdI L id k) := Lib.hid (.inr ⟨k, x, rfl, hx, he⟩)
        have he' : (x.id == id) = true := by simpa using he
        clear hno hx hn he
        go_wp2
        go_ret
        exact ⟨k, rfl, hfin.out, rfl⟩
      · have hnew : Hid (∀ (j : Nat) y, j < k + 1 → L[j]? = some y → y.id ≠ id) := Lib.hid fun j y hj hy => by
          rcases Nat.eq_or_lt_of_le (Nat.le_of_lt_succ hj) with e | e
          · subst e
            rw [hx] at hy
            injection hy with hy
            subst hy
            exact he
          · exact hno j y e hy
        have he' : (x.id == id) = false := by simpa using he
        clear hno hx hn he
        go_wp2
        go_round
        case rel => exact ⟨k + 1, by omega, by go_num, hnew.out⟩
        case measure => simp [intOf]; omega
    · have hfin : Hid (fdI L id (-1)) := Lib.hid (.inl ⟨rfl, fun x hx => by
        obtain ⟨j, hj⟩ := List.mem_iff_getElem?.1 hx
        exact hno j x (by have := (List.getElem?_eq_some_iff.1 hj).1; omega) hj⟩)
      clear hno hn
      go_wp2
      go_ret
      exact ⟨-1, rfl, hfin.out, rfl⟩
theorem rise_inj {L : List Gn} (hr : rise L) {i j : Nat} {x y : Gn} (hx : L[i]? = some x) (hy : L[j]? = some y) (e : x.id = y.id) : i = j := by
  rcases Nat.lt_trichotomy i j with h | h | h
  · have := hr i j x y hx hy h
    omega
  · exact h
  · have := hr j i y x hy hx h
    omega
theorem Find_in (i : Nat) (x : Gn) (id : Int) (w : World) (h : Rl w xb base C S v L) (hl : L.length ≤ 1000) (hr : rise L) (hx : L[i]? = some x) (hid : x.id = id) :
    Calls Try.prog 29 #[.pointer (some ⟨xb, 0, none⟩), .int .i64 id] w fun e w' => e = .returned (.int .i64 i) ∧ w = w' := by
  refine (Find_any id w h hl).mono ?_
  rintro e w' ⟨j, rfl, hj, rfl⟩
  rcases hj with ⟨_, ho⟩ | ⟨r, y, rfl, hy, he⟩
  · exact absurd hid (ho x (List.mem_of_getElem? hx))
  · rw [rise_inj hr hy hx (he.trans hid.symm)]
    exact ⟨rfl, rfl⟩
theorem Find_out (id : Int) (w : World) (h : Rl w xb base C S v L) (hl : L.length ≤ 1000) (hid : outL L id) :
    Calls Try.prog 29 #[.pointer (some ⟨xb, 0, none⟩), .int .i64 id] w fun e w' => e = .returned (.int .i64 (-1)) ∧ w = w' := by
  refine (Find_any id w h hl).mono ?_
  rintro e w' ⟨j, rfl, hj, rfl⟩
  rcases hj with ⟨rfl, _⟩ | ⟨r, y, rfl, hy, he⟩
  · exact ⟨rfl, rfl⟩
  · exact absurd he (hid y (List.mem_of_getElem? hy))
theorem RFree_out (id : Int) (w : World) (h : Rl w xb base C S v L) (hl : L.length ≤ 1000) (hid : outL L id) :
    Calls Try.prog 28 #[.pointer (some ⟨xb, 0, none⟩), .int .i64 id] w fun e w' => e = .returned (.int .i64 0) ∧ Only Nil w w' := by
  go_enter Try.func28, Try.ntmps28
  go_wp2_with (first
    | (go_at_call 29; (with_reducible refine (Find_out id _ h hl hid).mono ?_); rintro e w1 ⟨rfl, rfl⟩)
    )
  go_ret
  exact ⟨rfl, Only.refl _ _⟩
theorem fr_eq (C n : Int) : max (min n C) 0 = frI C n := by unfold frI; omega
theorem RFree_in (i : Nat) (x : Gn) (id : Int) (w : World) (h : Rl w xb base C S v L) (hl : L.length ≤ 1000) (hr : rise L) (hx : L[i]? = some x) (hid : x.id = id) :
    Calls Try.prog 28 #[.pointer (some ⟨xb, 0, none⟩), .int .i64 id] w fun e w' => e = .returned (.int .i64 (frI C x.n)) ∧ Only Nil w w' := by
  obtain ⟨A, cap, rfl, hcp, hm⟩ := h.own.form
  rw [List.length_map] at h hcp
  have hF := Lib.hid (fun W (k : Rl W xb base C S (.slice A L.length cap) L) => Find_in i x id W k hl hr hx hid)
  have hil := (List.getElem?_eq_some_iff.1 hx).1
  obtain ⟨g, o, rfl, hg, e0, e1, e2⟩ := h.row hx
  obtain ⟨c0, c1, c2⟩ := h.facts
  have hL := fun W => Low_any x.n C W
  have hH := fun W => High_any (min x.n C) 0 W
  rw [fr_eq] at hH
  generalize frI C x.n = f at *
  generalize min x.n C = m at *
  generalize L.length = n at *
  have hii : (i : Int) < n := by omega
  clear hx hr hid hl
  go_enter Try.func28, Try.ntmps28
  go_wp2_with (first
    | (go_at_call 29; (with_reducible refine (hF.out _ h).mono ?_); rintro e w1 ⟨rfl, rfl⟩)
    )
  go_quiet ((first | (go_at_call 41; exact Calls.quiet_of_same ((hL _).mono fun _ _ hh => ⟨hh.1, hh.2.symm⟩)) | (go_at_call 40; exact Calls.quiet_of_same ((hH _).mono fun _ _ hh => ⟨hh.1, hh.2.symm⟩))))
  go_wp2
  go_ret
  exact ⟨rfl, (Only.refl _ _).drewN _⟩
set_option maxHeartbeats 2000000 in
theorem RIDs_any (w : World) (h : Rl w xb base C S v L) (hl : L.length ≤ 1000) : Calls Try.prog 27 #[.pointer (some ⟨xb, 0, none⟩)] w (IdsPost w (L.map (·.id))) := by
  obtain ⟨A, cap, rfl, hcp, hm⟩ := h.own.form
  rw [List.length_map] at h hcp
  have hR := Lib.hid (fun W i (x : Gn) (k : Rl W xb base C S (.slice A L.length cap) L) (hx : L[i]? = some x) => k.row hx)
  have hfull : Hid ((L.take L.length).map (·.id) = L.map (·.id)) := Lib.hid (by rw [List.take_length])
  generalize hn : L.length = n at *
  have HN := Lib.hid hn
  clear hn
  go_enter Try.func27, Try.ntmps27
  go_wp2
  go_loopw [3, 4] (fun vv ii wr => ∃ (k : Nat) (Av : Option Addr) (cv : Nat), k ≤ n ∧ ii = .int .i64 k ∧ vv = .slice Av k cv ∧ Only Nil w wr ∧ Ow encZ 1 wr w.heap.size 3 (.slice Av k cv) ((L.take k).map (·.id))) (fun _ ii _ => n - (intOf ii).toNat)
  case atStart => exact ⟨0, none, 0, Nat.zero_le _, rfl, rfl, Only.refl _ _, Ow.nil⟩
  case round =>
    obtain ⟨k, Av, cv, hk, rfl, rfl, ho, hO⟩ := hrel
    have hr := h.kept ho
    have c2 := hr.facts.2.2
    by_cases hlt : k < n
    · obtain ⟨x, hx⟩ : ∃ x, L[k]? = some x := ⟨_, List.getElem?_eq_getElem (by have := HN.out; omega)⟩
      obtain ⟨g, o, rfl, hg, e0, e1, e2⟩ := hR.out _ _ _ hr hx
      have hki : (k : Int) < n := by omega
      have hT := Lib.hid (take_ids hx)
      have hLk : Hid (((L.take k).map (·.id)).length = k) := Lib.hid (by have := HN.out; simp; omega)
      clear hx
      have ho1 := ho.alloc (.cells #[.int .i64 x.id] 3)
      have hO1 := hO.alloc (.cells #[.int .i64 x.id] 3)
      have t1 := Src.one (P := Try.prog) (enc := encZ) (tx := 42) Try.underlying42 x.id 1 rfl (Blk.new wr 3 #[.int .i64 x.id]) rfl (encZ_one _)
      go_wp2_with (first
        | (at_builtin
           refine wpList_app2 rfl (.tmp 14) (.tmp 23) _ _ rfl w.heap.size 3 Try.underlying42 int_info rfl _ _ rfl hO1 _ [x.id] rfl t1 (by rw [la2' hLk.out]; omega) (by decide) ho1.size (k + 1) (la2' hLk.out) _ hT.out.symm ?_
           intro A6 c6 w6 hown6 ho6 hg6
           have ho6' := ho1.own_nil hO1 ho6)
        )
      go_roundw
      case rel => exact ⟨k + 1, A6, c6, by omega, by go_num, rfl, ho6', hown6⟩
      case measure => simp [intOf]; omega
    · obtain rfl : k = n := by omega
      have hsq := hO.sqn (fun _ _ => rfl)
      rw [hfull.out] at hsq
      have hln : Hid ((L.map (·.id)).length = k) := Lib.hid (by have := HN.out; simp; omega)
      go_wp2
      go_ret
      exact ⟨Av, cv, by rw [hln.out]; rfl, hsq, ho⟩
end
end Go.Proofs.Ytlnemadkggfmbaa
