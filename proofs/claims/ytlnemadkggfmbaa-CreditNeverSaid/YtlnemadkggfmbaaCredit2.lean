/- What a ledger tells: Size, Spent, Free, IDs; what a nil one does. -/
import Derived.Test.YtlnemadkggfmbaaCredit
namespace Go.Proofs.Ytlnemadkggfmbaa
open Go.RowKit

def rise (L : List Gn) : Prop := ∀ (i j : Nat) x y, L[i]? = some x → L[j]? = some y → i < j → x.id < y.id
def outL (L : List Gn) (id : Int) : Prop := ∀ x ∈ L, x.id ≠ id
theorem in_or_out (L : List Gn) (id : Int) : outL L id ∨ ∃ (i : Nat) (x : Gn), L[i]? = some x ∧ x.id = id := by
  by_cases h : ∃ x ∈ L, x.id = id
  · obtain ⟨x, hx, rfl⟩ := h
    obtain ⟨i, hi⟩ := List.mem_iff_getElem?.1 hx
    exact .inr ⟨i, x, hi, rfl⟩
  · exact .inl fun x hx e => h ⟨x, hx, e⟩
theorem pc_in {L : List Gn} (hr : rise L) {i r : Nat} {x : Gn} (hx : L[i]? = some x) (hp : Pc L x.id r) : r = i := by
  obtain ⟨h0, h1, h2⟩ := hp
  have hi := (List.getElem?_eq_some_iff.1 hx).1
  rcases Nat.lt_trichotomy i r with h | h | h
  · have := h1 i x hx h
    omega
  · exact h.symm
  · obtain ⟨y, hy⟩ : ∃ y, L[r]? = some y := ⟨_, List.getElem?_eq_getElem (by omega)⟩
    have a := h2 y hy
    have c := hr r i y x hy hx h
    omega
theorem pc_out {L : List Gn} {id : Int} {r : Nat} (ho : outL L id) : pcB L id r = false := by
  unfold pcB
  cases h : L[r]? with
  | none => rfl
  | some y =>
    have := ho y (List.mem_of_getElem? h)
    simpa using this
section
variable {w w' : World} {b cb base : Nat} {C S : Int} {v : Value} {L : List Gn}
theorem place_in (i : Nat) (x : Gn) (id : Int) (w : World) (h : Lg w b cb base C S v L) (hl : L.length ≤ 1000) (hr : rise L) (hx : L[i]? = some x) (hid : x.id = id) :
    Calls Try.prog 30 #[.pointer (some ⟨b, 0, none⟩), .int .i64 id] w fun e w' => e = .returned (.tuple #[.int .i64 i, .bool true]) ∧ Only Nil w w' := by
  subst hid
  refine (place_any x.id w h hl).mono ?_
  rintro e w' ⟨r, rfl, hp, ho⟩
  obtain rfl := pc_in hr hx hp
  exact ⟨by simp [pcB, hx], ho⟩
def OutPost (w : World) (L : List Gn) (id : Int) (x : Ending) (w' : World) : Prop := ∃ r : Nat, x = .returned (.tuple #[.int .i64 r, .bool false]) ∧ Pc L id r ∧ Only Nil w w'
theorem place_out (id : Int) (w : World) (h : Lg w b cb base C S v L) (hl : L.length ≤ 1000) (hid : outL L id) :
    Calls Try.prog 30 #[.pointer (some ⟨b, 0, none⟩), .int .i64 id] w (OutPost w L id) := by
  refine (place_any id w h hl).mono ?_
  rintro e w' ⟨r, rfl, hp, ho⟩
  exact ⟨r, by rw [pc_out hid], hp, ho⟩
theorem Size_0 (w : World) (h : Lg w b cb base C S v L) : Calls Try.prog 17 #[.pointer (some ⟨b, 0, none⟩), .int .i64 0] w fun e w' => e = .returned (.tuple #[.int .i64 C, .int .i64 0]) ∧ w = w' := by
  obtain ⟨c0, c1, c2⟩ := h.facts
  go_enter Try.func17, Try.ntmps17
  go_wp2_with (first
    | (go_at_call 34; (with_reducible refine (Size_any cb C _ h.conn).mono ?_); rintro e w1 ⟨rfl, rfl⟩)
    )
  try go_quiet ((go_at_call 34; exact Calls.quiet_of_same ((Size_any cb C _ (h.conn.drewN _)).mono fun _ _ hh => ⟨hh.1, hh.2.symm⟩)))
  go_ret2
  exact ⟨rfl, rfl⟩
theorem Spent_0 (w : World) (h : Lg w b cb base C S v L) : Calls Try.prog 18 #[.pointer (some ⟨b, 0, none⟩), .int .i64 0] w fun e w' => e = .returned (.tuple #[.int .i64 S, .int .i64 0]) ∧ w = w' := by
  obtain ⟨c0, c1, c2⟩ := h.facts
  go_enter Try.func18, Try.ntmps18
  go_wp2
  go_ret2
  exact ⟨rfl, rfl⟩
theorem Spent_in (i : Nat) (x : Gn) (id : Int) (w : World) (h : Lg w b cb base C S v L) (hl : L.length ≤ 1000) (hr : rise L) (hx : L[i]? = some x) (hid : x.id = id) (h0 : (id == 0) = false) :
    Calls Try.prog 18 #[.pointer (some ⟨b, 0, none⟩), .int .i64 id] w fun e w' => e = .returned (.tuple #[.int .i64 x.s, .int .i64 0]) ∧ Only Nil w w' := by
  obtain ⟨A, cap, rfl, hcp, hm⟩ := h.own.form
  rw [List.length_map] at h hcp
  have hil := (List.getElem?_eq_some_iff.1 hx).1
  have hP := Lib.hid (fun W (k : Lg W b cb base C S (.slice A L.length cap) L) => place_in i x id W k hl hr hx hid)
  have hR := Lib.hid (fun W (k : Lg W b cb base C S (.slice A L.length cap) L) => k.row hx)
  have hW := Lib.hid (fun W (k : Lg W b cb base C S (.slice A L.length cap) L) => k.win hx)
  generalize L.length = n at *
  have hii : (i : Int) < n := by omega
  clear hx hr hl
  go_enter Try.func18, Try.ntmps18
  go_wp2_with (first
    | (go_at_call 30; (with_reducible refine (hP.out _ h).mono ?_); rintro e w1 ⟨rfl, ho1⟩; have h1 := h.kept ho1; obtain ⟨g, o, rfl, hg, e0, e1, e2⟩ := hR.out _ h1; have k2 := h1.blk.cell 2)
    )
  go_ret2
  exact ⟨rfl, ho1⟩
theorem Spent_out (id : Int) (w : World) (h : Lg w b cb base C S v L) (hl : L.length ≤ 1000) (hid : outL L id) (h0 : (id == 0) = false) :
    Calls Try.prog 18 #[.pointer (some ⟨b, 0, none⟩), .int .i64 id] w fun e w' => e = .returned (.tuple #[.int .i64 0, .int .i64 7]) ∧ Only Nil w w' := by
  go_enter Try.func18, Try.ntmps18
  go_wp2_with (first
    | (go_at_call 30; (with_reducible refine (place_out id _ h hl hid).mono ?_); rintro e w1 ⟨r, rfl, hr, ho1⟩)
    )
  go_ret2
  exact ⟨rfl, ho1⟩
theorem Size_in (i : Nat) (x : Gn) (id : Int) (w : World) (h : Lg w b cb base C S v L) (hl : L.length ≤ 1000) (hr : rise L) (hx : L[i]? = some x) (hid : x.id = id) (h0 : (id == 0) = false) :
    Calls Try.prog 17 #[.pointer (some ⟨b, 0, none⟩), .int .i64 id] w fun e w' => e = .returned (.tuple #[.int .i64 x.n, .int .i64 0]) ∧ Only Nil w w' := by
  obtain ⟨A, cap, rfl, hcp, hm⟩ := h.own.form
  rw [List.length_map] at h hcp
  have hil := (List.getElem?_eq_some_iff.1 hx).1
  have hP := Lib.hid (fun W (k : Lg W b cb base C S (.slice A L.length cap) L) => place_in i x id W k hl hr hx hid)
  have hR := Lib.hid (fun W (k : Lg W b cb base C S (.slice A L.length cap) L) => k.row hx)
  have hW := Lib.hid (fun W (k : Lg W b cb base C S (.slice A L.length cap) L) => k.win hx)
  generalize L.length = n at *
  have hii : (i : Int) < n := by omega
  clear hx hr hl
  go_enter Try.func17, Try.ntmps17
  go_wp2_with (first
    | (go_at_call 30; (with_reducible refine (hP.out _ h).mono ?_); rintro e w1 ⟨rfl, ho1⟩; have h1 := h.kept ho1; obtain ⟨g, o, rfl, hg, e0, e1, e2⟩ := hR.out _ h1; have k2 := h1.blk.cell 2; have hw1 := hW.out _ h1)
    | (go_at_call 34; (with_reducible refine (Size_any x.b x.n _ hw1).mono ?_); rintro e w2 ⟨rfl, rfl⟩)
    )
  go_ret2
  exact ⟨rfl, ho1⟩
theorem Size_out (id : Int) (w : World) (h : Lg w b cb base C S v L) (hl : L.length ≤ 1000) (hid : outL L id) (h0 : (id == 0) = false) :
    Calls Try.prog 17 #[.pointer (some ⟨b, 0, none⟩), .int .i64 id] w fun e w' => e = .returned (.tuple #[.int .i64 0, .int .i64 7]) ∧ Only Nil w w' := by
  go_enter Try.func17, Try.ntmps17
  go_wp2_with (first
    | (go_at_call 30; (with_reducible refine (place_out id _ h hl hid).mono ?_); rintro e w1 ⟨r, rfl, hr, ho1⟩)
    )
  go_ret2
  exact ⟨rfl, ho1⟩
def frI (C n : Int) : Int := min (max C 0) (max n 0)
theorem Free_in (i : Nat) (x : Gn) (id : Int) (w : World) (h : Lg w b cb base C S v L) (hl : L.length ≤ 1000) (hr : rise L) (hx : L[i]? = some x) (hid : x.id = id) :
    Calls Try.prog 19 #[.pointer (some ⟨b, 0, none⟩), .int .i64 id] w fun e w' => e = .returned (.int .i64 (frI C x.n)) ∧ Only Nil w w' := by
  obtain ⟨A, cap, rfl, hcp, hm⟩ := h.own.form
  rw [List.length_map] at h hcp
  have hil := (List.getElem?_eq_some_iff.1 hx).1
  have hP := Lib.hid (fun W (k : Lg W b cb base C S (.slice A L.length cap) L) => place_in i x id W k hl hr hx hid)
  have hR := Lib.hid (fun W (k : Lg W b cb base C S (.slice A L.length cap) L) => k.row hx)
  have hW := Lib.hid (fun W (k : Lg W b cb base C S (.slice A L.length cap) L) => k.win hx)
  generalize L.length = n at *
  have hii : (i : Int) < n := by omega
  clear hx hr hl
  unfold frI
  have hC := Lib.hid (fun W (k : Lg W b cb base C S (.slice A n cap) L) => Free_any cb C W k.conn)
  have hF := Lib.hid (fun W (k : Win W x.b x.n) => Free_any x.b x.n W k)
  generalize max C 0 = c1 at *
  generalize max x.n 0 = c2 at *
  have hmf := mkf Try.prog
  by_cases hle : c2 < c1
  · have hmin : min c1 c2 = c2 := by omega
    rw [hmin]
    go_enter Try.func19, Try.ntmps19
    go_wp2_with (first
      | (go_at_call 30; (with_reducible refine (hP.out _ h).mono ?_); rintro e w1 ⟨rfl, ho1⟩; have h1 := h.kept ho1; obtain ⟨g, o, rfl, hg, e0, e1, e2⟩ := hR.out _ h1; have k2 := h1.blk.cell 2; have k0 := h1.blk.cell 0; have hw1 := hW.out _ h1)
      | (go_at_call 35; (with_reducible refine (hC.out _ h1).mono ?_); rintro e w2 ⟨rfl, rfl⟩)
      | (go_at_call 35; (with_reducible refine (hF.out _ hw1).mono ?_); rintro e w3 ⟨rfl, rfl⟩)
      )
    go_ret
    exact ⟨rfl, ho1⟩
  · have hmin : min c1 c2 = c1 := by omega
    rw [hmin]
    go_enter Try.func19, Try.ntmps19
    go_wp2_with (first
      | (go_at_call 30; (with_reducible refine (hP.out _ h).mono ?_); rintro e w1 ⟨rfl, ho1⟩; have h1 := h.kept ho1; obtain ⟨g, o, rfl, hg, e0, e1, e2⟩ := hR.out _ h1; have k2 := h1.blk.cell 2; have k0 := h1.blk.cell 0; have hw1 := hW.out _ h1)
      | (go_at_call 35; (with_reducible refine (hC.out _ h1).mono ?_); rintro e w2 ⟨rfl, rfl⟩)
      | (go_at_call 35; (with_reducible refine (hF.out _ hw1).mono ?_); rintro e w3 ⟨rfl, rfl⟩)
      )
    go_ret
    exact ⟨rfl, ho1⟩
theorem Free_out (id : Int) (w : World) (h : Lg w b cb base C S v L) (hl : L.length ≤ 1000) (hid : outL L id) :
    Calls Try.prog 19 #[.pointer (some ⟨b, 0, none⟩), .int .i64 id] w fun e w' => e = .returned (.int .i64 0) ∧ Only Nil w w' := by
  go_enter Try.func19, Try.ntmps19
  go_wp2_with (first
    | (go_at_call 30; (with_reducible refine (place_out id _ h hl hid).mono ?_); rintro e w1 ⟨r, rfl, hr, ho1⟩)
    )
  go_ret
  exact ⟨rfl, ho1⟩
theorem take_ids {L : List Gn} {k : Nat} {x : Gn} (hx : L[k]? = some x) : ((L.take (k + 1)).map (·.id)) = (L.take k).map (·.id) ++ [x.id] := by
  rw [List.take_add_one, hx]
  simp
theorem la2' {α : Type} {Y : List α} {p : α} {k : Nat} (h : Y.length = k) : Y.length + [p].length = k + 1 := by simp [h]
def IdsPost (w : World) (l : List Int) (x : Ending) (w' : World) : Prop := ∃ A cap, x = .returned (.slice A l.length cap) ∧ Sq encZ 1 w' w'.heap.size A l ∧ Only Nil w w'
set_option maxHeartbeats 2000000 in
theorem IDs_any (w : World) (h : Lg w b cb base C S v L) (hl : L.length ≤ 1000) : Calls Try.prog 14 #[.pointer (some ⟨b, 0, none⟩)] w (IdsPost w (L.map (·.id))) := by
  obtain ⟨A, cap, rfl, hcp, hm⟩ := h.own.form
  obtain ⟨c0, c1, c2⟩ := h.facts
  rw [List.length_map] at c2 h hcp
  have hR := Lib.hid (fun W i (x : Gn) (k : Lg W b cb base C S (.slice A L.length cap) L) (hx : L[i]? = some x) => k.row hx)
  have hfull : Hid ((L.take L.length).map (·.id) = L.map (·.id)) := Lib.hid (by rw [List.take_length])
  generalize hn : L.length = n at *
  have HN := Lib.hid hn
  have hmk := hmake0 n (by omega)
  have hO0 := made_own0 n (by omega) w
  have hB0 := h.blk.alloc (.cells (madeCells #[.int .i64 0] n) 3)
  have d2 := hB0.cell 2
  clear hn
  go_enter Try.func14, Try.ntmps14
  go_wp2
  go_loopw [3, 19] (fun vv ii wr => ∃ (k : Nat) (Av : Option Addr) (cv : Nat), k ≤ n ∧ ii = .int .i64 k ∧ vv = .slice Av k cv ∧ Only Nil w wr ∧ Ow encZ 1 wr w.heap.size 3 (.slice Av k cv) ((L.take k).map (·.id))) (fun _ ii _ => n - (intOf ii).toNat)
  case atStart => exact ⟨0, _, _, Nat.zero_le _, rfl, rfl, (Only.refl _ _).alloc _, hO0⟩
  case round =>
    obtain ⟨k, Av, cv, hk, rfl, rfl, ho, hO⟩ := hrel
    by_cases hlt : k < n
    · obtain ⟨x, hx⟩ : ∃ x, L[k]? = some x := ⟨_, List.getElem?_eq_getElem (by have := HN.out; omega)⟩
      obtain ⟨g, o, rfl, hg, e0, e1, e2⟩ := hR.out _ _ _ (h.kept ho) hx
      have hki : (k : Int) < n := by omega
      have hT := Lib.hid (take_ids hx)
      have hLk : Hid (((L.take k).map (·.id)).length = k) := Lib.hid (by have := HN.out; simp; omega)
      clear hx
      have ho1 := (ho.alloc (.cells #[.int .i64 x.id, .int .i64 x.s, .pointer (some ⟨x.b, 0, none⟩)] 61)).alloc (.cells #[.int .i64 x.id] 3)
      have hO1 := (hO.alloc (.cells #[.int .i64 x.id, .int .i64 x.s, .pointer (some ⟨x.b, 0, none⟩)] 61)).alloc (.cells #[.int .i64 x.id] 3)
      have hN : Blk ((wr.alloc (.cells #[.int .i64 x.id, .int .i64 x.s, .pointer (some ⟨x.b, 0, none⟩)] 61)).alloc (.cells #[.int .i64 x.id] 3)) (wr.heap.size + 1) 3 #[.int .i64 x.id] := by
        have := Blk.new (wr.alloc (.cells #[.int .i64 x.id, .int .i64 x.s, .pointer (some ⟨x.b, 0, none⟩)] 61)) 3 #[.int .i64 x.id]
        simpa using this
      have t1 := Src.one (P := Try.prog) (enc := encZ) (tx := 42) Try.underlying42 x.id 1 rfl hN rfl (encZ_one _)
      go_wp2_with (first
        | (at_builtin
           refine wpList_app2 rfl (.tmp 23) (.tmp 26) _ _ rfl w.heap.size 3 Try.underlying42 int_info rfl _ _ rfl hO1 _ [x.id] rfl t1 (by rw [la2' hLk.out]; omega) (by decide) ho1.size (k + 1) (la2' hLk.out) _ hT.out.symm ?_
           intro A6 c6 w6 hown6 ho6 hg6
           have ho6' := ho1.own_nil hO1 ho6)
        )
      go_roundw
      case rel => exact ⟨k + 1, A6, c6, by omega, by go_num, rfl, ho6', hown6⟩
      case measure => simp [intOf]; omega
    · obtain rfl : k = n := by omega
      have hsq := hO.sqn (fun _ _ => rfl)
      rw [hfull.out] at hsq
      have hln : Hid ((L.map (·.id)).length = k) := Lib.hid (by have := HN.out; simp; omega)
      go_wp2
      go_ret
      exact ⟨Av, cv, by rw [hln.out]; rfl, hsq, ho⟩
/-! ### a nil ledger -/
theorem Open_nil (i n : Int) (w : World) : Calls Try.prog 11 #[.pointer none, .int .i64 i, .int .i64 n] w fun e w' => e = .returned (.int .i64 1) ∧ w = w' := by
  go_enter Try.func11, Try.ntmps11
  go_wp2
  go_ret
  exact ⟨rfl, rfl⟩
theorem Close_nil (i : Int) (w : World) : Calls Try.prog 12 #[.pointer none, .int .i64 i] w fun e w' => e = .returned (.int .i64 1) ∧ w = w' := by
  go_enter Try.func12, Try.ntmps12
  go_wp2
  go_ret
  exact ⟨rfl, rfl⟩
theorem Spend_nil (i n : Int) (w : World) : Calls Try.prog 16 #[.pointer none, .int .i64 i, .int .i64 n] w fun e w' => e = .returned (.int .i64 1) ∧ w = w' := by
  go_enter Try.func16, Try.ntmps16
  go_wp2
  go_ret
  exact ⟨rfl, rfl⟩
theorem Grow_nil (i n : Int) (w : World) : Calls Try.prog 13 #[.pointer none, .int .i64 i, .int .i64 n] w fun e w' => e = .returned (.int .i64 1) ∧ w = w' := by
  go_enter Try.func13, Try.ntmps13
  go_wp2
  go_ret
  exact ⟨rfl, rfl⟩
theorem Resize_nil (i n : Int) (w : World) : Calls Try.prog 15 #[.pointer none, .int .i64 i, .int .i64 n] w fun e w' => e = .returned (.int .i64 1) ∧ w = w' := by
  go_enter Try.func15, Try.ntmps15
  go_wp2
  go_step3
  go_wp2
  rw [Exit.noGoto_ret]
  go_ret
  exact ⟨rfl, rfl⟩
theorem Free_nil' (i : Int) (w : World) : Calls Try.prog 19 #[.pointer none, .int .i64 i] w fun e w' => e = .returned (.int .i64 0) ∧ w = w' := by
  go_enter Try.func19, Try.ntmps19
  go_wp2
  go_ret
  exact ⟨rfl, rfl⟩
theorem Size_nil' (i : Int) (w : World) : Calls Try.prog 17 #[.pointer none, .int .i64 i] w fun e w' => e = .returned (.tuple #[.int .i64 0, .int .i64 1]) ∧ w = w' := by
  go_enter Try.func17, Try.ntmps17
  go_wp2
  go_ret2
  exact ⟨rfl, rfl⟩
theorem Spent_nil' (i : Int) (w : World) : Calls Try.prog 18 #[.pointer none, .int .i64 i] w fun e w' => e = .returned (.tuple #[.int .i64 0, .int .i64 1]) ∧ w = w' := by
  go_enter Try.func18, Try.ntmps18
  go_wp2
  go_ret2
  exact ⟨rfl, rfl⟩
theorem IDs_nil (w : World) : Calls Try.prog 14 #[.pointer none] w fun e w' => e = .returned (.slice none 0 0) ∧ w = w' := by
  go_enter Try.func14, Try.ntmps14
  go_wp2
  go_ret
  exact ⟨rfl, rfl⟩
end
end Go.Proofs.Ytlnemadkggfmbaa
