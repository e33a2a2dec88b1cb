/- A sender of bytes: what waits, stuck, and Clear. A sender of items, whole. -/
import Derived.Test.YtjhjfgelcbphjaaDoorTxP
import Derived.Test.YtjhjfgelcbphjaaDoorQueue3
namespace Go.Proofs.YtjhjfgelcbphjaaDoor
open Go.RowKit

section
variable {w w' : World} {b r g base c F : Nat} {row L : List UInt8} {A S D : Int} {en ou : Bool}
set_option maxHeartbeats 2000000 in
theorem TClear_y (w : World) (h : TBy w b r g base c F row L A S D en ou) (hc : cOk L.length A S D) : Calls Tryd.prog 60 #[.pointer (some ⟨b, 0, none⟩)] w (TyPost w b r g base c (.int .i64 L.length) [] A S (D + L.length) en ou) := by
  obtain ⟨i1, i2, i3, i4, i5⟩ := hc
  obtain ⟨c0, c1, c2, c3, c4, c5, c6, c7, c8, zb⟩ := h.facts
  have hR := Lib.hid (Clear_any w.drew (h.kept ((Only.refl Nil w).drew)).ring)
  have hner := Lib.hid h.ner
  have hneg := Lib.hid h.neg
  have H := Lib.hid (h.kept ((Only.refl Nil w).drew))
  have s0 : w.drew.cell? ⟨b, 4, none⟩ = some (.pointer (some ⟨r, 0, none⟩)) ∧ w.drew.cell? ⟨b, 5, none⟩ = some (.pointer none) := ⟨c4, c5⟩
  generalize L.length = m at *
  have hm : m ≤ 1000000 := by omega
  have hD : D ≤ 1000000 := by omega
  have hw : IntKind.i64.wrap (m : Int) = m := IntWalk.i64_in _ (by omega)
  clear h i1
  go_enter Tryd.func60, Tryd.ntmps60
  go_wp2
  go_region_held3 (fun W => W.cell? ⟨b, 4, none⟩ = some (.pointer (some ⟨r, 0, none⟩)) ∧ W.cell? ⟨b, 5, none⟩ = some (.pointer none)) (with_reducible (first | exact s0 | exact s1)) (first
    | (go_at_call 84; (with_reducible refine (Qu.Clear_nil _).mono ?_); rintro e w2 ⟨rfl, rfl⟩)
    | (go_at_call 83; (with_reducible refine (hR.out).mono ?_); rintro e w1 ⟨F1, rfl, hR1, ho1⟩; have hB1 := H.out.blk.kept ho1 (fun hh => hner.out hh); have s1 : w1.cell? ⟨b, 4, none⟩ = some (.pointer (some ⟨r, 0, none⟩)) ∧ w1.cell? ⟨b, 5, none⟩ = some (.pointer none) := ⟨hB1.cell 4, hB1.cell 5⟩)
    )
  have d2 := hB1.cell 2
  have zd := hB1.lt
  have f2 := hB1.frozen 2
  have HB1 := Lib.hid hB1
  clear hB1
  go_wp2
  go_ret
  have hT1 : TBy w1 b r g base c F1 row [] A S D en ou := ⟨HB1.out, hR1, H.out.hb⟩
  exact ⟨F1, row, rfl, hT1.put 2 _ rfl, (((Only.refl _ w).drew.trans ho1.thr1).thrB 2 _)⟩
end
/-! ### items -/
structure TIt (w : World) (b q dm base : Nat) (v : Value) (cp st : Int) (L : List ByteArray) (wn A S D : Int) (en ou : Bool) : Prop where
  blk : Blk w b 111 #[.int .i64 A, .int .i64 S, .int .i64 D, .int .i64 2, .pointer none, .pointer (some ⟨q, 0, none⟩), .pointer (some ⟨dm, 0, none⟩), .bool en, .bool ou]
  qu : Qu.Qs 135 w q base cp st v L A S D
  dem : Dem.Dem w dm wn 2147483647
  hb : base ≤ b
  hd : base ≤ dm
def FIt (b q dm : Nat) (v : Value) : Nat → Prop := fun k => k = b ∨ k = dm ∨ Qu.Fp q v k
def TiPost (w : World) (b q dm base : Nat) (v0 : Value) (cp st : Int) (r : Value) (L : List ByteArray) (wn A S D : Int) (en ou : Bool) (x : Ending) (w' : World) : Prop :=
  ∃ v', x = .returned r ∧ TIt w' b q dm base v' cp st L wn A S D en ou ∧ Only (FIt b q dm v0) w w' ∧ ∀ g, v'.ownBlock = some g → v0.ownBlock = some g ∨ w.heap.size ≤ g
section
variable {w w' : World} {b q dm base : Nat} {v : Value} {cp st : Int} {L : List ByteArray} {wn A S D : Int} {en ou : Bool}
theorem TIt.bq (h : TIt w b q dm base v cp st L wn A S D en ou) : b ≠ q := fun e => by
  subst e
  exact absurd (h.blk.type h.qu.blk) (by decide)
theorem TIt.bd (h : TIt w b q dm base v cp st L wn A S D en ou) : b ≠ dm := fun e => by
  subst e
  exact absurd (h.blk.type h.dem) (by decide)
theorem TIt.qd (h : TIt w b q dm base v cp st L wn A S D en ou) : q ≠ dm := fun e => by
  subst e
  exact absurd (h.qu.blk.type h.dem) (by decide)
theorem TIt.vb (h : TIt w b q dm base v cp st L wn A S D en ou) : v.ownBlock ≠ some b := h.qu.own.ne h.blk (by decide)
theorem TIt.vd (h : TIt w b q dm base v cp st L wn A S D en ou) : v.ownBlock ≠ some dm := h.qu.own.ne h.dem (by decide)
theorem TIt.kept (h : TIt w b q dm base v cp st L wn A S D en ou) (ho : Only Nil w w') : TIt w' b q dm base v cp st L wn A S D en ou :=
  ⟨h.blk.kept ho (fun hh => hh), h.qu.kept ho, Blk.kept h.dem ho (fun hh => hh), h.hb, h.hd⟩
theorem TIt.facts (h : TIt w b q dm base v cp st L wn A S D en ou) : w.cell? ⟨b, 0, none⟩ = some (.int .i64 A) ∧ w.cell? ⟨b, 1, none⟩ = some (.int .i64 S) ∧ w.cell? ⟨b, 2, none⟩ = some (.int .i64 D) ∧ w.cell? ⟨b, 3, none⟩ = some (.int .i64 2) ∧ w.cell? ⟨b, 4, none⟩ = some (.pointer none) ∧
    w.cell? ⟨b, 5, none⟩ = some (.pointer (some ⟨q, 0, none⟩)) ∧ w.cell? ⟨b, 6, none⟩ = some (.pointer (some ⟨dm, 0, none⟩)) ∧ w.cell? ⟨b, 7, none⟩ = some (.bool en) ∧ w.cell? ⟨b, 8, none⟩ = some (.bool ou) ∧ b < w.heap.size :=
  ⟨h.blk.cell 0, h.blk.cell 1, h.blk.cell 2, h.blk.cell 3, h.blk.cell 4, h.blk.cell 5, h.blk.cell 6, h.blk.cell 7, h.blk.cell 8, h.blk.lt⟩
/-- its own block is another one, the rest stays -/
theorem TIt.mk' (hb : Blk w b 111 #[.int .i64 A, .int .i64 S, .int .i64 D, .int .i64 2, .pointer none, .pointer (some ⟨q, 0, none⟩), .pointer (some ⟨dm, 0, none⟩), .bool en, .bool ou]) {A0 S0 D0 : Int}
    (hq : Qu.Qs 135 w q base cp st v L A0 S0 D0) (hdm : Dem.Dem w dm wn 2147483647) (h1 : base ≤ b) (h2 : base ≤ dm) (e1 : A0 = A) (e2 : S0 = S) (e3 : D0 = D) : TIt w b q dm base v cp st L wn A S D en ou := by
  subst e1 e2 e3
  exact ⟨hb, hq, hdm, h1, h2⟩
/-- the queue and the count of a sender when its own block is written -/
theorem qset (hq : Qu.Qs 135 w q base cp st v L A S D) (hbq : b ≠ q) (hvb : v.ownBlock ≠ some b) (i : Nat) (u : Value) : Qu.Qs 135 (w.setCell ⟨b, i, none⟩ u) q base cp st v L A S D :=
  ⟨hq.blk.far (p := ⟨b, i, none⟩) hbq.symm u, hq.own.set hvb i u, hq.hb⟩
theorem dset (hd : Dem.Dem w dm wn 2147483647) (hbd : b ≠ dm) (i : Nat) (u : Value) : Dem.Dem (w.setCell ⟨b, i, none⟩ u) dm wn 2147483647 := Blk.far (p := ⟨b, i, none⟩) hd hbd.symm u
theorem Only.fitB (ho : Only (FIt b q dm v) w w') (i : Nat) (u : Value) : Only (FIt b q dm v) w (w'.setCell ⟨b, i, none⟩ u) := ho.setCell (p := ⟨b, i, none⟩) (fun _ => .inl rfl) u
theorem Only.fitQ (ho : Only (Qu.Fp q v) w w') : Only (FIt b q dm v) w w' := ho.weaken fun _ _ hh => .inr (.inr hh)
theorem Only.fitD (ho : Only (One dm) w w') : Only (FIt b q dm v) w w' := ho.weaken fun _ _ hh => .inr (.inl hh)
theorem TKind_i (w : World) (h : TIt w b q dm base v cp st L wn A S D en ou) : Calls Tryd.prog 43 #[.pointer (some ⟨b, 0, none⟩)] w fun x w' => x = .returned (.int .i64 2) ∧ w = w' := by
  obtain ⟨c0, c1, c2, c3, c4, c5, c6, c7, c8, zb⟩ := h.facts
  clear h
  go_enter Tryd.func43, Tryd.ntmps43
  go_wp2
  go_ret
  exact ⟨rfl, rfl⟩
theorem TTold_i (w : World) (h : TIt w b q dm base v cp st L wn A S D en ou) : Calls Tryd.prog 32 #[.pointer (some ⟨b, 0, none⟩)] w fun x w' => x = .returned (.agg #[.int .i64 A, .int .i64 S, .int .i64 D]) ∧ Only Nil w w' := by
  obtain ⟨c0, c1, c2, c3, c4, c5, c6, c7, c8, zb⟩ := h.facts
  clear h
  go_enter Tryd.func32, Tryd.ntmps32
  go_wp2
  exact bodyPost_ret (v := .agg #[.int .i64 A, .int .i64 S, .int .i64 D]) (by simp [results, Tryd.results32, go_sem]) rfl ⟨rfl, (Only.refl _ _).alloc _⟩
theorem TWanted_i (w : World) (h : TIt w b q dm base v cp st L wn A S D en ou) : Calls Tryd.prog 101 #[.pointer (some ⟨b, 0, none⟩)] w fun x w' => x = .returned (.int .i64 wn) ∧ w = w' := by
  obtain ⟨c0, c1, c2, c3, c4, c5, c6, c7, c8, zb⟩ := h.facts
  have hL := Lib.hid (Dem.Left_any dm wn 2147483647 w h.dem)
  clear h
  go_enter Tryd.func101, Tryd.ntmps101
  go_wp2_with (first
    | (go_at_call 99; (with_reducible refine (hL.out).mono ?_); rintro e w1 ⟨rfl, rfl⟩)
    )
  go_ret
  exact ⟨rfl, rfl⟩
theorem TEnd_i (w : World) (h : TIt w b q dm base v cp st L wn A S D false ou) : Calls Tryd.prog 65 #[.pointer (some ⟨b, 0, none⟩)] w (TiPost w b q dm base v cp st (.int .i64 0) L wn A S D true ou) := by
  obtain ⟨c0, c1, c2, c3, c4, c5, c6, c7, c8, zb⟩ := h.facts
  have f7 := h.blk.frozen 7
  have H := Lib.hid h
  clear h
  go_enter Tryd.func65, Tryd.ntmps65
  go_wp2
  go_ret
  exact ⟨v, rfl, ⟨H.out.blk.set 7 _, qset H.out.qu H.out.bq H.out.vb 7 _, dset H.out.dem H.out.bd 7 _, H.out.hb, H.out.hd⟩, (Only.refl _ _).fitB 7 _, fun _ hg => .inl hg⟩
theorem TEnd_ii (w : World) (h : TIt w b q dm base v cp st L wn A S D true ou) : Calls Tryd.prog 65 #[.pointer (some ⟨b, 0, none⟩)] w fun x w' => x = .returned (.int .i64 11) ∧ w = w' := by
  obtain ⟨c0, c1, c2, c3, c4, c5, c6, c7, c8, zb⟩ := h.facts
  clear h
  go_enter Tryd.func65, Tryd.ntmps65
  go_wp2
  go_ret
  exact ⟨rfl, rfl⟩
theorem TOffer_ii (X : ByteArray) (w : World) (h : TIt w b q dm base v cp st L wn A S D true ou) : Calls Tryd.prog 54 #[.pointer (some ⟨b, 0, none⟩), .string X] w fun x w' => x = .returned (.tuple #[.int .i64 0, .int .i64 11]) ∧ w = w' := by
  obtain ⟨c0, c1, c2, c3, c4, c5, c6, c7, c8, zb⟩ := h.facts
  clear h
  go_enter Tryd.func54, Tryd.ntmps54
  go_wp2
  go_ret2
  exact ⟨rfl, rfl⟩
theorem TWant_i (n k e N : Int) (w : World) (h : TIt w b q dm base v cp st L wn A S D en ou) (h0 : 0 ≤ wn) (h1 : wn ≤ 2147483647) (hk : Dem.addK wn 2147483647 n = k) (he : Dem.addE n = e) (hN : wn + k = N) : Calls Tryd.prog 47 #[.pointer (some ⟨b, 0, none⟩), .int .i64 n] w (TiPost w b q dm base v cp st (.int .i64 e) L N A S D en ou) := by
  obtain ⟨c0, c1, c2, c3, c4, c5, c6, c7, c8, zb⟩ := h.facts
  have hA := Lib.hid (Dem.Add_at dm wn 2147483647 n k e N w h.dem ⟨h0, h1, by decide⟩ hk he hN)
  have H := Lib.hid h
  clear h hk he hN
  go_enter Tryd.func47, Tryd.ntmps47
  go_wp2_with (first
    | (go_at_call 55; (with_reducible refine (hA.out).mono ?_); rintro e w1 ⟨rfl, ho1, hd1⟩)
    )
  go_ret
  exact ⟨v, rfl, ⟨H.out.blk.kept ho1 (fun hh => H.out.bd hh), ⟨H.out.qu.blk.kept ho1 (fun hh => H.out.qd hh), H.out.qu.own.kept ho1 (fun g hg hh => H.out.vd (by rw [hg, hh])), H.out.qu.hb⟩, hd1, H.out.hb, H.out.hd⟩, ho1.fitD, fun _ hg => .inl hg⟩
theorem TReady_i (n : Int) (w : World) (h : TIt w b q dm base v cp st L wn A S D en ou) (hc : cOk L.length A S D) (rb : Bool) (hrb : rdyF 2 n wn L.length en ou = rb) : Calls Tryd.prog 85 #[.pointer (some ⟨b, 0, none⟩), .int .i64 n] w fun x w' => x = .returned (.bool rb) ∧ Only Nil w w' := by
  obtain ⟨i1, i2, i3, i4, i5⟩ := hc
  have hW := Lib.hid (Waiting_in A S D L.length w (by omega) (by omega) (by omega) i3 (by omega) i4 (by omega))
  have hWn := Lib.hid (fun W (ho : Only Nil w W) => TWanted_i W (h.kept ho))
  have H := Lib.hid h
  obtain ⟨c0, c1, c2, c3, c4, c5, c6, c7, c8, zb⟩ := h.facts
  unfold rdyF at hrb
  generalize L.length = m at *
  clear h i1 i2 i3 i4 i5
  by_cases h0 : m = 0
  · subst h0
    rw [if_pos rfl] at hrb
    subst hrb
    cases en <;> cases ou
    all_goals
      go_enter Tryd.func85, Tryd.ntmps85
      go_wp2_with (first
        | (go_at_call 33; (with_reducible refine (hW.out).mono ?_); rintro e w1 ⟨rfl, ho1⟩; have d7 := (H.out.blk.kept ho1 (fun hh => hh)).cell 7; have d8 := (H.out.blk.kept ho1 (fun hh => hh)).cell 8; have zd := (H.out.blk.kept ho1 (fun hh => hh)).lt)
        )
      go_ret
      exact ⟨rfl, ho1⟩
  · rw [if_neg h0, if_pos rfl] at hrb
    subst hrb
    have hne : ¬ (m : Int) = 0 := by omega
    go_enter Tryd.func85, Tryd.ntmps85
    go_wp2_with (first
      | (go_at_call 33; (with_reducible refine (hW.out).mono ?_); rintro e w1 ⟨rfl, ho1⟩; have d3 := (H.out.blk.kept ho1 (fun hh => hh)).cell 3; have zd := (H.out.blk.kept ho1 (fun hh => hh)).lt)
      | (go_at_call 101; (with_reducible refine (hWn.out _ ho1).mono ?_); rintro e w2 ⟨rfl, rfl⟩)
      )
    go_ret
    exact ⟨rfl, ho1⟩
end
end Go.Proofs.YtjhjfgelcbphjaaDoor
