/- What the calls of a stream that was made do: sends, Offer, Finish, Take, Gone. -/
import Derived.Test.YtjhjfgelcbphjaaDoorStrm2
namespace Go.Proofs.YtjhjfgelcbphjaaDoor
open Go.RowKit

theorem Only.ofB {B : Nat} {w w' : World} (h : Below B w w') : Only (fun k => B ≤ k) w w' := ⟨h.os, h.tape, h.output, h.size, fun i _ hn => h.block i (by omega)⟩
section
variable {w w' : World} {s l t r base : Nat} {F F' : Nat → Prop} {id kd z cp st : Int} {own : Bool} {B : List UInt8} {L : List ByteArray} {wn A S D : Int} {en ou : Bool}
theorem STx_s (h : Sm w s l t r base F id kd own z cp st B L wn en ou A S D) : Calls Tryd.prog 16 #[.pointer (some ⟨s, 0, none⟩)] w fun x w' => x = .returned (.pointer (some ⟨t, 0, none⟩)) ∧ w = w' := by
  obtain ⟨c0, c1, c2, c3, c4, zb⟩ := h.facts
  clear h
  go_enter Tryd.func16, Tryd.ntmps16
  go_wp2
  go_ret
  exact ⟨rfl, rfl⟩
theorem SRx_s (h : Sm w s l t r base F id kd own z cp st B L wn en ou A S D) : Calls Tryd.prog 17 #[.pointer (some ⟨s, 0, none⟩)] w fun x w' => x = .returned (.pointer (some ⟨r, 0, none⟩)) ∧ w = w' := by
  obtain ⟨c0, c1, c2, c3, c4, zb⟩ := h.facts
  clear h
  go_enter Tryd.func17, Tryd.ntmps17
  go_wp2
  go_ret
  exact ⟨rfl, rfl⟩
theorem SID_s (h : Sm w s l t r base F id kd own z cp st B L wn en ou A S D) : Calls Tryd.prog 11 #[.pointer (some ⟨s, 0, none⟩)] w fun x w' => x = .returned (.int .i64 id) ∧ w = w' := by
  obtain ⟨c0, c1, c2, c3, c4, zb⟩ := h.facts
  clear h
  go_enter Tryd.func11, Tryd.ntmps11
  go_wp2
  go_ret
  exact ⟨rfl, rfl⟩
theorem SOwn_s (h : Sm w s l t r base F id kd own z cp st B L wn en ou A S D) : Calls Tryd.prog 13 #[.pointer (some ⟨s, 0, none⟩)] w fun x w' => x = .returned (.bool own) ∧ w = w' := by
  obtain ⟨c0, c1, c2, c3, c4, zb⟩ := h.facts
  clear h
  go_enter Tryd.func13, Tryd.ntmps13
  go_wp2
  go_ret
  exact ⟨rfl, rfl⟩
theorem SKind_s (h : Sm w s l t r base F id kd own z cp st B L wn en ou A S D) : Calls Tryd.prog 12 #[.pointer (some ⟨s, 0, none⟩)] w fun x w' => x = .returned (.int .i64 kd) ∧ w = w' := by
  have hT := Lib.hid (STx_s h)
  have hK := Lib.hid (PT.Kind h.tx)
  clear h
  go_enter Tryd.func12, Tryd.ntmps12
  go_wp2_with (first
    | (go_at_call 16; (with_reducible refine (hT.out).mono ?_); rintro e w1 ⟨rfl, rfl⟩)
    | (go_at_call 43; (with_reducible refine (hK.out).mono ?_); rintro e w1 ⟨rfl, rfl⟩)
    )
  go_ret
  exact ⟨rfl, rfl⟩
def dtF (kd : Int) : Int := if kd = 2 then 1 else 0
theorem dataType_s (h : Sm w s l t r base F id kd own z cp st B L wn en ou A S D) : Calls Tryd.prog 49 #[.pointer (some ⟨s, 0, none⟩)] w fun x w' => x = .returned (.int .i64 (dtF kd)) ∧ w = w' := by
  have hK := Lib.hid (SKind_s h)
  clear h
  by_cases k2 : kd = 2
  · have e1 : dtF kd = 1 := by simp [dtF, k2]
    rw [e1]
    have ek : (kd == 2) = true := by simpa using k2
    clear k2 e1
    go_enter Tryd.func49, Tryd.ntmps49
    go_wp2_with (first
      | (go_at_call 12; (with_reducible refine (hK.out).mono ?_); rintro e w1 ⟨rfl, rfl⟩)
      )
    go_ret
    exact ⟨rfl, rfl⟩
  · have e1 : dtF kd = 0 := by simp [dtF, k2]
    rw [e1]
    have ek : (kd == 2) = false := by simpa using k2
    clear k2 e1
    go_enter Tryd.func49, Tryd.ntmps49
    go_wp2_with (first
      | (go_at_call 12; (with_reducible refine (hK.out).mono ?_); rintro e w1 ⟨rfl, rfl⟩)
      )
    go_ret
    exact ⟨rfl, rfl⟩
theorem sends_s (h : Sm w s l t r base F id kd own z cp st B L wn en ou A S D) (hF : Fol w) (e : Int) (he : (if okB z 2 = true then (0 : Int) else 14) = e) : Calls Tryd.prog 53 #[.pointer (some ⟨s, 0, none⟩)] w fun x w' => x = .returned (.int .i64 e) ∧ Only Nil w w' := by
  obtain ⟨c0, c1, c2, c3, c4, zb⟩ := h.facts
  have hM := MaySend_of _ z w hF (State_any l z w h.life)
  clear h
  cases hb : okB z 2 with
  | true =>
    rw [hb, if_pos rfl] at he
    rw [hb] at hM
    subst he
    have HM := Lib.hid hM
    clear hb hM
    go_enter Tryd.func53, Tryd.ntmps53
    go_wp2_with (first
      | (go_at_call 14; (with_reducible refine (HM.out).mono ?_); rintro e w1 ⟨rfl, ho1⟩)
      )
    go_ret
    exact ⟨rfl, ho1⟩
  | false =>
    rw [hb, if_neg (by decide)] at he
    rw [hb] at hM
    subst he
    have HM := Lib.hid hM
    clear hb hM
    go_enter Tryd.func53, Tryd.ntmps53
    go_wp2_with (first
      | (go_at_call 14; (with_reducible refine (HM.out).mono ?_); rintro e w1 ⟨rfl, ho1⟩)
      )
    go_ret
    exact ⟨rfl, ho1⟩
def SmPost (w : World) (s l t r base : Nat) (F : Nat → Prop) (v : Value) (id kd : Int) (own : Bool) (z cp st : Int) (B : List UInt8) (L : List ByteArray) (wn : Int) (en ou : Bool) (A S D : Int) (x : Ending) (w' : World) : Prop :=
  ∃ F', x = .returned v ∧ Sm w' s l t r base F' id kd own z cp st B L wn en ou A S D ∧ Below base w w' ∧ Grew w F F'
theorem SOffer_s {rr e A' D' : Int} {B' : List UInt8} {L' : List ByteArray} (X : ByteArray) (h : Sm w s l t r base F id kd own z cp st B L wn en ou A S D) (hF : Fol w) (hz : okB z 2 = true) (hr : OfR kd cp st X B L A D en rr e B' L' A' D') (hc : cOk (nOf B L : Nat) A S D) (hl : kd = 2 → L.length ≤ 1000) :
    Calls Tryd.prog 28 #[.pointer (some ⟨s, 0, none⟩), .string X] w (SmPost w s l t r base F (.tuple #[.int .i64 rr, .int .i64 e]) id kd own z cp st B' L' wn en ou A' S D') := by
  have hS := Lib.hid (sends_s h hF 0 (by rw [hz]; rfl))
  have hO := Lib.hid (fun W (ho : Only Nil w W) => PT.Offer X (h.tx.kept ho) hr hc hl)
  have HK := Lib.hid (fun W (ho : Only Nil w W) => (h.kept ho).facts)
  have H := Lib.hid h
  clear h hr hc hl
  go_enter Tryd.func28, Tryd.ntmps28
  go_wp2_with (first
    | (go_at_call 53; (with_reducible refine (hS.out).mono ?_); rintro e w1 ⟨rfl, ho1⟩; obtain ⟨d0, d1, d2, d3, d4, zd⟩ := HK.out _ ho1)
    | (go_at_call 54; (with_reducible refine (hO.out _ ho1).mono ?_); rintro e w2 ⟨F2, rfl, hp2, ho2, hg2⟩)
    )
  go_ret2
  exact ⟨F2, rfl, (H.out.kept ho1).txDone hp2 ho2 hg2, (ho1.below H.out.tx.sz (fun _ _ hh => hh)).trans ((H.out.tx.kept ho1).below ho2), fun k hk => (hg2 k hk).imp _root_.id (fun e => Nat.le_trans ho1.size e)⟩
theorem SFinish_s (h : Sm w s l t r base F id kd own z cp st B L wn false ou A S D) (hF : Fol w) (hz : okB z 2 = true) :
    Calls Tryd.prog 36 #[.pointer (some ⟨s, 0, none⟩)] w (SmPost w s l t r base F (.int .i64 0) id kd own z cp st B L wn true ou A S D) := by
  have hS := Lib.hid (sends_s h hF 0 (by rw [hz]; rfl))
  have hO := Lib.hid (fun W (ho : Only Nil w W) => PT.End0 (h.tx.kept ho))
  have HK := Lib.hid (fun W (ho : Only Nil w W) => (h.kept ho).facts)
  have H := Lib.hid h
  clear h
  go_enter Tryd.func36, Tryd.ntmps36
  go_wp2_with (first
    | (go_at_call 53; (with_reducible refine (hS.out).mono ?_); rintro e w1 ⟨rfl, ho1⟩; obtain ⟨d0, d1, d2, d3, d4, zd⟩ := HK.out _ ho1)
    | (go_at_call 65; (with_reducible refine (hO.out _ ho1).mono ?_); rintro e w2 ⟨F2, rfl, hp2, ho2, hg2⟩)
    )
  go_ret
  exact ⟨F2, rfl, (H.out.kept ho1).txDone hp2 ho2 hg2, (ho1.below H.out.tx.sz (fun _ _ hh => hh)).trans ((H.out.tx.kept ho1).below ho2), fun k hk => (hg2 k hk).imp _root_.id (fun e => Nat.le_trans ho1.size e)⟩
theorem frames_s (w : World) : Calls Tryd.prog 64 #[.pointer (some ⟨s, 0, none⟩)] w fun x w' => ∃ k, x = .returned (.func (.func 87) #[] #[.pointer (some ⟨k, 0, none⟩)]) ∧ Only Nil w w' ∧ Blk w' k 28 #[.pointer (some ⟨s, 0, none⟩)] := by
  have hmf := mkf Tryd.prog
  go_enter Tryd.func64, Tryd.ntmps64
  go_wp2
  go_ret
  exact ⟨_, rfl, (Only.refl _ _).alloc _, Blk.new _ _ _⟩
abbrev dfr (kd id : Int) (X : ByteArray) (o : Bool) : Frm := ⟨dtF kd, id, o, X, 0, 0, 0, false, 0, 0, 0, []⟩
set_option maxRecDepth 100000 in
set_option maxHeartbeats 2000000 in
theorem frames1_s (X : ByteArray) (o : Bool) (k : Nat) (h : Sm w s l t r base F id kd own z cp st B L wn en ou A S D) (hk : Blk w k 28 #[.pointer (some ⟨s, 0, none⟩)]) :
    Calls Tryd.prog 87 #[.string X, .bool o, .pointer (some ⟨k, 0, none⟩)] w fun x w' => x = .returned (frmV (dfr kd id X o) (.slice none 0 0)) ∧ Only Nil w w' := by
  have hn := Lib.hid (((Only.refl Nil w).alloc (.cells (frC zfr (.slice none 0 0)) 62)).drew)
  have hD := Lib.hid (fun W (ho : Only Nil w W) => dataType_s (h.kept ho))
  have hS0 := Lib.hid (fun W (ho : Only Nil w W) => (show W.cell? ⟨k, 0, none⟩ = some (.pointer (some ⟨s, 0, none⟩)) ∧ W.cell? ⟨s, 1, none⟩ = some (.int .i64 id) from ⟨(hk.kept ho (fun hh => hh)).cell 0, (h.blk.kept ho (fun hh => hh)).cell 1⟩))
  have hk1 := (hk.kept hn.out (fun hh => hh)).cell 0
  have hs1 := (h.blk.kept hn.out (fun hh => hh)).cell 1
  have s0 : (w.alloc (.cells (frC zfr (.slice none 0 0)) 62)).drew.cell? ⟨k, 0, none⟩ = some (.pointer (some ⟨s, 0, none⟩)) ∧ (w.alloc (.cells (frC zfr (.slice none 0 0)) 62)).drew.cell? ⟨s, 1, none⟩ = some (.int .i64 id) := ⟨hk1, hs1⟩
  have zk := hk.lt
  have zs := h.blk.lt
  clear h hk hk1 hs1
  go_enter Tryd.func87, Tryd.ntmps87
  go_wp2
  have nk : w.heap.size ≠ k := by omega
  have ns : w.heap.size ≠ s := by omega
  go_region_held3 (fun W => W.cell? ⟨k, 0, none⟩ = some (.pointer (some ⟨s, 0, none⟩)) ∧ W.cell? ⟨s, 1, none⟩ = some (.int .i64 id)) (first | (with_reducible exact s0) | (exact hS0.out _ (((Only.refl Nil w).alloc _).drew))) (first
    | (go_at_call 49; (with_reducible refine (hD.out _ hn.out).mono ?_); rintro e w1 ⟨rfl, rfl⟩)
    )
  go_wp2
  exact bodyPost_ret (v := frmV (dfr kd id X o) (.slice none 0 0)) (by simp [results, Tryd.results87, go_sem]) rfl ⟨rfl, ((Only.refl Nil w).alloc _).drew⟩
theorem Grew.nil {w1 : World} (ho : Only Nil w w1) {F1 : Nat → Prop} (hg : Grew w1 F F1) : Grew w F F1 := fun k hk => (hg k hk).imp _root_.id (fun e => Nat.le_trans ho.size e)
def lfZ (z : Int) (o : Bool) : Int := if o = true then evS z 2 else z
end
end Go.Proofs.YtjhjfgelcbphjaaDoor
