/- A receiver of items of the call's own; what its calls do. -/
import Derived.Test.YtjmnpeebddedkaaRx
namespace Go.Proofs.Ytjmnpeebddedkaa
open Go.RowKit

section
variable {w w' : World} {b q d base : Nat} {v : Value} {L : List ByteArray} {room op n a t dr : Int} {en : Bool}
def RiPost (w : World) (b q d base : Nat) (_v : Value) (r : Value) (L : List ByteArray) (room op n a t dr : Int) (en : Bool) (x : Ending) (w' : World) : Prop :=
  ∃ v', x = .returned r ∧ Ri w' b q d base v' L room op n a t dr en ∧ Below base w w'
theorem Ri.fpB (h : Ri w b q d base v L room op n a t dr en) (ho : Only (Qu.Fp q v) w w') : Below base w w' := h.qu.below ho
theorem Ri.sz (h : Ri w b q d base v L room op n a t dr en) : base ≤ w.heap.size := by have := h.hb; have := h.blk.lt; omega
theorem Ri.oneB (h : Ri w b q d base v L room op n a t dr en) (ho : Only (One d) w w') : Below base w w' := ho.below h.sz (fun i hi e => by unfold One at e; have := h.hd; omega)
theorem RAsk_i (k : Int) (w : World) (h : Ri w b q d base v L room op n a t dr en) (hk : 1 ≤ k) (hn : 0 ≤ n) (hs : n + k ≤ 2147483647) : Calls Try.prog 17 #[.pointer (some ⟨b, 0, none⟩), .int .i64 k] w (RiPost w b q d base v (.int .i64 0) L room op (n + k) a t dr en) := by
  obtain ⟨c0, c1, c3, c4, c5, c6, c7, zb⟩ := h.facts
  have hA := Lib.hid (Dem.Add_at d n 2147483647 k k 0 (n + k) w h.dem ⟨hn, by omega, by omega⟩ (by unfold Dem.addK; rw [if_neg (by omega)]; omega) (by unfold Dem.addE; rw [if_neg (by omega)]) rfl)
  unfold Dem.AddPost at hA
  have H := Lib.hid h
  clear h
  go_enter Try.func17, Try.ntmps17
  go_wp2_with (first
    | (go_at_call 47; (with_reducible refine (hA.out).mono ?_); rintro e w1 ⟨rfl, ho1, hD1⟩)
    )
  go_ret
  refine ⟨v, rfl, ⟨H.out.blk.kept ho1 H.out.bd, ⟨H.out.qu.blk.kept ho1 H.out.qd, H.out.qu.own.kept ho1 (fun g hg e => H.out.vd (by unfold One at e; rw [hg, e])), H.out.qu.hb⟩, hD1, H.out.hb, H.out.hd⟩, H.out.oneB ho1⟩
theorem Rdues_i (w : World) (h : Ri w b q d base v L room op n a t dr en) : Calls Try.prog 52 #[.pointer (some ⟨b, 0, none⟩)] w fun x w' => ∃ k, x = .returned (.func (.func 68) #[] #[.pointer (some ⟨k, 0, none⟩)]) ∧ Only Nil w w' ∧ Blk w' k 25 #[.pointer (some ⟨b, 0, none⟩)] := by
  have hmf := mkf Try.prog
  have hK := Lib.hid (fun W (ho : Only Nil w W) => RKind_i W (h.kept ho))
  have HO := Lib.hid ((Only.refl Nil w).alloc (.cells #[.pointer (some ⟨b, 0, none⟩)] 25))
  have hb := Blk.new w 25 #[.pointer (some ⟨b, 0, none⟩)]
  clear h
  go_enter Try.func52, Try.ntmps52
  go_wp2_with (first
    | (go_at_call 24; (with_reducible refine (hK.out _ HO.out).mono ?_); rintro e w1 ⟨rfl, rfl⟩)
    )
  go_ret
  exact ⟨_, rfl, HO.out, hb⟩
/-- what is due -/
def duI (n s : Int) : Int := if s < n then (if s < 0 then 0 else s) else n
set_option maxHeartbeats 2000000 in
theorem Rdues1_i (k : Nat) (w : World) (h : Ri w b q d base v L room op n a t dr en) (hk : Blk w k 25 #[.pointer (some ⟨b, 0, none⟩)]) (m : Int) (hm : (L.length : Int) = m) (m1 : m ≤ 1000000) (hn : 0 ≤ n) (r0 : 0 ≤ room) (r1 : room ≤ 1000000) (o0 : 0 ≤ op) (o1 : op ≤ 1000000) :
    Calls Try.prog 68 #[.pointer (some ⟨k, 0, none⟩)] w fun x w' => x = .returned (.int .i64 (duI n (room - op - m))) ∧ Only Nil w w' := by
  obtain ⟨c0, c1, c3, c4, c5, c6, c7, zb⟩ := h.facts
  have e0 : w.cell? ⟨k, 0, none⟩ = some (.pointer (some ⟨b, 0, none⟩)) := hk.cell 0
  have ze := hk.lt
  have m0 : 0 ≤ m := by omega
  have hKp := Lib.hid (fun j => RKept_i (w.drewN j) (h.kept ((Only.refl Nil w).drewN j)) m hm m1)
  have hLf := Lib.hid (fun j => Dem.Left_any d n 2147483647 (w.drewN j) (Blk.drewN h.dem j))
  have ew1 : IntKind.i64.wrap (room - op) = room - op := IntWalk.i64_in _ (by omega)
  have ew2 : IntKind.i64.wrap (room - op - m) = room - op - m := IntWalk.i64_in _ (by omega)
  clear h hk hm r0 r1 o0 o1 m0 m1
  unfold duI
  by_cases h1 : room - op - m < n
  · rw [if_pos h1]
    by_cases h2 : room - op - m < 0
    · rw [if_pos h2]
      go_enter Try.func68, Try.ntmps68
      go_wp2
      go_quiet ((first | (go_at_call 69; exact Calls.quiet_of ((hLf.out _).mono fun _ _ hh => ⟨hh.1, 0, hh.2.symm⟩)) | (go_at_call 13; exact Calls.quiet_of (hKp.out _))))
      go_wp2
      go_ret
      exact ⟨rfl, (Only.refl _ _).drewN _⟩
    · rw [if_neg h2]
      go_enter Try.func68, Try.ntmps68
      go_wp2
      go_quiet ((first | (go_at_call 69; exact Calls.quiet_of ((hLf.out _).mono fun _ _ hh => ⟨hh.1, 0, hh.2.symm⟩)) | (go_at_call 13; exact Calls.quiet_of (hKp.out _))))
      go_wp2
      go_ret
      exact ⟨rfl, (Only.refl _ _).drewN _⟩
  · rw [if_neg h1]
    have h2 : ¬ n < 0 := by omega
    go_enter Try.func68, Try.ntmps68
    go_wp2
    go_quiet ((first | (go_at_call 69; exact Calls.quiet_of ((hLf.out _).mono fun _ _ hh => ⟨hh.1, 0, hh.2.symm⟩)) | (go_at_call 13; exact Calls.quiet_of (hKp.out _))))
    go_wp2
    go_ret
    exact ⟨rfl, (Only.refl _ _).drewN _⟩
theorem RDue_i (w : World) (h : Ri w b q d base v L room op n a t dr en) (m : Int) (hm : (L.length : Int) = m) (m1 : m ≤ 1000000) (hn : 0 ≤ n) (r0 : 0 ≤ room) (r1 : room ≤ 1000000) (o0 : 0 ≤ op) (o1 : op ≤ 1000000) (r : Int) (hr : duI n (room - op - m) = r) :
    Calls Try.prog 22 #[.pointer (some ⟨b, 0, none⟩)] w fun x w' => x = .returned (.int .i64 r) ∧ Only Nil w w' := by
  have hD := Lib.hid (fun W k (ho : Only Nil w W) hk => Rdues1_i k W (h.kept ho) hk m hm m1 hn r0 r1 o0 o1)
  rw [hr] at hD
  have hDs := Lib.hid (Rdues_i w h)
  clear h hm hr
  go_enter Try.func22, Try.ntmps22
  go_wp2_with (first
    | (go_at_call 52; (with_reducible refine (hDs.out).mono ?_); rintro e w1 ⟨k, rfl, ho1, hk⟩)
    | (go_at_call 68; (with_reducible refine (hD.out _ k ho1 hk).mono ?_); rintro e w2 ⟨rfl, ho2⟩)
    )
  go_ret
  exact ⟨rfl, ho1.trans ho2⟩
set_option maxHeartbeats 2000000 in
theorem RGrant_i (w : World) (h : Ri w b q d base v L room op n a t dr en) (m : Int) (hm : (L.length : Int) = m) (m1 : m ≤ 1000000) (hn : 0 ≤ n) (hn2 : n ≤ 2147483647) (r0 : 0 ≤ room) (r1 : room ≤ 1000000) (o0 : 0 ≤ op) (o1 : op ≤ 1000000) (r : Int) (hr : duI n (room - op - m) = r) (hr0 : 0 < r) (hrn : r ≤ n) (hr2 : r ≤ 1000000) :
    Calls Try.prog 18 #[.pointer (some ⟨b, 0, none⟩)] w (RiPost w b q d base v (.int .i64 r) L room (op + r) (n - r) a t dr en) := by
  have hK := Lib.hid (RKind_i w h)
  have hD := Lib.hid (RDue_i w h m hm m1 hn r0 r1 o0 o1 r hr)
  have hT := Lib.hid (fun W (ho : Only Nil w W) => Dem.Take_any d n 2147483647 r W (Blk.kept h.dem ho (fun hh => hh)) ⟨hn, hn2, by omega⟩)
  unfold Dem.DemPost Dem.takeE Dem.takeN at hT
  rw [if_neg (by omega), if_neg (by omega), if_neg (by omega), if_neg (by omega)] at hT
  have H := Lib.hid h
  have hHk := Lib.hid (fun W (ho : Only Nil w W) => (h.kept ho).facts)
  clear h hm hr m1
  go_enter Try.func18, Try.ntmps18
  go_wp2_with (first
    | (go_at_call 24; (with_reducible refine (hK.out).mono ?_); rintro e w1 ⟨rfl, rfl⟩)
    | (go_at_call 22; (with_reducible refine (hD.out).mono ?_); rintro e w2 ⟨rfl, ho2⟩; obtain ⟨c0, c1, c3, c4, c5, c6, c7, zb⟩ := hHk.out _ ho2; have HO2 := Lib.hid ho2; clear ho2)
    | (go_at_call 49; (with_reducible refine (hT.out _ HO2.out).mono ?_); rintro e w3 ⟨rfl, ho3, hD3⟩; have hB3 := ((H.out.kept HO2.out).blk).kept ho3 H.out.bd; have d6 := hB3.cell 6; have zd := hB3.lt; have f6 := hB3.frozen 6; have HO3 := Lib.hid ho3; have HD3 := Lib.hid hD3; have HB3 := Lib.hid hB3; clear ho3 hD3 hB3)
    )
  go_ret
  have h2 := H.out.kept HO2.out
  have h3 : Ri w3 b q d base v L room op (n - r) a t dr en := ⟨HB3.out, ⟨h2.qu.blk.kept HO3.out h2.qd, h2.qu.own.kept HO3.out (fun g hg e => h2.vd (by unfold One at e; rw [hg, e])), h2.qu.hb⟩, HD3.out, h2.hb, h2.hd⟩
  exact ⟨v, rfl, h3.put 6 _ rfl, ((HO2.out.below H.out.sz (fun _ _ hh => hh)).trans (h2.oneB HO3.out)).setCell (p := ⟨b, 6, none⟩) h2.hb _⟩
theorem RGrant_0 (w : World) (h : Ri w b q d base v L room op n a t dr en) (m : Int) (hm : (L.length : Int) = m) (m1 : m ≤ 1000000) (hn : 0 ≤ n) (r0 : 0 ≤ room) (r1 : room ≤ 1000000) (o0 : 0 ≤ op) (o1 : op ≤ 1000000) (hr : duI n (room - op - m) = 0) :
    Calls Try.prog 18 #[.pointer (some ⟨b, 0, none⟩)] w (RiPost w b q d base v (.int .i64 0) L room op n a t dr en) := by
  have hK := Lib.hid (RKind_i w h)
  have hD := Lib.hid (RDue_i w h m hm m1 hn r0 r1 o0 o1 0 hr)
  have H := Lib.hid h
  clear h hm hr m1
  go_enter Try.func18, Try.ntmps18
  go_wp2_with (first
    | (go_at_call 24; (with_reducible refine (hK.out).mono ?_); rintro e w1 ⟨rfl, rfl⟩)
    | (go_at_call 22; (with_reducible refine (hD.out).mono ?_); rintro e w2 ⟨rfl, ho2⟩)
    )
  go_ret
  exact ⟨v, rfl, H.out.kept ho2, ho2.below H.out.sz (fun _ _ hh => hh)⟩
set_option maxHeartbeats 2000000 in
theorem Rput_i (X : ByteArray) (w : World) (h : Ri w b q d base v L room op n a t dr en) (o0 : 0 < op) (o1 : op ≤ 1000000) (hl : L.length < 64) (a0 : 0 ≤ a) (a1 : a ≤ 1000000) : Calls Try.prog 51 #[.pointer (some ⟨b, 0, none⟩), .string X, .bool false] w (RiPost w b q d base v (.tuple #[.int .i64 0, .bool true]) (L ++ [X]) room (op - 1) n (a + 1) t dr en) := by
  obtain ⟨c0, c1, c3, c4, c5, c6, c7, zb⟩ := h.facts
  have f6 := h.blk.frozen 6
  have h1 : Ri (w.setCell ⟨b, 6, none⟩ (.int .i64 (op - 1))) b q d base v L room (op - 1) n a t dr en := h.put 6 _ rfl
  have hP := Lib.hid (Qu.Put_kept X _ h1.qu (by omega) (by omega) a0 a1)
  have H1 := Lib.hid h1
  have H := Lib.hid h
  have on : ¬ op = 0 := by omega
  clear h h1 hl
  go_enter Try.func51, Try.ntmps51
  go_wp2_with (first
    | (go_at_call 67; (with_reducible refine (hP.out).mono ?_); rintro e w1 ⟨v1, rfl, hQ1, ho1, hg1⟩)
    )
  go_ret2
  have hb1 : ¬ Qu.Fp q v b := fun hh => by
    rcases hh with hh | hh
    · exact H.out.bq hh
    · exact H.out.vb hh
  have hd1 : ¬ Qu.Fp q v d := fun hh => by
    rcases hh with hh | hh
    · exact H.out.qd hh.symm
    · exact H.out.vd hh
  exact ⟨v1, rfl, ⟨H1.out.blk.kept ho1 hb1, hQ1, Blk.kept H1.out.dem ho1 hd1, H.out.hb, H.out.hd⟩, ((Below.refl _ _).setCell (p := ⟨b, 6, none⟩) H.out.hb _).trans (H1.out.fpB ho1)⟩
theorem Rput_0 (X : ByteArray) (w : World) (h : Ri w b q d base v L room 0 n a t dr en) : Calls Try.prog 51 #[.pointer (some ⟨b, 0, none⟩), .string X, .bool false] w fun x w' => x = .returned (.tuple #[.int .i64 10, .bool false]) ∧ w = w' := by
  obtain ⟨c0, c1, c3, c4, c5, c6, c7, zb⟩ := h.facts
  clear h
  go_enter Try.func51, Try.ntmps51
  go_wp2
  go_ret2
  exact ⟨rfl, rfl⟩
theorem RArrive_i (X : ByteArray) (w : World) (h : Ri w b q d base v L room op n a t dr false) (o0 : 0 < op) (o1 : op ≤ 1000000) (hl : L.length < 64) (a0 : 0 ≤ a) (a1 : a ≤ 1000000) : Calls Try.prog 20 #[.pointer (some ⟨b, 0, none⟩), .string X, .bool false] w (RiPost w b q d base v (.tuple #[.int .i64 0, .bool true]) (L ++ [X]) room (op - 1) n (a + 1) t dr false) := by
  have hE := Lib.hid (REnded_i w h)
  have hP := Lib.hid (Rput_i X w h o0 o1 hl a0 a1)
  have HH := Lib.hid h.hb
  clear h hl
  go_enter Try.func20, Try.ntmps20
  go_wp2_with (first
    | (go_at_call 25; (with_reducible refine (hE.out).mono ?_); rintro e w1 ⟨rfl, rfl⟩)
    | (go_at_call 51; (with_reducible refine (hP.out).mono ?_); rintro e w2 ⟨v2, rfl, h2, hB2⟩; have d7 := h2.blk.cell 7; have zd := h2.blk.lt; have f7 := h2.blk.frozen 7; have H2 := Lib.hid h2; have HB2 := Lib.hid hB2; clear h2 hB2)
    )
  go_ret2
  exact ⟨v2, rfl, H2.out.put 7 _ rfl, HB2.out.setCell (p := ⟨b, 7, none⟩) HH.out _⟩
theorem RArrive_0 (X : ByteArray) (w : World) (h : Ri w b q d base v L room 0 n a t dr false) : Calls Try.prog 20 #[.pointer (some ⟨b, 0, none⟩), .string X, .bool false] w fun x w' => x = .returned (.tuple #[.int .i64 10, .bool false]) ∧ w = w' := by
  have hE := Lib.hid (REnded_i w h)
  have hP := Lib.hid (Rput_0 X w h)
  clear h
  go_enter Try.func20, Try.ntmps20
  go_wp2_with (first
    | (go_at_call 25; (with_reducible refine (hE.out).mono ?_); rintro e w1 ⟨rfl, rfl⟩)
    | (go_at_call 51; (with_reducible refine (hP.out).mono ?_); rintro e w2 ⟨rfl, rfl⟩)
    )
  go_ret2
  exact ⟨rfl, rfl⟩
theorem RItem_i (X : ByteArray) (w : World) (h : Ri w b q d base v (X :: L) room op n a t dr en) (hl : L.length ≤ 64) (t0 : 0 ≤ t) (t1 : t ≤ 1000000) : Calls Try.prog 16 #[.pointer (some ⟨b, 0, none⟩)] w (RiPost w b q d base v (.tuple #[.string X, .bool true, .int .i64 0]) L room op n a (t + 1) dr en) := by
  obtain ⟨c0, c1, c3, c4, c5, c6, c7, zb⟩ := h.facts
  have hT := Lib.hid (Qu.Take_in X L w h.qu (by omega) t0 t1)
  have H := Lib.hid h
  clear h hl
  go_enter Try.func16, Try.ntmps16
  go_wp2_with (first
    | (go_at_call 46; (with_reducible refine (hT.out).mono ?_); rintro e w1 ⟨v1, rfl, hQ1, ho1, hg1⟩)
    )
  go_ret3
  have hb1 : ¬ Qu.Fp q v b := fun hh => by
    rcases hh with hh | hh
    · exact H.out.bq hh
    · exact H.out.vb hh
  have hd1 : ¬ Qu.Fp q v d := fun hh => by
    rcases hh with hh | hh
    · exact H.out.qd hh.symm
    · exact H.out.vd hh
  exact ⟨v1, rfl, ⟨H.out.blk.kept ho1 hb1, hQ1, Blk.kept H.out.dem ho1 hd1, H.out.hb, H.out.hd⟩, H.out.fpB ho1⟩
end
end Go.Proofs.Ytjmnpeebddedkaa
