/- A receiver of items of the call's own; what a nil one does. -/
import Derived.Test.YtjmnpeebddedkaaQueue3
import Derived.Test.YtjmnpeebddedkaaDemand
namespace Go.Proofs.Ytjmnpeebddedkaa
open Go.RowKit

section
variable {w w' : World} {b q d base : Nat} {v : Value} {L : List ByteArray} {room op n a t dr : Int} {en : Bool}
theorem RKind_nil (w : World) : Calls Try.prog 24 #[.pointer none] w fun x w' => x = .returned (.int .i64 0) ∧ w = w' := by
  go_enter Try.func24, Try.ntmps24
  go_wp2
  go_ret
  exact ⟨rfl, rfl⟩
theorem REnded_nil (w : World) : Calls Try.prog 25 #[.pointer none] w fun x w' => x = .returned (.bool true) ∧ w = w' := by
  go_enter Try.func25, Try.ntmps25
  go_wp2
  go_ret
  exact ⟨rfl, rfl⟩
theorem RKept_nil (w : World) : Calls Try.prog 13 #[.pointer none] w fun x w' => x = .returned (.int .i64 0) ∧ w = w' := by
  go_enter Try.func13, Try.ntmps13
  go_wp2
  go_ret
  exact ⟨rfl, rfl⟩
theorem RDone_nil (w : World) : Calls Try.prog 26 #[.pointer none] w fun x w' => x = .returned (.bool true) ∧ w = w' := by
  go_enter Try.func26, Try.ntmps26
  go_wp2_with (first
    | (go_at_call 25; (with_reducible refine (REnded_nil _).mono ?_); rintro e w1 ⟨rfl, rfl⟩)
    | (go_at_call 13; (with_reducible refine (RKept_nil _).mono ?_); rintro e w1 ⟨rfl, rfl⟩)
    )
  go_ret
  exact ⟨rfl, rfl⟩
theorem ROpen_nil (w : World) : Calls Try.prog 14 #[.pointer none] w fun x w' => x = .returned (.int .i64 0) ∧ w = w' := by
  go_enter Try.func14, Try.ntmps14
  go_wp2
  go_ret
  exact ⟨rfl, rfl⟩
theorem RArrive_nil (X : ByteArray) (e : Bool) (w : World) : Calls Try.prog 20 #[.pointer none, .string X, .bool e] w fun x w' => x = .returned (.tuple #[.int .i64 7, .bool false]) ∧ w = w' := by
  go_enter Try.func20, Try.ntmps20
  go_wp2_with (first
    | (go_at_call 25; (with_reducible refine (REnded_nil _).mono ?_); rintro e w1 ⟨rfl, rfl⟩)
    )
  go_ret2
  exact ⟨rfl, rfl⟩
theorem RRead_nil (n : Int) (w : World) : Calls Try.prog 15 #[.pointer none, .int .i64 n] w fun x w' => x = .returned (.tuple #[.string noS, .int .i64 1]) ∧ w = w' := by
  go_enter Try.func15, Try.ntmps15
  go_wp2
  go_ret2
  exact ⟨rfl, rfl⟩
theorem RItem_nil (w : World) : Calls Try.prog 16 #[.pointer none] w fun x w' => x = .returned (.tuple #[.string noS, .bool false, .int .i64 1]) ∧ w = w' := by
  go_enter Try.func16, Try.ntmps16
  go_wp2
  go_ret3
  exact ⟨rfl, rfl⟩
theorem RAsk_nil (n : Int) (w : World) : Calls Try.prog 17 #[.pointer none, .int .i64 n] w fun x w' => x = .returned (.int .i64 1) ∧ w = w' := by
  go_enter Try.func17, Try.ntmps17
  go_wp2
  go_ret
  exact ⟨rfl, rfl⟩
theorem Rdues_nil (w : World) : Calls Try.prog 52 #[.pointer none] w fun x w' => ∃ k, x = .returned (.func (.func 68) #[] #[.pointer (some ⟨k, 0, none⟩)]) ∧ Only Nil w w' ∧ Blk w' k 25 #[.pointer none] := by
  have hmf := mkf Try.prog
  go_enter Try.func52, Try.ntmps52
  go_wp2_with (first
    | (go_at_call 24; (with_reducible refine (RKind_nil _).mono ?_); rintro e w1 ⟨rfl, rfl⟩)
    )
  go_ret
  exact ⟨_, rfl, (Only.refl _ _).alloc _, Blk.new _ _ _⟩
theorem Rdues1_nil (k : Nat) (w : World) (hk : Blk w k 25 #[.pointer none]) : Calls Try.prog 68 #[.pointer (some ⟨k, 0, none⟩)] w fun x w' => x = .returned (.int .i64 0) ∧ w = w' := by
  have e0 := hk.cell 0
  go_enter Try.func68, Try.ntmps68
  go_wp2
  go_ret
  exact ⟨rfl, rfl⟩
theorem RDue_nil (w : World) : Calls Try.prog 22 #[.pointer none] w fun x w' => x = .returned (.int .i64 0) ∧ Only Nil w w' := by
  go_enter Try.func22, Try.ntmps22
  go_wp2_with (first
    | (go_at_call 52; (with_reducible refine (Rdues_nil _).mono ?_); rintro e w1 ⟨k, rfl, ho1, hk⟩)
    | (go_at_call 68; (with_reducible refine (Rdues1_nil k _ hk).mono ?_); rintro e w2 ⟨rfl, rfl⟩)
    )
  go_ret
  exact ⟨rfl, ho1⟩
theorem RGrant_nil (w : World) : Calls Try.prog 18 #[.pointer none] w fun x w' => x = .returned (.int .i64 0) ∧ Only Nil w w' := by
  go_enter Try.func18, Try.ntmps18
  go_wp2_with (first
    | (go_at_call 24; (with_reducible refine (RKind_nil _).mono ?_); rintro e w1 ⟨rfl, rfl⟩)
    | (go_at_call 22; (with_reducible refine (RDue_nil _).mono ?_); rintro e w2 ⟨rfl, ho2⟩)
    )
  go_ret
  exact ⟨rfl, ho2⟩
theorem RResize_nil (a b c : Int) (w : World) : Calls Try.prog 19 #[.pointer none, .agg #[.int .i64 a, .int .i64 b, .int .i64 c]] w fun x w' => x = .returned (.int .i64 1) ∧ Only Nil w w' := by
  go_enter Try.func19, Try.ntmps19
  go_wp2
  go_ret
  exact ⟨rfl, (Only.refl _ _).alloc _⟩
theorem RClear_nil (w : World) : Calls Try.prog 23 #[.pointer none] w fun x w' => x = .returned (.int .i64 0) ∧ w = w' := by
  go_enter Try.func23, Try.ntmps23
  go_wp2
  go_ret
  exact ⟨rfl, rfl⟩
theorem RLen_nil (w : World) : Calls Try.prog 41 #[.pointer none] w fun x w' => x = .returned (.int .i64 0) ∧ w = w' := by
  go_enter Try.func41, Try.ntmps41
  go_wp2
  go_ret
  exact ⟨rfl, rfl⟩
/-- a receiver of items: the queue at q, what was asked for at d -/
structure Ri (w : World) (b q d base : Nat) (v : Value) (L : List ByteArray) (room op n a t dr : Int) (en : Bool) : Prop where
  blk : Blk w b 56 #[.int .i64 2, .pointer none, .pointer none, .pointer (some ⟨q, 0, none⟩), .pointer (some ⟨d, 0, none⟩), .int .i64 room, .int .i64 op, .bool en]
  qu : Qu.Qs 86 w q base 64 0 v L a t dr
  dem : Dem.Dem w d n 2147483647
  hb : base ≤ b
  hd : base ≤ d
theorem Blk.type {w : World} {b : Nat} {t t' : TypeId} {cs cs' : Array Value} (h : Blk w b t cs) (h' : Blk w b t' cs') : t = t' := by
  unfold Blk at h h'
  rw [h] at h'
  injection h' with h'
  injection h'
theorem Ri.bq (h : Ri w b q d base v L room op n a t dr en) : b ≠ q := fun e => by
  subst e
  exact absurd (h.blk.type h.qu.blk) (by decide)
theorem Ri.bd (h : Ri w b q d base v L room op n a t dr en) : b ≠ d := fun e => by
  subst e
  exact absurd (h.blk.type h.dem) (by decide)
theorem Ri.qd (h : Ri w b q d base v L room op n a t dr en) : q ≠ d := fun e => by
  subst e
  exact absurd (h.qu.blk.type h.dem) (by decide)
theorem Ri.vb (h : Ri w b q d base v L room op n a t dr en) : v.ownBlock ≠ some b := h.qu.own.ne h.blk (by decide)
theorem Ri.vd (h : Ri w b q d base v L room op n a t dr en) : v.ownBlock ≠ some d := h.qu.own.ne h.dem (by decide)
theorem Ri.kept (h : Ri w b q d base v L room op n a t dr en) (ho : Only Nil w w') : Ri w' b q d base v L room op n a t dr en :=
  ⟨h.blk.kept ho (fun hh => hh), h.qu.kept ho, Blk.kept h.dem ho (fun hh => hh), h.hb, h.hd⟩
theorem Ri.facts (h : Ri w b q d base v L room op n a t dr en) : w.cell? ⟨b, 0, none⟩ = some (.int .i64 2) ∧ w.cell? ⟨b, 1, none⟩ = some (.pointer none) ∧ w.cell? ⟨b, 3, none⟩ = some (.pointer (some ⟨q, 0, none⟩)) ∧ w.cell? ⟨b, 4, none⟩ = some (.pointer (some ⟨d, 0, none⟩)) ∧ w.cell? ⟨b, 5, none⟩ = some (.int .i64 room) ∧ w.cell? ⟨b, 6, none⟩ = some (.int .i64 op) ∧ w.cell? ⟨b, 7, none⟩ = some (.bool en) ∧ b < w.heap.size :=
  ⟨h.blk.cell 0, h.blk.cell 1, h.blk.cell 3, h.blk.cell 4, h.blk.cell 5, h.blk.cell 6, h.blk.cell 7, h.blk.lt⟩
/-- one cell of the receiver's own block is written -/
theorem Ri.put (h : Ri w b q d base v L room op n a t dr en) (i : Nat) (u : Value) {room' op' : Int} {en' : Bool}
    (hc : (#[.int .i64 2, .pointer none, .pointer none, .pointer (some ⟨q, 0, none⟩), .pointer (some ⟨d, 0, none⟩), .int .i64 room, .int .i64 op, .bool en] : Array Value).setIfInBounds i u = #[.int .i64 2, .pointer none, .pointer none, .pointer (some ⟨q, 0, none⟩), .pointer (some ⟨d, 0, none⟩), .int .i64 room', .int .i64 op', .bool en']) :
    Ri (w.setCell ⟨b, i, none⟩ u) b q d base v L room' op' n a t dr en' := by
  have hB := h.blk.set i u
  rw [hc] at hB
  exact ⟨hB, ⟨h.qu.blk.far (p := ⟨b, i, none⟩) h.bq.symm u, h.qu.own.set h.vb i u, h.qu.hb⟩, Blk.far (p := ⟨b, i, none⟩) h.dem h.bd.symm u, h.hb, h.hd⟩
theorem RKind_i (w : World) (h : Ri w b q d base v L room op n a t dr en) : Calls Try.prog 24 #[.pointer (some ⟨b, 0, none⟩)] w fun x w' => x = .returned (.int .i64 2) ∧ w = w' := by
  obtain ⟨c0, c1, c3, c4, c5, c6, c7, zb⟩ := h.facts
  clear h
  go_enter Try.func24, Try.ntmps24
  go_wp2
  go_ret
  exact ⟨rfl, rfl⟩
theorem REnded_i (w : World) (h : Ri w b q d base v L room op n a t dr en) : Calls Try.prog 25 #[.pointer (some ⟨b, 0, none⟩)] w fun x w' => x = .returned (.bool en) ∧ w = w' := by
  obtain ⟨c0, c1, c3, c4, c5, c6, c7, zb⟩ := h.facts
  clear h
  go_enter Try.func25, Try.ntmps25
  go_wp2
  go_ret
  exact ⟨rfl, rfl⟩
theorem ROpen_i (w : World) (h : Ri w b q d base v L room op n a t dr en) : Calls Try.prog 14 #[.pointer (some ⟨b, 0, none⟩)] w fun x w' => x = .returned (.int .i64 op) ∧ w = w' := by
  obtain ⟨c0, c1, c3, c4, c5, c6, c7, zb⟩ := h.facts
  clear h
  go_enter Try.func14, Try.ntmps14
  go_wp2
  go_ret
  exact ⟨rfl, rfl⟩
theorem RKept_i (w : World) (h : Ri w b q d base v L room op n a t dr en) (m : Int) (hm : (L.length : Int) = m) (m1 : m ≤ 1000000) : Calls Try.prog 13 #[.pointer (some ⟨b, 0, none⟩)] w fun x w' => x = .returned (.int .i64 m) ∧ ∃ k, w' = w.drewN k := by
  obtain ⟨c0, c1, c3, c4, c5, c6, c7, zb⟩ := h.facts
  have hQ := Lib.hid (fun k => Qu.Len_any (w.drewN k) (h.qu.kept ((Only.refl Nil w).drewN k)))
  rw [hm] at hQ
  have m0 : 0 ≤ m := by omega
  clear h hm
  go_enter Try.func13, Try.ntmps13
  go_wp2
  go_quiet ((first | (go_at_call 41; exact Calls.quiet_of ((RLen_nil _).mono fun _ _ hh => ⟨hh.1, 0, hh.2.symm⟩)) | (go_at_call 42; exact Calls.quiet_of ((hQ.out _).mono fun _ _ hh => ⟨hh.1, 0, hh.2.symm⟩))))
  go_wp2
  go_ret
  exact ⟨rfl, _, rfl⟩
end
end Go.Proofs.Ytjmnpeebddedkaa
