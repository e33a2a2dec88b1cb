/- A sender of bytes of the call's own; what a nil one does. -/
import Derived.Test.YtjhjfgelcbphjaaDoorRing3
namespace Go.Proofs.YtjhjfgelcbphjaaDoor
open Go.RowKit

section
variable {w w' : World} {b r g base c F : Nat} {row L : List UInt8} {A S : Int} {en ou : Bool}
theorem TKind_nil (w : World) : Calls Tryd.prog 43 #[.pointer none] w fun x w' => x = .returned (.int .i64 0) ∧ w = w' := by
  go_enter Tryd.func43, Tryd.ntmps43
  go_wp2
  go_ret
  exact ⟨rfl, rfl⟩
theorem TOffer_nil (X : ByteArray) (w : World) : Calls Tryd.prog 54 #[.pointer none, .string X] w fun x w' => x = .returned (.tuple #[.int .i64 0, .int .i64 1]) ∧ w = w' := by
  go_enter Tryd.func54, Tryd.ntmps54
  go_wp2
  go_ret2
  exact ⟨rfl, rfl⟩
theorem TEnd_nil (w : World) : Calls Tryd.prog 65 #[.pointer none] w fun x w' => x = .returned (.int .i64 1) ∧ w = w' := by
  go_enter Tryd.func65, Tryd.ntmps65
  go_wp2
  go_ret
  exact ⟨rfl, rfl⟩
theorem TWant_nil (n : Int) (w : World) : Calls Tryd.prog 47 #[.pointer none, .int .i64 n] w fun x w' => x = .returned (.int .i64 1) ∧ w = w' := by
  go_enter Tryd.func47, Tryd.ntmps47
  go_wp2
  go_ret
  exact ⟨rfl, rfl⟩
theorem TWanted_nil (w : World) : Calls Tryd.prog 101 #[.pointer none] w fun x w' => x = .returned (.int .i64 0) ∧ w = w' := by
  go_enter Tryd.func101, Tryd.ntmps101
  go_wp2
  go_ret
  exact ⟨rfl, rfl⟩
theorem TReady_nil (n : Int) (w : World) : Calls Tryd.prog 85 #[.pointer none, .int .i64 n] w fun x w' => x = .returned (.bool false) ∧ w = w' := by
  go_enter Tryd.func85, Tryd.ntmps85
  go_wp2
  go_ret
  exact ⟨rfl, rfl⟩
theorem TClear_nil (w : World) : Calls Tryd.prog 60 #[.pointer none] w fun x w' => x = .returned (.int .i64 0) ∧ w = w' := by
  go_enter Tryd.func60, Tryd.ntmps60
  go_wp2
  go_ret
  exact ⟨rfl, rfl⟩
theorem TTold_nil (w : World) : Calls Tryd.prog 32 #[.pointer none] w fun x w' => x = .returned (.agg #[.int .i64 0, .int .i64 0, .int .i64 0]) ∧ Only Nil w w' := by
  go_enter Tryd.func32, Tryd.ntmps32
  go_wp2
  exact bodyPost_ret (v := .agg #[.int .i64 0, .int .i64 0, .int .i64 0]) (by simp [results, Tryd.results32, go_sem]) rfl ⟨rfl, (Only.refl _ _).alloc _⟩
theorem TTake_nil (n : Int) (w : World) : Calls Tryd.prog 63 #[.pointer none, .int .i64 n] w fun x w' => x = .returned (.tuple #[.string noS, .bool false, .bool false]) ∧ w = w' := by
  go_enter Tryd.func63, Tryd.ntmps63
  go_wp2_with (first
    | (go_at_call 85; (with_reducible refine (TReady_nil _ _).mono ?_); rintro e w1 ⟨rfl, rfl⟩)
    )
  go_ret3
  exact ⟨rfl, rfl⟩
/-- a sender of bytes -/
structure Tb (w : World) (b r g base c F : Nat) (row L : List UInt8) (A S : Int) (en ou : Bool) : Prop where
  blk : Blk w b 111 #[.int .i64 A, .int .i64 S, .int .i64 0, .int .i64 1, .pointer (some ⟨r, 0, none⟩), .pointer none, .pointer none, .bool en, .bool ou]
  ring : Rg w r g base c F row L
  hb : base ≤ b
theorem Blk.type {w : World} {b : Nat} {t t' : TypeId} {cs cs' : Array Value} (h : Blk w b t cs) (h' : Blk w b t' cs') : t = t' := by
  unfold Blk at h h'
  rw [h] at h'
  injection h' with h'
  injection h'
theorem Tb.ner (h : Tb w b r g base c F row L A S en ou) : b ≠ r := fun e => by
  subst e
  have := h.blk.type h.ring.blk
  exact absurd this (by decide)
theorem Tb.neg (h : Tb w b r g base c F row L A S en ou) : b ≠ g := fun e => by
  have := h.ring.own.ne h.blk (by decide)
  subst e
  exact this rfl
theorem Tb.kept (h : Tb w b r g base c F row L A S en ou) (ho : Only Nil w w') : Tb w' b r g base c F row L A S en ou := ⟨h.blk.kept ho (fun hh => hh), h.ring.go ho, h.hb⟩
theorem Tb.facts (h : Tb w b r g base c F row L A S en ou) : w.cell? ⟨b, 0, none⟩ = some (.int .i64 A) ∧ w.cell? ⟨b, 1, none⟩ = some (.int .i64 S) ∧ w.cell? ⟨b, 2, none⟩ = some (.int .i64 0) ∧ w.cell? ⟨b, 3, none⟩ = some (.int .i64 1) ∧ w.cell? ⟨b, 4, none⟩ = some (.pointer (some ⟨r, 0, none⟩)) ∧
    w.cell? ⟨b, 7, none⟩ = some (.bool en) ∧ w.cell? ⟨b, 8, none⟩ = some (.bool ou) ∧ b < w.heap.size :=
  ⟨h.blk.cell 0, h.blk.cell 1, h.blk.cell 2, h.blk.cell 3, h.blk.cell 4, h.blk.cell 7, h.blk.cell 8, h.blk.lt⟩
def RThr (b r g : Nat) : Nat → Prop := fun k => k = b ∨ k = r ∨ k = g
theorem Only.thr2 (ho : Only (RTwo r g) w w') : Only (RThr b r g) w w' := ho.weaken fun _ _ hh => .inr hh
theorem Only.thr1 (ho : Only (One r) w w') : Only (RThr b r g) w w' := ho.weaken fun _ _ hh => .inr (.inl hh)
theorem Only.thrB (ho : Only (RThr b r g) w w') (i : Nat) (u : Value) : Only (RThr b r g) w (w'.setCell ⟨b, i, none⟩ u) := ho.setCell (p := ⟨b, i, none⟩) (fun _ => .inl rfl) u
/-- one cell of the sender's own block is written -/
theorem Tb.put (h : Tb w b r g base c F row L A S en ou) (i : Nat) (u : Value) {A' S' : Int} {en' ou' : Bool}
    (hc : (#[.int .i64 A, .int .i64 S, .int .i64 0, .int .i64 1, .pointer (some ⟨r, 0, none⟩), .pointer none, .pointer none, .bool en, .bool ou] : Array Value).setIfInBounds i u = #[.int .i64 A', .int .i64 S', .int .i64 0, .int .i64 1, .pointer (some ⟨r, 0, none⟩), .pointer none, .pointer none, .bool en', .bool ou']) :
    Tb (w.setCell ⟨b, i, none⟩ u) b r g base c F row L A' S' en' ou' := by
  have hB := h.blk.set i u
  rw [hc] at hB
  exact ⟨hB, h.ring.kept ((Only.refl (One b) w).set1 i u) (fun e => h.ner e.symm) (fun e => h.neg e.symm), h.hb⟩
theorem TNew_bytes (c : Nat) (w : World) (hc : c ≤ 4096) (st : Int) : Calls Tryd.prog 38 #[.int .i64 1, .int .i64 c, .int .i64 st] w fun x w' => ∃ b r g row, x = .returned (.tuple #[.pointer (some ⟨b, 0, none⟩), .int .i64 0]) ∧ Tb w' b r g w.heap.size c 0 row [] 0 0 false false ∧ Only Nil w w' := by
  have hN := Lib.hid (fun W => New_in c W (by omega))
  have hci : ¬ (4096 : Int) < c := by omega
  have HB := Lib.hid (Blk.new w 111 #[.int .i64 0, .int .i64 0, .int .i64 0, .int .i64 1, .pointer none, .pointer none, .pointer none, .bool false, .bool false])
  have HO := Lib.hid ((Only.refl Nil w).alloc (.cells #[.int .i64 0, .int .i64 0, .int .i64 0, .int .i64 1, .pointer none, .pointer none, .pointer none, .bool false, .bool false] 111))
  go_enter Tryd.func38, Tryd.ntmps38
  go_wp2_with (first
    | (go_at_call 66; (with_reducible refine (hN.out _).mono ?_); rintro e w1 ⟨r, g, row, rfl, hR, ho1⟩; have hB1 := HB.out.kept ho1 (fun hh => hh); have zb := hB1.lt; have k4 := hB1.cell 4; have f4 := hB1.frozen 4; have HR := Lib.hid hR; have HO1 := Lib.hid (HO.out.trans ho1); have HB1 := Lib.hid hB1; clear hR ho1 hB1)
    )
  go_ret2
  have hR := HR.out
  have hzr := hR.hb
  have hzg := hR.gb.1
  simp at hzr hzg
  have hr := (Only.refl (One w.heap.size) w1).set1 4 (.pointer (some ⟨r, 0, none⟩))
  have hR' := hR.kept hr (fun e => by unfold One at e; omega) (fun e => by unfold One at e; omega)
  refine ⟨w.heap.size, r, g, row, rfl, ⟨HB1.out.set 4 _, ⟨hR'.blk, hR'.own.mono (by simp), by omega, hR'.len, hR'.le, hR'.fst, hR'.big, hR'.at_⟩, Nat.le_refl _⟩, HO1.out.setNew (Nat.le_refl _) 4 _⟩
theorem Waiting_any (A S D : Int) (w : World) (h0 : 0 ≤ D) (h1 : D ≤ S) (h2 : S ≤ A) (h3 : A ≤ 1000000000000) (h4 : S + D ≤ A) : Calls Tryd.prog 33 #[.agg #[.int .i64 A, .int .i64 S, .int .i64 D]] w fun x w' => x = .returned (.int .i64 (A - S - D)) ∧ Only Nil w w' := by
  go_enter Tryd.func33, Tryd.ntmps33
  go_wp2
  go_ret
  exact ⟨rfl, (Only.refl _ _).alloc _⟩
end
end Go.Proofs.YtjhjfgelcbphjaaDoor
