/- What each function of package beat does to a beat that lies in a block of its own. -/
import Derived.Test.YtjepehgmldgnlaaLay
namespace Go.Proofs.Ytjepehgmldgnlaa
open Go.RowKit

structure Bs where
  every : Int
  wait : Int
  now : Int
  heard : Int
  out : Bool
  lost : Bool
  since : Int
  count : Int
abbrev Bt (w : World) (b : Nat) (q : Bs) : Prop := Blk w b 40 #[.int .i64 q.every, .int .i64 q.wait, .int .i64 q.now, .int .i64 q.heard, .bool q.out, .bool q.lost, .int .i64 q.since, .int .i64 q.count]
theorem Bt.facts {w : World} {b : Nat} {q : Bs} (h : Bt w b q) :
    w.cell? ⟨b, 0, none⟩ = some (.int .i64 q.every) ∧ w.cell? ⟨b, 1, none⟩ = some (.int .i64 q.wait) ∧ w.cell? ⟨b, 2, none⟩ = some (.int .i64 q.now) ∧ w.cell? ⟨b, 3, none⟩ = some (.int .i64 q.heard) ∧
    w.cell? ⟨b, 4, none⟩ = some (.bool q.out) ∧ w.cell? ⟨b, 5, none⟩ = some (.bool q.lost) ∧ w.cell? ⟨b, 6, none⟩ = some (.int .i64 q.since) ∧ w.cell? ⟨b, 7, none⟩ = some (.int .i64 q.count) :=
  ⟨h.cell 0, h.cell 1, h.cell 2, h.cell 3, h.cell 4, h.cell 5, h.cell 6, h.cell 7⟩
theorem Bt.loose {w : World} {b : Nat} {q : Bs} (h : Bt w b q) : w.frozen? ⟨b, 2, none⟩ = false ∧ w.frozen? ⟨b, 3, none⟩ = false ∧ w.frozen? ⟨b, 4, none⟩ = false ∧ w.frozen? ⟨b, 5, none⟩ = false ∧ w.frozen? ⟨b, 6, none⟩ = false ∧ w.frozen? ⟨b, 7, none⟩ = false :=
  ⟨h.frozen 2, h.frozen 3, h.frozen 4, h.frozen 5, h.frozen 6, h.frozen 7⟩

theorem may_yes (n : Int) (w : World) (h0 : 0 ≤ n) (h1 : n ≤ 1048576) : Calls Try.prog 12 #[.int .i64 n] w fun x w' => x = .returned (.bool true) ∧ w = w' := by
  go_enter Try.func12, Try.ntmps12
  go_wp2
  go_ret
  exact ⟨rfl, rfl⟩
theorem New_any (every wait : Int) (w : World) (h0 : 0 ≤ every) (h1 : every ≤ 1048576) (h2 : 0 ≤ wait) (h3 : wait ≤ 1048576) :
    Calls Try.prog 5 #[.int .i64 every, .int .i64 wait] w fun x w' => ∃ b, x = .returned (.tuple #[.pointer (some ⟨b, 0, none⟩), .int .i64 0]) ∧ w.heap.size ≤ b ∧ Only Nil w w' ∧ Bt w' b ⟨every, wait, 0, 0, false, false, 0, 0⟩ := by
  go_enter Try.func5, Try.ntmps5
  go_wp2_with (first
    | (go_at_call 12; (with_reducible refine (may_yes every _ h0 h1).mono ?_); rintro e w1 ⟨rfl, rfl⟩)
    | (go_at_call 12; (with_reducible refine (may_yes wait _ h2 h3).mono ?_); rintro e w1 ⟨rfl, rfl⟩)
    )
  go_ret2
  exact ⟨w.heap.size, rfl, Nat.le_refl _, (Only.refl _ _).alloc _, Blk.new _ _ _⟩

/-- the data of a ping -/
def dataB (n : Int) : ByteArray := layS [⟨0, 4, noS⟩, ⟨n % 2147483648, 4, noS⟩]
theorem laid_any (n : Int) (w : World) (h0 : 0 ≤ n) (h1 : n ≤ 1000000) : Calls Try.prog 15 #[.int .i64 n] w fun x w' => x = .returned (.string (dataB n)) ∧ Only Nil w w' := by
  have hn : n % 2147483648 = n := by omega
  unfold dataB
  rw [hn]
  have hok : ∀ p ∈ [(⟨0, 4, noS⟩ : Pc), ⟨n, 4, noS⟩], p.ok := by
    intro p hp
    simp at hp
    rcases hp with rfl | rfl
    · exact pc_ok (by decide) (by decide) (by decide)
    · exact pc_ok (by omega) (by decide) (by decide)
  have hL := fun (W : World) (A : Option Addr) (cap : Nat) (h : Sq encPc 3 W W.heap.size A [⟨0, 4, noS⟩, ⟨n, 4, noS⟩]) => Lay_known A cap 2 [⟨0, 4, noS⟩, ⟨n, 4, noS⟩] _ _ W h hok rfl (by simp) rfl rfl
  clear hok
  have HL := Lib.hid hL
  clear hL
  go_enter Try.func15, Try.ntmps15
  go_wp2_with (first
    | (go_at_call 18; (with_reducible refine (U_any 0 4 _).mono ?_); rintro e w1 ⟨rfl, ho1⟩)
    | (go_at_call 18; (with_reducible refine (U_any n _ _).mono ?_); rintro e w2 ⟨rfl, ho2⟩; have hP2 := Blk.sq (enc := encPc) (sz := 3) (l := [⟨0, 4, noS⟩, ⟨n, 4, noS⟩]) (Blk.new w2 46 #[.int .i64 0, .int .i64 4, .string noS, .int .i64 n, .int .i64 4, .string noS]) rfl encPc_len)
    | (go_at_call 17; (with_reducible refine (HL.out _ _ _ hP2).mono ?_); rintro e w3 ⟨rfl, ho3⟩)
    )
  go_ret
  exact ⟨rfl, ((ho1.trans ho2).alloc _).trans ho3⟩

def BtPost (w : World) (b : Nat) (v : Value) (q : Bs) (x : Ending) (w' : World) : Prop := x = .returned v ∧ Only (One b) w w' ∧ Bt w' b q
set_option maxHeartbeats 1000000 in
theorem at_any (b : Nat) (t : Int) (q : Bs) (w : World) (hT : Bt w b q) (hn : q.now ≤ t) :
    Calls Try.prog 13 #[.pointer (some ⟨b, 0, none⟩), .int .i64 t] w (BtPost w b (.tuple #[]) { q with now := t }) := by
  obtain ⟨c0, c1, c2, c3, c4, c5, c6, c7⟩ := hT.facts
  obtain ⟨f2, f3, f4, f5, f6, f7⟩ := hT.loose
  obtain ⟨every, wait, now, heard, out, lost, since, count⟩ := q
  dsimp only at c0 c1 c2 c3 c4 c5 c6 c7 hn
  go_enter Try.func13, Try.ntmps13
  go_wp2
  · go_end0
    exact ⟨rfl, (Only.refl (One b) w).set1 2 _, hT.set 2 _⟩
  · have e : now = t := by omega
    subst e
    go_end0
    exact ⟨rfl, (Only.refl (One b) w).set1 2 _, hT.set 2 _⟩
set_option maxHeartbeats 1000000 in
theorem Heard_any (b : Nat) (t : Int) (q : Bs) (w : World) (h : Bt w b q) (hn : q.now ≤ t) :
    Calls Try.prog 10 #[.pointer (some ⟨b, 0, none⟩), .int .i64 t] w (BtPost w b (.tuple #[]) { q with now := t, heard := t }) := by
  obtain ⟨every, wait, now, heard, out, lost, since, count⟩ := q
  go_enter Try.func10, Try.ntmps10
  go_wp2_with (first
    | (go_at_call 13; (with_reducible refine (at_any b t _ _ h hn).mono ?_); rintro e w1 ⟨rfl, ho1, hB1⟩; obtain ⟨c0, c1, c2, c3, c4, c5, c6, c7⟩ := Bt.facts hB1; obtain ⟨f2, f3, f4, f5, f6, f7⟩ := Bt.loose hB1; dsimp only at c0 c1 c2 c3 c4 c5 c6 c7)
    )
  go_end0
  exact ⟨rfl, ho1.set1 3 _, hB1.set 3 _⟩
theorem Heard_nil (t : Int) (w : World) : Calls Try.prog 10 #[.pointer none, .int .i64 t] w fun x w' => x = .returned (.tuple #[]) ∧ w = w' := by
  go_enter Try.func10, Try.ntmps10
  go_wp2
  refine bodyPost_ret (results_none rfl _ _ _) rfl ?_
  exact ⟨rfl, rfl⟩
theorem Out_any (b : Nat) (q : Bs) (w : World) (h : Bt w b q) : Calls Try.prog 9 #[.pointer (some ⟨b, 0, none⟩)] w fun x w' => x = .returned (.bool q.out) ∧ w = w' := by
  obtain ⟨c0, c1, c2, c3, c4, c5, c6, c7⟩ := h.facts
  go_enter Try.func9, Try.ntmps9
  go_wp2
  go_ret
  exact ⟨rfl, rfl⟩
theorem Out_nil (w : World) : Calls Try.prog 9 #[.pointer none] w fun x w' => x = .returned (.bool false) ∧ w = w' := by
  go_enter Try.func9, Try.ntmps9
  go_wp2
  go_ret
  exact ⟨rfl, rfl⟩
theorem Count_any (b : Nat) (q : Bs) (w : World) (h : Bt w b q) : Calls Try.prog 11 #[.pointer (some ⟨b, 0, none⟩)] w fun x w' => x = .returned (.int .i64 q.count) ∧ w = w' := by
  obtain ⟨c0, c1, c2, c3, c4, c5, c6, c7⟩ := h.facts
  go_enter Try.func11, Try.ntmps11
  go_wp2
  go_ret
  exact ⟨rfl, rfl⟩
theorem Count_nil (w : World) : Calls Try.prog 11 #[.pointer none] w fun x w' => x = .returned (.int .i64 0) ∧ w = w' := by
  go_enter Try.func11, Try.ntmps11
  go_wp2
  go_ret
  exact ⟨rfl, rfl⟩
def AgoPost (w : World) (b : Nat) (t : Int) (x : Ending) (w' : World) : Prop := ∃ g g2, x = .returned (.func (.func 16) #[] #[.pointer (some ⟨g, 0, none⟩), .pointer (some ⟨g2, 0, none⟩)]) ∧ Only Nil w w' ∧ Blk w' g 25 #[.pointer (some ⟨b, 0, none⟩)] ∧ Blk w' g2 3 #[.int .i64 t]
theorem ago_any (b : Nat) (t : Int) (w : World) : Calls Try.prog 14 #[.pointer (some ⟨b, 0, none⟩), .int .i64 t] w (AgoPost w b t) := by
  have hmf := mkf Try.prog
  go_enter Try.func14, Try.ntmps14
  go_wp2
  go_ret
  refine ⟨_, _, rfl, ((Only.refl _ _).alloc _).alloc _, (Blk.new _ _ _).alloc _, ?_⟩
  have := Blk.new (w.alloc (.cells #[.pointer (some ⟨b, 0, none⟩)] 25)) 3 #[.int .i64 t]
  simpa using this
theorem ago1_any (g g2 b : Nat) (t n : Int) (q : Bs) (w : World) (hg : Blk w g 25 #[.pointer (some ⟨b, 0, none⟩)]) (hg2 : Blk w g2 3 #[.int .i64 t]) (h : Bt w b q) (h1 : 0 ≤ q.now) (h2 : q.now ≤ 1000000) (h3 : 0 ≤ t) (h4 : t ≤ 1000000) :
    Calls Try.prog 16 #[.int .i64 n, .pointer (some ⟨g, 0, none⟩), .pointer (some ⟨g2, 0, none⟩)] w fun x w' => x = .returned (.bool (decide (n ≤ q.now - t))) ∧ Only Nil w w' := by
  obtain ⟨c0, c1, c2, c3, c4, c5, c6, c7⟩ := h.facts
  obtain ⟨every, wait, now, heard, out, lost, since, count⟩ := q
  dsimp only at c0 c1 c2 c3 c4 c5 c6 c7 h1 h2 ⊢
  have cg : w.cell? ⟨g, 0, none⟩ = some (.pointer (some ⟨b, 0, none⟩)) := hg.cell 0
  have cg2 : w.cell? ⟨g2, 0, none⟩ = some (.int .i64 t) := hg2.cell 0
  go_enter Try.func16, Try.ntmps16
  go_wp2
  go_quiet (fail)
  go_wp2
  go_ret
  exact ⟨by first | rfl | simp, (Only.refl _ _).drewN _⟩
def StPost (w : World) (b : Nat) (k : Int) (S : ByteArray) (q : Bs) (x : Ending) (w' : World) : Prop := x = .returned (.tuple #[.int .i64 k, .string S]) ∧ Only (One b) w w' ∧ Bt w' b q
theorem Step_nil (t : Int) (w : World) : Calls Try.prog 7 #[.pointer none, .int .i64 t] w fun x w' => x = .returned (.tuple #[.int .i64 0, .string noS]) ∧ w = w' := by
  go_enter Try.func7, Try.ntmps7
  go_wp2
  go_ret2
  exact ⟨rfl, rfl⟩
theorem Step_off (b : Nat) (t : Int) (q : Bs) (w : World) (h : Bt w b q) (h0 : q.every = 0) : Calls Try.prog 7 #[.pointer (some ⟨b, 0, none⟩), .int .i64 t] w fun x w' => x = .returned (.tuple #[.int .i64 0, .string noS]) ∧ w = w' := by
  obtain ⟨c0, c1, c2, c3, c4, c5, c6, c7⟩ := h.facts
  obtain ⟨every, wait, now, heard, out, lost, since, count⟩ := q
  dsimp only at c0 h0
  subst h0
  go_enter Try.func7, Try.ntmps7
  go_wp2
  go_ret2
  exact ⟨rfl, rfl⟩
theorem Pong_nil (t : Int) (S : ByteArray) (w : World) : Calls Try.prog 8 #[.pointer none, .int .i64 t, .string S] w fun x w' => x = .returned (.bool false) ∧ w = w' := by
  go_enter Try.func8, Try.ntmps8
  go_wp2
  go_ret
  exact ⟨rfl, rfl⟩
theorem Pong_off (b : Nat) (t : Int) (S : ByteArray) (q : Bs) (w : World) (h : Bt w b q) (h0 : q.out = false) : Calls Try.prog 8 #[.pointer (some ⟨b, 0, none⟩), .int .i64 t, .string S] w fun x w' => x = .returned (.bool false) ∧ w = w' := by
  obtain ⟨c0, c1, c2, c3, c4, c5, c6, c7⟩ := h.facts
  rw [h0] at c4
  clear h0
  go_enter Try.func8, Try.ntmps8
  go_wp2
  go_ret
  exact ⟨rfl, rfl⟩
end Go.Proofs.Ytjepehgmldgnlaa
