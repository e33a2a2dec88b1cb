/- A sender of bytes, whatever was dropped: what its calls do. -/
import Derived.Test.YtjhjfgelcbphjaaDoorTx2
import Derived.Test.YtjhjfgelcbphjaaDoorQueue2
import Derived.Test.YtjhjfgelcbphjaaDoorDemand
namespace Go.Proofs.YtjhjfgelcbphjaaDoor
open Go.RowKit

/-- what a call may turn next is what it might, or new -/
def Grew (w : World) (F F' : Nat → Prop) : Prop := ∀ k, F' k → F k ∨ w.heap.size ≤ k
theorem Grew.refl (w : World) (F : Nat → Prop) : Grew w F F := fun _ h => .inl h
theorem Waiting_in (A S D q : Int) (w : World) (hq : A - S - D = q) (a0 : 0 ≤ A) (a1 : A ≤ 1000000000000) (s0 : 0 ≤ S) (s1 : S ≤ 1000000000000) (d0 : 0 ≤ D) (d1 : D ≤ 1000000000000) : Calls Tryd.prog 33 #[.agg #[.int .i64 A, .int .i64 S, .int .i64 D]] w fun x w' => x = .returned (.int .i64 q) ∧ Only Nil w w' := by
  subst hq
  go_enter Tryd.func33, Tryd.ntmps33
  go_wp2
  go_ret
  exact ⟨rfl, (Only.refl _ _).alloc _⟩
/-- a sender of bytes -/
structure TBy (w : World) (b r g base c F : Nat) (row L : List UInt8) (A S D : Int) (en ou : Bool) : Prop where
  blk : Blk w b 111 #[.int .i64 A, .int .i64 S, .int .i64 D, .int .i64 1, .pointer (some ⟨r, 0, none⟩), .pointer none, .pointer none, .bool en, .bool ou]
  ring : Rg w r g base c F row L
  hb : base ≤ b
/-- what is true of its counts -/
def cOk (m A S D : Int) : Prop := A = S + D + m ∧ 0 ≤ m ∧ 0 ≤ S ∧ 0 ≤ D ∧ A ≤ 1000000
section
variable {w w' : World} {b r g base c F : Nat} {row L : List UInt8} {A S D : Int} {en ou : Bool}
theorem TBy.ner (h : TBy w b r g base c F row L A S D en ou) : b ≠ r := fun e => by
  subst e
  have := h.blk.type h.ring.blk
  exact absurd this (by decide)
theorem TBy.neg (h : TBy w b r g base c F row L A S D en ou) : b ≠ g := fun e => by
  have := h.ring.own.ne h.blk (by decide)
  subst e
  exact this rfl
theorem TBy.kept (h : TBy w b r g base c F row L A S D en ou) (ho : Only Nil w w') : TBy w' b r g base c F row L A S D en ou := ⟨h.blk.kept ho (fun hh => hh), h.ring.go ho, h.hb⟩
theorem TBy.facts (h : TBy w b r g base c F row L A S D en ou) : w.cell? ⟨b, 0, none⟩ = some (.int .i64 A) ∧ w.cell? ⟨b, 1, none⟩ = some (.int .i64 S) ∧ w.cell? ⟨b, 2, none⟩ = some (.int .i64 D) ∧ w.cell? ⟨b, 3, none⟩ = some (.int .i64 1) ∧ w.cell? ⟨b, 4, none⟩ = some (.pointer (some ⟨r, 0, none⟩)) ∧
    w.cell? ⟨b, 5, none⟩ = some (.pointer none) ∧ w.cell? ⟨b, 6, none⟩ = some (.pointer none) ∧ w.cell? ⟨b, 7, none⟩ = some (.bool en) ∧ w.cell? ⟨b, 8, none⟩ = some (.bool ou) ∧ b < w.heap.size :=
  ⟨h.blk.cell 0, h.blk.cell 1, h.blk.cell 2, h.blk.cell 3, h.blk.cell 4, h.blk.cell 5, h.blk.cell 6, h.blk.cell 7, h.blk.cell 8, h.blk.lt⟩
theorem TBy.put (h : TBy w b r g base c F row L A S D en ou) (i : Nat) (u : Value) {A' S' D' : Int} {en' ou' : Bool}
    (hc : (#[.int .i64 A, .int .i64 S, .int .i64 D, .int .i64 1, .pointer (some ⟨r, 0, none⟩), .pointer none, .pointer none, .bool en, .bool ou] : Array Value).setIfInBounds i u = #[.int .i64 A', .int .i64 S', .int .i64 D', .int .i64 1, .pointer (some ⟨r, 0, none⟩), .pointer none, .pointer none, .bool en', .bool ou']) :
    TBy (w.setCell ⟨b, i, none⟩ u) b r g base c F row L A' S' D' en' ou' := by
  have hB := h.blk.set i u
  rw [hc] at hB
  exact ⟨hB, h.ring.kept ((Only.refl (One b) w).set1 i u) (fun e => h.ner e.symm) (fun e => h.neg e.symm), h.hb⟩
def TyPost (w : World) (b r g base c : Nat) (v : Value) (L : List UInt8) (A S D : Int) (en ou : Bool) (x : Ending) (w' : World) : Prop := ∃ (F' : Nat) (row' : List UInt8), x = .returned v ∧ TBy w' b r g base c F' row' L A S D en ou ∧ Only (RThr b r g) w w'
theorem TKind_y (w : World) (h : TBy w b r g base c F row L A S D en ou) : Calls Tryd.prog 43 #[.pointer (some ⟨b, 0, none⟩)] w fun x w' => x = .returned (.int .i64 1) ∧ w = w' := by
  obtain ⟨c0, c1, c2, c3, c4, c5, c6, c7, c8, zb⟩ := h.facts
  clear h
  go_enter Tryd.func43, Tryd.ntmps43
  go_wp2
  go_ret
  exact ⟨rfl, rfl⟩
theorem TTold_y (w : World) (h : TBy w b r g base c F row L A S D en ou) : Calls Tryd.prog 32 #[.pointer (some ⟨b, 0, none⟩)] w fun x w' => x = .returned (.agg #[.int .i64 A, .int .i64 S, .int .i64 D]) ∧ Only Nil w w' := by
  obtain ⟨c0, c1, c2, c3, c4, c5, c6, c7, c8, zb⟩ := h.facts
  clear h
  go_enter Tryd.func32, Tryd.ntmps32
  go_wp2
  exact bodyPost_ret (v := .agg #[.int .i64 A, .int .i64 S, .int .i64 D]) (by simp [results, Tryd.results32, go_sem]) rfl ⟨rfl, (Only.refl _ _).alloc _⟩
theorem TWant_y (n : Int) (w : World) (h : TBy w b r g base c F row L A S D en ou) : Calls Tryd.prog 47 #[.pointer (some ⟨b, 0, none⟩), .int .i64 n] w fun x w' => x = .returned (.int .i64 13) ∧ w = w' := by
  obtain ⟨c0, c1, c2, c3, c4, c5, c6, c7, c8, zb⟩ := h.facts
  clear h
  go_enter Tryd.func47, Tryd.ntmps47
  go_wp2
  go_ret
  exact ⟨rfl, rfl⟩
theorem TWanted_y (w : World) (h : TBy w b r g base c F row L A S D en ou) : Calls Tryd.prog 101 #[.pointer (some ⟨b, 0, none⟩)] w fun x w' => x = .returned (.int .i64 0) ∧ w = w' := by
  obtain ⟨c0, c1, c2, c3, c4, c5, c6, c7, c8, zb⟩ := h.facts
  clear h
  go_enter Tryd.func101, Tryd.ntmps101
  go_wp2_with (first
    | (go_at_call 99; (with_reducible refine (Dem.Left_nil _).mono ?_); rintro e w1 ⟨rfl, rfl⟩)
    )
  go_ret
  exact ⟨rfl, rfl⟩
theorem TEnd_y (w : World) (h : TBy w b r g base c F row L A S D false ou) : Calls Tryd.prog 65 #[.pointer (some ⟨b, 0, none⟩)] w (TyPost w b r g base c (.int .i64 0) L A S D true ou) := by
  obtain ⟨c0, c1, c2, c3, c4, c5, c6, c7, c8, zb⟩ := h.facts
  have f7 := h.blk.frozen 7
  have H := Lib.hid h
  clear h
  go_enter Tryd.func65, Tryd.ntmps65
  go_wp2
  go_ret
  exact ⟨F, row, rfl, H.out.put 7 _ rfl, (Only.refl _ _).thrB 7 _⟩
theorem TEnd_yy (w : World) (h : TBy w b r g base c F row L A S D true ou) : Calls Tryd.prog 65 #[.pointer (some ⟨b, 0, none⟩)] w fun x w' => x = .returned (.int .i64 11) ∧ w = w' := by
  obtain ⟨c0, c1, c2, c3, c4, c5, c6, c7, c8, zb⟩ := h.facts
  clear h
  go_enter Tryd.func65, Tryd.ntmps65
  go_wp2
  go_ret
  exact ⟨rfl, rfl⟩
theorem TOffer_yy (X : ByteArray) (w : World) (h : TBy w b r g base c F row L A S D true ou) : Calls Tryd.prog 54 #[.pointer (some ⟨b, 0, none⟩), .string X] w fun x w' => x = .returned (.tuple #[.int .i64 0, .int .i64 11]) ∧ w = w' := by
  obtain ⟨c0, c1, c2, c3, c4, c5, c6, c7, c8, zb⟩ := h.facts
  clear h
  go_enter Tryd.func54, Tryd.ntmps54
  go_wp2
  go_ret2
  exact ⟨rfl, rfl⟩
set_option maxHeartbeats 2000000 in
theorem TOffer_y (X : ByteArray) (w : World) (h : TBy w b r g base c F row L A S D false ou) (k : Nat) (hk : k = min X.size (c - L.length)) (a0 : 0 ≤ A) (a1 : A ≤ 1000000000000) :
    Calls Tryd.prog 54 #[.pointer (some ⟨b, 0, none⟩), .string X] w (TyPost w b r g base c (.tuple #[.int .i64 k, .int .i64 0]) (L ++ X.data.toList.take k) (A + k) S D false ou) := by
  have hW := Lib.hid (Write_any X w h.ring)
  rw [← hk] at hW
  obtain ⟨c0, c1, c2, c3, c4, c5, c6, c7, c8, zb⟩ := h.facts
  have hbig := h.ring.big
  have hk2 : (k : Int) ≤ 65536 := by omega
  have hner := Lib.hid h.ner
  have hneg := Lib.hid h.neg
  have H := Lib.hid h
  clear h hk
  go_enter Tryd.func54, Tryd.ntmps54
  go_wp2_with (first
    | (go_at_call 79; (with_reducible refine (hW.out).mono ?_); rintro e w1 ⟨row1, rfl, hR1, ho1⟩; have hB1 := H.out.blk.kept ho1 (fun hh => by rcases hh with hh | hh; exact hner.out hh; exact hneg.out hh); have d0 := hB1.cell 0; have zd := hB1.lt; have f0 := hB1.frozen 0; have HB1 := Lib.hid hB1; have HR1 := Lib.hid hR1; have HO1 := Lib.hid ho1; clear hB1 hR1 ho1)
    )
  go_ret2
  have hT1 : TBy w1 b r g base c F row1 (L ++ X.data.toList.take k) A S D false ou := ⟨HB1.out, HR1.out, H.out.hb⟩
  exact ⟨F, row1, rfl, hT1.put 0 _ rfl, HO1.out.thr2.thrB 0 _⟩
theorem TReady_y0 (n : Int) (w : World) (h : TBy w b r g base c F row L A S D en ou) (hc : cOk L.length A S D) (hl : L.length = 0) (rb : Bool) (hrb : (en && !ou) = rb) : Calls Tryd.prog 85 #[.pointer (some ⟨b, 0, none⟩), .int .i64 n] w fun x w' => x = .returned (.bool rb) ∧ Only Nil w w' := by
  obtain ⟨i1, i2, i3, i4, i5⟩ := hc
  have hW := Lib.hid (Waiting_in A S D 0 w (by omega) (by omega) (by omega) i3 (by omega) i4 (by omega))
  have H := Lib.hid h
  obtain ⟨c0, c1, c2, c3, c4, c5, c6, c7, c8, zb⟩ := h.facts
  clear h i1 i2 i3 i4 i5 hl
  subst hrb
  cases en <;> cases ou
  all_goals
    go_enter Tryd.func85, Tryd.ntmps85
    go_wp2_with (first
      | (go_at_call 33; (with_reducible refine (hW.out).mono ?_); rintro e w1 ⟨rfl, ho1⟩; have d7 := (H.out.blk.kept ho1 (fun hh => hh)).cell 7; have d8 := (H.out.blk.kept ho1 (fun hh => hh)).cell 8; have zd := (H.out.blk.kept ho1 (fun hh => hh)).lt)
      )
    go_ret
    exact ⟨rfl, ho1⟩
theorem TReady_y1 (n : Int) (w : World) (h : TBy w b r g base c F row L A S D en ou) (hc : cOk L.length A S D) (hl : 0 < L.length) (rb : Bool) (hrb : decide (0 < n) = rb) : Calls Tryd.prog 85 #[.pointer (some ⟨b, 0, none⟩), .int .i64 n] w fun x w' => x = .returned (.bool rb) ∧ Only Nil w w' := by
  obtain ⟨i1, i2, i3, i4, i5⟩ := hc
  have hW := Lib.hid (Waiting_in A S D L.length w (by omega) (by omega) (by omega) i3 (by omega) i4 (by omega))
  have H := Lib.hid h
  have hne : ¬ (L.length : Int) = 0 := by omega
  obtain ⟨c0, c1, c2, c3, c4, c5, c6, c7, c8, zb⟩ := h.facts
  generalize L.length = m at *
  clear h i1 i2 i3 i4 i5 hl
  subst hrb
  go_enter Tryd.func85, Tryd.ntmps85
  go_wp2_with (first
    | (go_at_call 33; (with_reducible refine (hW.out).mono ?_); rintro e w1 ⟨rfl, ho1⟩; have d3 := (H.out.blk.kept ho1 (fun hh => hh)).cell 3; have zd := (H.out.blk.kept ho1 (fun hh => hh)).lt)
    )
  go_ret
  exact ⟨rfl, ho1⟩
/-- may something be sent? -/
def rdyF (kd n wn : Int) (m : Nat) (en ou : Bool) : Bool := if m = 0 then en && !ou else if kd = 2 then decide (0 < wn) else decide (0 < n)
theorem TReady_y (n : Int) (w : World) (h : TBy w b r g base c F row L A S D en ou) (hc : cOk L.length A S D) (rb : Bool) (hrb : rdyF 1 n 0 L.length en ou = rb) : Calls Tryd.prog 85 #[.pointer (some ⟨b, 0, none⟩), .int .i64 n] w fun x w' => x = .returned (.bool rb) ∧ Only Nil w w' := by
  unfold rdyF at hrb
  by_cases h0 : L.length = 0
  · rw [if_pos h0] at hrb
    exact TReady_y0 n w h hc h0 rb hrb
  · rw [if_neg h0, if_neg (by decide)] at hrb
    exact TReady_y1 n w h hc (by omega) rb hrb
def CyPost (w : World) (b r g base c : Nat) (row L : List UInt8) (A S D : Int) (en ou : Bool) (n : Int) (x : Ending) (w' : World) : Prop :=
  ∃ F', x = .returned (.tuple #[.string (strOf (L.take (outN n L.length))), .int .i64 (outN n L.length)]) ∧ TBy w' b r g base c F' row (L.drop (outN n L.length)) A S D en ou ∧ Only (RThr b r g) w w'
theorem cutter1_y (n : Int) (k : Nat) (w : World) (h : TBy w b r g base c F row L A S D en ou) (hk : Blk w k 34 #[.pointer (some ⟨b, 0, none⟩)]) : Calls Tryd.prog 102 #[.int .i64 n, .pointer (some ⟨k, 0, none⟩)] w (CyPost w b r g base c row L A S D en ou n) := by
  have e0 := hk.cell 0
  have ze := hk.lt
  obtain ⟨c0, c1, c2, c3, c4, c5, c6, c7, c8, zb⟩ := h.facts
  have hner := Lib.hid h.ner
  have hneg := Lib.hid h.neg
  have hsz : (strOf (L.take (outN n L.length))).size = outN n L.length := by
    rw [strOf_size, List.length_take]
    have := outN_le n L.length
    omega
  have HSZ := Lib.hid hsz
  have hR := Lib.hid (Read_any (if n ≤ 256 then n else 256) w h.ring)
  rw [show cnt (if n ≤ 256 then n else 256) L.length = outN n L.length from rfl] at hR
  have H := Lib.hid h
  obtain ⟨X, hX⟩ : ∃ X, X = strOf (L.take (outN n L.length)) := ⟨_, rfl⟩
  have HX := Lib.hid hX
  rw [← hX] at hR HSZ
  obtain ⟨m, hm⟩ : ∃ m, m = outN n L.length := ⟨_, rfl⟩
  have HM := Lib.hid hm
  rw [← hm] at hR HSZ
  clear h hk hsz hX hm
  by_cases hn : n ≤ 256
  · rw [if_pos hn] at hR
    have hn' : ¬ (256 : Int) < n := by omega
    go_enter Tryd.func102, Tryd.ntmps102
    go_wp2_with (first
      | (go_at_call 73; (with_reducible refine (hR.out).mono ?_); rintro e w1 ⟨F1, rfl, hR1, ho1⟩; have HR1 := Lib.hid hR1; have HO1 := Lib.hid ho1; have hsz := HSZ.out; clear hR1 ho1)
      )
    go_ret2
    refine ⟨F1, ?_, ⟨H.out.blk.kept HO1.out (fun hh => hner.out hh), HM.out ▸ HR1.out, H.out.hb⟩, HO1.out.thr1⟩
    rw [← HX.out, ← HM.out]
    rfl
  · rw [if_neg hn] at hR
    have hn' : (256 : Int) < n := by omega
    go_enter Tryd.func102, Tryd.ntmps102
    go_wp2_with (first
      | (go_at_call 73; (with_reducible refine (hR.out).mono ?_); rintro e w1 ⟨F1, rfl, hR1, ho1⟩; have HR1 := Lib.hid hR1; have HO1 := Lib.hid ho1; have hsz := HSZ.out; clear hR1 ho1)
      )
    go_ret2
    refine ⟨F1, ?_, ⟨H.out.blk.kept HO1.out (fun hh => hner.out hh), HM.out ▸ HR1.out, H.out.hb⟩, HO1.out.thr1⟩
    rw [← HX.out, ← HM.out]
    rfl
theorem TTake_n (n : Int) (p : Option Addr) (w : World) (hRd : Calls Tryd.prog 85 #[.pointer p, .int .i64 n] w fun x w' => x = .returned (.bool false) ∧ Only Nil w w') : Calls Tryd.prog 63 #[.pointer p, .int .i64 n] w fun x w' => x = .returned (.tuple #[.string noS, .bool false, .bool false]) ∧ Only Nil w w' := by
  have hR := Lib.hid hRd
  clear hRd
  go_enter Tryd.func63, Tryd.ntmps63
  go_wp2_with (first
    | (go_at_call 85; (with_reducible refine (hR.out).mono ?_); rintro e w1 ⟨rfl, ho1⟩)
    )
  go_ret3
  exact ⟨rfl, ho1⟩
set_option maxRecDepth 100000 in
set_option maxHeartbeats 4000000 in
theorem TTake_y (n : Int) (w : World) (h : TBy w b r g base c F row L A S D en ou) (hc : cOk L.length A S D) (hrd : rdyF 1 n 0 L.length en ou = true) (oo : Bool) (hoo : oo = (en && decide (L.length = outN n L.length))) :
    Calls Tryd.prog 63 #[.pointer (some ⟨b, 0, none⟩), .int .i64 n] w (TyPost w b r g base c (.tuple #[.string (strOf (L.take (outN n L.length))), .bool oo, .bool true]) (L.drop (outN n L.length)) A (S + outN n L.length) D en oo) := by
  have hle := outN_le n L.length
  have hRd := Lib.hid (TReady_y n w h hc true hrd)
  obtain ⟨i1, i2, i3, i4, i5⟩ := hc
  have hCt := Lib.hid (fun W k (ho : Only Nil w W) (hk : Blk W k 34 #[.pointer (some ⟨b, 0, none⟩)]) => cutter1_y n k W (h.kept ho) hk)
  unfold CyPost at hCt
  have hWa := Lib.hid (fun W => Waiting_in A (S + outN n L.length) D (L.length - outN n L.length) W (by omega) (by omega) (by omega) (by omega) (by omega) i4 (by omega))
  have hS1 : S + outN n L.length ≤ 1000000000000 := by omega
  have hS0 : 0 ≤ S + outN n L.length := by omega
  clear i1 h hrd
  cases en
  · obtain rfl : oo = false := hoo
    clear hWa
    go_enter Tryd.func63, Tryd.ntmps63
    go_wp2_with (first
      | (go_at_call 85; (with_reducible refine (hRd.out).mono ?_); rintro e w1 ⟨rfl, ho1⟩; have HO1 := Lib.hid ho1; clear ho1)
      | (go_at_call 86; (with_reducible refine (cutter_any _).mono ?_); rintro e w2 ⟨k, rfl, ho2, hk⟩; have HO2 := Lib.hid (HO1.out.trans ho2); have HK := Lib.hid hk; clear ho2 hk)
      | (go_at_call 102; (with_reducible refine (hCt.out _ k HO2.out HK.out).mono ?_); rintro e w3 ⟨F3, rfl, hT3, hO3⟩; have HT3 := Lib.hid hT3; have HO3 := Lib.hid hO3; obtain ⟨d0, d1, d2, d3, d4, d5, d6, d7, d8, zd⟩ := hT3.facts; have f1 := hT3.blk.frozen 1; have f8 := hT3.blk.frozen 8; have HB3 := Lib.hid (show TBy (w3.setCell ⟨b, 1, none⟩ (.int .i64 (S + outN n L.length))) b r g base c F3 row _ A (S + outN n L.length) D false ou from hT3.put 1 _ rfl); clear hT3 hO3)
      | (go_at_call 33; (with_reducible refine (hWa.out _).mono ?_); rintro e w4 ⟨rfl, ho4⟩; have hB4 := HB3.out.kept ho4; obtain ⟨g0, g1, g2, g3, g4, g5, g6, g7, g8, zg⟩ := hB4.facts; have k8 := hB4.blk.frozen 8; have HB4 := Lib.hid hB4; have HO4 := Lib.hid ho4; clear ho4 hB4)
      )
    go_region
    go_wp2
    go_ret3
    exact ⟨F3, row, rfl, (HB3.out.put 8 _ rfl).kept ((Only.refl _ _).drew), ((((HO2.out.of_nil _).trans_new HO3.out (fun i hi hh => hh)).thrB 1 _).thrB 8 _).drew⟩
  · by_cases hm : L.length = outN n L.length
    · obtain rfl : oo = true := by rw [hoo, decide_eq_true hm]; rfl
      have hz : (L.length : Int) - outN n L.length = 0 := by omega
      rw [hz] at hWa
      clear hoo hm hz
      go_enter Tryd.func63, Tryd.ntmps63
      go_wp2_with (first
        | (go_at_call 85; (with_reducible refine (hRd.out).mono ?_); rintro e w1 ⟨rfl, ho1⟩; have HO1 := Lib.hid ho1; clear ho1)
        | (go_at_call 86; (with_reducible refine (cutter_any _).mono ?_); rintro e w2 ⟨k, rfl, ho2, hk⟩; have HO2 := Lib.hid (HO1.out.trans ho2); have HK := Lib.hid hk; clear ho2 hk)
        | (go_at_call 102; (with_reducible refine (hCt.out _ k HO2.out HK.out).mono ?_); rintro e w3 ⟨F3, rfl, hT3, hO3⟩; have HT3 := Lib.hid hT3; have HO3 := Lib.hid hO3; obtain ⟨d0, d1, d2, d3, d4, d5, d6, d7, d8, zd⟩ := hT3.facts; have f1 := hT3.blk.frozen 1; have f8 := hT3.blk.frozen 8; have HB3 := Lib.hid (show TBy (w3.setCell ⟨b, 1, none⟩ (.int .i64 (S + outN n L.length))) b r g base c F3 row _ A (S + outN n L.length) D true ou from hT3.put 1 _ rfl); clear hT3 hO3)
        | (go_at_call 33; (with_reducible refine (hWa.out _).mono ?_); rintro e w4 ⟨rfl, ho4⟩; have hB4 := HB3.out.kept ho4; obtain ⟨g0, g1, g2, g3, g4, g5, g6, g7, g8, zg⟩ := hB4.facts; have k8 := hB4.blk.frozen 8; have HB4 := Lib.hid hB4; have HO4 := Lib.hid ho4; clear ho4 hB4)
        )
      go_region
      go_wp2
      go_ret3
      exact ⟨F3, row, rfl, (HB4.out.put 8 _ rfl).kept ((Only.refl _ _).drew), ((((((HO2.out.of_nil _).trans_new HO3.out (fun i hi hh => hh)).thrB 1 _).trans (HO4.out.of_nil _)).thrB 8 _)).drew⟩
    · obtain rfl : oo = false := by rw [hoo, decide_eq_false hm]; rfl
      have hz : ¬ (L.length : Int) - outN n L.length = 0 := by omega
      clear hoo hm
      go_enter Tryd.func63, Tryd.ntmps63
      go_wp2_with (first
        | (go_at_call 85; (with_reducible refine (hRd.out).mono ?_); rintro e w1 ⟨rfl, ho1⟩; have HO1 := Lib.hid ho1; clear ho1)
        | (go_at_call 86; (with_reducible refine (cutter_any _).mono ?_); rintro e w2 ⟨k, rfl, ho2, hk⟩; have HO2 := Lib.hid (HO1.out.trans ho2); have HK := Lib.hid hk; clear ho2 hk)
        | (go_at_call 102; (with_reducible refine (hCt.out _ k HO2.out HK.out).mono ?_); rintro e w3 ⟨F3, rfl, hT3, hO3⟩; have HT3 := Lib.hid hT3; have HO3 := Lib.hid hO3; obtain ⟨d0, d1, d2, d3, d4, d5, d6, d7, d8, zd⟩ := hT3.facts; have f1 := hT3.blk.frozen 1; have f8 := hT3.blk.frozen 8; have HB3 := Lib.hid (show TBy (w3.setCell ⟨b, 1, none⟩ (.int .i64 (S + outN n L.length))) b r g base c F3 row _ A (S + outN n L.length) D true ou from hT3.put 1 _ rfl); clear hT3 hO3)
        | (go_at_call 33; (with_reducible refine (hWa.out _).mono ?_); rintro e w4 ⟨rfl, ho4⟩; have hB4 := HB3.out.kept ho4; obtain ⟨g0, g1, g2, g3, g4, g5, g6, g7, g8, zg⟩ := hB4.facts; have k8 := hB4.blk.frozen 8; have HB4 := Lib.hid hB4; have HO4 := Lib.hid ho4; clear ho4 hB4)
        )
      go_region
      go_wp2
      go_ret3
      exact ⟨F3, row, rfl, (HB4.out.put 8 _ rfl).kept ((Only.refl _ _).drew), ((((((HO2.out.of_nil _).trans_new HO3.out (fun i hi hh => hh)).thrB 1 _).trans (HO4.out.of_nil _)).thrB 8 _)).drew⟩
end
end Go.Proofs.YtjhjfgelcbphjaaDoor
