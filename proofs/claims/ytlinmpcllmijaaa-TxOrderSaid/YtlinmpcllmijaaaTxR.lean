/- The document's sender: what its calls do. -/
import Derived.Test.YtlinmpcllmijaaaTxC
import Derived.Test.YtlinmpcllmijaaaQueue5
namespace Go.Proofs.Ytlinmpcllmijaaa
open Go.RowKit

theorem Low_any (a b m : Int) (w : World) (h : (a < b ∧ m = a) ∨ (¬ a < b ∧ m = b)) : Calls Try.prog 40 #[.int .i64 a, .int .i64 b] w fun x w' => x = .returned (.int .i64 m) ∧ w = w' := by
  rcases h with ⟨h, rfl⟩ | ⟨h, rfl⟩
  · go_enter Try.func40, Try.ntmps40
    go_wp2
    go_ret
    exact ⟨rfl, rfl⟩
  · go_enter Try.func40, Try.ntmps40
    go_wp2
    go_ret
    exact ⟨rfl, rfl⟩
theorem strOf_take (L : List UInt8) (k : Nat) : (strOf L).extract 0 k = strOf (L.take k) := by
  apply ByteArray.ext
  apply Array.ext'
  simp [strOf]
theorem strOf_drop (L : List UInt8) (k : Nat) : (strOf L).extract k (strOf L).size = strOf (L.drop k) := by
  apply ByteArray.ext
  apply Array.ext'
  simp [strOf, ByteArray.size]
  rw [List.take_of_length_le (by simp)]
theorem toList_strOf (l : List UInt8) : (strOf l).toList = l := by rw [ByteArray.toList_eq]; rfl
structure RT (w : World) (b base : Nat) (v : Value) (kd cp st : Int) (B : List UInt8) (L : List ByteArray) (wn : Int) (en ou : Bool) (A S D : Int) : Prop where
  blk : Blk w b 34 #[.int .i64 kd, .int .i64 cp, .int .i64 st, .string (strOf B), v, .int .i64 wn, .bool en, .bool ou, .int .i64 A, .int .i64 S, .int .i64 D]
  own : Ow Qu.encS 1 w base 9 v L
  hb : base ≤ b
def RTPost (w : World) (b base : Nat) (v0 : Value) (kd cp st : Int) (r : Value) (B : List UInt8) (L : List ByteArray) (wn : Int) (en ou : Bool) (A S D : Int) (x : Ending) (w' : World) : Prop :=
  ∃ v', x = .returned r ∧ RT w' b base v' kd cp st B L wn en ou A S D ∧ Only (One b) w w' ∧ ∀ g, v'.ownBlock = some g → v0.ownBlock = some g ∨ w.heap.size ≤ g
section
variable {w w' : World} {b base : Nat} {v : Value} {kd cp st : Int} {B : List UInt8} {L : List ByteArray} {wn A S D m : Int} {en ou : Bool}
theorem RT.kept (h : RT w b base v kd cp st B L wn en ou A S D) (ho : Only Nil w w') : RT w' b base v kd cp st B L wn en ou A S D := ⟨h.blk.kept ho (fun hh => hh), h.own.kept ho (fun _ _ hh => hh), h.hb⟩
theorem RT.off {G : Nat → Prop} (h : RT w b base v kd cp st B L wn en ou A S D) (ho : Only G w w') (h1 : ¬ G b) (h2 : ∀ g, v.ownBlock = some g → ¬ G g) : RT w' b base v kd cp st B L wn en ou A S D := ⟨h.blk.kept ho h1, h.own.kept ho h2, h.hb⟩
theorem RT.facts (h : RT w b base v kd cp st B L wn en ou A S D) : w.cell? ⟨b, 0, none⟩ = some (.int .i64 kd) ∧ w.cell? ⟨b, 1, none⟩ = some (.int .i64 cp) ∧ w.cell? ⟨b, 2, none⟩ = some (.int .i64 st) ∧ w.cell? ⟨b, 3, none⟩ = some (.string (strOf B)) ∧ w.cell? ⟨b, 4, none⟩ = some v ∧ w.cell? ⟨b, 5, none⟩ = some (.int .i64 wn) ∧
    w.cell? ⟨b, 6, none⟩ = some (.bool en) ∧ w.cell? ⟨b, 7, none⟩ = some (.bool ou) ∧ w.cell? ⟨b, 8, none⟩ = some (.int .i64 A) ∧ w.cell? ⟨b, 9, none⟩ = some (.int .i64 S) ∧ w.cell? ⟨b, 10, none⟩ = some (.int .i64 D) ∧ b < w.heap.size :=
  ⟨h.blk.cell 0, h.blk.cell 1, h.blk.cell 2, h.blk.cell 3, h.blk.cell 4, h.blk.cell 5, h.blk.cell 6, h.blk.cell 7, h.blk.cell 8, h.blk.cell 9, h.blk.cell 10, h.blk.lt⟩
theorem RT.thaw (h : RT w b base v kd cp st B L wn en ou A S D) : w.frozen? ⟨b, 3, none⟩ = false ∧ w.frozen? ⟨b, 4, none⟩ = false ∧ w.frozen? ⟨b, 5, none⟩ = false ∧ w.frozen? ⟨b, 6, none⟩ = false ∧ w.frozen? ⟨b, 7, none⟩ = false ∧ w.frozen? ⟨b, 8, none⟩ = false ∧ w.frozen? ⟨b, 9, none⟩ = false ∧ w.frozen? ⟨b, 10, none⟩ = false :=
  ⟨h.blk.frozen 3, h.blk.frozen 4, h.blk.frozen 5, h.blk.frozen 6, h.blk.frozen 7, h.blk.frozen 8, h.blk.frozen 9, h.blk.frozen 10⟩
theorem RT.ne (h : RT w b base v kd cp st B L wn en ou A S D) : v.ownBlock ≠ some b := h.own.ne h.blk (by decide)
/-- cells of its own block are written -/
theorem RT.put (h : RT w b base v kd cp st B L wn en ou A S D) (i : Nat) (u : Value) {kd' cp' st' : Int} {B' : List UInt8} {wn' A' S' D' : Int} {en' ou' : Bool}
    (hc : (#[.int .i64 kd, .int .i64 cp, .int .i64 st, .string (strOf B), v, .int .i64 wn, .bool en, .bool ou, .int .i64 A, .int .i64 S, .int .i64 D] : Array Value).setIfInBounds i u = #[.int .i64 kd', .int .i64 cp', .int .i64 st', .string (strOf B'), v, .int .i64 wn', .bool en', .bool ou', .int .i64 A', .int .i64 S', .int .i64 D']) :
    RT (w.setCell ⟨b, i, none⟩ u) b base v kd' cp' st' B' L wn' en' ou' A' S' D' := by
  have hB := h.blk.set i u
  rw [hc] at hB
  exact ⟨hB, h.own.set h.ne i u, h.hb⟩
theorem RT.putL {v' : Value} {L' : List ByteArray} (h : RT w b base v kd cp st B L wn en ou A S D) (hO : Ow Qu.encS 1 w base 9 v' L') : RT (w.setCell ⟨b, 4, none⟩ v') b base v' kd cp st B L' wn en ou A S D :=
  ⟨h.blk.set 4 v', hO.set (hO.ne h.blk (by decide)) 4 v', h.hb⟩
theorem Only.r1 (ho : Only (One b) w w') (i : Nat) (u : Value) : Only (One b) w (w'.setCell ⟨b, i, none⟩ u) := ho.set1 i u
theorem RTPost.same {r : Value} {x : Ending} (h : RT w b base v kd cp st B L wn en ou A S D) (hx : x = .returned r) (ho : Only Nil w w') : RTPost w b base v kd cp st r B L wn en ou A S D x w' :=
  ⟨v, hx, h.kept ho, ho.of_nil _, fun _ hg => .inl hg⟩
theorem RWaiting_1 (w : World) (h : RT w b base v 1 cp st B L wn en ou A S D) : Calls Try.prog 13 #[.pointer (some ⟨b, 0, none⟩)] w fun x w' => x = .returned (.int .i64 B.length) ∧ w = w' := by
  obtain ⟨c0, c1, c2, c3, c4, c5, c6, c7, c8, c9, c10, zb⟩ := h.facts
  have hs := Lib.hid (strOf_size B)
  clear h
  generalize strOf B = XB at *
  go_enter Try.func13, Try.ntmps13
  go_wp2
  go_ret
  exact ⟨by first | rfl | (rw [hs.out]; rfl), rfl⟩
theorem RWaiting_2 (w : World) (h : RT w b base v 2 cp st B L wn en ou A S D) : Calls Try.prog 13 #[.pointer (some ⟨b, 0, none⟩)] w fun x w' => x = .returned (.int .i64 L.length) ∧ w = w' := by
  obtain ⟨Aa, cap, rfl, hcp, hm⟩ := h.own.form
  obtain ⟨c0, c1, c2, c3, c4, c5, c6, c7, c8, c9, c10, zb⟩ := h.facts
  clear h
  go_enter Try.func13, Try.ntmps13
  go_wp2
  go_ret
  exact ⟨rfl, rfl⟩
theorem RT.Waiting (h : RT w b base v kd cp st B L wn en ou A S D) (hk : kd = 1 ∨ kd = 2) (k1 : kd = 1 → L = []) (k2 : kd = 2 → B = []) : Calls Try.prog 13 #[.pointer (some ⟨b, 0, none⟩)] w fun x w' => x = .returned (.int .i64 (nOf B L : Nat)) ∧ w = w' := by
  rcases hk with rfl | rfl
  · obtain rfl := k1 rfl
    exact RWaiting_1 w h
  · obtain rfl := k2 rfl
    simpa [nOf] using RWaiting_2 w h
theorem RT.Ready (n : Int) (h : RT w b base v kd cp st B L wn en ou A S D) (hk : kd = 1 ∨ kd = 2) (k1 : kd = 1 → L = []) (k2 : kd = 2 → B = []) (rb : Bool) (hrb : rdyF kd n wn (nOf B L) en ou = rb) : Calls Try.prog 17 #[.pointer (some ⟨b, 0, none⟩), .int .i64 n] w fun x w' => x = .returned (.bool rb) ∧ w = w' := by
  have hW := Lib.hid (h.Waiting hk k1 k2)
  obtain ⟨c0, c1, c2, c3, c4, c5, c6, c7, c8, c9, c10, zb⟩ := h.facts
  unfold rdyF at hrb
  clear k1 k2 h
  generalize nOf B L = q at *
  by_cases h0 : q = 0
  · subst h0
    rw [if_pos rfl] at hrb
    subst hrb
    clear hk
    cases en <;> cases ou
    all_goals
      go_enter Try.func17, Try.ntmps17
      go_wp2_with (first
        | (go_at_call 13; (with_reducible refine (hW.out).mono ?_); rintro e w1 ⟨rfl, rfl⟩)
        )
      go_ret
      exact ⟨rfl, rfl⟩
  · rw [if_neg h0] at hrb
    have hne : ¬ (q : Int) = 0 := by omega
    rcases hk with rfl | rfl
    · rw [if_neg (by decide)] at hrb
      subst hrb
      go_enter Try.func17, Try.ntmps17
      go_wp2_with (first
        | (go_at_call 13; (with_reducible refine (hW.out).mono ?_); rintro e w1 ⟨rfl, rfl⟩)
        )
      go_ret
      exact ⟨rfl, rfl⟩
    · rw [if_pos rfl] at hrb
      subst hrb
      go_enter Try.func17, Try.ntmps17
      go_wp2_with (first
        | (go_at_call 13; (with_reducible refine (hW.out).mono ?_); rintro e w1 ⟨rfl, rfl⟩)
        )
      go_ret
      exact ⟨rfl, rfl⟩
theorem RT.Clear (h : RT w b base v kd cp st B L wn en ou A S D) (hk : kd = 1 ∨ kd = 2) (k1 : kd = 1 → L = []) (k2 : kd = 2 → B = []) (hc : cOk (nOf B L : Nat) A S D) : Calls Try.prog 31 #[.pointer (some ⟨b, 0, none⟩)] w (RTPost w b base v kd cp st (.int .i64 (nOf B L : Nat)) [] [] wn en ou A S (D + (nOf B L : Nat))) := by
  have hW := Lib.hid (h.Waiting hk k1 k2)
  obtain ⟨c0, c1, c2, c3, c4, c5, c6, c7, c8, c9, c10, zb⟩ := h.facts
  obtain ⟨f3, f4, f5, f6, f7, f8, f9, f10⟩ := h.thaw
  obtain ⟨i1, i2, i3, i4, i5⟩ := hc
  generalize nOf B L = q at *
  have hq : q ≤ 1000000 := by omega
  have hd : D ≤ 1000000 := by omega
  have H := Lib.hid h
  clear h k1 k2 hk i1
  go_enter Try.func31, Try.ntmps31
  go_wp2_with (first
    | (go_at_call 13; (with_reducible refine (hW.out).mono ?_); rintro e w1 ⟨rfl, rfl⟩)
    )
  go_ret
  have h1 : RT (w.setCell ⟨b, 3, none⟩ (.string noS)) b base v kd cp st [] L wn en ou A S D := H.out.put 3 _ rfl
  have h2 := h1.putL (v' := .slice none 0 0) (L' := []) Ow.nil
  exact ⟨_, rfl, h2.put 10 _ rfl, (((Only.refl (One b) w).r1 3 _).r1 4 _).r1 10 _, fun g hg => by simp [Value.ownBlock] at hg⟩
/-! ### Offer -/
set_option maxHeartbeats 4000000 in
theorem ROffer_bytes (X : ByteArray) (k : Nat) (w : World) (h : RT w b base v 1 cp st B [] wn false ou A S D) (hc0 : 0 ≤ cp) (hcp : cp ≤ 1000000) (hB : (B.length : Int) ≤ cp) (e : k = min X.size (cp.toNat - B.length)) (hX : X.size ≤ 1000000) (a0 : 0 ≤ A) (a1 : A ≤ 1000000) :
    Calls Try.prog 32 #[.pointer (some ⟨b, 0, none⟩), .string X] w (RTPost w b base v 1 cp st (.tuple #[.int .i64 k, .int .i64 0]) (B ++ X.data.toList.take k) [] wn false ou (A + k) S D) := by
  obtain ⟨c0, c1, c2, c3, c4, c5, c6, c7, c8, c9, c10, zb⟩ := h.facts
  obtain ⟨f3, f4, f5, f6, f7, f8, f9, f10⟩ := h.thaw
  have hs := strOf_size B
  have hap : Hid (strOf (B ++ X.data.toList.take k) = strOf B ++ X.extract 0 k) := Lib.hid (by
    apply ByteArray.ext
    apply Array.ext'
    simp [strOf])
  have hL := Lib.hid (fun W => Low_any X.size (cp - (strOf B).size) (k : Nat) W (by rw [hs]; omega))
  have hw : IntKind.i64.wrap (cp - (strOf B).size) = cp - (strOf B).size := IntWalk.i64_in _ (by omega)
  have hk : k ≤ X.size := by omega
  have hk2 : (k : Int) ≤ 1000000 := by omega
  have hz : (strOf B).size ≤ 1000000 := by omega
  have H := Lib.hid h
  clear h e hB hs
  generalize hXB : strOf B = XB at *
  have HXB := Lib.hid hXB
  clear hXB
  have hq1 : ¬ 9223372036854775807 < XB.size + (X.extract 0 k).size := by rw [ByteArray.size_extract]; omega
  have hq2 : ¬ 9223372036854775807 < XB.size + min k X.size := by omega
  have hq3 : ¬ 9223372036854775807 < XB.size + k := by omega
  go_enter Try.func32, Try.ntmps32
  go_wp2
  go_quiet ((go_at_call 40; exact Calls.quiet_of ((hL.out _).mono fun _ _ hh => ⟨hh.1, 0, hh.2.symm⟩)))
  clear hw
  go_wp2
  go_region
  go_wp2
  go_ret2
  exact ⟨v, rfl, ((H.out.kept ((Only.refl Nil w).drewN (nq + 1))).put 3 _ (by rw [hap.out, HXB.out]; rfl)).put 8 _ rfl, (((Only.refl (One b) w).drewN (nq + 1)).r1 3 _).r1 8 _, fun g hg => .inl hg⟩
theorem ROffer_ended (X : ByteArray) (w : World) (h : RT w b base v kd cp st B L wn true ou A S D) : Calls Try.prog 32 #[.pointer (some ⟨b, 0, none⟩), .string X] w fun x w' => x = .returned (.tuple #[.int .i64 0, .int .i64 11]) ∧ w = w' := by
  obtain ⟨c0, c1, c2, c3, c4, c5, c6, c7, c8, c9, c10, zb⟩ := h.facts
  clear h
  go_enter Try.func32, Try.ntmps32
  go_wp2
  go_ret2
  exact ⟨rfl, rfl⟩
theorem ROffer_big (X : ByteArray) (w : World) (h : RT w b base v 2 cp st B L wn false ou A S D) (hX : 256 < X.size) : Calls Try.prog 32 #[.pointer (some ⟨b, 0, none⟩), .string X] w fun x w' => x = .returned (.tuple #[.int .i64 0, .int .i64 4]) ∧ w = w' := by
  obtain ⟨c0, c1, c2, c3, c4, c5, c6, c7, c8, c9, c10, zb⟩ := h.facts
  have hX' : (256 : Int) < X.size := by omega
  clear h
  go_enter Try.func32, Try.ntmps32
  go_wp2
  go_ret2
  exact ⟨rfl, rfl⟩
set_option maxHeartbeats 4000000 in
theorem ROffer_0 {L' : List ByteArray} {a' t' d' : Int} (X : ByteArray) (w : World) (h : RT w b base v 2 cp st B L wn false ou A S D) (hX : X.size ≤ 256)
    (hP : ∀ W q, Qu.Qs 79 W q base cp st v L 0 0 0 → Calls Try.prog 41 #[.pointer (some ⟨q, 0, none⟩), .string X] W (Qu.QPostR 79 W q base cp st v (.int .i64 0) L' a' t' d')) :
    Calls Try.prog 32 #[.pointer (some ⟨b, 0, none⟩), .string X] w (RTPost w b base v 2 cp st (.tuple #[.int .i64 0, .int .i64 9]) B L' wn false ou A S D) := by
  obtain ⟨Aa, cap, rfl, hcp, hm⟩ := h.own.form
  obtain ⟨c0, c1, c2, c3, c4, c5, c6, c7, c8, c9, c10, zb⟩ := h.facts
  have HP := Lib.hid hP
  have H := Lib.hid h
  have hX' : ¬ (256 : Int) < X.size := by omega
  have hno := ((Only.refl Nil w).alloc (.cells #[.int .i64 cp, .int .i64 st, .slice Aa L.length cap, .int .i64 0, .int .i64 0, .int .i64 0] 79)).drew
  have HN := Lib.hid hno
  have hsz := h.blk.lt
  have hQ0 : Qu.Qs 79 (w.alloc (.cells #[.int .i64 cp, .int .i64 st, .slice Aa L.length cap, .int .i64 0, .int .i64 0, .int .i64 0] 79)).drew w.heap.size base cp st (.slice Aa L.length cap) L 0 0 0 := ⟨Blk.new w 79 #[.int .i64 cp, .int .i64 st, .slice Aa L.length cap, .int .i64 0, .int .i64 0, .int .i64 0], h.own.alloc _, by have := h.hb; omega⟩
  have HQ0 := Lib.hid hQ0
  have hbw : Hid (b ≠ w.heap.size) := Lib.hid (by omega)
  generalize L.length = q at *
  clear h hP hno hQ0 hsz hcp
  go_enter Try.func32, Try.ntmps32
  go_wp2
  go_region
  go_wp2_with (first
    | (go_at_call 41; (with_reducible refine (HP.out _ _ HQ0.out).mono ?_); rintro e w1 ⟨v1, rfl, hQ1, ho1, hg1⟩; obtain ⟨A1, cap1, rfl, hcp1, hm1⟩ := hQ1.own.form; have h1 := Lib.hid ((H.out.kept HN.out).off ho1 (fun hh => hbw.out hh) (fun g hg hh => by have := (H.out.own.lt hg).2; unfold One at hh; omega)); have k2 := hQ1.blk.cell 2; have zq := hQ1.blk.lt; obtain ⟨g0, g1, g2, g3, g4, g5, g6, g7, g8, g9, g10, zb1⟩ := h1.out.facts; obtain ⟨f3, f4, f5, f6, f7, f8, f9, f10⟩ := h1.out.thaw; have HO1 := Lib.hid ((HN.out.of_nil (One b)).trans_new ho1 (fun i hi hh => by unfold One at hh; omega)); have HQ1 := Lib.hid hQ1.own; have HG1 := Lib.hid hg1; clear hQ1 ho1 hg1 hcp1 hm1)
    )
  go_ret2
  exact ⟨_, rfl, h1.out.putL HQ1.out, HO1.out.r1 4 _, fun g hg => (HG1.out g hg).imp id (fun e => Nat.le_trans HN.out.size e)⟩
set_option maxHeartbeats 4000000 in
theorem ROffer_1 {L' : List ByteArray} {a' t' d' : Int} (X : ByteArray) (w : World) (h : RT w b base v 2 cp st B L wn false ou A S D) (hX : X.size ≤ 256) (a0 : 0 ≤ A) (a1 : A ≤ 1000000)
    (hP : ∀ W q, Qu.Qs 79 W q base cp st v L 0 0 0 → Calls Try.prog 41 #[.pointer (some ⟨q, 0, none⟩), .string X] W (Qu.QPostR 79 W q base cp st v (.int .i64 1) L' a' t' d')) :
    Calls Try.prog 32 #[.pointer (some ⟨b, 0, none⟩), .string X] w (RTPost w b base v 2 cp st (.tuple #[.int .i64 1, .int .i64 0]) B L' wn false ou (A + 1) S D) := by
  obtain ⟨Aa, cap, rfl, hcp, hm⟩ := h.own.form
  obtain ⟨c0, c1, c2, c3, c4, c5, c6, c7, c8, c9, c10, zb⟩ := h.facts
  have HP := Lib.hid hP
  have H := Lib.hid h
  have hX' : ¬ (256 : Int) < X.size := by omega
  have hno := ((Only.refl Nil w).alloc (.cells #[.int .i64 cp, .int .i64 st, .slice Aa L.length cap, .int .i64 0, .int .i64 0, .int .i64 0] 79)).drew
  have HN := Lib.hid hno
  have hsz := h.blk.lt
  have hQ0 : Qu.Qs 79 (w.alloc (.cells #[.int .i64 cp, .int .i64 st, .slice Aa L.length cap, .int .i64 0, .int .i64 0, .int .i64 0] 79)).drew w.heap.size base cp st (.slice Aa L.length cap) L 0 0 0 := ⟨Blk.new w 79 #[.int .i64 cp, .int .i64 st, .slice Aa L.length cap, .int .i64 0, .int .i64 0, .int .i64 0], h.own.alloc _, by have := h.hb; omega⟩
  have HQ0 := Lib.hid hQ0
  have hbw : Hid (b ≠ w.heap.size) := Lib.hid (by omega)
  generalize L.length = q at *
  clear h hP hno hQ0 hsz hcp
  go_enter Try.func32, Try.ntmps32
  go_wp2
  go_region
  go_wp2_with (first
    | (go_at_call 41; (with_reducible refine (HP.out _ _ HQ0.out).mono ?_); rintro e w1 ⟨v1, rfl, hQ1, ho1, hg1⟩; obtain ⟨A1, cap1, rfl, hcp1, hm1⟩ := hQ1.own.form; have h1 := Lib.hid ((H.out.kept HN.out).off ho1 (fun hh => hbw.out hh) (fun g hg hh => by have := (H.out.own.lt hg).2; unfold One at hh; omega)); have k2 := hQ1.blk.cell 2; have zq := hQ1.blk.lt; obtain ⟨g0, g1, g2, g3, g4, g5, g6, g7, g8, g9, g10, zb1⟩ := h1.out.facts; obtain ⟨f3, f4, f5, f6, f7, f8, f9, f10⟩ := h1.out.thaw; have HO1 := Lib.hid ((HN.out.of_nil (One b)).trans_new ho1 (fun i hi hh => by unfold One at hh; omega)); have HQ1 := Lib.hid hQ1.own; have HG1 := Lib.hid hg1; clear hQ1 ho1 hg1 hcp1 hm1)
    )
  go_ret2
  exact ⟨_, rfl, (h1.out.putL HQ1.out).put 8 _ rfl, (HO1.out.r1 4 _).r1 8 _, fun g hg => (HG1.out g hg).imp id (fun e => Nat.le_trans HN.out.size e)⟩
set_option maxHeartbeats 4000000 in
theorem ROffer_2 {L' : List ByteArray} {a' t' d' : Int} (X : ByteArray) (w : World) (r : Int) (hr : r = 2 ∨ r = 3) (h : RT w b base v 2 cp st B L wn false ou A S D) (hX : X.size ≤ 256) (a0 : 0 ≤ A) (a1 : A ≤ 1000000) (d0 : 0 ≤ D) (d1 : D ≤ 1000000)
    (hP : ∀ W q, Qu.Qs 79 W q base cp st v L 0 0 0 → Calls Try.prog 41 #[.pointer (some ⟨q, 0, none⟩), .string X] W (Qu.QPostR 79 W q base cp st v (.int .i64 r) L' a' t' d')) :
    Calls Try.prog 32 #[.pointer (some ⟨b, 0, none⟩), .string X] w (RTPost w b base v 2 cp st (.tuple #[.int .i64 r, .int .i64 0]) B L' wn false ou (A + 1) S (D + 1)) := by
  rcases hr with rfl | rfl
  ·
    obtain ⟨Aa, cap, rfl, hcp, hm⟩ := h.own.form
    obtain ⟨c0, c1, c2, c3, c4, c5, c6, c7, c8, c9, c10, zb⟩ := h.facts
    have HP := Lib.hid hP
    have H := Lib.hid h
    have hX' : ¬ (256 : Int) < X.size := by omega
    have hno := ((Only.refl Nil w).alloc (.cells #[.int .i64 cp, .int .i64 st, .slice Aa L.length cap, .int .i64 0, .int .i64 0, .int .i64 0] 79)).drew
    have HN := Lib.hid hno
    have hsz := h.blk.lt
    have hQ0 : Qu.Qs 79 (w.alloc (.cells #[.int .i64 cp, .int .i64 st, .slice Aa L.length cap, .int .i64 0, .int .i64 0, .int .i64 0] 79)).drew w.heap.size base cp st (.slice Aa L.length cap) L 0 0 0 := ⟨Blk.new w 79 #[.int .i64 cp, .int .i64 st, .slice Aa L.length cap, .int .i64 0, .int .i64 0, .int .i64 0], h.own.alloc _, by have := h.hb; omega⟩
    have HQ0 := Lib.hid hQ0
    have hbw : Hid (b ≠ w.heap.size) := Lib.hid (by omega)
    generalize L.length = q at *
    clear h hP hno hQ0 hsz hcp
    go_enter Try.func32, Try.ntmps32
    go_wp2
    go_region
    go_wp2_with (first
      | (go_at_call 41; (with_reducible refine (HP.out _ _ HQ0.out).mono ?_); rintro e w1 ⟨v1, rfl, hQ1, ho1, hg1⟩; obtain ⟨A1, cap1, rfl, hcp1, hm1⟩ := hQ1.own.form; have h1 := Lib.hid ((H.out.kept HN.out).off ho1 (fun hh => hbw.out hh) (fun g hg hh => by have := (H.out.own.lt hg).2; unfold One at hh; omega)); have k2 := hQ1.blk.cell 2; have zq := hQ1.blk.lt; obtain ⟨g0, g1, g2, g3, g4, g5, g6, g7, g8, g9, g10, zb1⟩ := h1.out.facts; obtain ⟨f3, f4, f5, f6, f7, f8, f9, f10⟩ := h1.out.thaw; have HO1 := Lib.hid ((HN.out.of_nil (One b)).trans_new ho1 (fun i hi hh => by unfold One at hh; omega)); have HQ1 := Lib.hid hQ1.own; have HG1 := Lib.hid hg1; clear hQ1 ho1 hg1 hcp1 hm1)
      )
    go_ret2
    exact ⟨_, rfl, ((h1.out.putL HQ1.out).put 8 _ rfl).put 10 _ rfl, ((HO1.out.r1 4 _).r1 8 _).r1 10 _, fun g hg => (HG1.out g hg).imp id (fun e => Nat.le_trans HN.out.size e)⟩
  ·
    obtain ⟨Aa, cap, rfl, hcp, hm⟩ := h.own.form
    obtain ⟨c0, c1, c2, c3, c4, c5, c6, c7, c8, c9, c10, zb⟩ := h.facts
    have HP := Lib.hid hP
    have H := Lib.hid h
    have hX' : ¬ (256 : Int) < X.size := by omega
    have hno := ((Only.refl Nil w).alloc (.cells #[.int .i64 cp, .int .i64 st, .slice Aa L.length cap, .int .i64 0, .int .i64 0, .int .i64 0] 79)).drew
    have HN := Lib.hid hno
    have hsz := h.blk.lt
    have hQ0 : Qu.Qs 79 (w.alloc (.cells #[.int .i64 cp, .int .i64 st, .slice Aa L.length cap, .int .i64 0, .int .i64 0, .int .i64 0] 79)).drew w.heap.size base cp st (.slice Aa L.length cap) L 0 0 0 := ⟨Blk.new w 79 #[.int .i64 cp, .int .i64 st, .slice Aa L.length cap, .int .i64 0, .int .i64 0, .int .i64 0], h.own.alloc _, by have := h.hb; omega⟩
    have HQ0 := Lib.hid hQ0
    have hbw : Hid (b ≠ w.heap.size) := Lib.hid (by omega)
    generalize L.length = q at *
    clear h hP hno hQ0 hsz hcp
    go_enter Try.func32, Try.ntmps32
    go_wp2
    go_region
    go_wp2_with (first
      | (go_at_call 41; (with_reducible refine (HP.out _ _ HQ0.out).mono ?_); rintro e w1 ⟨v1, rfl, hQ1, ho1, hg1⟩; obtain ⟨A1, cap1, rfl, hcp1, hm1⟩ := hQ1.own.form; have h1 := Lib.hid ((H.out.kept HN.out).off ho1 (fun hh => hbw.out hh) (fun g hg hh => by have := (H.out.own.lt hg).2; unfold One at hh; omega)); have k2 := hQ1.blk.cell 2; have zq := hQ1.blk.lt; obtain ⟨g0, g1, g2, g3, g4, g5, g6, g7, g8, g9, g10, zb1⟩ := h1.out.facts; obtain ⟨f3, f4, f5, f6, f7, f8, f9, f10⟩ := h1.out.thaw; have HO1 := Lib.hid ((HN.out.of_nil (One b)).trans_new ho1 (fun i hi hh => by unfold One at hh; omega)); have HQ1 := Lib.hid hQ1.own; have HG1 := Lib.hid hg1; clear hQ1 ho1 hg1 hcp1 hm1)
      )
    go_ret2
    exact ⟨_, rfl, ((h1.out.putL HQ1.out).put 8 _ rfl).put 10 _ rfl, ((HO1.out.r1 4 _).r1 8 _).r1 10 _, fun g hg => (HG1.out g hg).imp id (fun e => Nat.le_trans HN.out.size e)⟩
theorem RT.Offer {r e A' D' : Int} {B' : List UInt8} {L' : List ByteArray} (X : ByteArray) (h : RT w b base v kd cp st B L wn en ou A S D) (hi : TI kd m cp B L wn en ou A S D) (hm : m ≤ 1000000) (hr : OfR kd cp st X B L A D en r e B' L' A' D') (hX : X.size ≤ 600) (c0 : 0 ≤ cp) (c1 : cp ≤ 4096) (hl : kd = 2 → L.length ≤ 1000) :
    Calls Try.prog 32 #[.pointer (some ⟨b, 0, none⟩), .string X] w (RTPost w b base v kd cp st (.tuple #[.int .i64 r, .int .i64 e]) B' L' wn en ou A' S D') := by
  have a0 := hi.a0
  have a1 := hi.am
  have d0 := hi.d0
  have d1 : D ≤ 1000000 := by have := hi.sum; have := hi.s0; omega
  cases hr with
  | ended => exact (ROffer_ended X w h).mono fun _ _ hh => RTPost.same h hh.1 (hh.2 ▸ Only.refl _ _)
  | bytes k hk e =>
    subst hk
    have hL := hi.k1 rfl
    subst hL
    exact ROffer_bytes X k w h c0 (by omega) (by have := hi.cap; simpa [nOf] using this) e (by omega) a0 (by omega)
  | big hk hX =>
    subst hk
    exact (ROffer_big X w h hX).mono fun _ _ hh => RTPost.same h hh.1 (hh.2 ▸ Only.refl _ _)
  | refused hk hX hf hs =>
    subst hk
    exact ROffer_0 X w h hX (fun W q hq => Qu.RPut_refused X W hq hf hs)
  | kept hk hX hf =>
    subst hk
    exact ROffer_1 X w h hX a0 (by omega) (fun W q hq => Qu.RPut_kept X W hq (hl rfl) hf (by decide) (by decide))
  | dropped hk hX hf hs hd =>
    subst hk
    exact ROffer_2 X w 2 (.inl rfl) h hX a0 (by omega) d0 d1 (fun W q hq => Qu.RPut_dropped X W hq hf hs hd (by decide) (by decide) (by decide) (by decide))
  | pushed x R e hk hX hf hs hd =>
    subst hk e
    have hl2 := hl rfl
    rw [List.length_cons] at hl2
    exact ROffer_2 X w 3 (.inr rfl) h hX a0 (by omega) d0 d1 (fun W q hq => Qu.RPut_pushed X x R W hq (by omega) hf hs hd (by decide) (by decide) (by decide) (by decide))
end
end Go.Proofs.Ytlinmpcllmijaaa
