/- What Put of the document's queue does. -/
import Derived.Test.YtlinmpcllmijaaaQueue4
namespace Go.Proofs.Ytlinmpcllmijaaa.Qu
open Go.Proofs.Ytlinmpcllmijaaa
open Go.RowKit

theorem la2 {α : Type} {Y : List α} {p : α} {k : Nat} (h : Y.length = k) : Y.length + [p].length = k + 1 := by simp [h]
theorem la0 {α : Type} {Y : List α} {k : Nat} (h : Y.length = k) : ([] : List α).length + Y.length = k := by simpa using h
section
variable {w w' : World} {b base : Nat} {cp st : Int} {v : Value} {L : List ByteArray} {a t d : Int}
set_option maxHeartbeats 2000000 in
theorem RPut_kept (S : ByteArray) (w : World) (h : Qs 79 w b base cp st v L a t d) (hl : L.length ≤ 1000) (hk : (L.length : Int) < cp) (a0 : 0 ≤ a) (a1 : a ≤ 1000000) : Calls Try.prog 41 #[.pointer (some ⟨b, 0, none⟩), .string S] w (QPostR 79 w b base cp st v (.int .i64 1) (L ++ [S]) (a + 1) t d) := by
  obtain ⟨A, cap, rfl, hcp, hm⟩ := h.own.form
  obtain ⟨c0, c1, c2, c3, c4, c5⟩ := h.facts
  have hnn : Hid (L.length = L.length) := Lib.hid rfl
  go_enter Try.func41, Try.ntmps41
  go_wp2
  go_quiet (fail)
  have hsz := h.sz
  have hhb := h.hb
  have hx1 := (Only.refl Nil w).drewN nq
  have h1 := h.kept hx1
  have hB1 := h1.blk.alloc (.cells #[] 9)
  have g2 := hB1.cell 2
  have g3 := hB1.cell 3
  have hO1 := Ow.lit (enc := encS) (sz := 1) (e := 9) (base := w.heap.size) (w.drewN nq) (cs := #[]) [] rfl rfl (by decide) hx1.size
  have hn1 := hx1.alloc (.cells #[] 9)
  have hne1 := hO1.ne hB1 (by decide)
  have zb := h.blk.lt
  obtain ⟨f2, f3, f4, f5⟩ := h1.thaw
  have s1 := Src.sqn (P := Try.prog) (tx := 32) Try.underlying32 cap L.length ((h1.own.alloc (.cells #[] 9)).sqn (fun _ _ => rfl)) (fun _ _ => rfl) (fun x _ => encS_one x) (by decide) rfl
  go_wp2_with (first
    | (at_builtin
       refine wpList_app2 rfl (.tmp 16) (.tmp 20) _ _ rfl w.heap.size 9 Try.underlying32 str_info rfl _ _ rfl hO1 _ L rfl s1 (by rw [la0 rfl]; omega) (by decide) hn1.size L.length (la0 rfl) L rfl ?_
       intro A6 c6 w6 hown6 ho6 hg6
       have hB6 := hB1.kept ho6 hne1
       have ho6' := hn1.own_nil hO1 ho6
       have hown6' := hown6.alloc (.cells #[.string S] 9)
       have hB6' := hB6.alloc (.cells #[.string S] 9)
       have hn6 := ho6'.alloc (.cells #[.string S] 9)
       have s2 := Src.one (P := Try.prog) (enc := encS) (tx := 32) Try.underlying32 S 1 rfl (Blk.new w6 9 #[.string S]) rfl (encS_one S)
       have hne6 := hown6'.ne hB6' (by decide)
       have z6 := hB6.lt)
    | (at_builtin
       refine wpList_app2 rfl (.tmp 21) (.tmp 23) _ _ rfl w.heap.size 9 Try.underlying32 str_info rfl _ _ rfl hown6' _ [S] rfl s2 (by rw [la2 rfl]; omega) (by decide) hn6.size (L.length + 1) (la2 rfl) (L ++ [S]) rfl ?_
       intro A7 c7 w7 hown7 ho7 hg7
       have hB7 := hB6'.kept ho7 hne6
       have ho7' := hn6.own_nil hown6' ho7
       have k2 := hB7.cell 2
       have q2 := hB7.frozen 2
       have k3 := hB7.cell 3
       have q3 := hB7.frozen 3
       have hne7 := hown7.ne hB7 (by decide))
    )
  go_ret
  exact ⟨_, rfl, ⟨(hB7.set 2 _).set 3 _, ((hown7.mono hsz).set hne7 2 _).set hne7 3 _, hhb⟩, ((ho7'.of_nil (One b)).atOne 2 _).atOne 3 _, fun g hg => .inr ((hown7.lt hg).1)⟩
theorem RPut_refused (S : ByteArray) (w : World) (h : Qs 79 w b base cp st v L a t d) (hk : cp ≤ (L.length : Int)) (hst : st = 0) : Calls Try.prog 41 #[.pointer (some ⟨b, 0, none⟩), .string S] w (QPostR 79 w b base cp st v (.int .i64 0) L a t d) := by
  obtain ⟨A, cap, rfl, hcp, hm⟩ := h.own.form
  obtain ⟨c0, c1, c2, c3, c4, c5⟩ := h.facts
  have hd : decide ((L.length : Int) < cp) = false := by simp; omega
  have HS := Lib.hid hst
  rw [hst] at c1
  clear hst
  go_enter Try.func41, Try.ntmps41
  go_wp2
  go_quiet (fail)
  go_wp2
  go_ret
  have hx1 := (Only.refl Nil w).drewN nq
  exact ⟨_, rfl, h.kept hx1, hx1.of_nil _, fun g hg => .inl hg⟩
theorem RPut_dropped (S : ByteArray) (w : World) (h : Qs 79 w b base cp st v L a t d) (hk : cp ≤ (L.length : Int)) (hst : st ≠ 0) (hd : st = 1 ∨ cp = 0) (a0 : 0 ≤ a) (a1 : a ≤ 1000000) (d0 : 0 ≤ d) (d1 : d ≤ 1000000) : Calls Try.prog 41 #[.pointer (some ⟨b, 0, none⟩), .string S] w (QPostR 79 w b base cp st v (.int .i64 2) L (a + 1) t (d + 1)) := by
  obtain ⟨A, cap, rfl, hcp, hm⟩ := h.own.form
  obtain ⟨c0, c1, c2, c3, c4, c5⟩ := h.facts
  obtain ⟨f2, f3, f4, f5⟩ := h.thaw
  have hdd : decide ((L.length : Int) < cp) = false := by simp; omega
  have hs0 : (st == 0) = false := by simpa using hst
  have hhb := h.hb
  have hne := h.own.ne h.blk (by decide)
  by_cases h1 : st = 1
  · have hs1 : (st == 1) = true := by simpa using h1
    clear hst hd h1
    go_enter Try.func41, Try.ntmps41
    go_wp2
    go_quiet (fail)
    go_wp2
    go_ret
    have hx1 := (Only.refl Nil w).drewN nq
    have h2 := h.kept hx1
    exact ⟨_, rfl, ⟨(h2.blk.set 3 _).set 5 _, (h2.own.set hne 3 _).set hne 5 _, hhb⟩, ((hx1.of_nil (One b)).atOne 3 _).atOne 5 _, fun g hg => .inl hg⟩
  · have hs1 : (st == 1) = false := by simpa using h1
    have hc0 : (cp == 0) = true := by
      rcases hd with hd | hd
      · exact absurd hd h1
      · simpa using hd
    clear hst hd h1
    go_enter Try.func41, Try.ntmps41
    go_wp2
    go_quiet (fail)
    go_wp2
    go_ret
    have hx1 := (Only.refl Nil w).drewN nq
    have h2 := h.kept hx1
    exact ⟨_, rfl, ⟨(h2.blk.set 3 _).set 5 _, (h2.own.set hne 3 _).set hne 5 _, hhb⟩, ((hx1.of_nil (One b)).atOne 3 _).atOne 5 _, fun g hg => .inl hg⟩
set_option maxHeartbeats 2000000 in
theorem RPut_pushed (S x : ByteArray) (L : List ByteArray) (w : World) (h : Qs 79 w b base cp st v (x :: L) a t d) (hl : L.length ≤ 1000) (hk : cp ≤ ((x :: L).length : Int)) (hst : st ≠ 0) (hd : ¬ (st = 1 ∨ cp = 0)) (a0 : 0 ≤ a) (a1 : a ≤ 1000000) (d0 : 0 ≤ d) (d1 : d ≤ 1000000) :
    Calls Try.prog 41 #[.pointer (some ⟨b, 0, none⟩), .string S] w (QPostR 79 w b base cp st v (.int .i64 3) (L ++ [S]) (a + 1) t (d + 1)) := by
  obtain ⟨A, cap, rfl, hcp, hm⟩ := h.own.form
  obtain ⟨g0, o0, _, rfl, _, _, _, _⟩ := (h.own.sq (fun _ _ => rfl) rfl).at_ (k := 0) (by simp)
  obtain ⟨c0, c1, c2, c3, c4, c5⟩ := h.facts
  have hs0 : (st == 0) = false := by simpa using hst
  have hs1 : (st == 1) = false := by simp; omega
  have hc0 : (cp == 0) = false := by simp; omega
  have hszw := h.sz
  have hll : (x :: L).length = L.length + 1 := rfl
  rw [hll] at c2 hcp hk
  have hdd : decide ((L.length : Int) + 1 < cp) = false := by simp; omega
  have hdd2 : decide (((L.length + 1 : Nat) : Int) < cp) = false := by simp; omega
  obtain ⟨f2, f3, f4, f5⟩ := h.thaw
  clear hst hd hll
  go_enter Try.func41, Try.ntmps41
  go_wp2
  go_quiet (fail)
  go_upto_region 11 with fail
  have hx1 := (Only.refl Nil w).drewN nq
  have h0 := h.kept hx1
  have hne0 := h0.own.ne h0.blk (by decide)
  have h2 : Qs 79 (((w.drewN nq).setCell ⟨b, 3, none⟩ (.int .i64 (a + 1))).setCell ⟨b, 5, none⟩ (.int .i64 (d + 1))) b base cp st (.slice (some ⟨g0, o0, none⟩) (x :: L).length cap) (x :: L) (a + 1) t (d + 1) := ⟨(h0.blk.set 3 _).set 5 _, (h0.own.set hne0 3 _).set hne0 5 _, h.hb⟩
  have ho2 := ((hx1.of_nil (One b)).atOne 3 (.int .i64 (a + 1))).atOne 5 (.int .i64 (d + 1))
  clear h h0 c0 c1 c2 c3 c4 c5 f2 f3 f4 f5 hx1
  generalize (((w.drewN nq).setCell ⟨b, 3, none⟩ (.int .i64 (a + 1))).setCell ⟨b, 5, none⟩ (.int .i64 (d + 1))) = W at *
  have hsz := h2.sz
  have hhb := h2.hb
  have zb := h2.blk.lt
  obtain ⟨c0, c1, c2, c3, c4, c5⟩ := h2.facts
  rw [show (x :: L).length = L.length + 1 from rfl] at c2
  have hB1 := h2.blk.alloc (.cells #[] 9)
  have g2 : (W.alloc (.cells #[] 9)).cell? ⟨b, 2, none⟩ = some (.slice (some ⟨g0, o0, none⟩) (L.length + 1) cap) := hB1.cell 2
  have hO1 := Ow.lit (enc := encS) (sz := 1) (e := 9) (base := w.heap.size) W (cs := #[]) [] rfl rfl (by decide) ho2.size
  have hn1 := (Only.refl Nil W).alloc (.cells #[] 9)
  have hz1 := Nat.le_trans ho2.size hn1.size
  have hne1 := hO1.ne hB1 (by decide)
  have T3 : Hid (∀ A', (1 < (x :: L).length → A' = some ⟨g0, o0 + 1, none⟩) → Src Try.prog 1 32 (.slice A' L.length (cap - 1)) L.length (L.flatMap encS) (W.alloc (.cells #[] 9))) := Lib.hid fun A' hA =>
    Src.sqn Try.underlying32 (cap - 1) L.length (((h2.own.alloc (.cells #[] 9)).sqn (fun _ _ => rfl)).dropped 1 (fun hl => by rw [hA hl]; simp [Addr.add_lit])) (fun _ _ => rfl) (fun x _ => encS_one x) (by decide) rfl
  have hci : (1 : Int) ≤ (L.length : Int) + 1 := by omega
  go_wp2_with (first
    | (at_builtin
       refine wpList_app2 rfl (.tmp 69) (.tmp 74) _ _ rfl w.heap.size 9 Try.underlying32 str_info rfl _ _ rfl hO1 _ L rfl (T3.out _ (by intro hh; simp only [List.length_cons] at hh; first | (exfalso; omega) | (rw [if_neg (by omega)]) | rfl)) (by rw [la0 rfl]; omega) (by decide) hz1 L.length (la0 rfl) L rfl ?_
       intro A6 c6 w6 hown6 ho6 hg6
       have hB6 := hB1.kept ho6 hne1
       have hn6 : Only (One b) w w6 := (ho2.trans (hn1.of_nil _)).trans_new ho6 (fun i hi hh => by have := (hO1.lt hh).1; omega)
       have hown6' := hown6.alloc (.cells #[.string S] 9)
       have hB6' := hB6.alloc (.cells #[.string S] 9)
       have hn6' := hn6.alloc (.cells #[.string S] 9)
       have s2 := Src.one (P := Try.prog) (enc := encS) (tx := 32) Try.underlying32 S 1 rfl (Blk.new w6 9 #[.string S]) rfl (encS_one S)
       have hne6 := hown6'.ne hB6' (by decide)
       have z6 := hB6.lt)
    | (at_builtin
       refine wpList_app2 rfl (.tmp 75) (.tmp 77) _ _ rfl w.heap.size 9 Try.underlying32 str_info rfl _ _ rfl hown6' _ [S] rfl s2 (by rw [la2 rfl]; omega) (by decide) hn6'.size (L.length + 1) (la2 rfl) (L ++ [S]) rfl ?_
       intro A7 c7 w7 hown7 ho7 hg7
       have hB7 := hB6'.kept ho7 hne6
       have hn7 : Only (One b) w w7 := hn6'.trans_new ho7 (fun i hi hh => by have := (hown6'.lt hh).1; omega)
       have k2 := hB7.cell 2
       have q2 := hB7.frozen 2
       have hne7 := hown7.ne hB7 (by decide))
    )
  all_goals go_ret
  all_goals exact ⟨_, rfl, ⟨hB7.set 2 _, (hown7.mono (Nat.le_trans (by omega) hszw)).set hne7 2 _, hhb⟩, hn7.atOne 2 _, fun g hg => .inr ((hown7.lt hg).1)⟩
end
end Go.Proofs.Ytlinmpcllmijaaa.Qu
