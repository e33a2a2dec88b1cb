/- What Items and Copy of a queue do; the document's own queue. -/
import Derived.Test.YtfffaifbfojnpaaQueue3
import Derived.Test.YtfffaifbfojnpaaCopyF
namespace Go.Proofs.Ytfffaifbfojnpaa
open Go.RowKit

theorem made_zeroS (n : Nat) : (madeCells #[.string ByteArray.empty] n).toList = (List.replicate n noS).flatMap encS := by
  unfold madeCells
  apply List.ext_getElem?
  intro k
  by_cases hk : k < n
  · have := flat_at (enc := encS) (sz := 1) (fun _ _ => rfl) (l := List.replicate n noS) (i := k) (x := noS) (by rw [List.getElem?_replicate]; simp [hk]) (j := 0) (by decide)
    rw [Nat.mul_one, Nat.add_zero] at this
    rw [this]
    simp [hk, Nat.mod_one, encS]
    rfl
  · rw [List.getElem?_eq_none (by simp; omega), List.getElem?_eq_none (by rw [flat1 encS_len]; simp; omega)]
theorem hmakeS (n : Nat) (hn : n ≤ 4096) (w : World) : (Instr.makeSlice 29 (.int .i64 (n : Int)) (.int .i64 (n : Int))).run Try.prog w = .ok (.slice (some ⟨w.heap.size, 0, none⟩) n n) (w.alloc (.cells (madeCells #[.string ByteArray.empty] n) 9)) := by
  obtain ⟨i, hi, hz, hs, hb⟩ := info_parts str_info
  have := run_make (P := Try.prog) w 29 9 i (.string ByteArray.empty) Try.underlying29 hi hz .i64 .i64 n n (by omega) (by omega) (by rw [hb]; omega) (by omega)
  rw [hs] at this
  simpa [Value.cells] using this
theorem made_ownS (n : Nat) (hn : n ≤ 4096) (w : World) : Ow encS 1 (w.alloc (.cells (madeCells #[.string ByteArray.empty] n) 9)) w.heap.size 9 (.slice (some ⟨w.heap.size, 0, none⟩) n n) (List.replicate n noS) := by
  have := Ow.lit (enc := encS) (sz := 1) (e := 9) (base := w.heap.size) w (List.replicate n noS) (made_zeroS n) (by rw [flat1 encS_len]; simp) (by simp [maxLen]; omega) (Nat.le_refl _)
  simpa using this
def ItPost (w : World) (L : List ByteArray) (x : Ending) (w' : World) : Prop := ∃ A c, x = .returned (.slice A L.length c) ∧ Ow encS 1 w' w.heap.size 9 (.slice A L.length c) L ∧ Only Nil w w'
section
variable {w w' : World} {b base : Nat} {cp st : Int} {v : Value} {L : List ByteArray} {a t d : Int}
theorem Items_nil (w : World) : Calls Try.prog 13 #[.pointer none] w fun x w' => x = .returned (.slice none 0 0) ∧ w = w' := by
  go_enter Try.func13, Try.ntmps13
  go_wp2_with (first
    | (go_at_call 10; (with_reducible refine (Len_nil _).mono ?_); rintro e w1 ⟨rfl, rfl⟩)
    )
  go_ret
  exact ⟨rfl, rfl⟩
theorem Items_any (w : World) (h : Qs 50 w b base cp st v L a t d) (hl : L.length ≤ 1000) : Calls Try.prog 13 #[.pointer (some ⟨b, 0, none⟩)] w (ItPost w L) := by
  have hL := Lib.hid (Len_any w h)
  have hO := h.own
  obtain ⟨A, cap, rfl, hc, hm⟩ := h.own.form
  obtain ⟨c0, c1, c2, c3, c4, c5⟩ := h.facts
  have zb := h.blk.lt
  by_cases h0 : L = []
  · subst h0
    clear h hO hm hc
    go_enter Try.func13, Try.ntmps13
    go_wp2_with (first
      | (go_at_call 10; (with_reducible refine (hL.out).mono ?_); rintro e w1 ⟨rfl, rfl⟩)
      )
    go_ret
    exact ⟨none, 0, rfl, Ow.nil, Only.refl _ _⟩
  · have hpos : 0 < L.length := List.length_pos_iff.2 h0
    generalize hn : L.length = n at *
    have HN := Lib.hid hn
    have hne : ((n : Int) == 0) = false := by simp; omega
    have hmk := hmakeS n (by omega)
    have hO1 := made_ownS n (by omega) w
    have hs := (hO.alloc (.cells (madeCells #[.string ByteArray.empty] n) 9)).sqn (fun _ _ => rfl)
    have hno := (Only.refl Nil w).alloc (.cells (madeCells #[.string ByteArray.empty] n) 9)
    clear hn h hO h0
    go_enter Try.func13, Try.ntmps13
    go_wp2_with (first
      | (go_at_call 10; (with_reducible refine (hL.out).mono ?_); rintro e w1 ⟨rfl, rfl⟩)
      | (with_reducible refine wpList_cpyF (enc := encS) (o := ⟨some 18, _, _, _, _, _⟩) rfl (.tmp 13) (.tmp 17) _ _ rfl 9 Try.underlying29 str_size encS_len encS_one hO1 _ _ hs HN.out rfl rfl ?_
         intro w5 hO5 ho5)
      )
    go_ret
    exact ⟨_, _, by rw [HN.out]; rfl, by rw [HN.out]; exact hO5, hno.own_nil hO1 ho5⟩
theorem Copy_nil (w : World) : Calls Try.prog 16 #[.pointer none] w fun x w' => x = .returned (.pointer none) ∧ w = w' := by
  go_enter Try.func16, Try.ntmps16
  go_wp2
  go_ret
  exact ⟨rfl, rfl⟩
theorem Copy_any (w : World) (h : Qs 50 w b base cp st v L a t d) (hl : L.length ≤ 1000) : Calls Try.prog 16 #[.pointer (some ⟨b, 0, none⟩)] w fun x w' => ∃ b' v', x = .returned (.pointer (some ⟨b', 0, none⟩)) ∧ Only Nil w w' ∧ w.heap.size ≤ b' ∧ Qs 50 w' b' w.heap.size cp st v' L a t d := by
  obtain ⟨A, cap, rfl, hcp, hm⟩ := h.own.form
  obtain ⟨c0, c1, c2, c3, c4, c5⟩ := h.facts
  have hI := Lib.hid (fun W (ho : Only Nil w W) => Items_any W (h.kept ho) hl)
  have hno := (Only.refl Nil w).alloc (.cells #[.int .i64 cp, .int .i64 st, .slice A L.length cap, .int .i64 a, .int .i64 t, .int .i64 d] 50)
  have hB0 : Blk (w.alloc (.cells #[.int .i64 cp, .int .i64 st, .slice A L.length cap, .int .i64 a, .int .i64 t, .int .i64 d] 50)) w.heap.size 50 #[.int .i64 cp, .int .i64 st, .slice A L.length cap, .int .i64 a, .int .i64 t, .int .i64 d] := Blk.new _ _ _
  go_enter Try.func16, Try.ntmps16
  go_wp2_with (first
    | (go_at_call 13; (with_reducible refine (hI.out _ hno).mono ?_); rintro e w5 ⟨A5, cc5, rfl, hO5, ho5⟩; have hB5 := hB0.kept ho5 (fun hh => hh); have k2 := hB5.cell 2; have q2 := hB5.frozen 2)
    )
  go_ret
  have hne := hO5.ne hB5 (by decide)
  exact ⟨_, _, rfl, (hno.trans ho5).setNew (Nat.le_refl _) 2 _, Nat.le_refl _, hB5.set 2 _, (hO5.mono (by simp)).set hne 2 _, Nat.le_refl _⟩
/-! ### the document's -/
theorem RTake_out (w : World) (h : Qs 31 w b base cp st v [] a t d) : Calls Try.prog 19 #[.pointer (some ⟨b, 0, none⟩)] w fun x w' => x = .returned (.tuple #[.string noS, .bool false]) ∧ w = w' := by
  obtain ⟨A, cap, rfl, hc, hm⟩ := h.own.form
  obtain ⟨c0, c1, c2, c3, c4, c5⟩ := h.facts
  go_enter Try.func19, Try.ntmps19
  go_wp2
  go_ret2
  exact ⟨rfl, rfl⟩
theorem RTake_in (x : ByteArray) (L : List ByteArray) (w : World) (h : Qs 31 w b base cp st v (x :: L) a t d) (hl : L.length ≤ 1000) (t0 : 0 ≤ t) (t1 : t ≤ 1000000) : Calls Try.prog 19 #[.pointer (some ⟨b, 0, none⟩)] w (QPost 31 w b base cp st v (.tuple #[.string x, .bool true]) L a (t + 1) d) := by
  have hO := h.own
  have hB := h.blk
  have hhb := h.hb
  obtain ⟨A, cap, rfl, hcp, hm⟩ := h.own.form
  obtain ⟨g, o, x', rfl, hgl, hx', _, _⟩ := (hO.sq (fun _ _ => rfl) rfl).at_ (k := 0) (by simp)
  obtain ⟨c0, c1, c2, c3, c4, c5⟩ := h.facts
  obtain ⟨f2, f3, f4, f5⟩ := h.thaw
  have p0 : w.cell? ⟨g, o, none⟩ = some (.string x) := (hO.sq (fun _ _ => rfl) rfl).cell1 (k := 0) rfl
  have hne := hO.ne hB (by decide)
  have hd := hO.drop (fun _ _ => rfl) rfl (k := 1) (by simp)
  rw [List.length_cons] at c2 hcp hd
  have e1 : ((L.length : Int) + 1 == 0) = false := by simp; omega
  have hci : (1 : Int) ≤ (L.length : Int) + 1 := by omega
  simp only [Nat.mul_one, Option.map_some, Addr.add_lit, Nat.add_sub_cancel, List.drop_succ_cons, List.drop_zero] at hd
  clear hx' h
  by_cases hc1 : cap = 1
  · rw [if_pos hc1] at hd
    subst hc1
    obtain rfl : L = [] := List.eq_nil_of_length_eq_zero (by omega)
    go_enter Try.func19, Try.ntmps19
    go_wp2
    go_ret2
    exact ⟨_, rfl, ⟨(hB.set 2 _).set 4 _, (hd.set hne 2 _).set hne 4 _, hhb⟩, ((Only.refl (Fp b (.slice (some ⟨g, o, none⟩) [x].length 1)) w).atB 2 _).atB 4 _, fun g hg => .inl hg⟩
  · rw [if_neg hc1] at hd
    go_enter Try.func19, Try.ntmps19
    go_wp2
    go_ret2
    exact ⟨_, rfl, ⟨(hB.set 2 _).set 4 _, (hd.set hne 2 _).set hne 4 _, hhb⟩, ((Only.refl (Fp b (.slice (some ⟨g, o, none⟩) (x :: L).length cap)) w).atB 2 _).atB 4 _, fun g hg => .inl hg⟩
theorem RClear_any (w : World) (h : Qs 31 w b base cp st v L a t d) (hl : L.length ≤ 1000) (d0 : 0 ≤ d) (d1 : d ≤ 1000000) : Calls Try.prog 20 #[.pointer (some ⟨b, 0, none⟩)] w (QPost 31 w b base cp st v (.int .i64 L.length) [] a t (d + L.length)) := by
  have hB := h.blk
  have hhb := h.hb
  obtain ⟨A, cap, rfl, hcp, hm⟩ := h.own.form
  obtain ⟨c0, c1, c2, c3, c4, c5⟩ := h.facts
  obtain ⟨f2, f3, f4, f5⟩ := h.thaw
  go_enter Try.func20, Try.ntmps20
  go_wp2
  go_ret
  exact ⟨_, rfl, ⟨(hB.set 5 _).set 2 _, Ow.nil, hhb⟩, ((Only.refl (Fp b (.slice A L.length cap)) w).atB 5 _).atB 2 _, fun g hg => by simp [Value.ownBlock] at hg⟩
end
end Go.Proofs.Ytfffaifbfojnpaa
