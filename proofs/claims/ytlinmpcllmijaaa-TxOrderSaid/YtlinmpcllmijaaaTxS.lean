/- Take of the document's sender. -/
import Derived.Test.YtlinmpcllmijaaaTxR
namespace Go.Proofs.Ytlinmpcllmijaaa
open Go.RowKit

theorem ine0 {a : Int} (h : a ≠ 0) : (a == 0) = false := by simpa using h
section
variable {w w' : World} {b base : Nat} {v : Value} {kd cp st : Int} {B : List UInt8} {L : List ByteArray} {wn A S D m : Int} {en ou : Bool}
theorem RTake_no (n : Int) (w : World) (hR : Calls Try.prog 17 #[.pointer (some ⟨b, 0, none⟩), .int .i64 n] w fun x w' => x = .returned (.bool false) ∧ w = w') : Calls Try.prog 29 #[.pointer (some ⟨b, 0, none⟩), .int .i64 n] w fun x w' => x = .returned (.tuple #[.string noS, .bool false, .bool false]) ∧ w = w' := by
  have HR := Lib.hid hR
  clear hR
  go_enter Try.func29, Try.ntmps29
  go_wp2_with (first
    | (go_at_call 17; (with_reducible refine (HR.out).mono ?_); rintro e w1 ⟨rfl, rfl⟩)
    )
  go_ret3
  exact ⟨rfl, rfl⟩
set_option maxRecDepth 100000 in
set_option maxHeartbeats 4000000 in
theorem RTake_bytes (n : Int) (j : Nat) (w : World) (h : RT w b base v 1 cp st B [] wn en ou A S D) (hr : rdyF 1 n wn (nOf B []) en ou = true) (e : j = outN n B.length) (hB : B.length ≤ 100000) (s0 : 0 ≤ S) (s1 : S ≤ 1000000) (oo : Bool) (hoo : (en && decide (B.length = j)) = oo) :
    Calls Try.prog 29 #[.pointer (some ⟨b, 0, none⟩), .int .i64 n] w (RTPost w b base v 1 cp st (.tuple #[.string (strOf (B.take j)), .bool oo, .bool true]) (B.drop j) [] wn en oo A (S + j) D) := by
  have hRd := Lib.hid (h.Ready n (.inl rfl) (fun _ => rfl) (fun e => absurd e (by decide)) true hr)
  obtain ⟨c0, c1, c2, c3, c4, c5, c6, c7, c8, c9, c10, zb⟩ := h.facts
  obtain ⟨f3, f4, f5, f6, f7, f8, f9, f10⟩ := h.thaw
  have hjl := outN_le n B.length
  rw [← e] at hjl
  have hs := strOf_size B
  have hd := Lib.hid (strOf_drop B j)
  have ht := Lib.hid (strOf_take B j)
  have H := Lib.hid h
  obtain ⟨x, hx⟩ : ∃ x : Int, x = if n < 256 then n else 256 := ⟨_, rfl⟩
  have hL1 := Lib.hid (fun (k : Nat) => Calls.quiet_of_same (w := w) (n := k) (v := .int .i64 x) ((Low_any n 256 x (w.drewN k) (by rw [hx]; split <;> omega)).mono fun _ _ hh => And.intro hh.1 hh.2.symm))
  obtain ⟨y, hy⟩ : ∃ y : Int, y = if x < (strOf B).size then x else (strOf B).size := ⟨_, rfl⟩
  have hL2 := Lib.hid (fun (k : Nat) => Calls.quiet_of_same (w := w) (n := k) (v := .int .i64 y) ((Low_any x (strOf B).size y (w.drewN k) (by rw [hy]; split <;> omega)).mono fun _ _ hh => And.intro hh.1 hh.2.symm))
  by_cases h0 : B.length = 0
  · have hen : en = true ∧ ou = false := by
      unfold rdyF nOf at hr
      rw [if_pos (by simpa using h0)] at hr
      simpa using hr
    obtain ⟨rfl, rfl⟩ := hen
    obtain rfl : j = 0 := by omega
    obtain rfl : oo = true := by rw [← hoo, h0]; rfl
    obtain rfl : B = [] := List.eq_nil_of_length_eq_zero h0
    have hz : (strOf []).size ≤ 0 := Nat.le_refl _
    have hz2 : (((strOf []).size : Int) == 0) = true := rfl
    clear h hr e hs hoo hx hy h0 hjl hB
    generalize hXB : strOf [] = XB at *
    have HXB := Lib.hid hXB
    clear hXB
    go_enter Try.func29, Try.ntmps29
    go_wp2_with (first
      | (go_at_call 17; (with_reducible refine (hRd.out).mono ?_); rintro e w1 ⟨rfl, rfl⟩)
      )
    go_quiet ((first | (go_at_call 40; with_reducible exact hL1.out _) | (go_at_call 40; with_reducible exact hL2.out _)))
    go_wp2
    go_quiet (fail)
    go_wp2
    go_ret3
    have e9 : S + ((0 : Nat) : Int) = S := by simp
    rw [e9]
    exact ⟨v, rfl, ((((H.out.kept ((Only.refl Nil w).drewN _)).put 3 _ (by rw [← HXB.out]; rfl)).put 9 _ rfl).put 7 _ rfl).kept ((Only.refl Nil _).drewN _), ((((((Only.refl (One b) w).drewN _).r1 3 _).r1 9 _).r1 7 _).drewN _), fun g hg => .inl hg⟩
  · have hn : 0 < n := by
      unfold rdyF nOf at hr
      rw [if_neg (by simpa using h0), if_neg (by decide)] at hr
      simpa using hr
    have hyj : y = j := by
      rw [hy, hx, e, hs]
      unfold outN cnt
      repeat' split
      all_goals omega
    subst hyj
    have hne : (((strOf B).size : Int) == 0) = false := ine0 (by omega)
    have hjs : (j : Int) ≤ (strOf B).size := by omega
    have hz : (strOf B).size ≤ 100000 := by omega
    clear h hr e hx hy
    cases en
    · obtain rfl : oo = false := hoo.symm
      clear hjl h0 hs
      generalize hXB : strOf B = XB at *
      have HXB := Lib.hid hXB
      clear hXB
      go_enter Try.func29, Try.ntmps29
      go_wp2_with (first
        | (go_at_call 17; (with_reducible refine (hRd.out).mono ?_); rintro e w1 ⟨rfl, rfl⟩)
        )
      go_quiet ((first | (go_at_call 40; with_reducible exact hL1.out _) | (go_at_call 40; with_reducible exact hL2.out _)))
      go_wp2
      go_quiet (fail)
      go_wp2
      go_ret3
      exact ⟨v, by rw [← ht.out]; rfl, ((((H.out.kept ((Only.refl Nil w).drewN _)).put 3 _ (by rw [hd.out]; rfl)).put 9 _ rfl).put 7 _ rfl).kept ((Only.refl Nil _).drewN _), ((((((Only.refl (One b) w).drewN _).r1 3 _).r1 9 _).r1 7 _).drewN _), fun g hg => .inl hg⟩
    · by_cases hq : B.length = j
      · obtain rfl : oo = true := by rw [← hoo]; simp [hq]
        have hq2 : (((strOf B).size - j : Nat) : Int) = 0 := by omega
        have hq3 : ((((strOf B).size - j : Nat) : Int) == 0) = true := by simpa using hq2
        clear hq2 hoo hjl h0 hs hq
        generalize hXB : strOf B = XB at *
        have HXB := Lib.hid hXB
        clear hXB
        go_enter Try.func29, Try.ntmps29
        go_wp2_with (first
          | (go_at_call 17; (with_reducible refine (hRd.out).mono ?_); rintro e w1 ⟨rfl, rfl⟩)
          )
        go_quiet ((first | (go_at_call 40; with_reducible exact hL1.out _) | (go_at_call 40; with_reducible exact hL2.out _)))
        go_wp2
        go_quiet (fail)
        go_wp2
        go_ret3
        exact ⟨v, by rw [← ht.out]; rfl, ((((H.out.kept ((Only.refl Nil w).drewN _)).put 3 _ (by rw [hd.out]; rfl)).put 9 _ rfl).put 7 _ rfl).kept ((Only.refl Nil _).drewN _), ((((((Only.refl (One b) w).drewN _).r1 3 _).r1 9 _).r1 7 _).drewN _), fun g hg => .inl hg⟩
      · obtain rfl : oo = false := by rw [← hoo]; simp [hq]
        have hq2 : (((strOf B).size - j : Nat) : Int) ≠ 0 := by omega
        have hq3 : ((((strOf B).size - j : Nat) : Int) == 0) = false := by simpa using hq2
        clear hq2 hoo hjl h0 hs
        generalize hXB : strOf B = XB at *
        have HXB := Lib.hid hXB
        clear hXB
        go_enter Try.func29, Try.ntmps29
        go_wp2_with (first
          | (go_at_call 17; (with_reducible refine (hRd.out).mono ?_); rintro e w1 ⟨rfl, rfl⟩)
          )
        go_quiet ((first | (go_at_call 40; with_reducible exact hL1.out _) | (go_at_call 40; with_reducible exact hL2.out _)))
        go_wp2
        go_quiet (fail)
        go_wp2
        go_ret3
        exact ⟨v, by rw [← ht.out]; rfl, ((((H.out.kept ((Only.refl Nil w).drewN _)).put 3 _ (by rw [hd.out]; rfl)).put 9 _ rfl).put 7 _ rfl).kept ((Only.refl Nil _).drewN _), ((((((Only.refl (One b) w).drewN _).r1 3 _).r1 9 _).r1 7 _).drewN _), fun g hg => .inl hg⟩
set_option maxRecDepth 100000 in
set_option maxHeartbeats 4000000 in
theorem RTake_item (n : Int) (x : ByteArray) (R : List ByteArray) (w : World) (h : RT w b base v 2 cp st [] (x :: R) wn en false A S D) (hw : 0 < wn) (hw1 : wn ≤ 2147483647) (hl : R.length ≤ 1000) (s0 : 0 ≤ S) (s1 : S ≤ 1000000) :
    Calls Try.prog 29 #[.pointer (some ⟨b, 0, none⟩), .int .i64 n] w (RTPost w b base v 2 cp st (.tuple #[.string x, .bool false, .bool true]) [] R (wn - 1) en false A (S + 1) D) := by
  have hRd := Lib.hid (h.Ready n (.inr rfl) (fun e => absurd e (by decide)) (fun _ => rfl) true (by simp [rdyF, nOf, hw]))
  have H := Lib.hid h
  have hO := h.own
  obtain ⟨Aa, cap, rfl, hcp, hm⟩ := h.own.form
  obtain ⟨g, o, x', rfl, hgl, hx', _, _⟩ := (hO.sq (fun _ _ => rfl) rfl).at_ (k := 0) (by simp)
  obtain ⟨c0, c1, c2, c3, c4, c5, c6, c7, c8, c9, c10, zb⟩ := h.facts
  obtain ⟨f3, f4, f5, f6, f7, f8, f9, f10⟩ := h.thaw
  have p0 : w.cell? ⟨g, o, none⟩ = some (.string x) := (hO.sq (fun _ _ => rfl) rfl).cell1 (k := 0) rfl
  have hd := hO.drop (fun _ _ => rfl) rfl (k := 1) (by simp)
  rw [List.length_cons] at c4 hcp hd
  have e1 : 0 < (R.length : Int) + 1 := by omega
  have hci : (1 : Int) ≤ (R.length : Int) + 1 := by omega
  simp only [Nat.mul_one, Option.map_some, Addr.add_lit, Nat.add_sub_cancel, List.drop_succ_cons, List.drop_zero] at hd
  have hgb : Hid (g ≠ b) := Lib.hid (fun e => H.out.ne (by rw [← e]; rfl))
  clear hx' h hO
  by_cases hc1 : cap = 1
  · rw [if_pos hc1] at hd
    subst hc1
    obtain rfl : R = [] := List.eq_nil_of_length_eq_zero (by omega)
    have HD := Lib.hid hd
    clear hd
    go_enter Try.func29, Try.ntmps29
    go_wp2_with (first
      | (go_at_call 17; (with_reducible refine (hRd.out).mono ?_); rintro e w1 ⟨rfl, rfl⟩)
      )
    go_quiet (fail)
    go_wp2
    go_ret3
    exact ⟨_, rfl, (((H.out.putL HD.out).put 9 _ rfl).put 5 _ rfl).kept ((Only.refl Nil _).drewN _), ((((Only.refl (One b) w).r1 4 _).r1 9 _).r1 5 _).drewN _, fun g hg => .inl hg⟩
  · rw [if_neg hc1] at hd
    have HD := Lib.hid hd
    clear hd
    go_enter Try.func29, Try.ntmps29
    go_wp2_with (first
      | (go_at_call 17; (with_reducible refine (hRd.out).mono ?_); rintro e w1 ⟨rfl, rfl⟩)
      )
    go_quiet (fail)
    go_wp2
    go_ret3
    exact ⟨_, rfl, (((H.out.putL HD.out).put 9 _ rfl).put 5 _ rfl).kept ((Only.refl Nil _).drewN _), ((((Only.refl (One b) w).r1 4 _).r1 9 _).r1 5 _).drewN _, fun g hg => .inl hg⟩
set_option maxHeartbeats 4000000 in
theorem RTake_over (n : Int) (w : World) (h : RT w b base v 2 cp st [] [] wn true false A S D) :
    Calls Try.prog 29 #[.pointer (some ⟨b, 0, none⟩), .int .i64 n] w (RTPost w b base v 2 cp st (.tuple #[.string noS, .bool true, .bool true]) [] [] wn true true A S D) := by
  have hRd := Lib.hid (h.Ready n (.inr rfl) (fun e => absurd e (by decide)) (fun _ => rfl) true rfl)
  have H := Lib.hid h
  obtain ⟨Aa, cap, rfl, hcp, hm⟩ := h.own.form
  obtain ⟨c0, c1, c2, c3, c4, c5, c6, c7, c8, c9, c10, zb⟩ := h.facts
  obtain ⟨f3, f4, f5, f6, f7, f8, f9, f10⟩ := h.thaw
  clear h
  go_enter Try.func29, Try.ntmps29
  go_wp2_with (first
    | (go_at_call 17; (with_reducible refine (hRd.out).mono ?_); rintro e w1 ⟨rfl, rfl⟩)
    )
  go_quiet (fail)
  go_wp2
  go_ret3
  exact ⟨_, rfl, (H.out.put 7 _ rfl).kept ((Only.refl Nil _).drewN _), ((Only.refl (One b) w).r1 7 _).drewN _, fun g hg => .inl hg⟩
theorem RT.Take {n : Int} {X : ByteArray} {o is ou' : Bool} {B' : List UInt8} {L' : List ByteArray} {wn' S' : Int} (h : RT w b base v kd cp st B L wn en ou A S D) (hi : TI kd m cp B L wn en ou A S D) (hm : m ≤ 1000000) (hk : kd = 1 ∨ kd = 2) (hcp : cp ≤ 4096) (hl : kd = 2 → L.length ≤ 1000) (hr : TkR kd n B L wn en ou S X o is B' L' wn' ou' S') :
    Calls Try.prog 29 #[.pointer (some ⟨b, 0, none⟩), .int .i64 n] w (RTPost w b base v kd cp st (.tuple #[.string X, .bool o, .bool is]) B' L' wn' en ou' A S' D) := by
  have s0 := hi.s0
  have s1 : S ≤ 1000000 := by have := hi.sum; have := hi.d0; have := hi.am; omega
  have hcap := hi.cap
  cases hr with
  | no hr => exact (RTake_no n w (h.Ready n hk hi.k1 hi.k2 false hr)).mono fun _ _ hh => RTPost.same h hh.1 (hh.2 ▸ Only.refl _ _)
  | bytes j hk hr e =>
    subst hk
    have hL := hi.k1 rfl
    subst hL
    unfold nOf at hcap
    exact RTake_bytes n j w h (by simpa [rdyF] using hr) e (by simp at hcap; omega) s0 s1 _ rfl
  | over hk hL he ho =>
    subst hk hL he ho
    have hB := hi.k2 rfl
    subst hB
    exact RTake_over n w h
  | item X R hk e hw =>
    subst hk e
    have hB := hi.k2 rfl
    subst hB
    have hl2 := hl rfl
    rw [List.length_cons] at hl2
    have ho : ou = false := by
      cases ou with
      | false => rfl
      | true => have := (hi.o rfl).2; simp [nOf] at this
    subst ho
    exact RTake_item n X _ w h hw hi.w1 (by omega) s0 s1
end
end Go.Proofs.Ytlinmpcllmijaaa
