/- What Write, Peek, Drop, Read, Clear and Copy of a ring do. -/
import Derived.Test.YtjhjfgelcbphjaaDoorRing
namespace Go.Proofs.YtjhjfgelcbphjaaDoor
open Go.RowKit

def RTwo (r g : Nat) : Nat → Prop := fun k => k = r ∨ k = g
theorem put_at (l S : List UInt8) (d i p : Nat) (h1 : i + d ≤ l.length) (h2 : d ≤ S.length) :
    (l.take i ++ (S.take d ++ l.drop (i + d)))[p]? = if p < i then l[p]? else if p < i + d then S[p - i]? else l[p]? := by
  have ha : (l.take i).length = i := by rw [List.length_take]; omega
  have hb : (S.take d).length = d := by rw [List.length_take]; omega
  split
  · rw [List.getElem?_append_left (by omega), List.getElem?_take_of_lt (by omega)]
  · rw [List.getElem?_append_right (by omega), ha]
    split
    · rw [List.getElem?_append_left (by omega), List.getElem?_take_of_lt (by omega)]
    · rw [List.getElem?_append_right (by omega), hb, List.getElem?_drop]
      congr 1
      omega
theorem put_len (l S : List UInt8) (d i : Nat) (h1 : i + d ≤ l.length) (h2 : d ≤ S.length) : (l.take i ++ (S.take d ++ l.drop (i + d))).length = l.length := by
  simp
  omega
section
variable {w w' : World} {r g base c F : Nat} {row L : List UInt8}
theorem Cuts.ex (c F i n : Nat) (hF : F < c) (hn : 0 < n) (hi : i + n ≤ c) : ∃ A B R, Cuts c F i n A B R ∧ A < B ∧ B ≤ c ∧ R ≤ F ∧ (B - A) + R = n := by
  by_cases h1 : F + i + n ≤ c
  · exact ⟨F + i, F + i + n, 0, .inl ⟨h1, rfl, rfl, rfl⟩, by omega, by omega, by omega, by omega⟩
  · by_cases h2 : F + i < c
    · exact ⟨F + i, c, F + i + n - c, .inr (.inl ⟨h2, by omega, rfl, rfl, by omega⟩), by omega, by omega, by omega, by omega⟩
    · exact ⟨F + i - c, F + i - c + n, 0, .inr (.inr ⟨by omega, by omega, rfl, rfl⟩), by omega, by omega, by omega, by omega⟩
theorem write_at {A B R n : Nat} {S : List UInt8} (hl : row.length = c) (hF : F < c) (hi : L.length + n ≤ c) (hS : n ≤ S.length) (hc : Cuts c F L.length n A B R) (hA : A < B) (hB : B ≤ c) (hR : R ≤ F) (hs : (B - A) + R = n)
    (h : ∀ j, j < L.length → (if F + j < c then row[F + j]? else row[F + j - c]?) = L[j]?) (row1 row2 : List UInt8) (h1 : row1 = row.take A ++ (S.take (B - A) ++ row.drop (A + (B - A)))) (h2 : row2 = row1.take 0 ++ ((S.drop (B - A)).take R ++ row1.drop (0 + R))) :
    row2.length = c ∧ ∀ j, j < (L ++ S.take n).length → (if F + j < c then row2[F + j]? else row2[F + j - c]?) = (L ++ S.take n)[j]? := by
  have l1 : row1.length = c := by rw [h1, put_len _ _ _ _ (by omega) (by omega), hl]
  have l2 : row2.length = c := by rw [h2, put_len _ _ _ _ (by omega) (by simp; omega), l1]
  refine ⟨l2, fun j hj => ?_⟩
  have hp : ∀ p, row2[p]? = if p < R then S[(B - A) + p]? else if A ≤ p ∧ p < B then S[p - A]? else row[p]? := fun p => by
    rw [h2, put_at _ _ _ _ _ (by omega) (by simp; omega), if_neg (Nat.not_lt_zero p), List.getElem?_drop, h1, put_at _ _ _ _ _ (by omega) (by omega)]
    by_cases q1 : p < R
    · rw [if_pos (by omega), if_pos q1]
      congr 1
    · rw [if_neg (by omega), if_neg q1]
      by_cases q2 : p < A
      · rw [if_pos q2, if_neg (by omega)]
      · by_cases q3 : p < B
        · rw [if_neg q2, if_pos (by omega), if_pos ⟨by omega, q3⟩]
        · rw [if_neg q2, if_neg (by omega), if_neg (by omega)]
  have hj' : j < L.length + n := by
    rw [List.length_append, List.length_take] at hj
    omega
  rw [hp, hp]
  by_cases hjl : j < L.length
  · rw [List.getElem?_append_left hjl, ← h j hjl]
    unfold Cuts at hc
    split
    · rw [if_neg (by omega), if_neg (by omega)]
    · rw [if_neg (by omega), if_neg (by omega)]
  · rw [List.getElem?_append_right (by omega), List.getElem?_take_of_lt (by omega)]
    unfold Cuts at hc
    split
    · rw [if_neg (by omega), if_pos (by omega)]
      congr 1
      omega
    · by_cases hr : F + j - c < R
      · rw [if_pos hr]
        congr 1
        omega
      · rw [if_neg hr, if_pos (by omega)]
        congr 1
        omega
theorem tell_at {A B R n : Nat} (hl : row.length = c) (hF : F < c) (hi : n ≤ L.length) (hc : Cuts c F 0 n A B R) (hA : A < B) (hB : B ≤ c) (hR : R ≤ F) (hs : (B - A) + R = n)
    (h : ∀ j, j < L.length → (if F + j < c then row[F + j]? else row[F + j - c]?) = L[j]?) : (row.drop A).take (B - A) ++ (row.drop 0).take R = L.take n := by
  have la : ((row.drop A).take (B - A)).length = B - A := by simp; omega
  apply List.ext_getElem?
  intro j
  by_cases hj : j < n
  · rw [List.getElem?_take_of_lt hj, ← h j (by omega)]
    unfold Cuts at hc
    by_cases h1 : j < B - A
    · rw [List.getElem?_append_left (by omega), List.getElem?_take_of_lt h1, List.getElem?_drop, if_pos (by omega)]
      congr 1
      omega
    · rw [List.getElem?_append_right (by omega), la, List.getElem?_take_of_lt (by omega), List.getElem?_drop, if_neg (by omega)]
      congr 1
      omega
  · rw [List.getElem?_eq_none (by simp; omega), List.getElem?_eq_none (by simp; omega)]
theorem Only.rtwo {A n cap : Nat} (ho : Only (ownB (.slice (some ⟨g, A, none⟩) n cap)) w w') : Only (RTwo r g) w w' := ho.weaken fun i _ hh => .inr (by simp [ownB, Value.ownBlock] at hh; exact hh.symm)
theorem Rg.sub (h : Rg w r g base c F row L) (A m : Nat) (hm : A + m ≤ c) : Ow encB 1 w base 5 (.slice (some ⟨g, A, none⟩) m m) ((row.drop A).take m) := by
  have hl := h.len
  have hlm : ((row.drop A).take m).length = m := by simp; omega
  rcases h.own.2 with ⟨e, _⟩ | ⟨g', off, cap, cur, e, hb, hB, hc, hx, hf, hcur⟩
  · injection e with e
    cases e
  · injection e with e1 e2 e3
    injection e1 with e1
    injection e1 with e1 e4
    subst e1 e4 e3
    refine ⟨by rw [flat1 (enc := encB) (fun _ => rfl)]; omega, .inr ⟨g, A, m, cur, by rw [hlm], hb, hB, by omega, by omega, by omega, fun j hj => ?_⟩⟩
    rw [hlm] at hj
    have := hcur (A + j) (by omega)
    rw [Nat.zero_add] at this
    rw [this]
    have f := fun (l : List UInt8) (k : Nat) (x : UInt8) (hk : l[k]? = some x) => flat_at (enc := encB) (sz := 1) (fun _ _ => rfl) hk (j := 0) (by decide)
    have a1 := f row (A + j) row[A + j] (List.getElem?_eq_getElem (by omega))
    have a2 := f ((row.drop A).take m) j row[A + j] (by rw [List.getElem?_take_of_lt (by omega), List.getElem?_drop, List.getElem?_eq_getElem (by omega)])
    rw [Nat.mul_one, Nat.add_zero] at a1 a2
    rw [a1, a2]
def WPost (w : World) (r g base c F : Nat) (k : Nat) (L' : List UInt8) (x : Ending) (w' : World) : Prop := ∃ row', x = .returned (.int .i64 k) ∧ Rg w' r g base c F row' L' ∧ Only (RTwo r g) w w'
theorem Write_none (S : ByteArray) (w : World) (h : Rg w r g base c F row L) (h0 : S.size = 0 ∨ L.length = c) : Calls Tryd.prog 79 #[.pointer (some ⟨r, 0, none⟩), .string S] w fun x w' => x = .returned (.int .i64 0) ∧ w = w' := by
  have hle := h.le
  have hR := Lib.hid (Room_any w h)
  clear h
  by_cases hz : S.size = 0
  · have e1 : (S.size : Int) = 0 := by omega
    go_enter Tryd.func79, Tryd.ntmps79
    go_wp2_with (first
      | (go_at_call 95; (with_reducible refine (hR.out).mono ?_); rintro e w1 ⟨rfl, rfl⟩)
      )
    go_ret
    exact ⟨rfl, rfl⟩
  · have e1 : ((c : Int) - L.length) = 0 := by omega
    have e2 : 0 < S.size := by omega
    clear h0
    go_enter Tryd.func79, Tryd.ntmps79
    go_wp2_with (first
      | (go_at_call 95; (with_reducible refine (hR.out).mono ?_); rintro e w1 ⟨rfl, rfl⟩)
      )
    go_ret
    exact ⟨rfl, rfl⟩
set_option maxHeartbeats 2000000 in
theorem Write_some (S : ByteArray) (n : Nat) (w : World) (h : Rg w r g base c F row L) (hn : 0 < n) (hm : (S.size ≤ c - L.length ∧ n = S.size) ∨ (c - L.length ≤ S.size ∧ n = c - L.length)) :
    Calls Tryd.prog 79 #[.pointer (some ⟨r, 0, none⟩), .string S] w (WPost w r g base c F n (L ++ S.data.toList.take n)) := by
  have hle := h.le
  have hbig := h.big
  have hlen := h.len
  have hF : F < c := by have := h.fst; omega
  have hSl : S.data.toList.length = S.size := by simp
  obtain ⟨A, B, R, hc, hAB, hBc, hRF, hsum⟩ := Cuts.ex c F L.length n hF hn (by omega)
  have hRoom := Lib.hid (Room_any w h)
  have hP := Lib.hid (parts_any L.length n A B R w h hn (by omega) hc)
  have hO := Lib.hid (fun W (ho : Only Nil w W) => (h.go ho).own)
  have hH := Lib.hid h
  obtain ⟨c0, c1, c2⟩ := h.facts
  have z := h.blk.lt
  have hne := h.ne
  have hW := Lib.hid (fun row1 row2 h1 h2 => write_at (c := c) (F := F) (L := L) (n := n) (S := S.data.toList) hlen hF (by omega) (by omega) hc hAB hBc hRF hsum h.at_ row1 row2 h1 h2)
  obtain ⟨d, hd⟩ : ∃ d, d = B - A := ⟨_, rfl⟩
  have hmi : (if (c : Int) - L.length < S.size then (c : Int) - L.length else S.size) = n := by split <;> omega
  have hnS : n ≤ S.size := by omega
  have hni : (n : Int) ≠ 0 := by omega
  clear h hc
  rw [← hd] at hP hW hsum
  have hD := Lib.hid hd
  have hAd : A + d ≤ c := by omega
  clear hd hm
  go_enter Tryd.func79, Tryd.ntmps79
  go_wp2_with (first
    | (go_at_call 95; (with_reducible refine (hRoom.out).mono ?_); rintro e w1 ⟨rfl, rfl⟩)
    | (go_at_call 96; (with_reducible refine (hP.out).mono ?_); rintro e w1 ⟨rfl, ho1⟩)
    | (with_reducible refine wpList_cpyL (o := ⟨some 28, _, _, _, _, _⟩) rfl (.tmp 26) (.tmp 27) _ _ rfl 5 Tryd.underlying131 u8_size (hO.out _ ho1) _ _ _ S rfl rfl A hAd (by omega) (by intro _; simp [Addr.add_lit]) ?_
       intro w2 hO2 ho2)
    | (with_reducible refine wpList_cpyL (o := ⟨some 33, _, _, _, _, _⟩) rfl (.tmp 29) (.tmp 32) _ _ rfl 5 Tryd.underlying131 u8_size hO2.out _ _ _ (S.extract d S.size) rfl rfl 0 (by omega) (by rw [ByteArray.size_extract]; omega) (by intro _; simp [Addr.add_lit]) ?_
       intro w3 hO3 ho3; have ho23 := (Only.rtwo (r := r) ho2.out).trans (Only.rtwo ho3.out); have hb3 := ((hH.out.go ho1).blk.kept (ho2.out.trans ho3.out) (fun hh => by simp [ownB, Value.ownBlock] at hh; exact hne hh.symm)); have c32 := hb3.cell 2; have z3 := hb3.lt; have f3 := hb3.frozen 2)
    )
  go_ret
  obtain ⟨l2, at2⟩ := hW.out _ _ rfl rfl
  have hlen' : (L ++ S.data.toList.take n).length = L.length + n := by simp; omega
  have hO4 := hO3.out.set (b := r) (by simp [Value.ownBlock]; exact hne.symm) 2 (.int .i64 ((L.length : Int) + n))
  refine ⟨_, rfl, ⟨?_, ?_, hH.out.hb, l2, by omega, .inl hF, hbig, at2⟩, ((ho1.of_nil _).trans ho23).setCell (p := ⟨r, 2, none⟩) (fun _ => .inl rfl) _⟩
  · rw [hlen']
    exact hb3.set 2 (.int .i64 ((L.length : Int) + n))
  · have e : (S.extract d S.size).data.toList = S.data.toList.drop d := by
      rw [show (S.extract d S.size).data.toList = (S.data.toList.drop d).take (S.size - d) by simp, List.take_of_length_le (by rw [List.length_drop]; omega)]
    rw [e] at hO4
    exact hO4
theorem Write_any (S : ByteArray) (w : World) (h : Rg w r g base c F row L) : Calls Tryd.prog 79 #[.pointer (some ⟨r, 0, none⟩), .string S] w (WPost w r g base c F (min S.size (c - L.length)) (L ++ S.data.toList.take (min S.size (c - L.length)))) := by
  have hle := h.le
  by_cases h0 : S.size = 0 ∨ L.length = c
  · refine (Write_none S w h h0).mono ?_
    rintro x w' ⟨rfl, rfl⟩
    have e : min S.size (c - L.length) = 0 := by omega
    rw [e]
    exact ⟨row, rfl, by simpa using h, Only.refl _ _⟩
  · exact Write_some S _ w h (by omega) (by omega)
theorem Write_nil (S : ByteArray) (w : World) : Calls Tryd.prog 79 #[.pointer none, .string S] w fun x w' => x = .returned (.int .i64 0) ∧ w = w' := by
  by_cases hz : S.size = 0
  · have e1 : (S.size : Int) = 0 := by omega
    go_enter Tryd.func79, Tryd.ntmps79
    go_wp2_with (first
      | (go_at_call 95; (with_reducible refine (Room_nil _).mono ?_); rintro e w1 ⟨rfl, rfl⟩)
      )
    go_ret
    exact ⟨rfl, rfl⟩
  · have e2 : 0 < S.size := by omega
    go_enter Tryd.func79, Tryd.ntmps79
    go_wp2_with (first
      | (go_at_call 95; (with_reducible refine (Room_nil _).mono ?_); rintro e w1 ⟨rfl, rfl⟩)
      )
    go_ret
    exact ⟨rfl, rfl⟩
theorem teller_any (w : World) : Calls Tryd.prog 105 #[.pointer (some ⟨r, 0, none⟩)] w fun x w' => ∃ b, x = .returned (.func (.func 110) #[] #[.pointer (some ⟨b, 0, none⟩)]) ∧ Only Nil w w' ∧ Blk w' b 103 #[.pointer (some ⟨r, 0, none⟩)] := by
  have hmf := mkf Tryd.prog
  go_enter Tryd.func105, Tryd.ntmps105
  go_wp2
  go_ret
  have h1 := Blk.new w 103 #[.pointer (some ⟨r, 0, none⟩)]
  exact ⟨w.heap.size, rfl, (Only.refl _ _).alloc _, h1⟩
theorem teller1_any (k b : Nat) (w : World) (h : Rg w r g base c F row L) (hk : 0 < k) (hkl : k ≤ L.length) (hb : Blk w b 103 #[.pointer (some ⟨r, 0, none⟩)]) :
    Calls Tryd.prog 110 #[.int .i64 k, .pointer (some ⟨b, 0, none⟩)] w fun x w' => x = .returned (.string (strOf (L.take k))) ∧ Only Nil w w' := by
  have hle := h.le
  have hbig := h.big
  have hlen := h.len
  have hF : F < c := by have := h.fst; omega
  obtain ⟨A, B, R, hc, hAB, hBc, hRF, hsum⟩ := Cuts.ex c F 0 k hF hk (by omega)
  have hP := Lib.hid (show Calls Tryd.prog 96 #[.pointer (some ⟨r, 0, none⟩), .int .i64 0, .int .i64 k] w _ from parts_any 0 k A B R w h hk (by omega) hc)
  have hT := Lib.hid (tell_at (L := L) hlen hF (by omega) hc hAB hBc hRF hsum h.at_)
  have s1 := Lib.hid (fun W (ho : Only Nil w W) => (h.go ho).sub A (B - A) (by omega))
  have s2 := Lib.hid (fun W (ho : Only Nil w W) => (h.go ho).sub 0 R (by omega))
  have cb := hb.cell 0
  have zb := hb.lt
  have t1 := Lib.hid (fun W (ho : Only Nil w W) => (s1.out W ho).str (P := Tryd.prog) 131 5 9 Tryd.underlying131 Tryd.underlying5 Tryd.underlying9)
  have t2 := Lib.hid (fun W (ho : Only Nil w W) => (s2.out W ho).str (P := Tryd.prog) 131 5 9 Tryd.underlying131 Tryd.underlying5 Tryd.underlying9)
  have z1 : (strOf ((row.drop A).take (B - A))).size ≤ 65536 := by rw [strOf_size]; simp; omega
  have z2 : (strOf ((row.drop 0).take R)).size ≤ 65536 := by rw [strOf_size]; simp; omega
  have z12 : (strOf ((row.drop A).take (B - A))).size + (strOf ((row.drop 0).take R)).size ≤ 9223372036854775807 := by omega
  generalize hq1 : strOf ((row.drop A).take (B - A)) = X1 at *
  generalize hq2 : strOf ((row.drop 0).take R) = X2 at *
  have HQ1 := Lib.hid hq1
  have HQ2 := Lib.hid hq2
  clear hq1 hq2 h hc hb hsum
  go_enter Tryd.func110, Tryd.ntmps110
  go_wp2_with (first
    | (go_at_call 96; (with_reducible refine (hP.out).mono ?_); rintro e w1 ⟨rfl, ho1⟩; have g1 := t1.out _ ho1; have g2 := t2.out _ ho1)
    )
  go_ret
  exact ⟨by rw [← hT.out, ← HQ1.out, ← HQ2.out]; rfl, ho1⟩
/-- how many are there of n -/
def cnt (n : Int) (m : Nat) : Nat := min n.toNat m
theorem count_nil (n : Int) (w : World) : Calls Tryd.prog 104 #[.pointer none, .int .i64 n] w fun x w' => x = .returned (.int .i64 0) ∧ w = w' := by
  by_cases h0 : n < 0
  · have e1 : ¬ 0 < n := by omega
    go_enter Tryd.func104, Tryd.ntmps104
    go_wp2_with (first
      | (go_at_call 51; (with_reducible refine (Len_nil _).mono ?_); rintro e w1 ⟨rfl, rfl⟩)
      )
    go_ret
    exact ⟨rfl, rfl⟩
  · by_cases h1 : n = 0
    · subst h1
      go_enter Tryd.func104, Tryd.ntmps104
      go_wp2_with (first
        | (go_at_call 51; (with_reducible refine (Len_nil _).mono ?_); rintro e w1 ⟨rfl, rfl⟩)
        )
      go_ret
      exact ⟨rfl, rfl⟩
    · have e1 : 0 < n := by omega
      go_enter Tryd.func104, Tryd.ntmps104
      go_wp2_with (first
        | (go_at_call 51; (with_reducible refine (Len_nil _).mono ?_); rintro e w1 ⟨rfl, rfl⟩)
        )
      go_ret
      exact ⟨rfl, rfl⟩
theorem count_any (n : Int) (w : World) (h : Rg w r g base c F row L) : Calls Tryd.prog 104 #[.pointer (some ⟨r, 0, none⟩), .int .i64 n] w fun x w' => x = .returned (.int .i64 (cnt n L.length)) ∧ w = w' := by
  have hL := Lib.hid (Len_any w h)
  generalize L.length = m at *
  by_cases h0 : n < 0
  · have e1 : ¬ (m : Int) < n := by omega
    have e2 : cnt n m = 0 := by unfold cnt; omega
    rw [e2]
    go_enter Tryd.func104, Tryd.ntmps104
    go_wp2_with (first
      | (go_at_call 51; (with_reducible refine (hL.out).mono ?_); rintro e w1 ⟨rfl, rfl⟩)
      )
    go_ret
    exact ⟨rfl, rfl⟩
  · by_cases h1 : (m : Int) < n
    · have e2 : cnt n m = m := by unfold cnt; omega
      have e3 : ¬ (m : Int) < 0 := by omega
      rw [e2]
      go_enter Tryd.func104, Tryd.ntmps104
      go_wp2_with (first
        | (go_at_call 51; (with_reducible refine (hL.out).mono ?_); rintro e w1 ⟨rfl, rfl⟩)
        )
      go_ret
      exact ⟨rfl, rfl⟩
    · have e2 : ((cnt n m : Nat) : Int) = n := by unfold cnt; omega
      rw [e2]
      go_enter Tryd.func104, Tryd.ntmps104
      go_wp2_with (first
        | (go_at_call 51; (with_reducible refine (hL.out).mono ?_); rintro e w1 ⟨rfl, rfl⟩)
        )
      go_ret
      exact ⟨rfl, rfl⟩
theorem Peek_nil (n : Int) (w : World) : Calls Tryd.prog 90 #[.pointer none, .int .i64 n] w fun x w' => x = .returned (.string noS) ∧ w = w' := by
  go_enter Tryd.func90, Tryd.ntmps90
  go_wp2_with (first
    | (go_at_call 104; (with_reducible refine (count_nil n _).mono ?_); rintro e w1 ⟨rfl, rfl⟩)
    )
  go_ret
  exact ⟨rfl, rfl⟩
theorem Drop_nil (n : Int) (w : World) : Calls Tryd.prog 91 #[.pointer none, .int .i64 n] w fun x w' => x = .returned (.int .i64 0) ∧ w = w' := by
  go_enter Tryd.func91, Tryd.ntmps91
  go_wp2_with (first
    | (go_at_call 104; (with_reducible refine (count_nil n _).mono ?_); rintro e w1 ⟨rfl, rfl⟩)
    )
  go_ret
  exact ⟨rfl, rfl⟩
theorem Peek_any (n : Int) (w : World) (h : Rg w r g base c F row L) : Calls Tryd.prog 90 #[.pointer (some ⟨r, 0, none⟩), .int .i64 n] w fun x w' => x = .returned (.string (strOf (L.take (cnt n L.length)))) ∧ Only Nil w w' := by
  have hC := Lib.hid (count_any n w h)
  have hk : cnt n L.length ≤ L.length := by unfold cnt; omega
  generalize cnt n L.length = k at *
  by_cases h0 : k = 0
  · subst h0
    clear h hk
    go_enter Tryd.func90, Tryd.ntmps90
    go_wp2_with (first
      | (go_at_call 104; (with_reducible refine (hC.out).mono ?_); rintro e w1 ⟨rfl, rfl⟩)
      )
    go_ret
    exact ⟨rfl, Only.refl _ _⟩
  · have hz : ((k : Int) == 0) = false := by simp; omega
    have hT := Lib.hid (fun W b (ho : Only Nil w W) hb => teller1_any k b W (h.go ho) (by omega) hk hb)
    clear hk h h0
    go_enter Tryd.func90, Tryd.ntmps90
    go_wp2_with (first
      | (go_at_call 104; (with_reducible refine (hC.out).mono ?_); rintro e w1 ⟨rfl, rfl⟩)
      | (go_at_call 105; (with_reducible refine (teller_any _).mono ?_); rintro e w2 ⟨b, rfl, ho2, hb2⟩)
      | (go_at_call 110; (with_reducible refine (hT.out _ _ ho2 hb2).mono ?_); rintro e w3 ⟨rfl, ho3⟩)
      )
    go_ret
    exact ⟨rfl, ho2.trans ho3⟩
end
end Go.Proofs.YtjhjfgelcbphjaaDoor
