/- A call of a ring, and of the bytes that are there. -/
import Derived.Test.YtgchiofpnbofdaaRing3
namespace Go.Proofs.Ytgchiofpnbofdaa
open Go.RowKit

theorem Low_any (a b m : Int) (w : World) (h : (a < b ∧ m = a) ∨ (¬ a < b ∧ m = b)) : Calls Try.prog 19 #[.int .i64 a, .int .i64 b] w fun x w' => x = .returned (.int .i64 m) ∧ w = w' := by
  rcases h with ⟨h, rfl⟩ | ⟨h, rfl⟩
  · go_enter Try.func19, Try.ntmps19
    go_wp2
    go_ret
    exact ⟨rfl, rfl⟩
  · go_enter Try.func19, Try.ntmps19
    go_wp2
    go_ret
    exact ⟨rfl, rfl⟩
theorem strOf_take (L : List UInt8) (k : Nat) : (strOf L).extract 0 k = strOf (L.take k) := by
  apply ByteArray.ext
  apply Array.ext'
  simp [strOf]
theorem strOf_drop (L : List UInt8) (k : Nat) : (strOf L).extract k (strOf L).size = strOf (L.drop k) := by
  apply ByteArray.ext
  apply Array.ext'
  simp [strOf, ByteArray.size]
  rw [List.take_of_length_le (by simp)]
theorem First_any (n : Int) (L : List UInt8) (w : World) (hL : L.length ≤ 1000000) : Calls Try.prog 18 #[.string (strOf L), .int .i64 n] w fun x w' => x = .returned (.string (strOf (L.take (cnt n L.length)))) ∧ w = w' := by
  have hs := strOf_size L
  by_cases h0 : n < 0
  · have e2 : cnt n L.length = 0 := by unfold cnt; omega
    rw [e2]
    generalize strOf L = X at *
    go_enter Try.func18, Try.ntmps18
    go_wp2
    go_ret
    exact ⟨rfl, rfl⟩
  · by_cases h1 : n < (L.length : Int)
    · obtain ⟨m, rfl⟩ : ∃ m : Nat, n = m := ⟨n.toNat, by omega⟩
      have e2 : cnt m L.length = m := by unfold cnt; omega
      rw [e2, ← strOf_take]
      have h2 : (m : Int) < (strOf L).size := by rw [hs]; omega
      generalize strOf L = X at *
      go_enter Try.func18, Try.ntmps18
      go_wp2
      go_ret
      exact ⟨rfl, rfl⟩
    · have e2 : cnt n L.length = L.length := by unfold cnt; omega
      rw [e2, List.take_length]
      have h2 : ¬ n < (strOf L).size := by rw [hs]; omega
      generalize strOf L = X at *
      go_enter Try.func18, Try.ntmps18
      go_wp2
      go_ret
      exact ⟨rfl, rfl⟩
section
variable {w w' : World} {r g base c F : Nat} {row L : List UInt8}
def DoPost (w : World) (r g base c : Nat) (L' : List UInt8) (x : Ending) (w' : World) : Prop := ∃ F' row', x = .returned (.tuple #[.string (strOf L'), .bool true]) ∧ Rg w' r g base c F' row' L' ∧ Only (RTwo r g) w w'
theorem do_write (kd n : Int) (S : ByteArray) (w : World) (h : Rg w r g base c F row L) (hk : kd = 0 ∨ kd = 1 ∨ kd = 2) :
    Calls Try.prog 8 #[.pointer (some ⟨r, 0, none⟩), .string (strOf L), .int .i64 c, .agg #[.int .i64 kd, .int .i64 n, .string S]] w (DoPost w r g base c (L ++ S.data.toList.take (min S.size (c - L.length)))) := by
  have hle := h.le
  have hbig := h.big
  have hno := (Only.refl Nil w).alloc (.cells #[.int .i64 kd, .int .i64 n, .string S] 31)
  have hA0 : Blk (w.alloc (.cells #[.int .i64 kd, .int .i64 n, .string S] 31)) w.heap.size 31 #[.int .i64 kd, .int .i64 n, .string S] := Blk.new _ _ _
  have h0 := (h.go hno).go (Only.refl Nil _).drew
  have hF := Lib.hid (fun W => First_any n L W (by omega))
  have hW := Lib.hid (Write_any S _ h0)
  have hs := strOf_size L
  obtain ⟨m, hm⟩ : ∃ m, m = min S.size (c - L.length) := ⟨_, rfl⟩
  have hL := Lib.hid (fun W => Low_any S.size ((c : Int) - (strOf L).size) (m : Nat) W (by rw [hs]; omega))
  have hmS : m ≤ S.size := by omega
  have hsz : (strOf L).size + m ≤ 65536 := by rw [hs]; omega
  have hap : Hid (strOf (L ++ S.data.toList.take m) = strOf L ++ S.extract 0 m) := Lib.hid (by
    apply ByteArray.ext
    apply Array.ext'
    simp [strOf])
  have hr : r < w.heap.size := h.blk.lt
  have hg : g < w.heap.size := h.gb.2
  rw [← hm] at hW ⊢
  unfold DoPost
  rw [hap.out]
  have s0 : (w.alloc (.cells #[.int .i64 kd, .int .i64 n, .string S] 31)).drew.cell? ⟨w.heap.size, 2, none⟩ = some (.string S) := hA0.cell 2
  have hke : kd = 0 ∨ kd = 1 ∨ kd = 2 := hk
  generalize hY : strOf (L.take (cnt n L.length)) = Y at *
  generalize hX : strOf L = X at *
  have hq1 : ¬ 9223372036854775807 < X.size + (S.extract 0 m).size := by rw [ByteArray.size_extract]; omega
  have hq2 : ¬ 9223372036854775807 < X.size + min m S.size := by omega
  have hq3 : ¬ 9223372036854775807 < X.size + m := by omega
  have hon := hno.drew
  clear hY hX hs hm h h0
  rcases hk with rfl | rfl | rfl
  all_goals
    clear hke
    go_enter Try.func8, Try.ntmps8
    go_wp2_with (first
      | (go_at_call 18; (with_reducible refine (hF.out _).mono ?_); rintro e w1 ⟨rfl, rfl⟩)
      | (go_at_call 19; (with_reducible refine (hL.out _).mono ?_); rintro e w1 ⟨rfl, rfl⟩)
      )
    go_region_held3 (fun W => W.cell? ⟨w.heap.size, 2, none⟩ = some (.string S)) (with_reducible (first | exact s0 | exact s1)) (first
      | (go_at_call 13; (with_reducible refine (hW.out).mono ?_); rintro e w1 ⟨row', rfl, hR1, ho1⟩; have s1 : w1.cell? ⟨w.heap.size, 2, none⟩ = some (.string S) := (hA0.drew.kept ho1 (fun hh => by rcases hh with hh | hh <;> omega)).cell 2)
      )
    go_wp2
    go_ret2
    exact ⟨F, row', rfl, hR1, (hon.of_nil _).trans ho1⟩
theorem do_peek (n : Int) (S : ByteArray) (w : World) (h : Rg w r g base c F row L) :
    Calls Try.prog 8 #[.pointer (some ⟨r, 0, none⟩), .string (strOf L), .int .i64 c, .agg #[.int .i64 5, .int .i64 n, .string S]] w (DoPost w r g base c L) := by
  obtain ⟨kd, hkd⟩ : ∃ kd : Int, kd = 5 := ⟨_, rfl⟩
  rw [← hkd]
  have hle := h.le
  have hbig := h.big
  have hno := (Only.refl Nil w).alloc (.cells #[.int .i64 kd, .int .i64 n, .string S] 31)
  have hA0 : Blk (w.alloc (.cells #[.int .i64 kd, .int .i64 n, .string S] 31)) w.heap.size 31 #[.int .i64 kd, .int .i64 n, .string S] := Blk.new _ _ _
  have h0 := h.go hno
  have hF := Lib.hid (fun W => First_any n L W (by omega))
  have hs := strOf_size L
  have hr : r < w.heap.size := h.blk.lt
  have hg : g < w.heap.size := h.gb.2
  have hk : cnt n L.length ≤ L.length := by unfold cnt; omega
  subst hkd
  have hP := Lib.hid (Peek_any n _ h0)
  have hR := Lib.hid (fun W ho => h0.go (w' := W) ho)
  unfold DoPost
  generalize hY : strOf (L.take (cnt n L.length)) = Y at *
  generalize hX : strOf L = X at *
  clear hY hX hs h h0 hk
  go_enter Try.func8, Try.ntmps8
  go_wp2_with (first
    | (go_at_call 18; (with_reducible refine (hF.out _).mono ?_); rintro e w1 ⟨rfl, rfl⟩)
    | (go_at_call 12; (with_reducible refine (hP.out).mono ?_); rintro e w1 ⟨rfl, ho1⟩)
    )
  go_ret2
  exact ⟨F, row, rfl, hR.out _ ho1, (hno.trans ho1).of_nil _⟩
theorem do_clear (n : Int) (S : ByteArray) (w : World) (h : Rg w r g base c F row L) :
    Calls Try.prog 8 #[.pointer (some ⟨r, 0, none⟩), .string (strOf L), .int .i64 c, .agg #[.int .i64 7, .int .i64 n, .string S]] w (DoPost w r g base c []) := by
  obtain ⟨kd, hkd⟩ : ∃ kd : Int, kd = 7 := ⟨_, rfl⟩
  rw [← hkd]
  have hle := h.le
  have hbig := h.big
  have hno := (Only.refl Nil w).alloc (.cells #[.int .i64 kd, .int .i64 n, .string S] 31)
  have hA0 : Blk (w.alloc (.cells #[.int .i64 kd, .int .i64 n, .string S] 31)) w.heap.size 31 #[.int .i64 kd, .int .i64 n, .string S] := Blk.new _ _ _
  have h0 := h.go hno
  have hF := Lib.hid (fun W => First_any n L W (by omega))
  have hs := strOf_size L
  have hr : r < w.heap.size := h.blk.lt
  have hg : g < w.heap.size := h.gb.2
  have hk : cnt n L.length ≤ L.length := by unfold cnt; omega
  subst hkd
  have hC := Lib.hid (Clear_any _ h0)
  rw [← hs] at hC
  generalize hY : strOf (L.take (cnt n L.length)) = Y at *
  generalize hX : strOf L = X at *
  clear hY hX hs h h0 hk
  go_enter Try.func8, Try.ntmps8
  go_wp2_with (first
    | (go_at_call 18; (with_reducible refine (hF.out _).mono ?_); rintro e w1 ⟨rfl, rfl⟩)
    | (go_at_call 16; (with_reducible refine (hC.out).mono ?_); rintro e w1 ⟨F', rfl, hR1, ho1⟩)
    )
  go_ret2
  exact ⟨F', row, rfl, hR1, (hno.of_nil _).trans (ho1.weaken fun i _ hh => .inl hh)⟩
set_option maxHeartbeats 2000000 in
theorem do_drop (n : Int) (S : ByteArray) (w : World) (h : Rg w r g base c F row L) :
    Calls Try.prog 8 #[.pointer (some ⟨r, 0, none⟩), .string (strOf L), .int .i64 c, .agg #[.int .i64 6, .int .i64 n, .string S]] w (DoPost w r g base c (L.drop (cnt n L.length))) := by
  obtain ⟨kd, hkd⟩ : ∃ kd : Int, kd = 6 := ⟨_, rfl⟩
  rw [← hkd]
  have hle := h.le
  have hbig := h.big
  have hno := (Only.refl Nil w).alloc (.cells #[.int .i64 kd, .int .i64 n, .string S] 31)
  have hA0 : Blk (w.alloc (.cells #[.int .i64 kd, .int .i64 n, .string S] 31)) w.heap.size 31 #[.int .i64 kd, .int .i64 n, .string S] := Blk.new _ _ _
  have h0 := h.go hno
  have hF := Lib.hid (fun W => First_any n L W (by omega))
  have hs := strOf_size L
  have hr : r < w.heap.size := h.blk.lt
  have hg : g < w.heap.size := h.gb.2
  have hk : cnt n L.length ≤ L.length := by unfold cnt; omega
  subst hkd
  have hD := Drop_any n _ (h0.go (Only.refl Nil _).drew)
  have s0 : (w.alloc (.cells #[.int .i64 6, .int .i64 n, .string S] 31)).drew.cell? ⟨w.heap.size, 1, none⟩ = some (.int .i64 n) := hA0.cell 1
  have hon := hno.drew
  have hsk : (strOf (L.take (cnt n L.length))).size = cnt n L.length := by rw [strOf_size]; simp; omega
  have hE := strOf_drop L (cnt n L.length)
  rw [← hsk] at hE hD
  unfold DoPost
  generalize hk' : cnt n L.length = k at *
  have hL' : L.drop (strOf (L.take k)).size = L.drop k := by rw [hsk]
  rw [← hL', ← hE]
  rw [hL'] at hD ⊢
  have HD := Lib.hid hD
  have hYX : (strOf (L.take k)).size ≤ (strOf L).size := by omega
  generalize hY : strOf (L.take k) = Y at *
  generalize hX : strOf L = X at *
  clear hY hX hs h h0 hk hk' hD hE hsk hL'
  go_enter Try.func8, Try.ntmps8
  go_wp2_with (first
    | (go_at_call 18; (with_reducible refine (hF.out _).mono ?_); rintro e w1 ⟨rfl, rfl⟩)
    )
  go_region_held3 (fun W => W.cell? ⟨w.heap.size, 1, none⟩ = some (.int .i64 n)) (with_reducible (first | exact s0 | exact s1)) (first
    | (go_at_call 17; (with_reducible refine (HD.out).mono ?_); rintro e w1 ⟨F', rfl, hR1, ho1⟩; have s1 : w1.cell? ⟨w.heap.size, 1, none⟩ = some (.int .i64 n) := (hA0.drew.kept ho1 (fun hh => by simp [One] at hh; omega)).cell 1)
    )
  go_wp2
  go_ret2
  exact ⟨F', row, rfl, hR1, (hon.of_nil _).trans (ho1.weaken fun i _ hh => .inl hh)⟩
set_option maxHeartbeats 2000000 in
theorem do_read (kd n : Int) (S : ByteArray) (w : World) (h : Rg w r g base c F row L) (e0 : (kd == 0) = false) (e1 : (kd == 1) = false) (e2 : (kd == 2) = false) (e5 : (kd == 5) = false) (e6 : (kd == 6) = false) (e7 : (kd == 7) = false) :
    Calls Try.prog 8 #[.pointer (some ⟨r, 0, none⟩), .string (strOf L), .int .i64 c, .agg #[.int .i64 kd, .int .i64 n, .string S]] w (DoPost w r g base c (L.drop (cnt n L.length))) := by
  have hle := h.le
  have hbig := h.big
  have hno := (Only.refl Nil w).alloc (.cells #[.int .i64 kd, .int .i64 n, .string S] 31)
  have hA0 : Blk (w.alloc (.cells #[.int .i64 kd, .int .i64 n, .string S] 31)) w.heap.size 31 #[.int .i64 kd, .int .i64 n, .string S] := Blk.new _ _ _
  have h0 := h.go hno
  have hF := Lib.hid (fun W => First_any n L W (by omega))
  have hs := strOf_size L
  have hr : r < w.heap.size := h.blk.lt
  have hg : g < w.heap.size := h.gb.2
  have hk : cnt n L.length ≤ L.length := by unfold cnt; omega
  have hD := Read_any n _ (h0.go (Only.refl Nil _).drew)
  have s0 : (w.alloc (.cells #[.int .i64 kd, .int .i64 n, .string S] 31)).drew.cell? ⟨w.heap.size, 1, none⟩ = some (.int .i64 n) := hA0.cell 1
  have hon := hno.drew
  have hsk : (strOf (L.take (cnt n L.length))).size = cnt n L.length := by rw [strOf_size]; simp; omega
  have hE := strOf_drop L (cnt n L.length)
  unfold DoPost
  rw [← hE]
  have HD := Lib.hid hD
  have hYX : (strOf (L.take (cnt n L.length))).size ≤ (strOf L).size := by omega
  generalize hM : L.drop (cnt n L.length) = M at *
  have HS := Lib.hid (congrArg (fun k => (strOf L).extract k (strOf L).size) hsk)
  generalize hY : strOf (L.take (cnt n L.length)) = Y at *
  rw [← hsk]
  generalize hX : strOf L = X at *
  clear hY hX hs h h0 hk hD hE hsk hM
  go_enter Try.func8, Try.ntmps8
  go_wp2_with (first
    | (go_at_call 18; (with_reducible refine (hF.out _).mono ?_); rintro e w1 ⟨rfl, rfl⟩)
    )
  go_region_held3 (fun W => W.cell? ⟨w.heap.size, 1, none⟩ = some (.int .i64 n)) (with_reducible (first | exact s0 | exact s1)) (first
    | (go_at_call 14; (with_reducible refine (HD.out).mono ?_); rintro e w1 ⟨F', rfl, hR1, ho1⟩; have s1 : w1.cell? ⟨w.heap.size, 1, none⟩ = some (.int .i64 n) := (hA0.drew.kept ho1 (fun hh => by simp [One] at hh; omega)).cell 1)
    )
  go_wp2
  go_ret2
  exact ⟨F', row, rfl, hR1, (hon.of_nil _).trans (ho1.weaken fun i _ hh => .inl hh)⟩
/-- the bytes behind a call -/
def aft (c : Nat) (kd n : Int) (S : ByteArray) (L : List UInt8) : List UInt8 :=
  if kd = 0 ∨ kd = 1 ∨ kd = 2 then L ++ S.data.toList.take (min S.size (c - L.length)) else if kd = 5 then L else if kd = 7 then [] else L.drop (cnt n L.length)
theorem do_any (kd n : Int) (S : ByteArray) (w : World) (h : Rg w r g base c F row L) :
    Calls Try.prog 8 #[.pointer (some ⟨r, 0, none⟩), .string (strOf L), .int .i64 c, .agg #[.int .i64 kd, .int .i64 n, .string S]] w (DoPost w r g base c (aft c kd n S L)) := by
  unfold aft
  by_cases k0 : kd = 0 ∨ kd = 1 ∨ kd = 2
  · rw [if_pos k0]
    exact do_write kd n S w h k0
  rw [if_neg k0]
  by_cases k5 : kd = 5
  · subst k5
    exact do_peek n S w h
  rw [if_neg k5]
  by_cases k7 : kd = 7
  · subst k7
    exact do_clear n S w h
  rw [if_neg k7]
  by_cases k6 : kd = 6
  · subst k6
    exact do_drop n S w h
  exact do_read kd n S w h (by simp; omega) (by simp; omega) (by simp; omega) (by simp; omega) (by simp; omega) (by simp; omega)
end
end Go.Proofs.Ytgchiofpnbofdaa
