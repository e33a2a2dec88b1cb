/- The document's own for traces: moves' bytes; what must come at any rate. -/
import Derived.Test.YtamocachpjljdaaTrace4
namespace Go.Proofs.Ytamocachpjljdaa
open Go.RowKit

theorem str_add (I J : List UInt8) : strOf I ++ strOf J = strOf (I ++ J) := by
  apply ByteArray.ext
  apply Array.toList_inj.1
  simp [strOf, ByteArray.data_append]
set_option maxRecDepth 100000 in
set_option maxHeartbeats 4000000 in
theorem One_any (m : Mv) (w : World) (hr : rightM m = true) : Calls Try.prog 22 #[mvV m] w fun x w' => x = .returned (.string (strOf (bytesM m))) ∧ Only Nil w w' := by
  obtain ⟨⟨h1, h1'⟩, ⟨h2, h2'⟩, ⟨h3, h3'⟩, h4⟩ := rightM_iff.1 hr
  have h5 : 0 ≤ b2i m.en ∧ b2i m.en ≤ 1 := by cases m.en <;> decide
  have hb1 : ∀ W, Calls Try.prog 29 #[.int .i64 (m.wh), .int .i64 1] W fun x w' => x = .returned (.string (strOf (numB (m.wh) 1))) ∧ Only Nil W w' := fun W => RB_any (m.wh) 1 W (by omega) (by omega) (by decide)
  have hb2 : ∀ W, Calls Try.prog 29 #[.int .i64 (b2i m.en), .int .i64 1] W fun x w' => x = .returned (.string (strOf (numB (b2i m.en) 1))) ∧ Only Nil W w' := fun W => RB_any (b2i m.en) 1 W (by omega) (by omega) (by decide)
  have hb3 : ∀ W, Calls Try.prog 29 #[.int .i64 (m.st), .int .i64 4] W fun x w' => x = .returned (.string (strOf (numB (m.st) 4))) ∧ Only Nil W w' := fun W => RB_any (m.st) 4 W (by omega) (by omega) (by decide)
  have hb4 : ∀ W, Calls Try.prog 29 #[.int .i64 (m.n), .int .i64 4] W fun x w' => x = .returned (.string (strOf (numB (m.n) 4))) ∧ Only Nil W w' := fun W => RB_any (m.n) 4 W (by omega) (by omega) (by decide)
  have hb5 : ∀ W, Calls Try.prog 29 #[.int .i64 (m.s.size), .int .i64 2] W fun x w' => x = .returned (.string (strOf (numB (m.s.size) 2))) ∧ Only Nil W w' := fun W => RB_any (m.s.size) 2 W (by omega) (by omega) (by decide)
  have e : Hid (strOf (bytesM m) = strOf (numB (m.wh) 1) ++ strOf (numB (b2i m.en) 1) ++ strOf (numB (m.st) 4) ++ strOf (numB (m.n) 4) ++ strOf (numB (m.s.size) 2) ++ m.s) := Lib.hid (by
    unfold bytesM
    generalize numB (m.s.size) 2 = Q
    conv => rhs; rw [← strOf_data m.s]
    simp only [str_add, List.append_assoc])
  have z1 : (strOf (numB (m.wh) 1)).size = 1 := by rw [strOf_size, numB_length]
  have z2 : (strOf (numB (b2i m.en) 1)).size = 1 := by rw [strOf_size, numB_length]
  have z3 : (strOf (numB (m.st) 4)).size = 4 := by rw [strOf_size, numB_length]
  have z4 : (strOf (numB (m.n) 4)).size = 4 := by rw [strOf_size, numB_length]
  have z5 : (strOf (numB (m.s.size) 2)).size = 2 := by rw [strOf_size, numB_length]
  generalize strOf (bytesM m) = R at e ⊢
  generalize strOf (numB (m.wh) 1) = X1 at *
  generalize strOf (numB (b2i m.en) 1) = X2 at *
  generalize strOf (numB (m.st) 4) = X3 at *
  generalize strOf (numB (m.n) 4) = X4 at *
  generalize strOf (numB (m.s.size) 2) = X5 at *
  clear hr h5
  have y2 : (X1).size + X2.size ≤ 9223372036854775807 := by (try simp only [ByteArray.size_append]); omega
  have n2 : ¬ 9223372036854775807 < X1.size + X2.size := by omega
  have y3 : (X1 ++ X2).size + X3.size ≤ 9223372036854775807 := by (try simp only [ByteArray.size_append]); omega
  have n3 : ¬ 9223372036854775807 < X1.size + X2.size + X3.size := by omega
  have y4 : (X1 ++ X2 ++ X3).size + X4.size ≤ 9223372036854775807 := by (try simp only [ByteArray.size_append]); omega
  have n4 : ¬ 9223372036854775807 < X1.size + X2.size + X3.size + X4.size := by omega
  have y5 : (X1 ++ X2 ++ X3 ++ X4).size + X5.size ≤ 9223372036854775807 := by (try simp only [ByteArray.size_append]); omega
  have n5 : ¬ 9223372036854775807 < X1.size + X2.size + X3.size + X4.size + X5.size := by omega
  have y6 : (X1 ++ X2 ++ X3 ++ X4 ++ X5).size + m.s.size ≤ 9223372036854775807 := by (try simp only [ByteArray.size_append]); omega
  have n6 : ¬ 9223372036854775807 < X1.size + X2.size + X3.size + X4.size + X5.size + m.s.size := by omega
  obtain ⟨wh, en, st, nn, s⟩ := m
  dsimp only at *
  have H1 := Lib.hid hb1
  have H2 := Lib.hid hb2
  have H3 := Lib.hid hb3
  have H4 := Lib.hid hb4
  have H5 := Lib.hid hb5
  clear hb1 hb2 hb3 hb4 hb5 z1 z2 z3 z4 z5 h1 h1' h2 h2' h3 h3' h4
  have hb0 := Blk.new w 28 (mvC ⟨wh, en, st, nn, s⟩)
  have hx0 := (Only.refl Nil w).alloc (.cells (mvC ⟨wh, en, st, nn, s⟩) 28)
  dsimp only [mvC] at hb0 hx0
  cases en
  all_goals
    simp [b2i] at H2
    go_enter Try.func22, Try.ntmps22
    go_wp2
    go_region_held3 (fun w' => w'.cell? ⟨w.heap.size, 0, none⟩ = some (.int .i64 wh) ∧ w'.cell? ⟨w.heap.size, 1, none⟩ = some (.int .i64 st) ∧ w'.cell? ⟨w.heap.size, 2, none⟩ = some (.int .i64 nn) ∧ w'.cell? ⟨w.heap.size, 3, none⟩ = some (.string s)) (first | exact ⟨hb5.cell 0, hb5.cell 1, hb5.cell 2, hb5.cell 3⟩ | exact ⟨hb4.cell 0, hb4.cell 1, hb4.cell 2, hb4.cell 3⟩ | exact ⟨hb3.cell 0, hb3.cell 1, hb3.cell 2, hb3.cell 3⟩ | exact ⟨hb2.cell 0, hb2.cell 1, hb2.cell 2, hb2.cell 3⟩ | exact ⟨hb1.cell 0, hb1.cell 1, hb1.cell 2, hb1.cell 3⟩ | exact ⟨hb0.cell 0, hb0.cell 1, hb0.cell 2, hb0.cell 3⟩) (first
      | (go_at_call 29; have _t := hb4; (with_reducible refine (H5.out _).mono ?_); rintro e w5 ⟨rfl, ho5⟩; have hb5 := Blk.kept hb4 ho5 (fun hh => hh))
      | (go_at_call 29; have _t := hb3; (with_reducible refine (H4.out _).mono ?_); rintro e w4 ⟨rfl, ho4⟩; have hb4 := Blk.kept hb3 ho4 (fun hh => hh))
      | (go_at_call 29; have _t := hb2; (with_reducible refine (H3.out _).mono ?_); rintro e w3 ⟨rfl, ho3⟩; have hb3 := Blk.kept hb2 ho3 (fun hh => hh))
      | (go_at_call 29; have _t := hb1; (with_reducible refine (H2.out _).mono ?_); rintro e w2 ⟨rfl, ho2⟩; have hb2 := Blk.kept hb1 ho2 (fun hh => hh))
      | (go_at_call 29; (with_reducible refine (H1.out _).mono ?_); rintro e w1 ⟨rfl, ho1⟩; have hb1 := Blk.kept (Blk.drew hb0) ho1 (fun hh => hh))
      )
    all_goals
      go_wp2
      go_ret
      exact ⟨by rw [e.out]; rfl, ((((hx0.drew.trans ho1).trans ho2).trans ho3).trans ho4).trans ho5⟩
set_option maxHeartbeats 2000000 in
theorem All_any (A : Option Addr) (c : Nat) (L : List Mv) (w : World) (hS : Sq encM 5 w w.heap.size A L) (hc : L.length ≤ c) (hr : ∀ m ∈ L, rightM m = true) (h3 : L.length ≤ 1000) : Calls Try.prog 12 #[.slice A L.length c] w fun x w' => x = .returned (.string (strOf (allM L))) ∧ Only Nil w w' := by
  have HS := Lib.hid hS
  have HR := Lib.hid hr
  obtain ⟨n, hn⟩ : ∃ n, n = L.length := ⟨_, rfl⟩
  have HN := Lib.hid hn
  rw [← hn] at hc h3 ⊢
  obtain ⟨R, hR⟩ : ∃ R, R = strOf (allM L) := ⟨_, rfl⟩
  have HRR := Lib.hid hR
  rw [← hR]
  clear hS hn hr hR
  go_enter Try.func12, Try.ntmps12
  go_wp2
  go_loopw [3, 4] (fun ss ii wr => ∃ (k : Nat) (X : ByteArray), k ≤ n ∧ ii = .int .i64 k ∧ ss = .string X ∧ Hid (X = strOf (allM (L.take k))) ∧ X.size ≤ k * 268 ∧ Only Nil w wr) (fun _ ii _ => n - (intOf ii).toNat)
  case atStart => exact ⟨0, noS, Nat.zero_le _, rfl, rfl, Lib.hid rfl, by decide, Only.refl _ _⟩
  case round =>
    obtain ⟨k, X, hk, rfl, rfl, hX, hXs, ho⟩ := hrel
    by_cases hlt : k < n
    · have hlt' : (k : Int) < n := by omega
      obtain ⟨b, o, x, rfl, hb, hx, f0, f1, f2, f3, f4⟩ := mv_at (HS.out.go ho) (k := k) (by rw [← HN.out]; exact hlt)
      have hrx := HR.out x (List.mem_of_getElem? hx)
      have HON := Lib.hid (fun W => One_any x W hrx)
      have HX2 : Hid (X ++ strOf (bytesM x) = strOf (allM (L.take (k + 1)))) := Lib.hid (by rw [allM_snoc hx, hX.out, str_add])
      have hz : (strOf (bytesM x)).size ≤ 268 := by
        rw [strOf_size, bytesM_len]
        have := rightM_iff.1 hrx
        omega
      have HXS : Hid ((X ++ strOf (bytesM x)).size ≤ (k + 1) * 268) := Lib.hid (by rw [ByteArray.size_append]; omega)
      have hz2 : X.size + (strOf (bytesM x)).size ≤ 9223372036854775807 := by omega
      have HO := Lib.hid ho
      generalize strOf (bytesM x) = B at *
      obtain ⟨wh, en, st, nn, s⟩ := x
      simp only at f0 f1 f2 f3 f4
      clear hx hrx ho hX hz
      go_wp2_with (first
        | (go_at_call 22; (with_reducible refine (HON.out _).mono ?_); rintro e w1 ⟨rfl, ho1⟩)
        )
      go_roundw
      case rel => exact ⟨k + 1, X ++ B, by omega, by go_num, rfl, HX2, HXS.out, HO.out.trans ho1⟩
      case measure => simp [intOf]; omega
    · obtain rfl : k = n := by omega
      have hlt' : ¬ (k : Int) < k := by omega
      have e : R = X := by
        have := hX.out
        have e2 := HN.out
        rw [List.take_of_length_le (by omega)] at this
        rw [HRR.out, this]
      subst e
      clear hX
      go_wp2
      go_ret
      exact ⟨rfl, ho⟩
/-- what must come at any rate -/
def mvW : Mv := ⟨1, false, 3, 2, ⟨#[97, 98]⟩⟩
abbrev btW : ByteArray := ⟨#[1, 0, 0, 0, 0, 3, 0, 0, 0, 2, 0, 2, 97, 98]⟩
theorem layW : tlS [mvW] = btW ∧ tlE [mvW] = 0 := by
  have h : tlE [mvW] = 0 := by decide
  refine ⟨?_, h⟩
  unfold tlS
  rw [if_pos h]
  rfl
theorem rdW : rdO btW = ([mvW], 14, 0) := by kernel_rfl
set_option maxRecDepth 100000 in
set_option maxHeartbeats 4000000 in
theorem awake_any (w : World) : Calls Try.prog 8 #[] w fun x w' => x = .returned (.bool true) ∧ Only Nil w w' := by
  have hb0 := Blk.new w 28 (mvC mvW)
  have hx0 := (Only.refl Nil w).alloc (.cells (mvC mvW) 28)
  have hb1 : Blk ((w.alloc (.cells (mvC mvW) 28)).alloc (.cells (mvC mvW) 28)) (w.heap.size + 1) 28 (mvC mvW) := by
    have := Blk.new (w.alloc (.cells (mvC mvW) 28)) 28 (mvC mvW)
    simpa using this
  have hq1 := Lib.hid (Blk.sq (enc := encM) (sz := 5) (l := [mvW]) hb1 rfl encM_len)
  have hq2 := Lib.hid (fun W => Blk.sq (enc := encM) (sz := 5) (l := [mvW]) (Blk.new W 28 (mvC mvW)) rfl encM_len)
  have hx1 := Lib.hid (hx0.alloc (.cells (mvC mvW) 28))
  have hb2 := Lib.hid (hb0.alloc (.cells (mvC mvW) 28))
  have c0 := hb0.cell 0
  have c1 := hb0.cell 1
  have c2 := hb0.cell 2
  have c3 := hb0.cell 3
  have c4 := hb0.cell 4
  have HL : Hid (∀ W A c, Sq encM 5 W W.heap.size A [mvW] → 1 ≤ c → Calls Try.prog 11 #[.slice A 1 c] W fun x w' => x = .returned (.tuple #[.string btW, .int .i64 0]) ∧ Only Nil W w') := Lib.hid (fun W A c h hc => by
    have := TLay_any A c [mvW] W h hc
    rw [layW.1, layW.2] at this
    exact this)
  have HR : Hid (∀ W, Calls Try.prog 13 #[.string btW] W fun x w' => ∃ A c, x = .returned (.tuple #[.slice A 1 c, .int .i64 14, .int .i64 0]) ∧ Ow encM 5 w' 0 28 (.slice A 1 c) [mvW] ∧ Only Nil W w') := Lib.hid (fun W => by
    have := TRead_any btW W
    rw [rdW] at this
    exact this.mono fun x w' ⟨A, c, hx, ho, hn⟩ => ⟨A, c, hx, ho.mono (Nat.zero_le _), hn⟩)
  have HSM : Hid (∀ W A c, Ow encM 5 W 0 28 (.slice A 1 c) [mvW] → ∀ A2, Sq encM 5 W W.heap.size A2 [mvW] → Calls Try.prog 15 #[.slice A 1 c, .slice A2 1 1] W fun x w' => x = .returned (.bool true) ∧ Only Nil W w') := Lib.hid (fun W A c h A2 h2 => by
    have := Same_any A A2 c 1 [mvW] [mvW] W (h.sqn encM_len) h2 h.len.2.1 (Nat.le_refl _) h.len.2.2
    simpa using this)
  clear hb0 hb1
  dsimp only [mvC, mvW] at hx1 hq2 hq1 hb2 c0 c1 c2 c3 c4 hx0
  go_enter Try.func8, Try.ntmps8
  go_wp2_with (first
    | (go_at_call 11; (with_reducible refine (HL.out _ _ _ hq1.out (Nat.le_refl _)).mono ?_); rintro e w1 ⟨rfl, ho1⟩; have HO1 := Lib.hid (hx1.out.trans ho1); have HB1 := Lib.hid (hb2.out.kept ho1 (fun hh => hh)); clear ho1)
    | (go_at_call 13; (with_reducible refine (HR.out _).mono ?_); rintro e w2 ⟨A, c, rfl, hO2, ho2⟩; have HO2 := Lib.hid (HO1.out.trans ho2); have hB2 := HB1.out.kept ho2 (fun hh => hh); have g0 := hB2.cell 0; have g1 := hB2.cell 1; have g2 := hB2.cell 2; have g3 := hB2.cell 3; have g4 := hB2.cell 4; have zg := hB2.lt; have HW2 := Lib.hid (hO2.alloc (.cells #[.int .i64 1, .int .i64 3, .int .i64 2, .string ⟨#[97, 98]⟩, .bool false] 28)); have HQ2 := Lib.hid (hq2.out w2); clear ho2 hO2 hB2)
    | (go_at_call 15; (with_reducible refine (HSM.out _ _ _ HW2.out _ HQ2.out).mono ?_); rintro e w3 ⟨rfl, ho3⟩)
    )
  go_ret
  exact ⟨rfl, (HO2.out.alloc _).trans ho3⟩
end Go.Proofs.Ytamocachpjljdaa
