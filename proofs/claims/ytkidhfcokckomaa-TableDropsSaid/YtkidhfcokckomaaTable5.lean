/- What must come at any rate, of table; what a nil table has. -/
import Derived.Test.YtkidhfcokckomaaTable4
namespace Go.Proofs.Ytkidhfcokckomaa
open Go.RowKit

theorem Set_nil (id v : Int) (w : World) : Calls Try.prog 20 #[.pointer none, .int .i64 id, .int .i64 v] w fun x w' => x = .returned (.int .i64 1) ∧ w = w' := by
  go_enter Try.func20, Try.ntmps20
  go_wp2
  go_ret
  exact ⟨rfl, rfl⟩
theorem Del_nil (id : Int) (w : World) : Calls Try.prog 17 #[.pointer none, .int .i64 id] w fun x w' => x = .returned (.tuple #[.int .i64 0, .bool false]) ∧ Only Nil w w' := by
  go_enter Try.func17, Try.ntmps17
  go_wp2_with (first
    | (go_at_call 24; (with_reducible refine (finder_any _ _).mono ?_); rintro e w1 ⟨g, rfl, ho1, hg1⟩)
    | (go_at_call 25; (with_reducible refine (finder1_nil g id _ hg1).mono ?_); rintro e w2 ⟨rfl, ho2⟩)
    )
  go_ret2
  exact ⟨rfl, ho1.trans ho2⟩
theorem Ends_nil (w : World) : Calls Try.prog 15 #[.pointer none] w fun x w' => x = .returned (.tuple #[.int .i64 0, .int .i64 0, .bool false]) ∧ w = w' := by
  go_enter Try.func15, Try.ntmps15
  go_wp2_with (first
    | (go_at_call 9; (with_reducible refine (Len_nil _).mono ?_); rintro e w1 ⟨rfl, rfl⟩)
    )
  exact bodyPost_ret (v := .tuple #[.int .i64 0, .int .i64 0, .bool false]) (by simp [results, Try.results15, go_sem]) rfl ⟨rfl, rfl⟩
theorem At_nil (i : Int) (w : World) : Calls Try.prog 18 #[.pointer none, .int .i64 i] w fun x w' => x = .returned (.tuple #[.int .i64 0, .int .i64 0, .bool false]) ∧ w = w' := by
  by_cases h : i < 0
  · go_enter Try.func18, Try.ntmps18
    go_wp2_with (first
      | (go_at_call 9; (with_reducible refine (Len_nil _).mono ?_); rintro e w1 ⟨rfl, rfl⟩)
      )
    exact bodyPost_ret (v := .tuple #[.int .i64 0, .int .i64 0, .bool false]) (by simp [results, Try.results18, go_sem]) rfl ⟨rfl, rfl⟩
  · have h0 : 0 ≤ i := by omega
    go_enter Try.func18, Try.ntmps18
    go_wp2_with (first
      | (go_at_call 9; (with_reducible refine (Len_nil _).mono ?_); rintro e w1 ⟨rfl, rfl⟩)
      )
    exact bodyPost_ret (v := .tuple #[.int .i64 0, .int .i64 0, .bool false]) (by simp [results, Try.results18, go_sem]) rfl ⟨rfl, rfl⟩
theorem IDs_nil (w : World) : Calls Try.prog 11 #[.pointer none] w fun x w' => ∃ A cap, x = .returned (.slice A 0 cap) ∧ Only Nil w w' := by
  have hmk : ∀ W : World, (Instr.makeSlice 37 (.int .i64 0) (.int .i64 0)).run Try.prog W = .ok (.slice (some ⟨W.heap.size, 0, none⟩) 0 0) (W.alloc (.cells (madeCells #[.int .i64 0] 0) 3)) := hmakeN 0 (by decide)
  go_enter Try.func11, Try.ntmps11
  go_wp2_with (first
    | (go_at_call 9; (with_reducible refine (Len_nil _).mono ?_); rintro e w1 ⟨rfl, rfl⟩)
    )
  go_loopw [10] (fun ii wr => ii = .int .i64 0 ∧ Only Nil w wr) (fun _ _ => 0)
  case atStart => exact ⟨rfl, (Only.refl _ _).alloc _⟩
  case round =>
    obtain ⟨rfl, ho⟩ := hrel
    go_wp2
    go_ret
    exact ⟨_, _, rfl, ho⟩
theorem Drop_nil (A : Option Addr) (cap : Nat) (l : List Int) (w : World) (hA : Sq encZ 1 w w.heap.size A l) (hlen : l.length ≤ 100000) : Calls Try.prog 14 #[.pointer none, .slice A l.length cap] w fun x w' => x = .returned (.int .i64 0) ∧ Only Nil w w' := by
  generalize hn : l.length = n at *
  go_enter Try.func14, Try.ntmps14
  go_wp2
  go_loopw [5, 12] (fun nn ii wr => nn = .int .i64 0 ∧ ∃ k : Nat, k ≤ n ∧ ii = .int .i64 k ∧ Only Nil w wr) (fun _ ii _ => n - (intOf ii).toNat)
  case atStart => exact ⟨rfl, 0, Nat.zero_le _, rfl, Only.refl _ _⟩
  case round =>
    obtain ⟨rfl, k, hk, rfl, ho⟩ := hrel
    by_cases hlt : k < n
    · obtain ⟨b1, o1, x, rfl, hb1, hx, _, h1⟩ := (hA.go ho).at_ (k := k) (by omega)
      have e1 : wr.cell? ⟨b1, o1 + k, none⟩ = some (.int .i64 x) := by simpa [encZ] using h1 0 (by decide)
      clear h1
      go_wp2_with (first
        | (go_at_call 17; (with_reducible refine (Del_nil x _).mono ?_); rintro e w1 ⟨rfl, ho1⟩)
        )
      go_roundw
      case rel => exact ⟨rfl, k + 1, by omega, by go_num, ho.trans ho1⟩
      case measure => simp [intOf]; omega
    · go_wp2
      go_ret
      exact ⟨rfl, ho⟩
set_option maxHeartbeats 4000000 in
theorem awake_any (w : World) : Calls Try.prog 7 #[] w fun x w' => x = .returned (.bool true) ∧ Below w.heap.size w w' := by
  have hP1 : ∀ W b v1 v2, Tb W b w.heap.size 3 v1 v2 [] [] → Calls Try.prog 19 #[.pointer (some ⟨b, 0, none⟩), .int .i64 5, .int .i64 50] W fun x w' => ∃ v1' v2', x = .returned (.int .i64 0) ∧ Tb w' b w.heap.size 3 v1' v2' [5] [50] ∧ Below w.heap.size W w' := fun W b v1 v2 h => by
    refine (Put_new 5 50 W h (fun i j x y hx => by simp at hx) (by decide) (by simp) (by decide)).mono ?_
    rintro x w' ⟨r, v1', v2', rfl, hp, ht, hb⟩
    have : r = 0 := by have := hp.1; simpa using this
    subst this
    exact ⟨v1', v2', rfl, ht, hb.1⟩
  have hP2 : ∀ W b v1 v2, Tb W b w.heap.size 3 v1 v2 [5] [50] → Calls Try.prog 19 #[.pointer (some ⟨b, 0, none⟩), .int .i64 2, .int .i64 20] W fun x w' => ∃ v1' v2', x = .returned (.int .i64 0) ∧ Tb w' b w.heap.size 3 v1' v2' [2, 5] [20, 50] ∧ Below w.heap.size W w' := fun W b v1 v2 h => by
    refine (Put_new 2 20 W h (fun i j x y hx hy hij => by have a := (List.getElem?_eq_some_iff.1 hx).1; have c := (List.getElem?_eq_some_iff.1 hy).1; simp at a c; omega) (by decide) (by simp) (by decide)).mono ?_
    rintro x w' ⟨r, v1', v2', rfl, hp, ht, hb⟩
    have : r = 0 := by
      have h1 := hp.1
      have h2 := hp.2.1 0 5 rfl
      simp at h1
      omega
    subst this
    exact ⟨v1', v2', rfl, ht, hb.1⟩
  have hr25 : rising [2, 5] := fun i j x y hx hy hij => by
    have a := (List.getElem?_eq_some_iff.1 hx).1
    have c := (List.getElem?_eq_some_iff.1 hy).1
    simp at a c
    obtain rfl : i = 0 := by omega
    obtain rfl : j = 1 := by omega
    simp at hx hy
    omega
  have hG : ∀ W b v1 v2, Tb W b w.heap.size 3 v1 v2 [2, 5] [20, 50] → Calls Try.prog 16 #[.pointer (some ⟨b, 0, none⟩), .int .i64 5] W fun x w' => x = .returned (.tuple #[.int .i64 50, .bool true]) ∧ Only Nil W w' := fun W b v1 v2 h => by
    refine (Get_in 5 W h hr25 (by decide) (by simp)).mono ?_
    rintro x w' ⟨r, y, rfl, hr, hy, ho⟩
    have a := (List.getElem?_eq_some_iff.1 hr).1
    simp at a
    have : r = 1 := by
      rcases Nat.lt_or_ge r 1 with h0 | h0
      · obtain rfl : r = 0 := by omega
        simp at hr
      · omega
    subst this
    simp at hy
    subst hy
    exact ⟨rfl, ho⟩
  have hI : ∀ W b v1 v2, Tb W b w.heap.size 3 v1 v2 [2, 5] [20, 50] → Calls Try.prog 11 #[.pointer (some ⟨b, 0, none⟩)] W fun x w' => ∃ A cap, x = .returned (.slice A 2 cap) ∧ Sq encZ 1 w' w'.heap.size A [2, 5] ∧ Only Nil W w' := fun W b v1 v2 h => IDs_any W h (by decide)
  have hT : ∀ W A B ca cb, Sq encZ 1 W W.heap.size A [2, 5] → Sq encZ 1 W W.heap.size B [2, 5] → Calls Try.prog 10 #[.slice A 2 ca, .slice B 2 cb] W fun x w' => x = .returned (.bool true) ∧ Only Nil W w' := fun W A B ca cb h1 h2 => Ints_same A B ca cb [2, 5] W h1 h2 (by decide)
  have HP1 := Lib.hid hP1
  have HP2 := Lib.hid hP2
  have HG := Lib.hid hG
  have HI := Lib.hid hI
  have HT := Lib.hid hT
  clear hP1 hP2 hG hI hT hr25
  go_enter Try.func7, Try.ntmps7
  go_wp2_with (first
    | (go_at_call 6; (with_reducible refine (New_any 3 _ (by decide) (by decide)).mono ?_); rintro e w1 ⟨b, rfl, ho1, t1⟩)
    | (go_at_call 19; (with_reducible refine (HP1.out _ _ _ _ t1).mono ?_); rintro e w2 ⟨v1', v2', rfl, t2, hb2⟩)
    | (go_at_call 19; (with_reducible refine (HP2.out _ _ _ _ t2).mono ?_); rintro e w3 ⟨v1'', v2'', rfl, t3, hb3⟩)
    | (go_at_call 16; (with_reducible refine (HG.out _ _ _ _ t3).mono ?_); rintro e w4 ⟨rfl, ho4⟩; have t4 := t3.kept ho4)
    | (go_at_call 11; (with_reducible refine (HI.out _ _ _ _ t4).mono ?_); rintro e w5 ⟨A5, c5, rfl, hs5, ho5⟩; have s1 := hs5.go ((Only.refl Nil w5).alloc (.cells #[.int .i64 2, .int .i64 5] 3)); have s2 := (Ow.lit (enc := encZ) (sz := 1) (e := 3) (base := 0) w5 (cs := #[.int .i64 2, .int .i64 5]) [2, 5] rfl rfl (by decide) (Nat.zero_le _)).sq (fun _ _ => rfl) rfl)
    | (go_at_call 10; (with_reducible refine (HT.out _ _ _ _ _ s1 s2).mono ?_); rintro e w6 ⟨rfl, ho6⟩)
    )
  go_ret
  have b1 := ho1.below (Nat.le_refl _) (fun _ _ hh => hh)
  have b3 := (b1.trans hb2).trans hb3
  have hx := ((ho4.trans ho5).alloc (.cells #[.int .i64 2, .int .i64 5] 3)).trans ho6
  exact ⟨rfl, b3.trans (hx.below b3.size (fun _ _ hh => hh))⟩
end Go.Proofs.Ytkidhfcokckomaa
