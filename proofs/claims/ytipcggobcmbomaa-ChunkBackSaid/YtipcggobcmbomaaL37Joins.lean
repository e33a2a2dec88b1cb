/- For every size and every list of items: which messages they are, and what is no piece, or too much (the statement ChunkJoins, as it is given). No condition. -/
import Derived.Test.YtipcggobcmbomaaL37Cuts
namespace Go.Proofs.Ytipcggobcmbomaa
open Go.RowKit

theorem app_tail (X S : ByteArray) (L : List UInt8) (h : X = strOf L) : X ++ S.extract 1 S.size = strOf (L ++ S.data.toList.tail) := by
  rw [ext_on, List.drop_one]
  subst h
  apply ByteArray.ext
  apply Array.toList_inj.1
  simp [strOf, ByteArray.data_append]
set_option maxRecDepth 100000 in
set_option maxHeartbeats 8000000 in
theorem chunkJoins_walk (v0 v1 : Value) (w : World) (h0 : Kd.Fit w (.int .i64) v0) (h1 : Kd.Fit w (.slc .str) v1) :
    Calls Try.prog 5 #[v0, v1] w fun e w' => e = .returned (.bool true) ∧ Below w.heap.size w w' := by
  obtain ⟨most, rfl, -⟩ := Kd.int_fit h0
  obtain ⟨A, len, cap, rfl, hl⟩ := Kd.slc_fit h1
  clear h0 h1
  by_cases hlim : most < 0 ∨ 65536 < most
  · have hn := fun (W : World) => New_out most W hlim
    by_cases h0 : most < 0
    · clear hlim hl
      go_enter Try.func5, Try.ntmps5
      go_wp2_with (first
        | (go_at_call 12; (with_reducible refine (hn _).mono ?_); rintro e w1 ⟨rfl, rfl⟩)
        | (go_at_call 9; (with_reducible refine (awake_any _).mono ?_); rintro e w2 ⟨rfl, ho2⟩)
        )
      go_ret
      exact ⟨rfl, ho2⟩
    · have h1 : 65536 < most := by omega
      clear hlim hl
      go_enter Try.func5, Try.ntmps5
      go_wp2_with (first
        | (go_at_call 12; (with_reducible refine (hn _).mono ?_); rintro e w1 ⟨rfl, rfl⟩)
        | (go_at_call 9; (with_reducible refine (awake_any _).mono ?_); rintro e w2 ⟨rfl, ho2⟩)
        )
      go_ret
      exact ⟨rfl, ho2⟩
  · have m0 : 0 ≤ most := by omega
    have m1 : most ≤ 65536 := by omega
    clear hlim
    go_enter Try.func5, Try.ntmps5
    go_wp2_with (first
      | (go_at_call 12; (with_reducible refine (New_any most _ m0 m1).mono ?_); rintro e w1 ⟨b, rfl, ho1, hJ1⟩; have hZ1 := ho1.size; have hz1 := hJ1.blk.lt)
      | (go_at_call 9; (with_reducible refine (awake_any _).mono ?_); rintro e w2 ⟨rfl, hb2⟩)
      )
    have hJ2 : Jn w2 b w.heap.size most (.slice none 0 0) [] false := ⟨hJ1.blk.below hb2 hz1, Ow.nil, hJ1.hb⟩
    have hBe2 := (ho1.below (Nat.le_refl _) (fun _ _ hh => hh)).trans (hb2.mono hZ1)
    clear hJ1 ho1 hb2
    go_loopw [7, 8, 9] (fun xx bb ii wr => ∃ (k : Nat) (X : ByteArray) (br : Bool) (L : List UInt8) (v : Value), k ≤ len ∧ ii = .int .i64 k ∧ xx = .string X ∧ bb = .bool br ∧ k ≤ 100 ∧ X = strOf L ∧ L.length = X.size ∧ (br = true → L = []) ∧ (X.size : Int) ≤ most ∧ Jn wr b w.heap.size most v L br ∧ Below w.heap.size w wr) (fun _ _ ii _ => len - (intOf ii).toNat)
    case atStart => exact ⟨0, noS, false, [], _, Nat.zero_le _, rfl, rfl, rfl, by omega, rfl, rfl, fun _ => rfl, by show (0 : Int) ≤ _; exact m0, hJ2, hBe2⟩
    case round =>
      clear hJ2 hBe2
      obtain ⟨k, X, br, L, v, hk, rfl, rfl, rfl, hk1, hX, hXL, hbr, hXm, hJ, hBe⟩ := hrel
      have hmax : len ≤ 9223372036854775807 := Nat.le_trans hl.1 hl.2.1
      by_cases hlt : k < len
      · by_cases h80 : k < 100
        · obtain ⟨b', off, rfl, hb', cs, hcl, hcs, his⟩ := hl.at (by decide) hlt
          obtain ⟨S, rfl, _⟩ : ∃ s : ByteArray, cs = [.string s] ∧ s.size ≤ maxLen := by unfold Kd.Is at his; exact his
          have q0 := hcs 0 (by decide)
          simp [Kd.cells] at q0
          have f0 := (hBe.cell (p := ⟨b', _, none⟩) hb').trans q0
          have Q0 := Lib.hid q0
          clear q0 hcs hcl his hl
          by_cases hS : 3000 < S.size
          · have HX := Lib.hid hX
            have HXL := Lib.hid hXL
            have HBR := Lib.hid hbr
            clear hX hXL hbr
            have hSi : (3000 : Int) < S.size := by omega
            go_wp2
            go_roundw
            case rel => exact ⟨k + 1, X, br, L, v, by omega, by go_num, rfl, rfl, by omega, HX.out, HXL.out, HBR.out, hXm, hJ, hBe⟩
            case measure => simp [intOf]; omega
          · have hSi : ¬ (3000 : Int) < S.size := by omega
            cases br with
            | true =>
              have hLn := hbr rfl
              subst hLn
              have hXn : X = noS := hX
              subst hXn
              have hA := Lib.hid (fun W (h : Jn W b w.heap.size most v [] true) => Add_broken S W h)
              clear hX hXL hbr
              go_wp2_with (first
                | (go_at_call 13; (with_reducible refine (hA.out _ hJ).mono ?_); rintro e w5 ⟨v5, rfl, hJ5, hB5, hT5⟩; have hBe5 := hBe.trans hB5; have g0 := (hBe5.cell (p := ⟨b', _, none⟩) hb').trans Q0.out)
                | (go_at_call 14; (with_reducible refine (Kept_any _ hJ5).mono ?_); rintro e w6 ⟨rfl, rfl⟩)
                | (go_at_call 15; (with_reducible refine (Broken_any _ hJ5).mono ?_); rintro e w7 ⟨rfl, rfl⟩)
                )
              go_roundw
              case rel => exact ⟨k + 1, noS, true, [], v5, by omega, by go_num, rfl, rfl, by omega, rfl, rfl, fun _ => rfl, by show (0 : Int) ≤ _; omega, hJ5, hBe5⟩
              case measure => simp [intOf]; omega
            | false =>
              by_cases hS0 : S.size = 0
              · have hA := Lib.hid (fun W (h : Jn W b w.heap.size most v L false) => Add_none S W h hS0)
                have hSn : S = noS := by
                  apply ByteArray.ext
                  exact Array.eq_empty_of_size_eq_zero hS0
                subst hSn
                clear hX hXL hbr
                go_wp2_with (first
                  | (go_at_call 13; (with_reducible refine (hA.out _ hJ).mono ?_); rintro e w5 ⟨v5, rfl, hJ5, hB5, hT5⟩; have hBe5 := hBe.trans hB5; have g0 := (hBe5.cell (p := ⟨b', _, none⟩) hb').trans Q0.out)
                  | (go_at_call 14; (with_reducible refine (Kept_any _ hJ5).mono ?_); rintro e w6 ⟨rfl, rfl⟩)
                  | (go_at_call 15; (with_reducible refine (Broken_any _ hJ5).mono ?_); rintro e w7 ⟨rfl, rfl⟩)
                  )
                go_roundw
                case rel => exact ⟨k + 1, noS, true, [], v5, by omega, by go_num, rfl, rfl, by omega, rfl, rfl, fun _ => rfl, by show (0 : Int) ≤ _; omega, hJ5, hBe5⟩
                case measure => simp [intOf]; omega
              · have hS1 : 0 < S.size := by omega
                have e1 := nonempty S hS1
                by_cases hc : 1 < (S[0]'hS1).toNat
                · have hA := Lib.hid (fun W (h : Jn W b w.heap.size most v L false) => Add_form S W h hS1 hc)
                  clear hX hXL hbr
                  go_wp2_with (first
                    | (go_at_call 13; (with_reducible refine (hA.out _ hJ).mono ?_); rintro e w5 ⟨v5, rfl, hJ5, hB5, hT5⟩; have hBe5 := hBe.trans hB5; have g0 := (hBe5.cell (p := ⟨b', _, none⟩) hb').trans Q0.out)
                    | (go_at_call 14; (with_reducible refine (Kept_any _ hJ5).mono ?_); rintro e w6 ⟨rfl, rfl⟩)
                    | (go_at_call 15; (with_reducible refine (Broken_any _ hJ5).mono ?_); rintro e w7 ⟨rfl, rfl⟩)
                    )
                  go_roundw
                  case rel => exact ⟨k + 1, noS, true, [], v5, by omega, by go_num, rfl, rfl, by omega, rfl, rfl, fun _ => rfl, by show (0 : Int) ≤ _; omega, hJ5, hBe5⟩
                  case measure => simp [intOf]; omega
                · by_cases hbig : most < (X.size : Int) + S.size - 1
                  · have hA := Lib.hid (fun W (h : Jn W b w.heap.size most v L false) => Add_big S W h hS1 (by omega) (by omega) (by omega) m0 m1 (by omega))
                    clear hX hXL hbr
                    go_wp2_with (first
                      | (go_at_call 13; (with_reducible refine (hA.out _ hJ).mono ?_); rintro e w5 ⟨v5, rfl, hJ5, hB5, hT5⟩; have hBe5 := hBe.trans hB5; have g0 := (hBe5.cell (p := ⟨b', _, none⟩) hb').trans Q0.out)
                      | (go_at_call 14; (with_reducible refine (Kept_any _ hJ5).mono ?_); rintro e w6 ⟨rfl, rfl⟩)
                      | (go_at_call 15; (with_reducible refine (Broken_any _ hJ5).mono ?_); rintro e w7 ⟨rfl, rfl⟩)
                      )
                    go_roundw
                    case rel => exact ⟨k + 1, noS, true, [], v5, by omega, by go_num, rfl, rfl, by omega, rfl, rfl, fun _ => rfl, by show (0 : Int) ≤ _; omega, hJ5, hBe5⟩
                    case measure => simp [intOf]; omega
                  · have hZs : (X ++ S.extract 1 S.size).size = X.size + (S.size - 1) := by rw [ByteArray.size_append, ByteArray.size_extract]; omega
                    have hp : X.size + (S.extract 1 S.size).size ≤ 9223372036854775807 := by rw [ByteArray.size_extract]; omega
                    have hZL := app_tail X S L hX
                    have hZl : (L ++ S.data.toList.tail).length = X.size + (S.size - 1) := by rw [List.length_append, List.length_tail, ByteArray.toList_size']; omega
                    have hbi : (X.size : Int) + S.size - 1 ≤ most := by omega
                    have hSi1 : (1 : Int) ≤ S.size := by omega
                    by_cases hc1 : (S[0]'hS1).toNat = 1
                    · have hA := Lib.hid (fun W (h : Jn W b w.heap.size most v L false) => Add_more S W h hS1 hc1 (by omega) (by omega) m0 m1 (by omega))
                      have e3 : (((S[0]'hS1).toNat : Int) == 1) = true := by rw [hc1]; rfl
                      have e4 : ¬ (1 : Int) < ((S[0]'hS1).toNat : Int) := by omega
                      have HZS := Lib.hid hZs
                      have HZL := Lib.hid hZL
                      have HZl := Lib.hid hZl
                      clear hX hXL hbr hc1 hZs hZL hZl
                      go_upto_region 13 with (first
                        | (go_at_call 13; (with_reducible refine (hA.out _ hJ).mono ?_); rintro e w5 ⟨v5, rfl, hJ5, hB5, hT5⟩; have hBe5 := hBe.trans hB5; have g0 := (hBe5.cell (p := ⟨b', _, none⟩) hb').trans Q0.out)
                        )
                      have hK := Lib.hid (Kept_any _ hJ5)
                      generalize hz : X ++ S.extract 1 S.size = Z at *
                      first | rw [HZl.out, ← HZS.out] at hK | skip
                      clear hz
                      go_wp2_with (first
                        | (go_at_call 14; (with_reducible refine (hK.out).mono ?_); rintro e w6 ⟨rfl, rfl⟩)
                        | (go_at_call 15; (with_reducible refine (Broken_any _ hJ5).mono ?_); rintro e w7 ⟨rfl, rfl⟩)
                        )
                      go_roundw
                      case measure => simp [intOf]; omega
                      case rel =>
                        exact ⟨k + 1, Z, false, _, v5, by omega, by go_num, rfl, rfl, by omega, HZL.out, by rw [HZl.out, HZS.out], fun h => (by cases h), by have := HZS.out; omega, hJ5, hBe5⟩
                    · have hc0 : (S[0]'hS1).toNat = 0 := by omega
                      have hA := Lib.hid (fun W (h : Jn W b w.heap.size most v L false) => (show Calls Try.prog 13 #[.pointer (some ⟨b, 0, none⟩), .string S] W (AdPost W b w.heap.size most (X ++ S.extract 1 S.size) true 0 [] false) from by rw [hZL]; exact Add_last S W h hS1 hc0 (by omega) (by omega) m0 m1 (by omega)))
                      have e3 : (((S[0]'hS1).toNat : Int) == 1) = false := by rw [hc0]; rfl
                      have e4 : ¬ (1 : Int) < ((S[0]'hS1).toNat : Int) := by omega
                      have HZS := Lib.hid hZs
                      have HZL := Lib.hid hZL
                      have HZl := Lib.hid hZl
                      clear hX hXL hbr hc0 hc1 hZs hZL hZl
                      go_upto_region 13 with (first
                        | (go_at_call 13; (with_reducible refine (hA.out _ hJ).mono ?_); rintro e w5 ⟨v5, rfl, hJ5, hB5, hT5⟩; have hBe5 := hBe.trans hB5; have g0 := (hBe5.cell (p := ⟨b', _, none⟩) hb').trans Q0.out)
                        )
                      have hK := Lib.hid (Kept_any _ hJ5)
                      generalize hz : X ++ S.extract 1 S.size = Z at *
                      first | rw [HZl.out, ← HZS.out] at hK | skip
                      clear hz
                      go_wp2_with (first
                        | (go_at_call 14; (with_reducible refine (hK.out).mono ?_); rintro e w6 ⟨rfl, rfl⟩)
                        | (go_at_call 15; (with_reducible refine (Broken_any _ hJ5).mono ?_); rintro e w7 ⟨rfl, rfl⟩)
                        )
                      go_roundw
                      case measure => simp [intOf]; omega
                      case rel =>
                        exact ⟨k + 1, noS, false, _, v5, by omega, by go_num, rfl, rfl, by omega, rfl, rfl, fun _ => rfl, by show (0 : Int) ≤ _; omega, hJ5, hBe5⟩
        · clear hl
          go_wp2
          go_ret
          exact ⟨rfl, hBe⟩
      · clear hl
        go_wp2
        go_ret
        exact ⟨rfl, hBe⟩
/-! The step from the walk to the statement of ChunkJoins. -/
namespace frChunkJoins
open Go.ChangeShapes Go.WideShapes Go.ChangeAt Go.RowKit
set_option linter.unusedVariables false
theorem own : ownKnob Try.prog.godebug = none := by kernel_rfl
theorem laidOut : laidOutB Try.prog = true := by kernel_rfl
theorem shape0 : Kd.ok Try.prog (.int .i64) 3 = true := by kernel_rfl
theorem shape1 : Kd.ok Try.prog (.slc (.str)) 22 = true := by kernel_rfl
set_option maxRecDepth 100000 in
theorem contract (H : Type) (enc : TypeId × Value → H) (W : World) (base : Nat) (args : Array Value) (ds gs : List (DataW H)) (before : List MemPlace)
    (hval : ∀ (j : Nat) t v, Try.f5.params[j]? = some t → args[j]? = some v → Value.okWide Try.prog W .any base t v)
    (hW : DataW.Whole enc Try.prog Try.f5.params.toList Rows.chunkJoinsSpec.vars false W args.toList ds gs before) :
    Calls Try.prog 5 args W fun e W' => ∃ v, e = .returned v ∧ Rows.chunkJoinsSpec.post enc Try.prog Try.f5 false true false false W args v W' := by
  have hW' := hW
  obtain ⟨p, q, hA0, hV, rfl, hfz, hnd⟩ := hW
  have hA : DataW.TrodAll enc Try.prog W 0 (fun _ => true) true Try.f5.params.toList args.toList ds p := hA0
  rw [Try.params5] at hA hval
  obtain ⟨v0, vs0, d0, ds0, p0, q0, hargs, rfl, rfl, h0, r0⟩ := trodAll_cons hA
  obtain ⟨v1, vs1, d1, ds1, p1, q1, rfl, rfl, rfl, h1, r1⟩ := trodAll_cons r0
  obtain ⟨rfl, rfl, rfl⟩ := trodAll_nil r1
  obtain rfl : args = #[v0, v1] := by cases args; simp_all
  obtain ⟨rfl, rfl⟩ := trodVars_none hV
  have k0 := Kd.fit _ shape0 (hval 0 3 v0 rfl rfl) h0
  have lt0 : ∀ x ∈ p0, x.block < W.heap.size := by obtain ⟨m, hm⟩ := h0; exact DataW.trod_lt m _ _ _ hm
  have k1 := Kd.fit _ shape1 (hval 1 22 v1 rfl rfl) h1
  have lt1 : ∀ x ∈ p1, x.block < W.heap.size := by obtain ⟨m, hm⟩ := h1; exact DataW.trod_lt m _ _ _ hm
  refine (chunkJoins_walk v0 v1 W k0 k1).mono fun e W' ⟨he, bel⟩ => ?_
  subst he
  exact ⟨_, rfl, _, _, _, [], _, [], hW', trodAll_mk1 (shut_bool Try.underlying4 _), (trodAll_cons_mk (Below.trod laidOut (by kernel_rfl) (of_decide_eq_true (by kernel_rfl)) h0 bel lt0) (trodAll_cons_mk (Below.trod laidOut (by kernel_rfl) (of_decide_eq_true (by kernel_rfl)) h1 bel lt1) trodAll_mk0)), rfl, bel.frame _, fun h => by cases h⟩
set_option maxRecDepth 100000 in
theorem lifted (os : Os) (started : os.Started) (H : Type) (enc : TypeId × Value → H) :
    ReturnsInHanded {} Try.checked os 5 .any (Rows.chunkJoinsSpec.pre6 enc Try.prog Try.f5 Rows.chunkJoinsRow.domain false) (Rows.chunkJoinsSpec.post enc Try.prog Try.f5 false true false false) := by
  refine returnsInHanded_of_change (C := Try.checked) own started (by kernel_rfl) Try.func5
    (ChangeSpec.witness6 (enc := enc) (C := Try.checked) false ⟨#[], #[.int .i64 0, .slice none 0 0], []⟩ 8 (by kernel_rfl) (by kernel_rfl) (by kernel_rfl) (by kernel_rfl)) ?_
  intro W base args ds gs before hval hW _ _
  exact contract H enc W base args ds gs before hval hW
theorem over : Rows.chunkJoinsRow.holds Try.pinned (OpenSpec.ofChange Rows.chunkJoinsSpec) :=
  OpenClaim.holds_of_wide 5 Try.f5 rfl rfl rfl rfl rfl rfl rfl ⟨rfl, rfl, rfl, rfl, rfl⟩ rfl rfl rfl rfl rfl (by kernel_rfl) Try.func5 (by kernel_rfl)
    (of_decide_eq_true (by kernel_rfl)) (by unfold Func.isWrapper; first | (rw [if_pos (by decide +kernel)]; kernel_rfl) | (rw [if_neg (by decide +kernel)]; exact ⟨rfl, rfl⟩))
    (fun os started H enc _ => lifted os started H enc)
theorem proved : Rows.ChunkJoinsSaid := over
end frChunkJoins
end Go.Proofs.Ytipcggobcmbomaa
