/- For every list of messages: of messages that are cut the joiner tells just these (the statement ChunkBack, as it is given). No condition. -/
import Derived.Test.YtipcggobcmbomaaL37Joins
namespace Go.Proofs.Ytipcggobcmbomaa
open Go.RowKit

theorem mny_back {K n j : Nat} (hK : 1 ≤ K) (h : j + 1 < mny K n) : (j + 1) * K < n := by
  unfold mny at h
  split at h
  · omega
  · have h1 : j + 1 ≤ (n - 1) / K := by omega
    have h2 := (Nat.le_div_iff_mul_le (by omega)).1 h1
    omega
theorem take_on (L : List UInt8) (j K : Nat) : L.take (j * K) ++ (L.drop (j * K)).take K = L.take ((j + 1) * K) := by
  rw [Nat.add_mul, Nat.one_mul, List.take_add]
section
variable {b base : Nat} {v : Value}
theorem piece_more (S : ByteArray) (K j : Nat) (w : World) (h0 : 1 ≤ K) (h1 : K ≤ 255) (hS : S.size ≤ 3000) (hj : j + 1 < mny K S.size) (h : Jn w b base 65536 v (S.data.toList.take (j * K)) false) :
    Calls Try.prog 13 #[.pointer (some ⟨b, 0, none⟩), .string (strOf (pc K S.data.toList j))] w (AdPost w b base 65536 noS false 0 (S.data.toList.take ((j + 1) * K)) false) := by
  have hlt := mny_back h0 hj
  have hl : S.data.toList.length = S.size := by simp
  have hp : pc K S.data.toList j = 1 :: (S.data.toList.drop (j * K)).take K := by unfold pc; rw [if_pos (by rw [hl]; exact hlt)]
  have ht : ((S.data.toList.drop (j * K)).take K).length ≤ K := List.length_take_le _ _
  have ht2 : (S.data.toList.take (j * K)).length ≤ S.size := by rw [List.length_take]; omega
  have hz : (strOf (1 :: (S.data.toList.drop (j * K)).take K)).size = ((S.data.toList.drop (j * K)).take K).length + 1 := by rw [strOf_size]; rfl
  rw [hp]
  have := Add_more (strOf (1 :: (S.data.toList.drop (j * K)).take K)) w h (by omega) rfl (by omega) (by omega) (by decide) (by decide) (by omega)
  rw [strOf_toList, List.tail_cons, take_on] at this
  exact this
theorem piece_last (S : ByteArray) (K j : Nat) (w : World) (h0 : 1 ≤ K) (h1 : K ≤ 255) (hS : S.size ≤ 3000) (hj : mny K S.size = j + 1) (h : Jn w b base 65536 v (S.data.toList.take (j * K)) false) :
    Calls Try.prog 13 #[.pointer (some ⟨b, 0, none⟩), .string (strOf (pc K S.data.toList j))] w (AdPost w b base 65536 S true 0 [] false) := by
  have hge : S.size ≤ (j + 1) * K := by
    rcases Nat.lt_or_ge ((j + 1) * K) S.size with h2 | h2
    · have := mny_more h0 h2
      omega
    · exact h2
  have hl : S.data.toList.length = S.size := by simp
  have hp : pc K S.data.toList j = 0 :: (S.data.toList.drop (j * K)).take K := by unfold pc; rw [if_neg (by rw [hl]; omega)]
  have ht : ((S.data.toList.drop (j * K)).take K).length ≤ K := List.length_take_le _ _
  have ht2 : (S.data.toList.take (j * K)).length ≤ S.size := by rw [List.length_take]; omega
  have hz : (strOf (0 :: (S.data.toList.drop (j * K)).take K)).size = ((S.data.toList.drop (j * K)).take K).length + 1 := by rw [strOf_size]; rfl
  rw [hp]
  have := Add_last (strOf (0 :: (S.data.toList.drop (j * K)).take K)) w h (by omega) rfl (by omega) (by omega) (by decide) (by decide) (by omega)
  have e : strOf (S.data.toList.take ((j + 1) * K)) = S := by rw [List.take_of_length_le (l := S.data.toList) (by rw [hl]; exact hge), strOf_data]
  rw [strOf_toList, List.tail_cons, take_on, e] at this
  exact this
end
set_option maxRecDepth 100000 in
set_option maxHeartbeats 8000000 in
theorem chunkBack_walk (v0 : Value) (w : World) (h0 : Kd.Fit w (.slc (.agg [.str, .int .u8])) v0) :
    Calls Try.prog 6 #[v0] w fun e w' => e = .returned (.bool true) ∧ Below w.heap.size w w' := by
  obtain ⟨A, len, cap, rfl, hl⟩ := Kd.slc_fit h0
  clear h0
  go_enter Try.func6, Try.ntmps6
  go_wp2_with (first
    | (go_at_call 12; (with_reducible refine (New_any 65536 _ (by decide) (by decide)).mono ?_); rintro e w1 ⟨b, rfl, ho1, hJ1⟩; have hZ1 := ho1.size; have hz1 := hJ1.blk.lt)
    | (go_at_call 9; (with_reducible refine (awake_any _).mono ?_); rintro e w2 ⟨rfl, hb2⟩)
    )
  have hJ2 : Jn w2 b w.heap.size 65536 (.slice none 0 0) [] false := ⟨hJ1.blk.below hb2 hz1, Ow.nil, hJ1.hb⟩
  have hBe2 := (ho1.below (Nat.le_refl _) (fun _ _ hh => hh)).trans (hb2.mono hZ1)
  clear hJ1 ho1 hb2
  go_loopw [5] (fun ii wr => ∃ (k : Nat) (v : Value), k ≤ len ∧ ii = .int .i64 k ∧ k ≤ 20 ∧ Jn wr b w.heap.size 65536 v [] false ∧ Below w.heap.size w wr) (fun ii _ => len - (intOf ii).toNat)
  case atStart => exact ⟨0, _, Nat.zero_le _, rfl, by omega, hJ2, hBe2⟩
  case round =>
    clear hJ2 hBe2
    obtain ⟨k, v, hk, rfl, hk1, hJ, hBe⟩ := hrel
    have hmax : len ≤ 9223372036854775807 := Nat.le_trans hl.1 hl.2.1
    by_cases hlt : k < len
    · by_cases h80 : k < 20
      · obtain ⟨b', off, rfl, hb', cs, hcl, hcs, his⟩ := hl.at (by decide) hlt
        obtain ⟨u0, c0, rfl, i0, his⟩ := Kd.headL rfl (by unfold Kd.Is at his; exact his)
        obtain ⟨u1, c1, rfl, i1, his⟩ := Kd.headL rfl his
        obtain rfl := Kd.end_ his
        obtain ⟨S, rfl, -⟩ := Kd.str_is i0
        obtain ⟨z, rfl, hz⟩ := Kd.int_is i1
        obtain ⟨z0, z1⟩ := u8_of hz
        have q0 := hcs 0 (by decide)
        have q1 := hcs 1 (by decide)
        simp [Kd.cells, Kd.cellsL] at q0 q1
        have f0 := (hBe.cell (p := ⟨b', _, none⟩) hb').trans q0
        have f1 := (hBe.cell (p := ⟨b', _, none⟩) hb').trans q1
        have Q0 := Lib.hid q0
        have Q1 := Lib.hid q1
        clear q0 q1 hcs hcl his hl i0 i1 hz
        by_cases hS : 3000 < S.size
        · have hSi : (3000 : Int) < S.size := by omega
          go_wp2
          go_roundw
          case rel => exact ⟨k + 1, v, by omega, by go_num, by omega, hJ, hBe⟩
          case measure => simp [intOf]; omega
        · have hSi : ¬ (3000 : Int) < S.size := by omega
          obtain ⟨K, hK0, hK1, hK2⟩ : ∃ K : Nat, z.tmod 255 + 2 = (K : Int) + 1 ∧ 1 ≤ K ∧ K ≤ 255 := ⟨(z.tmod 255).toNat + 1, by rw [Int.tmod_eq_emod_of_nonneg z0]; omega⟩
          have hw : IntKind.i64.wrap (IntKind.i64.wrap (z.tmod 255) + 2) = (K : Int) + 1 := by
            rw [IntWalk.i64_in (z.tmod 255) (by omega), hK0]
            exact IntWalk.i64_in _ (by omega)
          clear hK0
          have s0 : wr.drew.cell? ⟨b', off + k * 2, none⟩ = some (.string S) ∧ wr.drew.cell? ⟨b', off + k * 2 + 1, none⟩ = some (.int .u8 z) := ⟨f0, f1⟩
          have hC := Lib.hid (Cut_any S K wr.drew hK1 hK2 (by omega))
          have hml := mny_le K S.size (by omega)
          have hmp : 1 ≤ mny K S.size := (mny_facts hK1).1
          obtain ⟨m, hm⟩ : ∃ m, mny K S.size = m := ⟨_, rfl⟩
          have HM := Lib.hid hm
          have hC2 : Hid (Calls Try.prog 7 #[.string S, .int .i64 ((K : Int) + 1)] wr.drew fun x w' => ∃ g o c, x = .returned (.tuple #[.slice (some ⟨g, o, none⟩) m c, .int .i64 0]) ∧ Ow encS 1 w' wr.drew.heap.size 9 (.slice (some ⟨g, o, none⟩) m c) (pcs K S.data.toList m) ∧ Only Nil wr.drew w') := Lib.hid (by
            refine hC.out.mono ?_
            rintro x w' ⟨A1, c1, rfl, hO, ho⟩
            rw [pcs_length, hm] at hO ⊢
            obtain ⟨g, o, _, rfl, _, _, _, _⟩ := (hO.sqn (fun _ _ => rfl)).at_ (k := 0) (by rw [pcs_length]; omega)
            exact ⟨g, o, c1, rfl, hO, ho⟩)
          rw [hm] at hml hmp
          clear hC hm
          go_wp2
          go_region_held3 (fun W => W.cell? ⟨b', off + k * 2, none⟩ = some (.string S) ∧ W.cell? ⟨b', off + k * 2 + 1, none⟩ = some (.int .u8 z)) (with_reducible (first | exact s0 | exact s5)) (first
            | (go_at_call 7; (with_reducible refine hC2.out.mono ?_); rintro e w5 ⟨gp, op, cp, rfl, hO5, ho5⟩; have hxd := (Only.refl Nil wr).drew.trans ho5; have hBe5 := hBe.trans (hxd.below (Below.size hBe) (fun _ _ hh => hh)); have g0 := (hBe5.cell (p := ⟨b', _, none⟩) hb').trans Q0.out; have s5 : w5.cell? ⟨b', off + k * 2, none⟩ = some (.string S) ∧ w5.cell? ⟨b', off + k * 2 + 1, none⟩ = some (.int .u8 z) := ⟨g0, (hBe5.cell (p := ⟨b', _, none⟩) hb').trans Q1.out⟩)
            )
          have hJ5 := hJ.kept hxd
          have hm0 : ((m : Int) == 0) = false := by simp; omega
          clear hw s0 s5
          go_wp2
          go_loopw [8] (fun ii wx => ∃ (j : Nat) (v : Value) (L : List UInt8), j ≤ m ∧ ii = .int .i64 j ∧ Hid (j < m → L = S.data.toList.take (j * K)) ∧ Hid (j = m → L = []) ∧ Jn wx b w.heap.size 65536 v L false ∧ Ow encS 1 wx wr.drew.heap.size 9 (.slice (some ⟨gp, op, none⟩) m cp) (pcs K S.data.toList m) ∧ Below w.heap.size w wx) (fun ii _ => m - (intOf ii).toNat)
          case atStart => exact ⟨0, v, [], Nat.zero_le _, rfl, Lib.hid (fun _ => by rw [Nat.zero_mul, List.take_zero]), Lib.hid (fun _ => rfl), hJ5, hO5, hBe5⟩
          case round =>
            clear hJ5 hO5 hBe5 hJ hBe f0 f1 g0 hxd ho5 hC2
            obtain ⟨j, v6, L, hj, rfl, hL1, hL2, hJ, hO, hBe⟩ := hrel
            by_cases hjm : j < m
            · have hLe := hL1.out hjm
              subst hLe
              have f0 := (hBe.cell (p := ⟨b', _, none⟩) hb').trans Q0.out
              have hpj : (pcs K S.data.toList m)[j]? = some (strOf (pc K S.data.toList j)) := by
                unfold pcs
                rw [List.getElem?_map, List.getElem?_range hjm]
                rfl
              have p0 := (hO.sqn (fun _ _ => rfl)).cell1 hpj
              have hji : (j : Int) < m := by omega
              by_cases hj1 : j + 1 < m
              · have hA := Lib.hid (piece_more S K j (b := b) (base := w.heap.size) (v := v6) wr hK1 hK2 (by omega) (by rw [HM.out]; exact hj1) hJ)
                have e1 : ((j : Int) == (m : Int) - 1) = false := by simp; omega
                clear hL1 hL2 hpj
                go_wp2_with (first
                  | (go_at_call 13; (with_reducible refine (hA.out).mono ?_); rintro e w7 ⟨v7, rfl, hJ7, hB7, hT7⟩; have hBe7 := hBe.trans hB7)
                  )
                go_roundw
                case rel => exact ⟨j + 1, v7, _, by omega, by go_num, Lib.hid (fun _ => rfl), Lib.hid (fun h => by omega), hJ7, hO.oth hT7, hBe7⟩
                case measure => simp [intOf]; omega
              · have hA := Lib.hid (piece_last S K j (b := b) (base := w.heap.size) (v := v6) wr hK1 hK2 (by omega) (by rw [HM.out]; omega) hJ)
                have e1 : ((j : Int) == (m : Int) - 1) = true := by simp; omega
                clear hL1 hL2 hpj
                go_wp2_with (first
                  | (go_at_call 13; (with_reducible refine (hA.out).mono ?_); rintro e w7 ⟨v7, rfl, hJ7, hB7, hT7⟩; have hBe7 := hBe.trans hB7; have g7 := (hBe7.cell (p := ⟨b', _, none⟩) hb').trans Q0.out)
                  )
                go_roundw
                case rel => exact ⟨j + 1, v7, _, by omega, by go_num, Lib.hid (fun h => by omega), Lib.hid (fun _ => rfl), hJ7, hO.oth hT7, hBe7⟩
                case measure => simp [intOf]; omega
            · have hLe := hL2.out (by omega)
              subst hLe
              clear hL1 hL2
              go_wp2
              go_roundw
              case rel => exact ⟨k + 1, v6, by omega, by go_num, by omega, hJ, hBe⟩
              case measure => simp [intOf]; omega
      · clear hl
        have hK := Lib.hid (Kept_any _ hJ)
        go_wp2_with (first
          | (go_at_call 13; (with_reducible refine (Add_nil _ _).mono ?_); rintro e w5 ⟨rfl, rfl⟩)
          | (go_at_call 14; (with_reducible refine (hK.out).mono ?_); rintro e w6 ⟨rfl, rfl⟩)
          | (go_at_call 14; (with_reducible refine (Kept_nil _).mono ?_); rintro e w6 ⟨rfl, rfl⟩)
          | (go_at_call 15; (with_reducible refine (Broken_nil _).mono ?_); rintro e w7 ⟨rfl, rfl⟩)
          )
        go_ret
        exact ⟨rfl, hBe⟩
    · clear hl
      have hK := Lib.hid (Kept_any _ hJ)
      go_wp2_with (first
        | (go_at_call 13; (with_reducible refine (Add_nil _ _).mono ?_); rintro e w5 ⟨rfl, rfl⟩)
        | (go_at_call 14; (with_reducible refine (hK.out).mono ?_); rintro e w6 ⟨rfl, rfl⟩)
        | (go_at_call 14; (with_reducible refine (Kept_nil _).mono ?_); rintro e w6 ⟨rfl, rfl⟩)
        | (go_at_call 15; (with_reducible refine (Broken_nil _).mono ?_); rintro e w7 ⟨rfl, rfl⟩)
        )
      go_ret
      exact ⟨rfl, hBe⟩
/-! The step from the walk to the statement of ChunkBack. -/
namespace frChunkBack
open Go.ChangeShapes Go.WideShapes Go.ChangeAt Go.RowKit
set_option linter.unusedVariables false
theorem own : ownKnob Try.prog.godebug = none := by kernel_rfl
theorem laidOut : laidOutB Try.prog = true := by kernel_rfl
theorem shape0 : Kd.ok Try.prog (.slc (.agg [.str, .int .u8])) 39 = true := by kernel_rfl
set_option maxRecDepth 100000 in
theorem contract (H : Type) (enc : TypeId × Value → H) (W : World) (base : Nat) (args : Array Value) (ds gs : List (DataW H)) (before : List MemPlace)
    (hval : ∀ (j : Nat) t v, Try.f6.params[j]? = some t → args[j]? = some v → Value.okWide Try.prog W .any base t v)
    (hW : DataW.Whole enc Try.prog Try.f6.params.toList Rows.chunkBackSpec.vars false W args.toList ds gs before) :
    Calls Try.prog 6 args W fun e W' => ∃ v, e = .returned v ∧ Rows.chunkBackSpec.post enc Try.prog Try.f6 false true false false W args v W' := by
  have hW' := hW
  obtain ⟨p, q, hA0, hV, rfl, hfz, hnd⟩ := hW
  have hA : DataW.TrodAll enc Try.prog W 0 (fun _ => true) true Try.f6.params.toList args.toList ds p := hA0
  rw [Try.params6] at hA hval
  obtain ⟨v0, vs0, d0, ds0, p0, q0, hargs, rfl, rfl, h0, r0⟩ := trodAll_cons hA
  obtain ⟨rfl, rfl, rfl⟩ := trodAll_nil r0
  obtain rfl : args = #[v0] := by cases args; simp_all
  obtain ⟨rfl, rfl⟩ := trodVars_none hV
  have k0 := Kd.fit _ shape0 (hval 0 39 v0 rfl rfl) h0
  have lt0 : ∀ x ∈ p0, x.block < W.heap.size := by obtain ⟨m, hm⟩ := h0; exact DataW.trod_lt m _ _ _ hm
  refine (chunkBack_walk v0 W k0).mono fun e W' ⟨he, bel⟩ => ?_
  subst he
  exact ⟨_, rfl, _, _, _, [], _, [], hW', trodAll_mk1 (shut_bool Try.underlying4 _), (trodAll_cons_mk (Below.trod laidOut (by kernel_rfl) (of_decide_eq_true (by kernel_rfl)) h0 bel lt0) trodAll_mk0), rfl, bel.frame _, fun h => by cases h⟩
set_option maxRecDepth 100000 in
theorem lifted (os : Os) (started : os.Started) (H : Type) (enc : TypeId × Value → H) :
    ReturnsInHanded {} Try.checked os 6 .any (Rows.chunkBackSpec.pre6 enc Try.prog Try.f6 Rows.chunkBackRow.domain false) (Rows.chunkBackSpec.post enc Try.prog Try.f6 false true false false) := by
  refine returnsInHanded_of_change (C := Try.checked) own started (by kernel_rfl) Try.func6
    (ChangeSpec.witness6 (enc := enc) (C := Try.checked) false ⟨#[], #[.slice none 0 0], []⟩ 8 (by kernel_rfl) (by kernel_rfl) (by kernel_rfl) (by kernel_rfl)) ?_
  intro W base args ds gs before hval hW _ _
  exact contract H enc W base args ds gs before hval hW
theorem over : Rows.chunkBackRow.holds Try.pinned (OpenSpec.ofChange Rows.chunkBackSpec) :=
  OpenClaim.holds_of_wide 6 Try.f6 rfl rfl rfl rfl rfl rfl rfl ⟨rfl, rfl, rfl, rfl, rfl⟩ rfl rfl rfl rfl rfl (by kernel_rfl) Try.func6 (by kernel_rfl)
    (of_decide_eq_true (by kernel_rfl)) (by unfold Func.isWrapper; first | (rw [if_pos (by decide +kernel)]; kernel_rfl) | (rw [if_neg (by decide +kernel)]; exact ⟨rfl, rfl⟩))
    (fun os started H enc _ => lifted os started H enc)
theorem proved : Rows.ChunkBackSaid := over
end frChunkBack
end Go.Proofs.Ytipcggobcmbomaa
