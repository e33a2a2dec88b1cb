/- For every size and every list of calls: each call of a table is answered as the document says (the statement TableDoes, as it is given). No condition. -/
import Derived.Test.YtkidhfcokckomaaDo13d
namespace Go.Proofs.Ytkidhfcokckomaa
open Go.RowKit

section
variable {b base : Nat} {most : Int} {v1 v2 : Value} {R : List (Int × Int)}
theorem Len_row (W : World) (h : Tb W b base most v1 v2 (R.map (·.1)) (R.map (·.2))) : Calls Try.prog 9 #[.pointer (some ⟨b, 0, none⟩)] W fun x w' => x = .returned (.int .i64 R.length) ∧ W = w' := by
  have := Len_any W h
  rw [List.length_map] at this
  exact this
theorem IDs_tab (W : World) (h : Tb W b base most v1 v2 (R.map (·.1)) (R.map (·.2))) (hn : R.length ≤ 2000) : Calls Try.prog 11 #[.pointer (some ⟨b, 0, none⟩)] W fun x w' => ∃ A cap, x = .returned (.slice A R.length cap) ∧ Sq encZ 1 w' w'.heap.size A (R.map (·.1)) ∧ Only Nil W w' := by
  have := IDs_any W h (by rw [List.length_map]; exact hn)
  rw [List.length_map] at this
  exact this
theorem Ints_row (A B : Option Addr) (ca cb : Nat) (w : World) (hA : Sq encZ 1 w w.heap.size A (R.map (·.1))) (hB : Sq encZ 1 w w.heap.size B (R.map (·.1))) (hn : R.length ≤ 2000) :
    Calls Try.prog 10 #[.slice A R.length ca, .slice B R.length cb] w fun x w' => x = .returned (.bool true) ∧ Only Nil w w' := by
  have := Ints_same A B ca cb (R.map (·.1)) w hA hB (by rw [List.length_map]; omega)
  rw [List.length_map] at this
  exact this
theorem New_out (most : Int) (w : World) (h : most < 1 ∨ 1024 < most) : Calls Try.prog 6 #[.int .i64 most] w fun x w' => x = .returned (.tuple #[.pointer none, .int .i64 2]) ∧ w = w' := by
  by_cases h0 : most < 1
  · clear h
    go_enter Try.func6, Try.ntmps6
    go_wp2
    go_ret2
    exact ⟨rfl, rfl⟩
  · have h1 : 1024 < most := by omega
    clear h
    go_enter Try.func6, Try.ntmps6
    go_wp2
    go_ret2
    exact ⟨rfl, rfl⟩
end
set_option maxRecDepth 100000 in
set_option maxHeartbeats 16000000 in
theorem tableDoes_walk (v0 v1 : Value) (w : World) (h0 : Kd.Fit w (.int .i64) v0) (h1 : Kd.Fit w (.slc (.agg [.int .i64, .int .i64, .int .i64])) v1) :
    Calls Try.prog 3 #[v0, v1] w fun e w' => e = .returned (.bool true) ∧ Below w.heap.size w w' := by
  obtain ⟨most, rfl, _⟩ := Kd.int_fit h0
  obtain ⟨A, len, cap, rfl, hl⟩ := Kd.slc_fit h1
  clear h0 h1
  by_cases hlim : most < 1 ∨ 1024 < most
  · have hn := fun (W : World) => New_out most W hlim
    by_cases h0 : most < 1
    · clear hlim hl
      go_enter Try.func3, Try.ntmps3
      go_wp2_with (first
        | (go_at_call 6; (with_reducible refine (hn _).mono ?_); rintro e w1 ⟨rfl, rfl⟩)
        | (go_at_call 7; (with_reducible refine (awake_any _).mono ?_); rintro e w2 ⟨rfl, ho2⟩)
        )
      go_ret
      exact ⟨rfl, ho2⟩
    · have h1 : 1024 < most := by omega
      clear hlim hl
      go_enter Try.func3, Try.ntmps3
      go_wp2_with (first
        | (go_at_call 6; (with_reducible refine (hn _).mono ?_); rintro e w1 ⟨rfl, rfl⟩)
        | (go_at_call 7; (with_reducible refine (awake_any _).mono ?_); rintro e w2 ⟨rfl, ho2⟩)
        )
      go_ret
      exact ⟨rfl, ho2⟩
  · have l0 : 1 ≤ most := by omega
    have l1 : most ≤ 1024 := by omega
    clear hlim
    go_enter Try.func3, Try.ntmps3
    go_wp2_with (first
      | (go_at_call 6; (with_reducible refine (New_any most _ l0 l1).mono ?_); rintro e w1 ⟨b, rfl, ho1, hK1⟩; have hZ1 := ho1.size; have hz1 := hK1.blk.lt)
      | (go_at_call 7; (with_reducible refine (awake_any _).mono ?_); rintro e w2 ⟨rfl, hb2⟩)
      )
    have hx1 := ho1.alloc (.cells #[.slice none 0 0] 30)
    have hB1 : Blk (w1.alloc (.cells #[.slice none 0 0] 30)) w1.heap.size 30 #[.slice none 0 0] := Blk.new _ _ _
    have hBx : Blk w2 w1.heap.size 30 #[.slice none 0 0] := hB1.below hb2 (by simp)
    have hK2 : Tb w2 b w.heap.size most (.slice none 0 0) (.slice none 0 0) [] [] :=
      ⟨(hK1.blk.alloc _).below hb2 (by simp; omega), Ow.nil, Ow.nil, rfl, fun g hg => by simp [Value.ownBlock] at hg, hK1.hb⟩
    have hBe2 := (hx1.below (Nat.le_refl _) (fun _ _ hh => hh)).trans (hb2.mono hx1.size)
    generalize w1.heap.size = gR at *
    go_loopw [8] (fun ii wr => ∃ (k : Nat) (v1 v2 : Value) (A : Option Addr) (c : Nat) (R : List (Int × Int)), k ≤ len ∧ ii = .int .i64 k ∧ k ≤ 100 ∧ S13 wr b w.heap.size most v1 v2 A c R ∧ R.length ≤ k ∧ Blk wr gR 30 #[.slice A R.length c] ∧ Below w.heap.size w wr) (fun ii _ => len - (intOf ii).toNat)
    case atStart => exact ⟨0, _, _, none, 0, [], Nat.zero_le _, rfl, by omega, ⟨hK2, Ow.nil, fun i j x y hx => by simp at hx⟩, Nat.le_refl _, hBx, hBe2⟩
    case round =>
      clear hK1 hK2 hBx hB1 hb2 hBe2 hx1 ho1
      obtain ⟨k, v1, v2, A1, c, R, hk, rfl, hk1, hS, hRk, hbx, hBe⟩ := hrel
      have hmax : len ≤ 9223372036854775807 := Nat.le_trans hl.1 hl.2.1
      by_cases hlt : k < len
      · by_cases h80 : k < 100
        · obtain ⟨b', off, rfl, hb', cs, hcl, hcs, his⟩ := hl.at (by decide) hlt
          obtain ⟨kd, id, v, rfl, _, _, _⟩ := Kd.list_ints3 (by unfold Kd.Is at his; exact his)
          have q0 := hcs 0 (by decide)
          have q1 := hcs 1 (by decide)
          have q2 := hcs 2 (by decide)
          simp [Kd.cells, Kd.cellsL] at q0 q1 q2
          have f0 := (hBe.cell (p := ⟨b', _, none⟩) hb').trans q0
          have f1 := (hBe.cell (p := ⟨b', _, none⟩) hb').trans q1
          have f2 := (hBe.cell (p := ⟨b', _, none⟩) hb').trans q2
          clear q0 q1 q2 hcs hcl hl
          have hD := Lib.hid (do_any kd id v wr.drew (hS.kept ((Only.refl Nil wr).drew)) (by omega))
          have hbxd := hbx.drew
          have c0 := hbx.cell 0
          have hRL := hRk
          generalize hm : R.length = m at *
          have HM := Lib.hid hm
          clear hm
          go_wp2
          go_region_law (first
            | (go_simp; go_at_call 8; (with_reducible refine hD.out.mono ?_); rintro e w5 ⟨A', c', v1', v2', R', rfl, hS5, hl5, hb5, hT5⟩; have hbx5 := hT5 _ _ _ hbxd (by decide) (by decide) ; have d0 := hbx5.cell 0; have d1 := hbx5.frozen 0)
            )
          all_goals
            have hS6 := hS5.box hbx5 0 (.slice A' R'.length c')
            have hbx6 : Blk (w5.setCell ⟨gR, 0, none⟩ (.slice A' R'.length c')) gR 30 #[.slice A' R'.length c'] := hbx5.set 0 _
            have hBe6 := ((hBe.drew).trans hb5).setCell (p := ⟨gR, 0, none⟩) hZ1 (.slice A' R'.length c')
            have hl6 : R'.length ≤ k + 1 := by have := HM.out; omega
            clear hS5 hbx5 hb5 hT5 hl5 d0 d1 hbxd hD f0 f1 f2 c0 hbx hS
            generalize (w5.setCell ⟨gR, 0, none⟩ (.slice A' R'.length c')) = w6 at *
            have hS7 := Lib.hid (fun W (ho : Only Nil w6 W) => hS6.kept ho)
            have hL := Lib.hid (fun W (h : S13 W b w.heap.size most v1' v2' A' c' R') => Len_row W h.tb)
            have hI := Lib.hid (fun W (h : S13 W b w.heap.size most v1' v2' A' c' R') => IDs_tab W h.tb (by omega))
            have hJ := Lib.hid (fun W (h : S13 W b w.heap.size most v1' v2' A' c' R') => IDs_row c' W (h.row.sqn (encP_len _)) (by omega))
            have hE := Lib.hid (fun A B ca cb W (h1 : Sq encZ 1 W W.heap.size A (R'.map (·.1))) (h2 : Sq encZ 1 W W.heap.size B (R'.map (·.1))) => Ints_row A B ca cb W h1 h2 (by omega))
            have hb6 : w6.drew.cell? ⟨gR, 0, none⟩ = some (.slice A' R'.length c') := hbx6.cell 0
            have ho6 : Only Nil w6 w6.drew := (Only.refl Nil w6).drew
            clear hS6
            generalize hm' : R'.length = m' at *
            have HM' := Lib.hid hm'
            clear hm'
            go_wp2
            go_region_held3 (fun W => W.cell? ⟨gR, 0, none⟩ = some (.slice A' m' c')) (with_reducible (first | exact hb6 | exact hb7 | exact hb8 | exact hb9)) (first
              | (go_at_call 9; (with_reducible refine (hL.out _ (hS7.out _ ho6)).mono ?_); rintro e w7 ⟨rfl, rfl⟩)
              | (go_at_call 11; (with_reducible refine (hI.out _ (hS7.out _ ho6)).mono ?_); rintro e w7 ⟨A7, c7, rfl, hs7, ho7⟩; have ho67 := ho6.trans ho7; have hb7 : w7.cell? ⟨gR, 0, none⟩ = some (.slice A' m' c') := (hbx6.kept ho67 (fun hh => hh)).cell 0)
              | (go_at_call 12; (with_reducible refine (hJ.out _ (hS7.out _ ho67)).mono ?_); rintro e w8 ⟨A8, c8, rfl, hs8, ho8⟩; have ho68 := ho67.trans ho8; have hb8 : w8.cell? ⟨gR, 0, none⟩ = some (.slice A' m' c') := (hbx6.kept ho68 (fun hh => hh)).cell 0; have hs78 := hs7.go ho8)
              | (go_at_call 10; (with_reducible refine (hE.out _ _ _ _ _ hs78 hs8).mono ?_); rintro e w9 ⟨rfl, ho9⟩; have ho69 := ho68.trans ho9; have hb9 : w9.cell? ⟨gR, 0, none⟩ = some (.slice A' m' c') := (hbx6.kept ho69 (fun hh => hh)).cell 0)
              )
            go_wp2
            go_roundw
            case rel => exact ⟨k + 1, v1', v2', A', c', R', by omega, by go_num, by omega, hS7.out _ ho69, by have := HM'.out; omega, by rw [HM'.out]; exact hbx6.kept ho69 (fun hh => hh), hBe6.trans (ho69.below hBe6.size (fun _ _ hh => hh))⟩
            case measure => simp [intOf]; omega
        · clear hl
          go_wp2
          go_ret
          exact ⟨rfl, hBe⟩
      · clear hl
        go_wp2
        go_ret
        exact ⟨rfl, hBe⟩
/-! The step from the walk to the statement of TableDoes. -/
namespace frTableDoes
open Go.ChangeShapes Go.WideShapes Go.ChangeAt Go.RowKit
set_option linter.unusedVariables false
theorem own : ownKnob Try.prog.godebug = none := by kernel_rfl
theorem laidOut : laidOutB Try.prog = true := by kernel_rfl
theorem shape0 : Kd.ok Try.prog (.int .i64) 3 = true := by kernel_rfl
theorem shape1 : Kd.ok Try.prog (.slc (.agg [.int .i64, .int .i64, .int .i64])) 22 = true := by kernel_rfl
set_option maxRecDepth 100000 in
theorem contract (H : Type) (enc : TypeId × Value → H) (W : World) (base : Nat) (args : Array Value) (ds gs : List (DataW H)) (before : List MemPlace)
    (hval : ∀ (j : Nat) t v, Try.f3.params[j]? = some t → args[j]? = some v → Value.okWide Try.prog W .any base t v)
    (hW : DataW.Whole enc Try.prog Try.f3.params.toList Rows.tableDoesSpec.vars false W args.toList ds gs before) :
    Calls Try.prog 3 args W fun e W' => ∃ v, e = .returned v ∧ Rows.tableDoesSpec.post enc Try.prog Try.f3 false true false false W args v W' := by
  have hW' := hW
  obtain ⟨p, q, hA0, hV, rfl, hfz, hnd⟩ := hW
  have hA : DataW.TrodAll enc Try.prog W 0 (fun _ => true) true Try.f3.params.toList args.toList ds p := hA0
  rw [Try.params3] at hA hval
  obtain ⟨v0, vs0, d0, ds0, p0, q0, hargs, rfl, rfl, h0, r0⟩ := trodAll_cons hA
  obtain ⟨v1, vs1, d1, ds1, p1, q1, rfl, rfl, rfl, h1, r1⟩ := trodAll_cons r0
  obtain ⟨rfl, rfl, rfl⟩ := trodAll_nil r1
  obtain rfl : args = #[v0, v1] := by cases args; simp_all
  obtain ⟨rfl, rfl⟩ := trodVars_none hV
  have k0 := Kd.fit _ shape0 (hval 0 3 v0 rfl rfl) h0
  have lt0 : ∀ x ∈ p0, x.block < W.heap.size := by obtain ⟨m, hm⟩ := h0; exact DataW.trod_lt m _ _ _ hm
  have k1 := Kd.fit _ shape1 (hval 1 22 v1 rfl rfl) h1
  have lt1 : ∀ x ∈ p1, x.block < W.heap.size := by obtain ⟨m, hm⟩ := h1; exact DataW.trod_lt m _ _ _ hm
  refine (tableDoes_walk v0 v1 W k0 k1).mono fun e W' ⟨he, bel⟩ => ?_
  subst he
  exact ⟨_, rfl, _, _, _, [], _, [], hW', trodAll_mk1 (shut_bool Try.underlying4 _), (trodAll_cons_mk (Below.trod laidOut (by kernel_rfl) (of_decide_eq_true (by kernel_rfl)) h0 bel lt0) (trodAll_cons_mk (Below.trod laidOut (by kernel_rfl) (of_decide_eq_true (by kernel_rfl)) h1 bel lt1) trodAll_mk0)), rfl, bel.frame _, fun h => by cases h⟩
set_option maxRecDepth 100000 in
theorem lifted (os : Os) (started : os.Started) (H : Type) (enc : TypeId × Value → H) :
    ReturnsInHanded {} Try.checked os 3 .any (Rows.tableDoesSpec.pre6 enc Try.prog Try.f3 Rows.tableDoesRow.domain false) (Rows.tableDoesSpec.post enc Try.prog Try.f3 false true false false) := by
  refine returnsInHanded_of_change (C := Try.checked) own started (by kernel_rfl) Try.func3
    (ChangeSpec.witness6 (enc := enc) (C := Try.checked) false ⟨#[], #[.int .i64 0, .slice none 0 0], []⟩ 8 (by kernel_rfl) (by kernel_rfl) (by kernel_rfl) (by kernel_rfl)) ?_
  intro W base args ds gs before hval hW _ _
  exact contract H enc W base args ds gs before hval hW
theorem over : Rows.tableDoesRow.holds Try.pinned (OpenSpec.ofChange Rows.tableDoesSpec) :=
  OpenClaim.holds_of_wide 3 Try.f3 rfl rfl rfl rfl rfl rfl rfl ⟨rfl, rfl, rfl, rfl, rfl⟩ rfl rfl rfl rfl rfl (by kernel_rfl) Try.func3 (by kernel_rfl)
    (of_decide_eq_true (by kernel_rfl)) (by unfold Func.isWrapper; first | (rw [if_pos (by decide +kernel)]; kernel_rfl) | (rw [if_neg (by decide +kernel)]; exact ⟨rfl, rfl⟩))
    (fun os started H enc _ => lifted os started H enc)
theorem proved : Rows.TableDoesSaid := over
end frTableDoes
end Go.Proofs.Ytkidhfcokckomaa
