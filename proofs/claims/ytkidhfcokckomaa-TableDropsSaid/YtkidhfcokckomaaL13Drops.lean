/- For every list of calls and every list of numbers: what is dropped is there no more, and nothing else is gone (the statement TableDrops, as it is given). No condition. -/
import Derived.Test.YtkidhfcokckomaaTable8
import Derived.Deep.DeepCutAuto
import Derived.Deep.CutBlock
namespace Go.Proofs.Ytkidhfcokckomaa
open Go.RowKit

/-- a table, and a row in its box -/
structure T2 (w : World) (b base gR : Nat) (v1 v2 : Value) (R : List (Int × Int)) (A : Option Addr) (c : Nat) (Q : List (Int × Int)) : Prop where
  tb : Tb w b base 100 v1 v2 (R.map (·.1)) (R.map (·.2))
  row : Ow encP 2 w base 47 (.slice A Q.length c) Q
  box : Blk w gR 30 #[.slice A Q.length c]
section
variable {w w' : World} {b base gR : Nat} {v1 v2 : Value} {A : Option Addr} {c : Nat} {R Q : List (Int × Int)}
theorem T2.kept (h : T2 w b base gR v1 v2 R A c Q) (ho : Only Nil w w') : T2 w' b base gR v1 v2 R A c Q :=
  ⟨h.tb.kept ho, h.row.kept ho (fun _ _ hh => hh), h.box.kept ho (fun hh => hh)⟩
end
set_option maxRecDepth 100000 in
set_option maxHeartbeats 16000000 in
theorem tableDrops_walk (v0 v1 : Value) (w : World) (h0 : Kd.Fit w (.slc (.agg [.int .i64, .int .i64, .int .i64])) v0) (h1 : Kd.Fit w (.slc (.int .i64)) v1) :
    Calls Try.prog 4 #[v0, v1] w fun e w' => e = .returned (.bool true) ∧ Below w.heap.size w w' := by
  obtain ⟨A, len, cap, rfl, hl⟩ := Kd.slc_fit h0
  obtain ⟨A2, len2, cap2, rfl, hl2⟩ := Kd.slc_fit h1
  clear h0 h1
  obtain ⟨J, hJl, _, hJ0⟩ := hl2.list (by decide) encZ (fun _ => True) (fun cs hc hi => by
    obtain ⟨z, rfl, _⟩ := hi
    exact ⟨z, rfl, trivial⟩)
  have hJ : Sq encZ 1 w w.heap.size A2 J := hJ0
  have hc2 : len2 ≤ cap2 := hl2.1
  have hm2 : cap2 ≤ 9223372036854775807 := hl2.2.1
  have HJL := Lib.hid hJl
  clear hl2 hJ0 hJl
  go_enter Try.func4, Try.ntmps4
  go_upto_block 0 with (first
    | (go_at_call 6; (with_reducible refine (New_any 100 _ (by decide) (by decide)).mono ?_); rintro e w1 ⟨b, rfl, ho1, hK1⟩; have hZ1 := ho1.size; have hz1 := hK1.blk.lt)
    | (go_at_call 7; (with_reducible refine (awake_any _).mono ?_); rintro e w2 ⟨rfl, hb2⟩)
    )
  have hBx : Blk (w2.alloc (.cells #[.slice none 0 0] 30)) w2.heap.size 30 #[.slice none 0 0] := Blk.new _ _ _
  have hz2 := hb2.size
  have hK2 : Tb (w2.alloc (.cells #[.slice none 0 0] 30)) b w.heap.size 100 (.slice none 0 0) (.slice none 0 0) [] [] :=
    ⟨(hK1.blk.below hb2 hz1).alloc _, Ow.nil, Ow.nil, rfl, fun g hg => by simp [Value.ownBlock] at hg, hK1.hb⟩
  have hBe1 := (ho1.below (Nat.le_refl _) (fun _ _ hh => hh)).trans (hb2.mono hZ1)
  have hBe2 := hBe1.alloc hBe1.size (.cells #[.slice none 0 0] 30)
  have hZ1 : w.heap.size ≤ w2.heap.size := by omega
  have hz1 : b < w2.heap.size := by omega
  generalize w2.heap.size = gR at *
  clear hK1 hb2 hz2 ho1 hBe1
  go_cut [8] (fun _ wx => ∃ v1 v2 A c R, S13 wx b w.heap.size 100 v1 v2 A c R ∧ R.length ≤ 100 ∧ Blk wx gR 30 #[.slice A R.length c] ∧ Below w.heap.size w wx)
  case first =>
    go_wp2_with fail
    go_loopw [8] (fun ii wr => ∃ (k : Nat) (v1 v2 : Value) (A : Option Addr) (c : Nat) (R : List (Int × Int)), k ≤ len ∧ ii = .int .i64 k ∧ k ≤ 100 ∧ S13 wr b w.heap.size 100 v1 v2 A c R ∧ R.length ≤ k ∧ Blk wr gR 30 #[.slice A R.length c] ∧ Below w.heap.size w wr) (fun ii _ => len - (intOf ii).toNat)
    case atStart => exact ⟨0, _, _, none, 0, [], Nat.zero_le _, rfl, by omega, ⟨hK2, Ow.nil, fun i j x y hx => by simp at hx⟩, Nat.le_refl _, hBx, hBe2⟩
    case round =>
      clear hK2 hBx hBe2
      obtain ⟨k, v1, v2, A1, c, R, hk, rfl, hk1, hS, hRk, hbx, hBe⟩ := hrel
      have hmax : len ≤ 9223372036854775807 := Nat.le_trans hl.1 hl.2.1
      by_cases hlt : k < len
      · by_cases h80 : k < 100
        · obtain ⟨b', off, rfl, hb', cs, hcl, hcs, his⟩ := hl.at (by decide) hlt
          obtain ⟨kd, id, v, rfl, _, _, _⟩ := Kd.list_ints3 (by unfold Kd.Is at his; exact his)
          have q0 := hcs 0 (by decide)
          have q1 := hcs 1 (by decide)
          have q2 := hcs 2 (by decide)
          simp [Kd.cells, Kd.cellsL] at q0 q1 q2
          have f0 := (hBe.cell (p := ⟨b', _, none⟩) hb').trans q0
          have f1 := (hBe.cell (p := ⟨b', _, none⟩) hb').trans q1
          have f2 := (hBe.cell (p := ⟨b', _, none⟩) hb').trans q2
          clear q0 q1 q2 hcs hcl hl
          have hD := Lib.hid (do_any kd id v wr.drew (hS.kept ((Only.refl Nil wr).drew)) (by omega))
          have hbxd := hbx.drew
          have c0 := hbx.cell 0
          generalize hm : R.length = m at *
          have HM := Lib.hid hm
          clear hm
          go_wp2
          go_region_law (first
            | (go_simp; go_at_call 8; (with_reducible refine hD.out.mono ?_); rintro e w5 ⟨A', c', v1', v2', R', rfl, hS5, hl5, hb5, hT5⟩; have hbx5 := hT5 _ _ _ hbxd (by decide) (by decide) ; have d0 := hbx5.cell 0; have d1 := hbx5.frozen 0)
            )
          all_goals
            have hS6 := hS5.box hbx5 0 (.slice A' R'.length c')
            have hbx6 : Blk (w5.setCell ⟨gR, 0, none⟩ (.slice A' R'.length c')) gR 30 #[.slice A' R'.length c'] := hbx5.set 0 _
            have hBe6 := ((hBe.drew).trans hb5).setCell (p := ⟨gR, 0, none⟩) hZ1 (.slice A' R'.length c')
            have hl6 : R'.length ≤ k + 1 := by have := HM.out; omega
            clear hS5 hbx5 hb5 hT5 hl5 d0 d1 hbxd hD f0 f1 f2 c0 hbx hS
            go_wp2
            go_roundw
            case rel => exact ⟨k + 1, v1', v2', A', c', R', by omega, by go_num, by omega, hS6, by omega, hbx6, hBe6⟩
            case measure => simp [intOf]; omega
        · clear hl
          go_wp2_with fail
          go_meet
          exact ⟨v1, v2, A1, c, R, hS, by omega, hbx, hBe⟩
      · clear hl
        go_wp2_with fail
        go_meet
        exact ⟨v1, v2, A1, c, R, hS, by omega, hbx, hBe⟩
  case rest =>
    clear hl hK2 hBx hBe2
    obtain ⟨v1, v2, A1, c, R, hS, hR, hbx, hBe⟩ := hcut
    have hTT : T2 wc b w.heap.size gR v1 v2 R A1 c R := ⟨hS.tb, hS.row, hbx⟩
    have hri := Lib.hid hS.ris
    have HR := Lib.hid hR
    clear hS hbx
    go_upto_if 54 with fail
    go_cut [1] (fun s1 wx => wx = wc ∧ ∃ (n2 : Nat) (J2 : List Int), s1 = .slice A2 n2 cap2 ∧ J2.length = n2 ∧ n2 ≤ 50 ∧ n2 ≤ cap2 ∧ Sq encZ 1 w w.heap.size A2 J2)
    case first =>
      by_cases h50 : 50 < len2
      · have h5i : (50 : Int) ≤ cap2 := by omega
        go_wp2_with fail
        go_meet
        exact ⟨rfl, 50, J.take 50, rfl, by rw [List.length_take]; have := HJL.out; omega, by omega, by omega, hJ.take 50⟩
      · have h5i : ¬ (50 : Int) < len2 := by omega
        go_wp2_with fail
        go_meet
        exact ⟨rfl, len2, J, rfl, HJL.out, by omega, hc2, hJ⟩
    case rest =>
      obtain ⟨rfl, n2, J2, rfl, hJ2, hn2, hn2c, hJs⟩ := hcut
      clear hJ hc2 HJL
      have c0 := hTT.box.cell 0
      have HJ2 := Lib.hid hJ2
      clear hJ2
      generalize hmR : R.length = mR at c0
      have HMR := Lib.hid hmR
      have hmR1 : mR ≤ 100 := by omega
      clear hmR hR
      go_wp2_with fail
      go_loopw [10] (fun ii wr => ∃ (k : Nat) (A : Option Addr) (c : Nat), k ≤ n2 ∧ ii = .int .i64 k ∧ T2 wr b w.heap.size gR v1 v2 R A c (ds (J2.take k) R) ∧ Below w.heap.size w wr) (fun ii _ => n2 - (intOf ii).toNat)
      case atStart => exact ⟨0, A1, c, Nat.zero_le _, rfl, by rw [List.take_zero, ds_nil]; exact hTT, hBe⟩
      case round =>
        clear c0 hTT hBe
        obtain ⟨k, A3, c3, hk, rfl, hT, hBe⟩ := hrel
        by_cases hlt : k < n2
        · obtain ⟨b1, o1, x, rfl, hb1, hx, _, h1⟩ := (hJs.below hBe).at_ (k := k) (by have := HJ2.out; omega)
          have e1 : wr.cell? ⟨b1, o1 + k, none⟩ = some (.int .i64 x) := by simpa [encZ] using h1 0 (by decide)
          have hst := Lib.hid (ds_take hx R)
          have hle := ds_le (J2.take k) R
          clear h1 hx
          generalize ds (J2.take k) R = Q at hst hle hT
          have hql : Q.length ≤ 100 := by have := HMR.out; omega
          have hD := Lib.hid (Del_row x c3 wr.drew (hT.row.drew.sqn (encP_len _)) (by omega))
          have hTd : T2 wr.drew b w.heap.size gR v1 v2 R A3 c3 Q := hT.kept (Only.refl Nil wr).drew
          have c0 := hT.box.cell 0
          have hki : (k : Int) < n2 := by omega
          generalize hqq : Q.length = q at *
          have HQ := Lib.hid hqq
          clear hqq hle
          go_wp2
          go_region_law (first
            | (go_simp; go_at_call 13; (with_reducible refine hD.out.mono ?_); rintro e w5 ⟨A', c', rfl, hs5, ho5⟩; have hT5 := hTd.kept ho5; have d0 := hT5.box.cell 0; have d1 := hT5.box.frozen 0)
            )
          all_goals
            have hsz := Below.size hBe
            have hs6 := (hs5.mono (base' := w.heap.size) hsz).set (hs5.ne hT5.box (by decide)) 0 (.slice A' (wo x Q).length c')
            have hne : b ≠ gR := by omega
            have hT6 : T2 (w5.setCell ⟨gR, 0, none⟩ (.slice A' (wo x Q).length c')) b w.heap.size gR v1 v2 R A' c' (wo x Q) :=
              ⟨⟨hT5.tb.blk.far (p := ⟨gR, 0, none⟩) hne _, hT5.tb.o1.set (hT5.tb.o1.ne hT5.box (by decide)) 0 _, hT5.tb.o2.set (hT5.tb.o2.ne hT5.box (by decide)) 0 _, hT5.tb.len, hT5.tb.sep, hT5.tb.hb⟩, hs6, hT5.box.set 0 _⟩
            have hBe6 := ((hBe.drew).trans (ho5.below hsz (fun _ _ hh => hh))).setCell (p := ⟨gR, 0, none⟩) hZ1 (.slice A' (wo x Q).length c')
            clear hT5 hTd hD hs5 hs6 d0 d1 c0 hT
            go_wp2
            go_roundw
            case rel => exact ⟨k + 1, A', c', by omega, by go_num, by rw [hst.out]; exact hT6, hBe6⟩
            case measure => simp [intOf]; omega
        · have hkn : J2.take k = J2 := List.take_of_length_le (by have := HJ2.out; omega)
          rw [hkn] at hT
          have hle := ds_le J2 R
          clear hkn
          have hql : (ds J2 R).length ≤ 100 := by have := HMR.out; omega
          have hP : ∀ (W : World), Below w.heap.size w W → Tb W b w.heap.size 100 v1 v2 (R.map (·.1)) (R.map (·.2)) → Calls Try.prog 14 #[.pointer (some ⟨b, 0, none⟩), .slice A2 n2 cap2] W fun x w' => ∃ v1' v2', x = .returned (.int .i64 ((mR : Int) - (ds J2 R).length)) ∧ Tb w' b w.heap.size 100 v1' v2' ((ds J2 R).map (·.1)) ((ds J2 R).map (·.2)) ∧ Below w.heap.size W w' ∧ Oth W w' := fun W hW hTb => by
            have := Drop_any A2 cap2 J2 W (hJs.below hW) (by have := HJ2.out; omega) hTb (by have := HMR.out; omega) hri.out
            rw [HJ2.out] at this
            refine this.mono ?_
            rintro x w' ⟨v1', v2', rfl, h1, h2, h3⟩
            exact ⟨v1', v2', by rw [HMR.out], h1, h2, h3⟩
          have hP2 : ∀ (W : World) v1' v2', Below w.heap.size w W → Tb W b w.heap.size 100 v1' v2' ((ds J2 R).map (·.1)) ((ds J2 R).map (·.2)) → Calls Try.prog 14 #[.pointer (some ⟨b, 0, none⟩), .slice A2 n2 cap2] W fun x w' => x = .returned (.int .i64 0) ∧ Below w.heap.size W w' := fun W v1' v2' hW hTb => by
            have := Drop_any A2 cap2 J2 W (hJs.below hW) (by have := HJ2.out; omega) hTb (by omega) (rising_ds hri.out J2)
            rw [HJ2.out] at this
            refine this.mono ?_
            rintro x w' ⟨v1', v2', rfl, h1, h2, h3⟩
            exact ⟨by rw [ds_twice, Int.sub_self], h2⟩
          have hlq : Hid ((ds J2 R).length ≤ mR) := Lib.hid (by have := HMR.out; omega)
          have hrq := Lib.hid (rising_ds hri.out J2)
          have HP := Lib.hid hP
          have HP2 := Lib.hid hP2
          clear hP hP2 hle
          generalize ds J2 R = Q at hql HP HP2 hlq hrq hT
          have hI := Lib.hid (fun W v1' v2' (h : Tb W b w.heap.size 100 v1' v2' (Q.map (·.1)) (Q.map (·.2))) => IDs_tab W h (by omega))
          have hK := Lib.hid (fun W (h : Ow encP 2 W w.heap.size 47 (.slice A3 Q.length c3) Q) => IDs_row c3 W (h.sqn (encP_len _)) (by omega))
          have hE := Lib.hid (fun A B ca cb W (h1 : Sq encZ 1 W W.heap.size A (Q.map (·.1))) (h2 : Sq encZ 1 W W.heap.size B (Q.map (·.1))) => Ints_row A B ca cb W h1 h2 (by omega))
          have hTd : T2 wr.drew b w.heap.size gR v1 v2 R A3 c3 Q := hT.kept (Only.refl Nil wr).drew
          have hBd := hBe.drew
          have hsz := Below.size hBe
          have hQh := Lib.hid (show Q = [] ∨ 0 < Q.length from by rcases Nat.eq_zero_or_pos Q.length with h0 | h0; exact .inl (List.eq_nil_of_length_eq_zero h0); exact .inr h0)
          generalize hqq : Q.length = q at *
          have HQ := Lib.hid hqq
          clear hqq
          have hqm := hlq.out
          have ew : IntKind.i64.wrap ((mR : Int) - q) = (mR : Int) - q := IntWalk.i64_in _ (by omega)
          have c0 : wr.cell? ⟨gR, 0, none⟩ = some (.slice A3 q c3) := by rw [← HQ.out]; exact hT.box.cell 0
          have hb6 : wr.drew.cell? ⟨gR, 0, none⟩ = some (.slice A3 q c3) := c0
          clear hT
          go_wp2
          go_region_held3 (fun W => W.cell? ⟨gR, 0, none⟩ = some (.slice A3 q c3)) (with_reducible (first | exact hb6 | exact hb7 | exact hb8 | exact hb9 | exact hb10)) (first
            | (go_at_call 14; (with_reducible refine (HP.out _ hBd hTd.tb).mono ?_); rintro e w7 ⟨u1, u2, rfl, hT7, hB7, hO7⟩; have hbx7 := hO7 _ _ _ hTd.box (by decide) (by decide); have hrow7 := hTd.row.oth hO7; have hb7 : w7.cell? ⟨gR, 0, none⟩ = some (.slice A3 q c3) := (by rw [← HQ.out]; exact hbx7.cell 0); have hBe7 := hBd.trans hB7)
            | (go_at_call 11; (with_reducible refine (hI.out _ _ _ hT7).mono ?_); rintro e w8 ⟨A8, c8, rfl, hs8, ho8⟩; have hb8 : w8.cell? ⟨gR, 0, none⟩ = some (.slice A3 q c3) := (by rw [← HQ.out]; exact (hbx7.kept ho8 (fun hh => hh)).cell 0); have hrow8 := hrow7.kept ho8 (fun _ _ hh => hh))
            | (go_at_call 12; (with_reducible refine (hK.out _ (by rw [← HQ.out]; exact hrow8)).mono ?_); rintro e w9 ⟨A9, c9, rfl, hs9, ho9⟩; have ho79 := ho8.trans ho9; have hb9 : w9.cell? ⟨gR, 0, none⟩ = some (.slice A3 q c3) := (by rw [← HQ.out]; exact (hbx7.kept ho79 (fun hh => hh)).cell 0); have hs89 := hs8.go ho9)
            | (go_at_call 10; (with_reducible refine (hE.out _ _ _ _ _ hs89 hs9).mono ?_); rintro e w10 ⟨rfl, ho10⟩; have ho710 := ho79.trans ho10; have hb10 : w10.cell? ⟨gR, 0, none⟩ = some (.slice A3 q c3) := (by rw [← HQ.out]; exact (hbx7.kept ho710 (fun hh => hh)).cell 0))
            )
          have tb10 := hT7.kept ho710
          have row10 : Ow encP 2 w10 w.heap.size 47 (.slice A3 q c3) Q := by rw [← HQ.out]; exact hrow7.kept ho710 (fun _ _ hh => hh)
          have box10 : Blk w10 gR 30 #[.slice A3 q c3] := by rw [← HQ.out]; exact hbx7.kept ho710 (fun hh => hh)
          have hBe10 := hBe7.trans (ho710.below (Below.size hBe7) (fun _ _ hh => hh))
          have c10 := box10.cell 0
          clear hTd hbx7 hrow7 hrow8 hs8 hs9 hs89 hT7 hb6 hb7 hb8 hb9 hb10 hI hK hE HP ho8 ho9 ho10 ho79 ho710 hBd hB7 hO7 ew c0 hBe hBe7
          rcases hQh.out with h0 | h0
          · subst h0
            have q0 := HQ.out
            simp at q0
            subst q0
            have hEo := Lib.hid (Ends_out w10 tb10)
            go_wp2_with (first
              | (go_at_call 15; (with_reducible refine (hEo.out).mono ?_); rintro e w11 ⟨rfl, ho11⟩; have c11 := (box10.kept ho11 (fun hh => hh)).cell 0)
              )
            go_ret
            exact ⟨rfl, hBe10.trans (ho11.below (Below.size hBe10) (fun _ _ hh => hh))⟩
          · have hq0 : 0 < q := by have := HQ.out; omega
            obtain ⟨b1, o1, lo, rfl, _, hlo, _, _⟩ := (row10.sqn (encP_len _)).at_ (k := 0) (by rw [HQ.out]; exact hq0)
            obtain ⟨hi, hhi⟩ : ∃ hi, Q[Q.length - 1]? = some hi := ⟨_, List.getElem?_eq_getElem (by rw [HQ.out]; omega)⟩
            have hEo := Lib.hid (Ends_in lo hi w10 tb10 (by rw [HQ.out]; omega) hlo hhi)
            rw [HQ.out] at hhi
            have HLO := Lib.hid hlo
            have HHI := Lib.hid hhi
            have hqi : (0 : Int) < q := by omega
            have hne : ((q : Int) == 0) = false := by simp; omega
            clear hlo hhi h0
            go_wp2_with (first
              | (go_at_call 15; (with_reducible refine (hEo.out).mono ?_); rintro e w11 ⟨rfl, ho11⟩; have c11 := (box10.kept ho11 (fun hh => hh)).cell 0)
              )
            go_loopw [14] (fun ii wr => ∃ (k : Nat), k ≤ q ∧ ii = .int .i64 k ∧ Only Nil w10 wr) (fun ii _ => q - (intOf ii).toNat)
            case atStart => exact ⟨0, Nat.zero_le _, rfl, ho11⟩
            case round =>
              clear ho11 c11 hEo
              obtain ⟨k, hk, rfl, ho⟩ := hrel
              have c12 := (box10.kept ho (fun hh => hh)).cell 0
              have row12 := row10.kept ho (fun _ _ hh => hh)
              by_cases hlt : k < q
              · obtain ⟨p, hp⟩ : ∃ p, Q[k]? = some p := ⟨_, List.getElem?_eq_getElem (by have := HQ.out; omega)⟩
                obtain ⟨e1, e2⟩ := (row12.sqn (encP_len _)).cell2_at (id := p.1) (y := p.2) hp
                have HG := Lib.hid (Get_row_in p.1 p.2 k wr (tb10.kept ho) hrq.out (by have := HQ.out; omega) hp)
                have hki : (k : Int) < q := by omega
                have HPK := Lib.hid hp
                clear hp
                go_wp2_with (first
                  | (go_at_call 16; (with_reducible refine (HG.out).mono ?_); rintro e w13 ⟨rfl, ho13⟩; have c13 := (box10.kept (ho.trans ho13) (fun hh => hh)).cell 0; obtain ⟨f1, f2⟩ := ((row12.kept ho13 (fun _ _ hh => hh)).sqn (encP_len _)).cell2_at (id := p.1) (y := p.2) HPK.out)
                  )
                go_roundw
                case rel => exact ⟨k + 1, by omega, by go_num, ho.trans ho13⟩
                case measure => simp [intOf]; omega
              · obtain rfl : k = q := by omega
                obtain ⟨e1, _⟩ := (row12.sqn (encP_len _)).cell2_at (id := lo.1) (y := lo.2) HLO.out
                obtain ⟨e2, _⟩ := (row12.sqn (encP_len _)).cell2_at (id := hi.1) (y := hi.2) HHI.out
                have hBe12 := hBe10.trans (ho.below (Below.size hBe10) (fun _ _ hh => hh))
                have HD := Lib.hid (HP2.out wr u1 u2 hBe12 (tb10.kept ho))
                have e3 : wr.cell? ⟨b1, o1, none⟩ = some (.int .i64 lo.1) := by simpa using e1
                have ek : ((k : Int) - 1).toNat = k - 1 := by omega
                have ek2 : (0 : Int) ≤ (k : Int) - 1 := by omega
                clear e1
                go_wp2_with (first
                  | (go_at_call 14; (with_reducible refine (HD.out).mono ?_); rintro e w14 ⟨rfl, hB14⟩)
                  )
                go_ret
                exact ⟨rfl, hBe12.trans hB14⟩
/-! The step from the walk to the statement of TableDrops. -/
namespace frTableDrops
open Go.ChangeShapes Go.WideShapes Go.ChangeAt Go.RowKit
set_option linter.unusedVariables false
theorem own : ownKnob Try.prog.godebug = none := by kernel_rfl
theorem laidOut : laidOutB Try.prog = true := by kernel_rfl
theorem shape0 : Kd.ok Try.prog (.slc (.agg [.int .i64, .int .i64, .int .i64])) 22 = true := by kernel_rfl
theorem shape1 : Kd.ok Try.prog (.slc (.int .i64)) 37 = true := by kernel_rfl
set_option maxRecDepth 100000 in
theorem contract (H : Type) (enc : TypeId × Value → H) (W : World) (base : Nat) (args : Array Value) (ds gs : List (DataW H)) (before : List MemPlace)
    (hval : ∀ (j : Nat) t v, Try.f4.params[j]? = some t → args[j]? = some v → Value.okWide Try.prog W .any base t v)
    (hW : DataW.Whole enc Try.prog Try.f4.params.toList Rows.tableDropsSpec.vars false W args.toList ds gs before) :
    Calls Try.prog 4 args W fun e W' => ∃ v, e = .returned v ∧ Rows.tableDropsSpec.post enc Try.prog Try.f4 false true false false W args v W' := by
  have hW' := hW
  obtain ⟨p, q, hA0, hV, rfl, hfz, hnd⟩ := hW
  have hA : DataW.TrodAll enc Try.prog W 0 (fun _ => true) true Try.f4.params.toList args.toList ds p := hA0
  rw [Try.params4] at hA hval
  obtain ⟨v0, vs0, d0, ds0, p0, q0, hargs, rfl, rfl, h0, r0⟩ := trodAll_cons hA
  obtain ⟨v1, vs1, d1, ds1, p1, q1, rfl, rfl, rfl, h1, r1⟩ := trodAll_cons r0
  obtain ⟨rfl, rfl, rfl⟩ := trodAll_nil r1
  obtain rfl : args = #[v0, v1] := by cases args; simp_all
  obtain ⟨rfl, rfl⟩ := trodVars_none hV
  have k0 := Kd.fit _ shape0 (hval 0 22 v0 rfl rfl) h0
  have lt0 : ∀ x ∈ p0, x.block < W.heap.size := by obtain ⟨m, hm⟩ := h0; exact DataW.trod_lt m _ _ _ hm
  have k1 := Kd.fit _ shape1 (hval 1 37 v1 rfl rfl) h1
  have lt1 : ∀ x ∈ p1, x.block < W.heap.size := by obtain ⟨m, hm⟩ := h1; exact DataW.trod_lt m _ _ _ hm
  refine (tableDrops_walk v0 v1 W k0 k1).mono fun e W' ⟨he, bel⟩ => ?_
  subst he
  exact ⟨_, rfl, _, _, _, [], _, [], hW', trodAll_mk1 (shut_bool Try.underlying4 _), (trodAll_cons_mk (Below.trod laidOut (by kernel_rfl) (of_decide_eq_true (by kernel_rfl)) h0 bel lt0) (trodAll_cons_mk (Below.trod laidOut (by kernel_rfl) (of_decide_eq_true (by kernel_rfl)) h1 bel lt1) trodAll_mk0)), rfl, bel.frame _, fun h => by cases h⟩
set_option maxRecDepth 100000 in
theorem lifted (os : Os) (started : os.Started) (H : Type) (enc : TypeId × Value → H) :
    ReturnsInHanded {} Try.checked os 4 .any (Rows.tableDropsSpec.pre6 enc Try.prog Try.f4 Rows.tableDropsRow.domain false) (Rows.tableDropsSpec.post enc Try.prog Try.f4 false true false false) := by
  refine returnsInHanded_of_change (C := Try.checked) own started (by kernel_rfl) Try.func4
    (ChangeSpec.witness6 (enc := enc) (C := Try.checked) false ⟨#[], #[.slice none 0 0, .slice none 0 0], []⟩ 8 (by kernel_rfl) (by kernel_rfl) (by kernel_rfl) (by kernel_rfl)) ?_
  intro W base args ds gs before hval hW _ _
  exact contract H enc W base args ds gs before hval hW
theorem over : Rows.tableDropsRow.holds Try.pinned (OpenSpec.ofChange Rows.tableDropsSpec) :=
  OpenClaim.holds_of_wide 4 Try.f4 rfl rfl rfl rfl rfl rfl rfl ⟨rfl, rfl, rfl, rfl, rfl⟩ rfl rfl rfl rfl rfl (by kernel_rfl) Try.func4 (by kernel_rfl)
    (of_decide_eq_true (by kernel_rfl)) (by unfold Func.isWrapper; first | (rw [if_pos (by decide +kernel)]; kernel_rfl) | (rw [if_neg (by decide +kernel)]; exact ⟨rfl, rfl⟩))
    (fun os started H enc _ => lifted os started H enc)
theorem proved : Rows.TableDropsSaid := over
end frTableDrops
end Go.Proofs.Ytkidhfcokckomaa
