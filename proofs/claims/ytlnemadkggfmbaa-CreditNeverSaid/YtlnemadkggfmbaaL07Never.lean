/- For every beginning and every list of calls: no more is spent on a stream than its window was given, nor on all together than the connection's was (the statement CreditNever, as it is given). No condition. -/
import Derived.Test.YtlnemadkggfmbaaNever07
import Derived.Test.YtlnemadkggfmbaaL07None
import Derived.Test.YtlnemadkggfmbaaIds07
namespace Go.Proofs.Ytlnemadkggfmbaa
open Go.RowKit

/-- how the ledger and the books stand ahead of a round -/
structure Rd (w : World) (b cb base bg bp : Nat) (M : Int) (C S : Int) (v : Value) (L : List Gn) (G P : Int → Int) (n m : Nat) : Prop where
  nv : Nv w b cb base M C S v L
  bk : Bk M C S L G P
  mg : MapZ w bg n G
  mp : MapZ w bp m P
theorem Lg.noMap {w w' : World} {b cb base : Nat} {C S : Int} {v : Value} {L : List Gn} (h : Lg w b cb base C S v L) {g n : Nat} {F : Int → Int} (hm : MapZ w g n F) (ho : Only (Ft b cb v L) w w') : MapZ w' g n F :=
  hm.kept ho fun hh => by
    obtain ⟨_, t, cs, hB, _⟩ := h.my hh
    exact hm.no hB
theorem Lg.overMap {w w' : World} {b cb base : Nat} {C S : Int} {v : Value} {L : List Gn} (h : Lg w b cb base C S v L) {g n : Nat} {F : Int → Int} (hm : MapZ w g n F) (ho : Only (One g) w w') : Lg w' b cb base C S v L :=
  h.keptS ho fun k hk t cs hB _ => by
    unfold One at hk
    subst hk
    exact hm.no hB
set_option maxRecDepth 100000 in
set_option maxHeartbeats 4000000 in
theorem creditNever_walk (v0 v1 : Value) (w : World) (h0 : Kd.Fit w (.int .u32) v0) (h1 : Kd.Fit w (.slc (.agg [.int .i64, .int .i64, .int .i64, .int .i64])) v1) :
    Calls Try.prog 4 #[v0, v1] w fun e w' => e = .returned (.bool true) ∧ Below w.heap.size w w' := by
  obtain ⟨n0, rfl, hn0⟩ := Kd.int_fit h0
  obtain ⟨A, len, cap, rfl, hl⟩ := Kd.slc_fit h1
  have hu := u32_of hn0
  obtain ⟨hu1, hu2⟩ := hu
  clear hn0 h0 h1
  have hmm := @run_makeMap Try.prog
  have hfr : 0 ≤ n0 % 2147483648 ∧ n0 % 2147483648 ≤ 2147483647 := by omega
  have hNew := Lib.hid (fun W => New_any (n0 % 2147483648) W hfr)
  obtain ⟨hfr1, hfr2⟩ := hfr
  go_enter Try.func4, Try.ntmps4
  go_upto_block 0 with (first
    | (go_at_call 6; (with_reducible refine (hNew.out _).mono ?_); rintro e w1 ⟨b, cb, rfl, hL1, ho1⟩; have hB1 := ho1.below (Nat.le_refl _) (fun _ _ hh => hh))
    | (go_at_call 8; (with_reducible refine (awake_any _).mono ?_); rintro e w2 ⟨rfl, hbA⟩; have hL2 := hL1.kept (Only.of_below hbA); have hB2 := hB1.trans (hbA.mono ho1.size); obtain ⟨w3, hr3, hm3, ho3⟩ := (MapZ.made w2).put (by omega) (k := 0) (y := n0 % 2147483648) (by unfold i64Ok; omega) (by unfold i64Ok; omega))
    )
  generalize n0 % 2147483648 = n at *
  have hL2a := hL2.kept ((Only.refl Nil w2).alloc (.map #[] 0))
  have hL3 := hL2a.overMap (MapZ.made w2) ho3
  have hL4 := hL3.kept ((Only.refl Nil w3).alloc (.map #[] 0))
  have hm4 := hm3.kept ((Only.refl Nil w3).alloc (.map #[] 0)) (fun hh => hh)
  have hsz2 := hB2.size
  have hsz3 : w2.heap.size + 1 ≤ w3.heap.size := by have := ho3.size; simp at this; omega
  have hB4 : Below w.heap.size w (w3.alloc (.map #[] 0)) := (hB2.trans ((((Only.refl Nil w2).alloc (.map #[] 0)).of_nil (One w2.heap.size)).trans ho3 |>.below hsz2 (fun i hi hh => by unfold One at hh; omega))).trans (((Only.refl Nil w3).alloc (.map #[] 0)).below (by omega) (fun _ _ hh => hh))
  have hbk0 : Bk 2147483648 n 0 [] (upd (fun _ => 0) 0 n) (fun _ => 0) := ⟨by unfold upd; rw [if_pos rfl]; omega, rfl, by simp, by simp, fun z => by unfold upd; dsimp only; split <;> omega, fun z => by first | omega | (dsimp only; omega)⟩
  have hbg : w2.heap.size ≠ w3.heap.size := by omega
  have hbg2 : w.heap.size ≤ w2.heap.size := hsz2
  have hbp2 : w.heap.size ≤ w3.heap.size := by omega
  have hmp4 := MapZ.made w3
  have hnv : Nv (w3.alloc (.map #[] 0)) b cb w.heap.size 2147483648 n 0 (.slice none 0 0) [] := ⟨hL4, fun i j x y hx => by simp at hx, by simp, ⟨by unfold winOk; omega, by simp⟩, ⟨by simp, by simp⟩, by simp⟩
  clear hNew hL1 hL2 hL2a hL3 hL4 hm3 hr3 ho3 hB1 hB2 hbA ho1 hsz2 hsz3
  go_wp2
  go_loopw [10] (fun ii wr => ∃ (k : Nat) (M C S : Int) (v : Value) (L : List Gn) (G P : Int → Int) (n1 m1 : Nat), k ≤ len ∧ k ≤ 80 ∧ ii = .int .i64 k ∧ 0 ≤ M ∧ M ≤ 2147483648 + k * 4294967296 ∧ n1 ≤ 1 + k * 70 ∧ m1 ≤ 1 + k * 70 ∧ Rd wr b cb w.heap.size w2.heap.size w3.heap.size M C S v L G P n1 m1 ∧ Below w.heap.size w wr) (fun ii _ => len - (intOf ii).toNat)
  case atStart => exact ⟨0, 2147483648, n, 0, _, [], _, _, 1, 0, Nat.zero_le _, Nat.zero_le _, rfl, by omega, by omega, by omega, by omega, ⟨hnv, hbk0, hm4, hmp4⟩, hB4⟩
  case round =>
    obtain ⟨k, M, C, S, v, L, G, P, n1, m1, hk, hk80, rfl, hM0, hM1, hn1, hm1, hR, hB⟩ := hrel
    have hmax : len ≤ 9223372036854775807 := Nat.le_trans hl.1 hl.2.1
    generalize w2.heap.size = bg at *
    generalize w3.heap.size = bp at *
    by_cases hlt : k < len
    · by_cases h80 : k < 80
      · obtain ⟨b', off, rfl, hb', cs, hcl, hcs, his⟩ := hl.at (by decide) hlt
        obtain ⟨kd, id, m, t, rfl, hkd, hid, hm, ht⟩ := Kd.list_ints4 his
        have f0 := (hB.cell (p := ⟨b', _, none⟩) hb').trans (hcs 0 (by decide))
        have f1 := (hB.cell (p := ⟨b', _, none⟩) hb').trans (hcs 1 (by decide))
        have f2 := (hB.cell (p := ⟨b', _, none⟩) hb').trans (hcs 2 (by decide))
        have f3 := (hB.cell (p := ⟨b', _, none⟩) hb').trans (hcs 3 (by decide))
        simp [Kd.cells, Kd.cellsL] at f0 f1 f2 f3
        have hid' := i64Ok_of hid
        have hm' := i64Ok_of hm
        have ht' := i64Ok_of ht
        clear his hcs hcl hkd hid hm ht
        have hoA := (Only.refl Nil wr).alloc (.cells #[.int .i64 kd, .int .i64 id, .int .i64 m, .int .i64 t] 35)
        have hNA : Nv (wr.alloc (.cells #[.int .i64 kd, .int .i64 id, .int .i64 m, .int .i64 t] 35)) b cb w.heap.size M C S v L := ⟨hR.nv.lg.kept hoA, hR.nv.inv⟩
        have lgA := hNA.lg
        have mgA := hR.mg.kept hoA (fun hh => hh)
        have mpA := hR.mp.kept hoA (fun hh => hh)
        have HBk := Lib.hid hR.bk
        have hBX := Blk.new wr 35 #[.int .i64 kd, .int .i64 id, .int .i64 m, .int .i64 t]
        have HBX : Hid (∀ W, Only (Ft b cb v L) (wr.alloc (.cells #[.int .i64 kd, .int .i64 id, .int .i64 m, .int .i64 t] 35)) W → Blk W wr.heap.size 35 #[.int .i64 kd, .int .i64 id, .int .i64 m, .int .i64 t]) := Lib.hid fun W ho => (lgA.oth ho) _ _ _ hBX (by unfold myT; decide)
        have HXG : Hid (¬ One bg wr.heap.size) := Lib.hid (fun hh => by unfold One at hh; have := hR.mg.lt; omega)
        have HXP : Hid (¬ One bp wr.heap.size) := Lib.hid (fun hh => by unfold One at hh; have := hR.mp.lt; omega)
        have hBA := hB.trans (hoA.below hB.size (fun _ _ hh => hh))
        have hbk := hR.bk
        have hMM : M ≤ 900000000000 := by omega
        clear hR
        have hgi := hbk.gb id
        obtain ⟨hgi1, hgi2⟩ := hgi
        have hpi := hbk.pb id
        obtain ⟨hpi1, hpi2⟩ := hpi
        have hPq : Hid (1 ≤ id → -M ≤ upd P id (P id + m) 0 ∧ upd P id (P id + m) 0 ≤ M) := Lib.hid fun h1 => by unfold upd; rw [if_neg (by omega)]; exact hbk.pb 0
        by_cases c0 : (kd == 0) = true
        · rcases nv_open id m hNA hM0 hbk with HY | HY
          · replace HY := Lib.hid HY
            clear hbk hNA
            go_wp2_with (first
              | (go_at_call 11; (with_reducible refine HY.out.mono ?_); rintro e w4 ⟨r, v', hr, rfl, hN4, ho4⟩; have mg4 := lgA.noMap mgA ho4; have mp4 := lgA.noMap mpA ho4; have q4 := HBX.out _ ho4; have d0 := q4.cell 0; have d1 := q4.cell 1; have d2 := q4.cell 2; have d3 := q4.cell 3; skip)
              )
            go_roundw
            case rel => exact ⟨k + 1, M, C, S, v', L, G, P, n1, m1, by omega, by omega, by go_num, hM0, by omega, by omega, by omega, ⟨hN4, HBk.out, mg4, mp4⟩, hBA.trans (lgA.bel ho4)⟩
            case measure => simp [intOf]; omega
          · replace HY := Lib.hid HY
            clear hbk hNA
            go_wp2_with (first
              | (go_at_call 11; (with_reducible refine HY.out.mono ?_); rintro e w4 ⟨C', S', v', L', rfl, hN4, ho4, hb4⟩; have mg4 := lgA.noMap mgA ho4; have mp4 := lgA.noMap mpA ho4; have q4 := HBX.out _ ho4; have d0 := q4.cell 0; have d1 := q4.cell 1; have d2 := q4.cell 2; have d3 := q4.cell 3; obtain ⟨w5, hr5, mg5, ho5⟩ := mg4.put (by omega) (k := id) (y := m) hid' hm'; have mp5 := mp4.kept ho5 (fun hh => hbg hh.symm); have q5 := q4.kept ho5 HXG.out; have g0 := q5.cell 0; have g1 := q5.cell 1; obtain ⟨w6, hr6, mp6, ho6⟩ := mp5.put (by omega) (k := id) (y := 0) hid' (by unfold i64Ok; omega))
              )
            go_roundw
            case rel => exact ⟨k + 1, M + 4294967296, C', S', v', L', _, _, n1 + 1, m1 + 1, by omega, by omega, by go_num, by omega, by omega, by omega, by omega, ⟨⟨(hN4.lg.overMap mg4 ho5).overMap mp5 ho6, hN4.inv⟩, hb4, mg5.kept ho6 (fun hh => hbg hh), mp6⟩, ((hBA.trans (lgA.bel ho4)).trans (ho5.below hN4.lg.sz (fun i hi hh => by unfold One at hh; omega))).trans (ho6.below (Nat.le_trans hN4.lg.sz ho5.size) (fun i hi hh => by unfold One at hh; omega))⟩
            case measure => simp [intOf]; omega
        have e0 : (kd == 0) = false := by simpa using c0
        clear c0
        by_cases c1 : (kd == 1) = true
        · rcases nv_close id hNA hbk with HY | HY
          · replace HY := Lib.hid HY
            clear hbk hNA
            go_wp2_with (first
              | (go_at_call 12; (with_reducible refine HY.out.mono ?_); rintro e w4 ⟨r, v', hr, rfl, hN4, ho4⟩; have mg4 := lgA.noMap mgA ho4; have mp4 := lgA.noMap mpA ho4; have q4 := HBX.out _ ho4; have d0 := q4.cell 0; have d1 := q4.cell 1; have d2 := q4.cell 2; have d3 := q4.cell 3; skip)
              )
            go_roundw
            case rel => exact ⟨k + 1, M, C, S, v', L, G, P, n1, m1, by omega, by omega, by go_num, hM0, by omega, by omega, by omega, ⟨hN4, HBk.out, mg4, mp4⟩, hBA.trans (lgA.bel ho4)⟩
            case measure => simp [intOf]; omega
          · replace HY := Lib.hid HY
            clear hbk hNA
            go_wp2_with (first
              | (go_at_call 12; (with_reducible refine HY.out.mono ?_); rintro e w4 ⟨C', S', v', L', rfl, hN4, ho4, hb4⟩; have mg4 := lgA.noMap mgA ho4; have mp4 := lgA.noMap mpA ho4; have q4 := HBX.out _ ho4; have d0 := q4.cell 0; have d1 := q4.cell 1; have d2 := q4.cell 2; have d3 := q4.cell 3; skip)
              )
            go_roundw
            case rel => exact ⟨k + 1, M + 4294967296, C', S', v', L', G, P, n1, m1, by omega, by omega, by go_num, by omega, by omega, by omega, by omega, ⟨hN4, hb4, mg4, mp4⟩, hBA.trans (lgA.bel ho4)⟩
            case measure => simp [intOf]; omega
        have e1 : (kd == 1) = false := by simpa using c1
        clear c1
        by_cases c5 : (kd == 5) = true
        · rcases nv_grow id m hNA hbk with HY | HY
          · replace HY := Lib.hid HY
            clear hbk hNA
            go_wp2_with (first
              | (go_at_call 13; (with_reducible refine HY.out.mono ?_); rintro e w4 ⟨r, v', hr, rfl, hN4, ho4⟩; have mg4 := lgA.noMap mgA ho4; have mp4 := lgA.noMap mpA ho4; have q4 := HBX.out _ ho4; have d0 := q4.cell 0; have d1 := q4.cell 1; have d2 := q4.cell 2; have d3 := q4.cell 3; skip)
              )
            go_roundw
            case rel => exact ⟨k + 1, M, C, S, v', L, G, P, n1, m1, by omega, by omega, by go_num, hM0, by omega, by omega, by omega, ⟨hN4, HBk.out, mg4, mp4⟩, hBA.trans (lgA.bel ho4)⟩
            case measure => simp [intOf]; omega
          · replace HY := Lib.hid HY
            clear hbk hNA
            go_wp2_with (first
              | (go_at_call 13; (with_reducible refine HY.out.mono ?_); rintro e w4 ⟨C', S', v', L', rfl, hN4, ho4, hk1, hk2, hb4⟩; have mg4 := lgA.noMap mgA ho4; have mp4 := lgA.noMap mpA ho4; have q4 := HBX.out _ ho4; have d0 := q4.cell 0; have d1 := q4.cell 1; have d2 := q4.cell 2; have d3 := q4.cell 3; have l4 := mg4.get hid'; obtain ⟨w5, hr5, mg5, ho5⟩ := mg4.put (by omega) (k := id) (y := G id + m) hid' (by unfold i64Ok; omega))
              )
            go_roundw
            case rel => exact ⟨k + 1, M + 4294967296, C', S', v', L', _, P, n1 + 1, m1, by omega, by omega, by go_num, by omega, by omega, by omega, by omega, ⟨⟨hN4.lg.overMap mg4 ho5, hN4.inv⟩, hb4, mg5, mp4.kept ho5 (fun hh => hbg hh.symm)⟩, (hBA.trans (lgA.bel ho4)).trans (ho5.below hN4.lg.sz (fun i hi hh => by unfold One at hh; omega))⟩
            case measure => simp [intOf]; omega
        have e5 : (kd == 5) = false := by simpa using c5
        clear c5
        by_cases c6 : (kd == 6) = true
        · rcases nv_grow id m hNA hbk with HY | HY
          · replace HY := Lib.hid HY
            clear hbk hNA
            go_wp2_with (first
              | (go_at_call 13; (with_reducible refine HY.out.mono ?_); rintro e w4 ⟨r, v', hr, rfl, hN4, ho4⟩; have mg4 := lgA.noMap mgA ho4; have mp4 := lgA.noMap mpA ho4; have q4 := HBX.out _ ho4; have d0 := q4.cell 0; have d1 := q4.cell 1; have d2 := q4.cell 2; have d3 := q4.cell 3; skip)
              )
            go_roundw
            case rel => exact ⟨k + 1, M, C, S, v', L, G, P, n1, m1, by omega, by omega, by go_num, hM0, by omega, by omega, by omega, ⟨hN4, HBk.out, mg4, mp4⟩, hBA.trans (lgA.bel ho4)⟩
            case measure => simp [intOf]; omega
          · replace HY := Lib.hid HY
            clear hbk hNA
            go_wp2_with (first
              | (go_at_call 13; (with_reducible refine HY.out.mono ?_); rintro e w4 ⟨C', S', v', L', rfl, hN4, ho4, hk1, hk2, hb4⟩; have mg4 := lgA.noMap mgA ho4; have mp4 := lgA.noMap mpA ho4; have q4 := HBX.out _ ho4; have d0 := q4.cell 0; have d1 := q4.cell 1; have d2 := q4.cell 2; have d3 := q4.cell 3; have l4 := mg4.get hid'; obtain ⟨w5, hr5, mg5, ho5⟩ := mg4.put (by omega) (k := id) (y := G id + m) hid' (by unfold i64Ok; omega))
              )
            go_roundw
            case rel => exact ⟨k + 1, M + 4294967296, C', S', v', L', _, P, n1 + 1, m1, by omega, by omega, by go_num, by omega, by omega, by omega, by omega, ⟨⟨hN4.lg.overMap mg4 ho5, hN4.inv⟩, hb4, mg5, mp4.kept ho5 (fun hh => hbg hh.symm)⟩, (hBA.trans (lgA.bel ho4)).trans (ho5.below hN4.lg.sz (fun i hi hh => by unfold One at hh; omega))⟩
            case measure => simp [intOf]; omega
        have e6 : (kd == 6) = false := by simpa using c6
        clear c6
        by_cases c7 : (kd == 7) = true
        · have hll : L.length ≤ 1000 := by have := hNA.inv.len; omega
          have hl64 : L.length ≤ 64 := hNA.inv.len
          have HI : Hid (∀ W, Lg W b cb w.heap.size C S v L → Calls Try.prog 14 #[.pointer (some ⟨b, 0, none⟩)] W fun x w' => ∃ A cap, x = .returned (.slice A L.length cap) ∧ Ow encZ 1 w' W.heap.size 3 (.slice A L.length cap) (L.map (·.id)) ∧ Only Nil W w') := Lib.hid fun W q => by
            have := IDs_own W q hll
            unfold IdsOwn at this
            rwa [List.length_map] at this
          have hinv := Lib.hid hNA.inv
          have hIl : Hid ((L.map (·.id)).length = L.length) := Lib.hid (by simp)
          have hIn : Hid ((L.map (·.id)).Nodup) := Lib.hid (rise_nd hNA.inv.up)
          have hIi : Hid (∀ y ∈ L.map (·.id), i64Ok y) := Lib.hid fun y hy => by
            obtain ⟨x, hx, rfl⟩ := List.mem_map.1 hy
            have := hinv.out.ids x hx
            unfold i64Ok
            omega
          have hgb := Lib.hid hbk.gb
          clear hNA hbk
          go_upto_region 29 with (first
            | (go_at_call 14; (with_reducible refine (HI.out _ lgA).mono ?_); rintro e w4 ⟨A4, c4, rfl, s4, hoi⟩)
            )
          have hNA : Nv w4 b cb w.heap.size M C S v L := ⟨lgA.kept hoi, hinv.out⟩
          have q4' := hBX.kept hoi (fun hh => hh)
          have i2 := q4'.cell 2
          have i3 := q4'.cell 3
          have HYY := nv_resize m t hNA HBk.out
          have hBA4 := hBA.trans (hoi.below hBA.size (fun _ _ hh => hh))
          have mgA4 := mgA.kept hoi (fun hh => hh)
          have mpA4 := mpA.kept hoi (fun hh => hh)
          have HBX4 : Hid (∀ W, Only (Ft b cb v L) w4 W → Blk W wr.heap.size 35 #[.int .i64 kd, .int .i64 id, .int .i64 m, .int .i64 t]) := Lib.hid fun W ho => (hNA.lg.oth ho) _ _ _ q4' (by unfold myT; decide)
          have lgA4 := hNA.lg
          have HS4 : Hid (∀ W, Only (Ft b cb v L) w4 W → Ow encZ 1 W 0 3 (.slice A4 L.length c4) (L.map (·.id))) := Lib.hid fun W ho => (s4.mono (Nat.zero_le _)).kept ho fun g hg hh => by
            obtain ⟨cs, hcs⟩ := s4.blkOf hg
            obtain ⟨_, t', cs', hB', hmy⟩ := lgA4.my hh
            rw [← (hcs.inj hB').1] at hmy
            revert hmy
            unfold myT
            decide
          have hHX := HXG.out
          generalize L.map (·.id) = I at *
          generalize L.length = q at *
          rcases HYY with HY | HY
          · replace HY := Lib.hid HY
            clear hNA
            go_wp2_with (first
              | (go_at_call 15; (with_reducible refine HY.out.mono ?_); rintro e w5 ⟨r, v', hr, rfl, hN4, ho4⟩; have mg4 := lgA4.noMap mgA4 ho4; have mp4 := lgA4.noMap mpA4 ho4)
              )
            go_roundw
            case rel => exact ⟨k + 1, M, C, S, v', L, G, P, n1, m1, by omega, by omega, by go_num, hM0, by omega, by omega, by omega, ⟨hN4, HBk.out, mg4, mp4⟩, hBA4.trans (lgA4.bel ho4)⟩
            case measure => simp [intOf]; omega
          · replace HY := Lib.hid HY
            clear hNA
            go_wp2_with (first
              | (go_at_call 15; (with_reducible refine HY.out.mono ?_); rintro e w5 ⟨C', S', v', L', rfl, hN4, ho4, hf1, hf2, ht1, ht2, hb4⟩; have mg4 := lgA4.noMap mgA4 ho4; have mp4 := lgA4.noMap mpA4 ho4; have q5 := HBX4.out _ ho4; have s5 := HS4.out _ ho4)
              )
            generalize wr.heap.size = bx at *
            go_loopw [13] (fun jj wq => ∃ j : Nat, j ≤ q ∧ jj = .int .i64 j ∧ MapZ wq bg (n1 + j) (gPlus G I (t - m) j) ∧ Lg wq b cb w.heap.size C' S' v' L' ∧ MapZ wq bp m1 P ∧ Blk wq bx 35 #[.int .i64 kd, .int .i64 id, .int .i64 m, .int .i64 t] ∧ Ow encZ 1 wq 0 3 (.slice A4 q c4) I ∧ Below w.heap.size w wq) (fun jj _ => q - (intOf jj).toNat)
            case atStart => exact ⟨0, Nat.zero_le _, rfl, by rw [show gPlus G I (t - m) 0 = G from by funext z; simp [gPlus]]; exact mg4, hN4.lg, mp4, q5, s5, hBA4.trans (lgA4.bel ho4)⟩
            case round =>
              obtain ⟨j, hj, rfl, mgq, lgq, mpq, qq, sq, hBq⟩ := hrel
              by_cases hjq : j < q
              · obtain ⟨g4, o4, y, rfl, hg4, hy, _, hcs⟩ := (sq.sqn (fun x _ => encZ_len x)).at_ (k := j) (by have := hIl.out; omega)
                have e1 : wr.cell? ⟨g4, o4 + j, none⟩ = some (.int .i64 y) := by simpa [encZ] using hcs 0 (by decide)
                have hyi := hIi.out y (List.mem_of_getElem? hy)
                have hstep := Lib.hid (gPlus_step (G := G) (d := t - m) hIn.out hy)
                have hgy : -M - 2147483647 ≤ gPlus G I (t - m) j y ∧ gPlus G I (t - m) j y ≤ M + 2147483647 := by
                  have := hgb.out y
                  unfold gPlus
                  split <;> omega
                obtain ⟨hgy1, hgy2⟩ := hgy
                have mgd := mgq.kept (Only.refl Nil wr).drew (fun hh => hh)
                have l1 := mgd.get hyi
                obtain ⟨w7, hr7, mg7, ho7⟩ := mgd.put (by omega) (k := y) (y := gPlus G I (t - m) j y + (t - m)) hyi (by unfold i64Ok; omega)
                rw [hstep.out] at mg7
                have lg7 := (lgq.kept (Only.refl Nil wr).drew).overMap mgd ho7
                have mp7 := (mpq.kept (Only.refl Nil wr).drew (fun hh => hh)).kept ho7 (fun hh => hbg hh.symm)
                have q7 := (qq.drew).kept ho7 hHX
                obtain ⟨cs4, hcs4⟩ := sq.blkOf (g := g4) rfl
                have s7 := (sq.drew).kept ho7 (fun g hg hh => by
                  obtain ⟨cs5, hcs5⟩ := sq.blkOf hg
                  unfold One at hh
                  subst hh
                  exact mgq.no hcs5)
                have e7 : w7.cell? ⟨g4, o4 + j, none⟩ = some (.int .i64 y) := by
                  obtain ⟨g5, o5, y5, hA5, _, hy5, _, hcs5⟩ := (s7.sqn (fun x _ => encZ_len x)).at_ (k := j) (by have := hIl.out; omega)
                  injection hA5 with hA5
                  injection hA5 with hA6 hA7
                  subst hA6 hA7
                  rw [hy] at hy5
                  injection hy5 with hy5
                  subst hy5
                  simpa [encZ] using hcs5 0 (by decide)
                have hB7 := (hBq.drew).trans (ho7.below (Nat.le_trans hBq.size (Nat.le_refl _)) (fun i hi hh => by unfold One at hh; omega))
                generalize gPlus G I (t - m) j y = gy at *
                have ew1 : IntKind.i64.wrap (t - m) = t - m := IntWalk.i64_in _ (by omega)
                have ew2 : IntKind.i64.wrap (gy + (t - m)) = gy + (t - m) := IntWalk.i64_in _ (by omega)
                have hji : (j : Int) < q := by omega
                have b1 : wr.drew.cell? ⟨g4, o4 + j, none⟩ = some (.int .i64 y) ∧ wr.drew.cell? ⟨bx, 2, none⟩ = some (.int .i64 m) ∧ wr.drew.cell? ⟨bx, 3, none⟩ = some (.int .i64 t) := ⟨e1, qq.cell 2, qq.cell 3⟩
                have b2 : w7.cell? ⟨g4, o4 + j, none⟩ = some (.int .i64 y) ∧ w7.cell? ⟨bx, 2, none⟩ = some (.int .i64 m) ∧ w7.cell? ⟨bx, 3, none⟩ = some (.int .i64 t) := ⟨e7, q7.cell 2, q7.cell 3⟩
                clear hcs hy hstep hcs4 e1
                go_wp2
                go_region_held3 (fun w' => w'.cell? ⟨g4, o4 + j, none⟩ = some (.int .i64 y) ∧ w'.cell? ⟨bx, 2, none⟩ = some (.int .i64 m) ∧ w'.cell? ⟨bx, 3, none⟩ = some (.int .i64 t)) (with_reducible (first | exact b1 | exact b2)) (fail)
                all_goals
                  go_wp2
                  go_roundw
                  case rel => exact ⟨j + 1, by omega, by go_num, mg7, lg7, mp7, q7, s7, hB7⟩
                  case measure => simp [intOf]; omega
              · obtain rfl : j = q := by omega
                go_wp2
                go_roundw
                case rel => exact ⟨k + 1, M + 4294967296, C', S', v', L', _, P, n1 + j, m1, by omega, by omega, by go_num, by omega, by omega, by omega, by omega, ⟨⟨lgq, hN4.inv⟩, hb4, mgq, mpq⟩, hBq⟩
                case measure => simp [intOf]; omega
        have e7 : (kd == 7) = false := by simpa using c7
        clear c7
        rcases nv_spend id m hNA ⟨hM0, hMM⟩ hbk with HY | HY
        · replace HY := Lib.hid HY
          clear hbk hNA
          go_wp2_with (first
            | (go_at_call 16; (with_reducible refine HY.out.mono ?_); rintro e w4 ⟨r, v', hr, rfl, hN4, ho4⟩; have mg4 := lgA.noMap mgA ho4; have mp4 := lgA.noMap mpA ho4; have q4 := HBX.out _ ho4; have d0 := q4.cell 0; have d1 := q4.cell 1; have d2 := q4.cell 2; have d3 := q4.cell 3; skip)
            )
          go_roundw
          case rel => exact ⟨k + 1, M, C, S, v', L, G, P, n1, m1, by omega, by omega, by go_num, hM0, by omega, by omega, by omega, ⟨hN4, HBk.out, mg4, mp4⟩, hBA.trans (lgA.bel ho4)⟩
          case measure => simp [intOf]; omega
        · replace HY := Lib.hid HY
          clear hbk hNA
          by_cases hz : m = 0
          · subst hz
            go_wp2_with (first
              | (go_at_call 16; (with_reducible refine HY.out.mono ?_); rintro e w4 ⟨C', S', v', L', rfl, hN4, ho4, hb4⟩; have mg4 := lgA.noMap mgA ho4; have mp4 := lgA.noMap mpA ho4; have q4 := HBX.out _ ho4; have d0 := q4.cell 0; have d1 := q4.cell 1; have d2 := q4.cell 2; have d3 := q4.cell 3; skip)
              )
            go_roundw
            case rel => exact ⟨k + 1, M + 4294967296, C', S', v', L', G, P, n1, m1, by omega, by omega, by go_num, by omega, by omega, by omega, by omega, ⟨hN4, hb4.2.2.2.2.1 (by trivial), mg4, mp4⟩, hBA.trans (lgA.bel ho4)⟩
            case measure => simp [intOf]; omega
          · have hz0 : (m == 0) = false := by simpa using hz
            go_wp2_with (first
              | (go_at_call 16; (with_reducible refine HY.out.mono ?_); rintro e w4 ⟨C', S', v', L', rfl, hN4, ho4, hk1, hk2, hi1, hi2, _, hq⟩; have mg4 := lgA.noMap mgA ho4; have mp4 := lgA.noMap mpA ho4; have q4 := HBX.out _ ho4; have d0 := q4.cell 0; have d1 := q4.cell 1; have d2 := q4.cell 2; have d3 := q4.cell 3; obtain ⟨hb4, hle1, hle2⟩ := hq hz; have l4 := mp4.get hid'; have hq0 := hPq.out hi1; obtain ⟨hq1, hq2⟩ := hq0; obtain ⟨w5, hr5, mp5, ho5⟩ := mp4.put (by omega) (k := id) (y := P id + m) hid' (by unfold i64Ok; omega); have q5 := q4.kept ho5 HXP.out; have g1 := q5.cell 1; have g2 := q5.cell 2; have l5 := mp5.get (k := 0) (by unfold i64Ok; omega); obtain ⟨w6, hr6, mp6, ho6⟩ := mp5.put (by omega) (k := 0) (y := upd P id (P id + m) 0 + m) (by unfold i64Ok; omega) (by unfold i64Ok; omega); have q6 := q5.kept ho6 HXP.out; have j1 := q6.cell 1; have j2 := q6.cell 2; have mg6 := (mg4.kept ho5 (fun hh => hbg hh)).kept ho6 (fun hh => hbg hh); have l6 := mp6.get hid'; have l7 := mg6.get hid'; have l8 := mp6.get (k := 0) (by unfold i64Ok; omega); have l9 := mg6.get (k := 0) (by unfold i64Ok; omega); have hle1' : upd (upd P id (P id + m)) 0 (upd P id (P id + m) 0 + m) id ≤ G id := hle1; have hle2' : upd (upd P id (P id + m)) 0 (upd P id (P id + m) 0 + m) 0 ≤ G 0 := hle2)
              )
            go_roundw
            case rel => exact ⟨k + 1, M + 4294967296, C', S', v', L', G, _, n1, m1 + 2, by omega, by omega, by go_num, by omega, by omega, by omega, by omega, ⟨⟨(hN4.lg.overMap mp4 ho5).overMap mp5 ho6, hN4.inv⟩, hb4, mg6, mp6⟩, ((hBA.trans (lgA.bel ho4)).trans (ho5.below hN4.lg.sz (fun i hi hh => by unfold One at hh; omega))).trans (ho6.below (Nat.le_trans hN4.lg.sz ho5.size) (fun i hi hh => by unfold One at hh; omega))⟩
            case measure => simp [intOf]; omega
      · clear hR
        go_wp2
        go_ret
        exact ⟨rfl, hB⟩
    · clear hR
      go_wp2
      go_ret
      exact ⟨rfl, hB⟩
/-! The step from the walk to the statement of CreditNever. -/
namespace frCreditNever
open Go.ChangeShapes Go.WideShapes Go.ChangeAt Go.RowKit
set_option linter.unusedVariables false
theorem own : ownKnob Try.prog.godebug = none := by kernel_rfl
theorem laidOut : laidOutB Try.prog = true := by kernel_rfl
theorem shape0 : Kd.ok Try.prog (.int .u32) 38 = true := by kernel_rfl
theorem shape1 : Kd.ok Try.prog (.slc (.agg [.int .i64, .int .i64, .int .i64, .int .i64])) 22 = true := by kernel_rfl
set_option maxRecDepth 100000 in
theorem contract (H : Type) (enc : TypeId × Value → H) (W : World) (base : Nat) (args : Array Value) (ds gs : List (DataW H)) (before : List MemPlace)
    (hval : ∀ (j : Nat) t v, Try.f4.params[j]? = some t → args[j]? = some v → Value.okWide Try.prog W .any base t v)
    (hW : DataW.Whole enc Try.prog Try.f4.params.toList Rows.creditNeverSpec.vars false W args.toList ds gs before) :
    Calls Try.prog 4 args W fun e W' => ∃ v, e = .returned v ∧ Rows.creditNeverSpec.post enc Try.prog Try.f4 false true false false W args v W' := by
  have hW' := hW
  obtain ⟨p, q, hA0, hV, rfl, hfz, hnd⟩ := hW
  have hA : DataW.TrodAll enc Try.prog W 0 (fun _ => true) true Try.f4.params.toList args.toList ds p := hA0
  rw [Try.params4] at hA hval
  obtain ⟨v0, vs0, d0, ds0, p0, q0, hargs, rfl, rfl, h0, r0⟩ := trodAll_cons hA
  obtain ⟨v1, vs1, d1, ds1, p1, q1, rfl, rfl, rfl, h1, r1⟩ := trodAll_cons r0
  obtain ⟨rfl, rfl, rfl⟩ := trodAll_nil r1
  obtain rfl : args = #[v0, v1] := by cases args; simp_all
  obtain ⟨rfl, rfl⟩ := trodVars_none hV
  have k0 := Kd.fit _ shape0 (hval 0 38 v0 rfl rfl) h0
  have lt0 : ∀ x ∈ p0, x.block < W.heap.size := by obtain ⟨m, hm⟩ := h0; exact DataW.trod_lt m _ _ _ hm
  have k1 := Kd.fit _ shape1 (hval 1 22 v1 rfl rfl) h1
  have lt1 : ∀ x ∈ p1, x.block < W.heap.size := by obtain ⟨m, hm⟩ := h1; exact DataW.trod_lt m _ _ _ hm
  refine (creditNever_walk v0 v1 W k0 k1).mono fun e W' ⟨he, bel⟩ => ?_
  subst he
  exact ⟨_, rfl, _, _, _, [], _, [], hW', trodAll_mk1 (shut_bool Try.underlying4 _), (trodAll_cons_mk (Below.trod laidOut (by kernel_rfl) (of_decide_eq_true (by kernel_rfl)) h0 bel lt0) (trodAll_cons_mk (Below.trod laidOut (by kernel_rfl) (of_decide_eq_true (by kernel_rfl)) h1 bel lt1) trodAll_mk0)), rfl, bel.frame _, fun h => by cases h⟩
set_option maxRecDepth 100000 in
theorem lifted (os : Os) (started : os.Started) (H : Type) (enc : TypeId × Value → H) :
    ReturnsInHanded {} Try.checked os 4 .any (Rows.creditNeverSpec.pre6 enc Try.prog Try.f4 Rows.creditNeverRow.domain false) (Rows.creditNeverSpec.post enc Try.prog Try.f4 false true false false) := by
  refine returnsInHanded_of_change (C := Try.checked) own started (by kernel_rfl) Try.func4
    (ChangeSpec.witness6 (enc := enc) (C := Try.checked) false ⟨#[], #[.int .u32 0, .slice none 0 0], []⟩ 8 (by kernel_rfl) (by kernel_rfl) (by kernel_rfl) (by kernel_rfl)) ?_
  intro W base args ds gs before hval hW _ _
  exact contract H enc W base args ds gs before hval hW
theorem over : Rows.creditNeverRow.holds Try.pinned (OpenSpec.ofChange Rows.creditNeverSpec) :=
  OpenClaim.holds_of_wide 4 Try.f4 rfl rfl rfl rfl rfl rfl rfl ⟨rfl, rfl, rfl, rfl, rfl⟩ rfl rfl rfl rfl rfl (by kernel_rfl) Try.func4 (by kernel_rfl)
    (of_decide_eq_true (by kernel_rfl)) (by unfold Func.isWrapper; first | (rw [if_pos (by decide +kernel)]; kernel_rfl) | (rw [if_neg (by decide +kernel)]; exact ⟨rfl, rfl⟩))
    (fun os started H enc _ => lifted os started H enc)
theorem proved : Rows.CreditNeverSaid := over
end frCreditNever
end Go.Proofs.Ytlnemadkggfmbaa
