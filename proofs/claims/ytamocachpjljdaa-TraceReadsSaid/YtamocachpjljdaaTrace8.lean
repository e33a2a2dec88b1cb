/- The document's own for traces: what bytes are as a trace. -/
import Derived.Test.YtamocachpjljdaaTrace5
import Derived.Deep.DeepCutAuto
import Derived.Deep.RegionLaw
namespace Go.Proofs.Ytamocachpjljdaa
open Go.RowKit

theorem idx_dec (S : ByteArray) (i : Nat) (h : i < S.size) : decN ((S.data.toList.drop i).take 1) = (S[i].toNat : Int) := by
  have hl : i < S.data.toList.length := by simpa using h
  have e : S.data.toList.drop i = S[i] :: S.data.toList.drop (i + 1) := by
    rw [List.drop_eq_getElem_cons hl]
    rfl
  rw [e]
  simp [decN]
theorem RN_sub (X : ByteArray) (a b : Nat) (hab : a ≤ b) (h4 : b - a ≤ 4) (w : World) : Calls Try.prog 26 #[.string (X.extract a b)] w fun x w' => x = .returned (.int .i64 (decN ((X.data.toList.drop a).take (b - a)))) ∧ w = w' := by
  have e : X.extract a b = strOf ((X.data.toList.drop a).take (b - a)) := by
    have := ext_mid X a (b - a)
    rw [show a + (b - a) = b by omega] at this
    exact this
  have := RN_any (X.extract a b) w (by rw [e, strOf_size, List.length_take]; omega)
  rw [e, strOf_toList] at this
  rw [e]
  exact this
set_option maxRecDepth 100000 in
set_option maxHeartbeats 64000000 in
theorem RRead_any (S : ByteArray) (w : World) (hb : S.size ≤ 131072) : Calls Try.prog 14 #[.string S] w (RPost w (rdOut S.data.toList)) := by
  obtain ⟨R, hR⟩ : ∃ R, R = rdOut S.data.toList := ⟨_, rfl⟩
  rw [← hR]
  have HRO := Lib.hid hR
  have HSZ : Hid (S.data.toList.length = S.size) := Lib.hid (by simp)
  clear hR
  go_enter Try.func14, Try.ntmps14
  go_wp2
  go_loopw [5, 6] (fun ov av wr => ∃ (at_ : Nat) (acc : List Mv) (k : Nat) (AO : Option Addr) (cO : Nat), at_ ≤ S.size ∧ av = .int .i64 at_ ∧ ov = .slice AO k cO ∧ Ow encM 5 wr w.heap.size 28 (.slice AO k cO) acc ∧ k ≤ 256 ∧ Hid (rd S.data.toList 0 = (acc ++ (rd (S.data.toList.drop at_) k).1, at_ + (rd (S.data.toList.drop at_) k).2.1, (rd (S.data.toList.drop at_) k).2.2)) ∧ Only Nil w wr) (fun _ av _ => S.size - (intOf av).toNat)
  case atStart =>
    exact ⟨0, [], 0, none, 0, Nat.zero_le _, rfl, rfl, Ow.nil, Nat.zero_le _, Lib.hid (by simp), Only.refl _ _⟩
  case round =>
    obtain ⟨at_, acc, k, AO, cO, hat, rfl, rfl, hO, hk, hrd, ho⟩ := hrel
    obtain ⟨T, hT⟩ : ∃ T, T = S.data.toList.drop at_ := ⟨_, rfl⟩
    have HTL : Hid (T.length = S.size - at_) := Lib.hid (by rw [hT, List.length_drop, HSZ.out])
    have HXT : Hid (S.extract at_ S.size = strOf T) := Lib.hid (by rw [hT]; exact ext_drop S at_)
    have HDR : Hid (∀ j, S.data.toList.drop (at_ + j) = T.drop j) := Lib.hid (fun j => by rw [hT, List.drop_drop])
    rw [← hT] at hrd
    have HERR := Lib.hid (@errAt_len T)
    have HE0 := Lib.hid (@rd_err T k)
    have HE1 := Lib.hid (@rd_big T k)
    have HE2 := Lib.hid (@rd_step T k)
    have HE3 := Lib.hid (@rd_end T k)
    have HO := Lib.hid ho
    have HW := Lib.hid hO
    clear hT hO ho
    by_cases h0 : at_ < S.size
    · have h0' : (at_ : Int) < S.size := by omega
      have hTn : T.length ≠ 0 := by rw [HTL.out]; omega
      have HTN := Lib.hid hTn
      go_upto_region 5 with fail
      generalize S.extract at_ S.size = X at *
      obtain ⟨tl, htl⟩ : ∃ tl, tl = S.size - at_ := ⟨_, rfl⟩
      have hTl : T.length = tl := by rw [HTL.out, htl]
      have HTT := Lib.hid hTl
      have hXs : X.size = tl := by rw [HXT.out, strOf_size, hTl]
      have HXL : Hid (X.data.toList = T) := Lib.hid (by rw [HXT.out]; rfl)
      have htl2 : at_ + tl = S.size := by omega
      clear HTL htl hTn hTl
      by_cases h12 : tl < 12
      · have h12' : (tl : Int) < 12 := by omega
        have he : errAt T = 5 := by unfold errAt; rw [if_pos (by rw [HTT.out]; exact h12)]
        have hRR : R = ([], at_, 5) := by
          rw [HRO.out]
          unfold rdOut
          rw [hrd.out, HE0.out HTN.out (by rw [he]; decide), he]
          simp
        subst hRR
        clear hrd HE0 HE1 HE2 HE3 HERR HXT he HRO
        go_wp2
        go_ret3
        exact ⟨none, 0, rfl, Ow.nil, HO.out⟩
      · have h12' : ¬ (tl : Int) < 12 := by omega
        have hlr := decN_range ((T.drop 10).take 2)
        rw [show decN ((T.drop 10).take 2) = lenS T from rfl, List.length_take, List.length_drop, HTT.out, Nat.min_eq_left (by omega)] at hlr
        obtain ⟨nn, hnn⟩ : ∃ nn : Nat, lenS T = nn := ⟨(lenS T).toNat, by omega⟩
        have hnb : nn < 65536 := by have := hlr.2; rw [hnn] at this; omega
        have hR10 := fun W => RN_sub X 10 12 (by decide) (by decide) W
        have hR2 := fun W => RN_sub X 2 6 (by decide) (by decide) W
        have hR6 := fun W => RN_sub X 6 10 (by decide) (by decide) W
        rw [HXL.out] at hR10 hR2 hR6
        have hla : lenAt T = 12 + nn := by unfold lenAt; rw [hnn]; rfl
        have HLA := Lib.hid hla
        have hR10' : ∀ W, Calls Try.prog 26 #[.string (X.extract 10 12)] W fun x w' => x = .returned (.int .i64 nn) ∧ W = w' := fun W => by
          have := hR10 W
          rw [show decN ((T.drop 10).take (12 - 10)) = nn from hnn] at this
          exact this
        have HR10 := Lib.hid hR10'
        clear hR10 hR10' hlr
        by_cases hln : tl < 12 + nn
        · have hln' : (tl : Int) < 12 + nn := by omega
          have he : errAt T = 5 := by unfold errAt; rw [if_neg (by rw [HTT.out]; exact h12), if_pos (by rw [HTT.out, hla]; exact hln)]
          have hRR : R = ([], at_, 5) := by
            rw [HRO.out]
            unfold rdOut
            rw [hrd.out, HE0.out HTN.out (by rw [he]; decide), he]
            simp
          subst hRR
          clear hrd HE0 HE1 HE2 HE3 HERR HXT he HRO hla hR2 hR6 hnn
          go_wp2_with (first
            | (go_at_call 26; (with_reducible refine (HR10.out _).mono ?_); rintro e w1 ⟨rfl, rfl⟩)
            )
          go_ret3
          exact ⟨none, 0, rfl, Ow.nil, HO.out⟩
        · have hln' : ¬ (tl : Int) < 12 + nn := by omega
          have i0 : 0 < X.size := by omega
          have i1 : 1 < X.size := by omega
          have e0 := idx_dec X 0 i0
          have e1 := idx_dec X 1 i1
          rw [HXL.out] at e0 e1
          have hmv : mvAt T = ⟨(X[0].toNat : Int), (X[1].toNat : Int) == 1, decN ((T.drop 2).take 4), decN ((T.drop 6).take 4), X.extract 12 (12 + nn)⟩ := by
            unfold mvAt endAt
            rw [← e0, e1, hnn, show ((nn : Int)).toNat = nn from rfl, ext_mid, HXL.out]
            rfl
          have hend : endAt T = X[1].toNat := e1
          have heq : errAt T = if 1 < endAt T ∨ rightM (mvAt T) = false then 6 else 0 := by unfold errAt; rw [if_neg (by rw [HTT.out]; exact h12), if_neg (by rw [HTT.out, hla]; exact hln)]
          have HMV := Lib.hid hmv
          have HEND := Lib.hid hend
          have HEQ := Lib.hid heq
          have HR2 := Lib.hid hR2
          have HR6 := Lib.hid hR6
          clear hmv hend heq e0 e1 hR2 hR6 hnn hla HXT
          generalize decN ((T.drop 2).take 4) = st at *
          generalize decN ((T.drop 6).take 4) = sn at *
          go_wp2_with (first
            | (go_at_call 26; (with_reducible refine (HR10.out _).mono ?_); rintro e w1 ⟨rfl, rfl⟩)
            )
          have hl1 : IntKind.i64.wrap (12 + (nn : Int)) = 12 + nn := IntWalk.i64_in _ (by omega)
          have q0 : 0 < tl := by omega
          have q1 : 1 < tl := by omega
          have j0 : (0 : Int) < tl := by omega
          have j1 : (1 : Int) < tl := by omega
          have j6 : (6 : Int) ≤ tl := by omega
          have j10 : (10 : Int) ≤ tl := by omega
          have j12 : (12 + nn : Int) ≤ tl := by omega
          have jn : (12 : Int) ≤ 12 + nn := by omega
          have hX0 : IntKind.i64.wrap (X[0].toNat : Int) = X[0].toNat := IntWalk.i64_in _ (by have := X[0].toNat_lt; omega)
          go_cut [9] (fun z wx => ∃ (B : Nat) (s5 : ByteArray) (b5 : Bool), z = .pointer (some ⟨B, 0, none⟩) ∧ Blk wx B 28 #[.int .i64 X[0].toNat, .int .i64 st, .int .i64 sn, .string s5, .bool b5] ∧ Hid (s5 = X.extract 12 (12 + nn)) ∧ Hid (b5 = ((X[1].toNat : Int) == 1)) ∧ Only Nil wr wx)
          case first =>
            go_region_held3 (fun _ => True) (exact trivial) (first
              | (go_at_call 26; (with_reducible refine (HR6.out _).mono ?_); rintro e w4 ⟨rfl, rfl⟩)
              | (go_at_call 26; (with_reducible refine (HR2.out _).mono ?_); rintro e w3 ⟨rfl, rfl⟩)
              )
            all_goals
              go_wp2_with fail
              go_meet
              refine ⟨_, X.extract 12 (12 + nn), ((X[1].toNat : Int) == 1), rfl, ?_, Lib.hid rfl, Lib.hid rfl, ((Only.refl Nil wr).alloc _).drew⟩
              try rw [hX0]
              rw [show (12 + (nn : Int)).toNat = 12 + nn by omega]
              exact (Blk.new _ _ _).drew
          case rest =>
            obtain ⟨B, s5, b5, rfl, hBk, hs5, hb5, hoc⟩ := hcut
            have hmm : mvAt T = ⟨(X[0].toNat : Int), b5, st, sn, s5⟩ := by rw [HMV.out, hb5.out, hs5.out]
            have HMM := Lib.hid hmm
            have HOC := Lib.hid (HO.out.trans hoc)
            have HWC := Lib.hid (HW.out.kept hoc (fun _ _ hh => hh))
            have hRt := Lib.hid (fun W => RRight_any ⟨(X[0].toNat : Int), b5, st, sn, s5⟩ W)
            have HBK := Lib.hid hBk
            have g0 := hBk.cell 0
            have g1 := hBk.cell 1
            have g2 := hBk.cell 2
            have g3 := hBk.cell 3
            have g4 := hBk.cell 4
            have zB := hBk.lt
            clear hBk hoc hs5 hb5 hmm HMV
            have hE6 : errAt T = 6 → R = ([], at_, 6) := fun he => by
              rw [HRO.out]
              unfold rdOut
              rw [hrd.out, HE0.out HTN.out (by rw [he]; decide), he]
              simp
            by_cases ha : 1 < (X[1].toNat : Int)
            · have hRR : R = ([], at_, 6) := hE6 (by rw [HEQ.out, if_pos (.inl (by rw [HEND.out]; exact ha))])
              subst hRR
              clear hrd HE0 HE1 HE2 HE3 HERR HRO hE6 HEQ hRt
              go_wp2
              go_ret3
              exact ⟨none, 0, rfl, Ow.nil, HOC.out⟩
            · cases hr : rightM ⟨(X[0].toNat : Int), b5, st, sn, s5⟩
              · have hRR : R = ([], at_, 6) := hE6 (by rw [HEQ.out, if_pos (.inr (by rw [HMM.out]; exact hr))])
                subst hRR
                rw [hr] at hRt
                clear hrd HE0 HE1 HE2 HE3 HERR HRO hE6 HEQ hr
                go_wp2_with (first
                  | (go_at_call 10; (with_reducible refine (hRt.out _).mono ?_); rintro e w3 ⟨rfl, ho3⟩)
                  )
                go_ret3
                exact ⟨none, 0, rfl, Ow.nil, HOC.out.trans ho3⟩
              · have he : errAt T = 0 := by
                  rw [HEQ.out, if_neg]
                  rintro (hh | hh)
                  · exact ha (by rw [← HEND.out]; exact hh)
                  · rw [HMM.out, hr] at hh; cases hh
                rw [hr] at hRt
                by_cases hk2 : k = 256
                · subst hk2
                  have hRR : R = ([], at_, 4) := by
                    rw [HRO.out]
                    unfold rdOut
                    rw [hrd.out, HE1.out HTN.out he (Nat.le_refl _)]
                    simp
                  subst hRR
                  clear hrd HE0 HE1 HE2 HE3 HERR HRO hE6 HEQ hr he
                  go_wp2_with (first
                    | (go_at_call 10; (with_reducible refine (hRt.out _).mono ?_); rintro e w3 ⟨rfl, ho3⟩)
                    )
                  go_ret3
                  exact ⟨none, 0, rfl, Ow.nil, HOC.out.trans ho3⟩
                · have hk3 : (k : Int) < 256 := by omega
                  have hk4 : ¬ (256 : Int) ≤ k := by omega
                  have HRD : Hid (rd S.data.toList 0 = ((acc ++ [⟨(X[0].toNat : Int), b5, st, sn, s5⟩]) ++ (rd (S.data.toList.drop (at_ + 12 + nn)) (k + 1)).1, (at_ + 12 + nn) + (rd (S.data.toList.drop (at_ + 12 + nn)) (k + 1)).2.1, (rd (S.data.toList.drop (at_ + 12 + nn)) (k + 1)).2.2)) := Lib.hid (by
                    rw [Nat.add_assoc, HDR.out (12 + nn), hrd.out, HE2.out HTN.out he (by omega), HLA.out, HMM.out, List.append_assoc]
                    simp only [List.cons_append, List.nil_append, Prod.mk.injEq, and_true, true_and]
                    omega)
                  have HL1 : Hid (acc.length + [(⟨(X[0].toNat : Int), b5, st, sn, s5⟩ : Mv)].length = k + 1) := Lib.hid (by rw [← HW.out.len.1]; rfl)
                  have hs1 : IntKind.i64.wrap ((at_ : Int) + 12) = at_ + 12 := IntWalk.i64_in _ (by omega)
                  have hs2 : IntKind.i64.wrap ((at_ : Int) + 12 + nn) = at_ + 12 + nn := IntWalk.i64_in _ (by omega)
                  clear hrd HE0 HE1 HE2 HE3 HERR HRO hE6 HEQ hr he
                  generalize (X[0].toNat : Int) = x0 at *
                  go_wp2_with (first
                    | (go_at_call 10; (with_reducible refine (hRt.out _).mono ?_); rintro e w3 ⟨rfl, ho3⟩; have HB3 := Lib.hid (HBK.out.kept ho3 (fun hh => hh)); have hb3 := HBK.out.kept ho3 (fun hh => hh); have p0 := hb3.cell 0; have p1 := hb3.cell 1; have p2 := hb3.cell 2; have p3 := hb3.cell 3; have p4 := hb3.cell 4; have z3 := hb3.lt; have hW4 := Lib.hid ((HWC.out.kept ho3 (fun _ _ hh => hh)).alloc (.cells #[.int .i64 x0, .int .i64 st, .int .i64 sn, .string s5, .bool b5] 28)); have HO4 := Lib.hid ((HOC.out.trans ho3).alloc (.cells #[.int .i64 x0, .int .i64 st, .int .i64 sn, .string s5, .bool b5] 28)); have T14 := Lib.hid (Src.one (P := Try.prog) (enc := encM) (tx := 22) Try.underlying22 ⟨x0, b5, st, sn, s5⟩ 1 rfl (Blk.new w3 28 #[.int .i64 x0, .int .i64 st, .int .i64 sn, .string s5, .bool b5]) rfl (encM_one _)); clear ho3 hb3)
                    | (at_builtin
                       refine wpList_app2 rfl (.tmp 60) (.tmp 62) _ _ rfl w.heap.size 28 Try.underlying22 mv_info rfl _ acc rfl hW4.out _ [⟨x0, b5, st, sn, s5⟩] rfl T14.out (by rw [HL1.out]; omega) (by decide) HO4.out.size (k + 1) HL1.out _ rfl ?_
                       intro A6 c6 w6 hown6 ho6 hg6
                       have HO6 := Lib.hid (HO4.out.own_nil hW4.out ho6)
                       clear ho6 hg6)
                    )
                  go_roundw
                  case rel => exact ⟨at_ + 12 + nn, acc ++ [⟨x0, b5, st, sn, s5⟩], k + 1, A6, c6, by omega, by go_num, rfl, hown6, by omega, HRD, HO6.out⟩
                  case measure => simp [intOf]; omega
    · obtain rfl : at_ = S.size := by omega
      have h0' : ¬ (S.size : Int) < S.size := by omega
      have hRR : R = (acc, S.size, 0) := by
        rw [HRO.out]
        unfold rdOut
        rw [hrd.out, HE3.out (by rw [HTL.out]; omega)]
        simp
      subst hRR
      clear hrd HE0 HE1 HE2 HE3 HERR HRO
      go_wp2
      go_ret3
      refine ⟨AO, cO, ?_, ?_, HO.out⟩
      · rw [← HW.out.len.1]
        rfl
      · rw [← HW.out.len.1]
        exact HW.out
end Go.Proofs.Ytamocachpjljdaa
