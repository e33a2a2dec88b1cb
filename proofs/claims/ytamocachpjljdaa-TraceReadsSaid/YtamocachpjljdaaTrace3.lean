/- A trace read: all moves. -/
import Derived.Test.YtamocachpjljdaaTrace2
namespace Go.Proofs.Ytamocachpjljdaa
open Go.RowKit

theorem encM_one : ∀ x, ∀ u ∈ encM x, u.oneCell' = true := fun x u hu => by
  simp only [encM, List.mem_cons, List.not_mem_nil, or_false] at hu
  rcases hu with rfl | rfl | rfl | rfl | rfl <;> rfl
theorem mv_info : (Try.prog.info? 28).map (fun i => (i.zero, i.size, i.bytes)) = some (some (.agg (mvC mv0)), 5, 48) := by kernel_rfl
def rdO (S : ByteArray) : List Mv × Nat × Int := if 131072 < S.size then ([], 0, 4) else rdOut S.data.toList
theorem blk_ne {w : World} {a b : Nat} {t t' : TypeId} {cs cs' : Array Value} (h : Blk w a t cs) (h' : Blk w b t' cs') (hn : t ≠ t') : a ≠ b := fun e => by
  subst e
  unfold Blk at h h'
  rw [h] at h'
  injection h' with h'
  injection h' with _ h'
  exact hn h'
def RPost (w : World) (r : List Mv × Nat × Int) (x : Ending) (w' : World) : Prop := ∃ A c, x = .returned (.tuple #[.slice A r.1.length c, .int .i64 r.2.1, .int .i64 r.2.2]) ∧ Ow encM 5 w' w.heap.size 28 (.slice A r.1.length c) r.1 ∧ Only Nil w w'
theorem lenAt_pos (T : List UInt8) : 12 ≤ lenAt T := by unfold lenAt; omega
theorem errAt_len {T : List UInt8} (h : errAt T = 0) : lenAt T ≤ T.length := by
  unfold errAt at h
  split at h
  · cases h
  · split at h
    · cases h
    · omega
theorem errAt_bd (T : List UInt8) : 0 ≤ errAt T ∧ errAt T ≤ 6 := by
  unfold errAt
  split
  · decide
  · split
    · decide
    · split <;> decide
set_option maxRecDepth 100000 in
set_option maxHeartbeats 8000000 in
theorem TRead_any (S : ByteArray) (w : World) : Calls Try.prog 13 #[.string S] w (RPost w (rdO S)) := by
  obtain ⟨R, hR⟩ : ∃ R, R = rdO S := ⟨_, rfl⟩
  rw [← hR]
  have HR := Lib.hid hR
  clear hR
  by_cases hbig : 131072 < S.size
  · have hbig' : (131072 : Int) < S.size := by omega
    have e : R = ([], 0, 4) := by rw [HR.out]; unfold rdO; rw [if_pos hbig]
    subst e
    go_enter Try.func13, Try.ntmps13
    go_wp2
    go_ret3
    exact ⟨_, _, rfl, Ow.nil, Only.refl _ _⟩
  · have hbig' : ¬ (131072 : Int) < S.size := by omega
    have hsb : (S.size : Int) ≤ 131072 := by omega
    have HRO : Hid (R = rdOut S.data.toList) := Lib.hid (by rw [HR.out]; unfold rdO; rw [if_neg hbig])
    have HSZ : Hid (S.data.toList.length = S.size) := Lib.hid (by simp)
    go_enter Try.func13, Try.ntmps13
    go_wp2_with (first
      | (go_at_call 23; (with_reducible refine (Over_any S _).mono ?_); rintro e w1 ⟨b, rfl, hb, ho1, hS1⟩; have HS1 := Lib.hid hS1; have HO1 := Lib.hid ho1; clear hS1 ho1)
      | (go_at_call 24; (with_reducible refine (fields_any _ _).mono ?_); rintro e w2 ⟨g, rfl, hg, ho2, hK2⟩; have HO2 := Lib.hid (HO1.out.trans ho2); have HS2 : Hid (Sl w2 b S.data.toList false) := Lib.hid (HS1.out.kept ho2 (fun hh => hh)); have HK2 := Lib.hid hK2; clear ho2 hK2)
      )
    go_loopw [7] (fun lv wr => ∃ (T : List UInt8) (acc : List Mv) (k : Nat) (AO : Option Addr) (cO : Nat), lv = .slice AO k cO ∧ Ow encM 5 wr w.heap.size 28 (.slice AO k cO) acc ∧ Sl wr b T false ∧ Blk wr g 51 #[.pointer (some ⟨b, 0, none⟩)] ∧ k ≤ 256 ∧ T.length ≤ S.size ∧ Hid (rd S.data.toList 0 = (acc ++ (rd T k).1, (S.size - T.length) + (rd T k).2.1, (rd T k).2.2)) ∧ Only Nil w wr) (fun lv _ => match lv with | .slice _ n _ => 257 - n | _ => 0)
    case atStart =>
      exact ⟨S.data.toList, [], 0, none, 0, rfl, Ow.nil, HS2.out, HK2.out, Nat.zero_le _, Nat.le_of_eq HSZ.out, Lib.hid (by rw [HSZ.out]; simp), HO2.out⟩
    case round =>
      clear hg
      obtain ⟨T, acc, k, AO, cO, rfl, hO, hS, hK, hk, hT, hrd, ho⟩ := hrel
      have hLf := fun W (hs : Sl W b T false) => Left_any b (strOf T) false W hs
      rw [strOf_size] at hLf
      have HLf := Lib.hid hLf
      have HF := Lib.hid (fields1_any g b T wr hK hS)
      have HERR := Lib.hid (@errAt_len T)
      have HE0 := Lib.hid (@rd_err T k)
      have HE1 := Lib.hid (@rd_big T k)
      have HE2 := Lib.hid (@rd_step T k)
      have HE3 := Lib.hid (@rd_end T k)
      have hgb : g ≠ b := blk_ne hK (show Sc _ _ _ _ from hS) (by decide)
      have HOB : Hid (∀ i, (Value.slice AO k cO).ownBlock = some i → i ≠ b) := Lib.hid (fun i hi e => hO.ne (b := b) (show Sc _ _ _ _ from hS) (by decide) (e ▸ hi))
      have HOG : Hid (∀ i, (Value.slice AO k cO).ownBlock = some i → i ≠ g) := Lib.hid (fun i hi e => hO.ne (b := g) hK (by decide) (e ▸ hi))
      have HS := Lib.hid hS
      have HK := Lib.hid hK
      have HO := Lib.hid ho
      have HW := Lib.hid hO
      have hLen := hO.len.1
      have HLEN := Lib.hid hLen
      clear hO hS hK ho hLf hLen
      obtain ⟨tl, htl⟩ : ∃ tl, tl = T.length := ⟨_, rfl⟩
      have HTL := Lib.hid htl
      rw [← htl] at HLf hT
      clear htl
      by_cases h0 : tl = 0
      · subst h0
        have hRR : R = (acc, S.size, 0) := by
          rw [HRO.out]
          unfold rdOut
          rw [hrd.out, HE3.out HTL.out.symm]
          simp [← HTL.out]
        subst hRR
        clear HLEN HF HERR HE0 HE1 HE2 HE3 HR HRO hrd
        go_wp2_with (first
          | (go_at_call 25; (with_reducible refine (HLf.out _ HS.out).mono ?_); rintro e w3 ⟨rfl, rfl⟩)
          )
        go_ret3
        refine ⟨AO, cO, ?_, ?_, HO.out⟩
        · rw [← HW.out.len.1]
          rfl
        · rw [← HW.out.len.1]
          exact HW.out
      · have h0' : (0 : Int) < tl := by omega
        have hTn : T.length ≠ 0 := by rw [← HTL.out]; exact h0
        have HAT : Hid (((S.size - T.length : Nat) : Int) = S.size - tl) := Lib.hid (by have := HTL.out; omega)
        unfold FPost at HF
        by_cases he : errAt T = 0
        · have HERQ := Lib.hid he
          have HST := Lib.hid (HERR.out he)
          simp only [he, if_true] at HF
          by_cases hk2 : k = 256
          · subst hk2
            have hRR : R = ([], S.size - T.length, 4) := by
              rw [HRO.out]
              unfold rdOut
              rw [hrd.out, HE1.out hTn he (Nat.le_refl _)]
              simp
            subst hRR
            clear HERR HE0 HE1 HE2 HE3 HR HRO hrd he hTn
            obtain ⟨wh, en, st, nn, s⟩ := mvAt T
            go_wp2_with (first
              | (go_at_call 25; (with_reducible refine (HLf.out _ HS.out).mono ?_); rintro e w3 ⟨rfl, rfl⟩)
              | (go_at_call 30; (with_reducible refine (HF.out).mono ?_); rintro e w4 ⟨rfl, ho4, hS4⟩; have HO4 := Lib.hid ho4; clear ho4 hS4)
              )
            go_ret3
            exact ⟨none, 0, by rw [HAT.out]; rfl, Ow.nil, ((HO.out.trans_new (S' := One b) HO4.out (fun i hi hh => by unfold One at hh; omega)).alloc _)⟩
          · have hk3 : (k : Int) < 256 := by omega
            have hk4 : ¬ (256 : Int) ≤ k := by omega
            have HRD : Hid (rd S.data.toList 0 = ((acc ++ [mvAt T]) ++ (rd (T.drop (lenAt T)) (k + 1)).1, (S.size - (T.drop (lenAt T)).length) + (rd (T.drop (lenAt T)) (k + 1)).2.1, (rd (T.drop (lenAt T)) (k + 1)).2.2)) := Lib.hid (by
              have := HTL.out
              have h2 := HST.out
              rw [hrd.out, HE2.out hTn he (by omega), List.append_assoc]
              simp only [List.length_drop, List.cons_append, List.nil_append, Prod.mk.injEq, and_true, true_and]
              omega)
            have HL1 : Hid (acc.length + [mvAt T].length = k + 1) := Lib.hid (by rw [← HLEN.out]; rfl)
            have HDL : Hid ((T.drop (lenAt T)).length ≤ S.size) := Lib.hid (by have := HTL.out; rw [List.length_drop]; omega)
            clear HERR HE0 HE1 HE2 HE3 HR hrd he hTn HLEN
            generalize mvAt T = mv at *
            generalize T.drop (lenAt T) = T' at *
            obtain ⟨wh, en, st, nn, s⟩ := mv
            simp only [mvV] at HF
            go_wp2_with (first
              | (go_at_call 25; (with_reducible refine (HLf.out _ HS.out).mono ?_); rintro e w3 ⟨rfl, rfl⟩)
              | (go_at_call 30; (with_reducible refine (HF.out).mono ?_); rintro e w4 ⟨rfl, ho4, hS4⟩; have HO4 := Lib.hid (HO.out.trans_new (S' := One b) ho4 (fun i hi hh => by unfold One at hh; omega)); have hO4 := HW.out.kept ho4 (fun i hi hh => by exact HOB.out i hi hh); have hW4 := Lib.hid ((hO4.alloc (.cells (mvC ⟨wh, en, st, nn, s⟩) 28)).alloc (.cells (mvC ⟨wh, en, st, nn, s⟩) 28)); have HO42 := Lib.hid ((HO4.out.alloc (.cells (mvC ⟨wh, en, st, nn, s⟩) 28)).alloc (.cells (mvC ⟨wh, en, st, nn, s⟩) 28)); have HN4 : Hid (Blk ((w4.alloc (.cells (mvC ⟨wh, en, st, nn, s⟩) 28)).alloc (.cells (mvC ⟨wh, en, st, nn, s⟩) 28)) (w4.heap.size + 1) 28 (mvC ⟨wh, en, st, nn, s⟩)) := Lib.hid (by have := Blk.new (w4.alloc (.cells (mvC ⟨wh, en, st, nn, s⟩) 28)) 28 (mvC ⟨wh, en, st, nn, s⟩); simpa using this); have T14 := Lib.hid (Src.one (P := Try.prog) (enc := encM) (tx := 22) Try.underlying22 ⟨wh, en, st, nn, s⟩ 1 rfl HN4.out rfl (encM_one _)); have HS4 := Lib.hid (hS4 trivial); have HK4 := Lib.hid (HK.out.kept ho4 hgb); clear ho4 hS4 hO4)
              | (at_builtin
                 refine wpList_app2 rfl (.tmp 41) (.tmp 43) _ _ rfl w.heap.size 28 Try.underlying22 mv_info rfl _ acc rfl hW4.out _ [⟨wh, en, st, nn, s⟩] rfl T14.out (by rw [HL1.out]; omega) (by decide) HO42.out.size (k + 1) HL1.out _ rfl ?_
                 intro A6 c6 w6 hown6 ho6 hg6
                 have HO6 := Lib.hid (HO42.out.own_nil hW4.out ho6)
                 have HS6 : Hid (Sc w6 b (strOf T') false) := Lib.hid ((((show Sc _ _ _ _ from HS4.out).alloc _).alloc _).kept ho6 (fun hh => HOB.out b hh rfl))
                 have HK6 := Lib.hid (((HK4.out.alloc (.cells (mvC ⟨wh, en, st, nn, s⟩) 28)).alloc (.cells (mvC ⟨wh, en, st, nn, s⟩) 28)).kept ho6 (fun hh => HOG.out g hh rfl))
                 clear ho6 hg6)
              )
            go_roundw
            case rel => exact ⟨T', acc ++ [⟨wh, en, st, nn, s⟩], k + 1, A6, c6, rfl, hown6, HS6.out, HK6.out, by omega, HDL.out, HRD, HO6.out⟩
            case measure => show 257 - (k + 1) < 257 - k; omega
        · have HERQ := Lib.hid he
          simp only [he, if_false] at HF
          have hRR : R = ([], S.size - T.length, errAt T) := by
            rw [HRO.out]
            unfold rdOut
            rw [hrd.out, HE0.out hTn he]
            simp [he]
          subst hRR
          have he2 := (errAt_bd T)
          clear HERR HE0 HE1 HE2 HE3 HR HRO hrd hTn HERQ
          generalize errAt T = ee at *
          have he3 : (ee != 0) = true := by simpa using he
          go_wp2_with (first
            | (go_at_call 25; (with_reducible refine (HLf.out _ HS.out).mono ?_); rintro e w3 ⟨rfl, rfl⟩)
            | (go_at_call 30; (with_reducible refine (HF.out).mono ?_); rintro e w4 ⟨rfl, ho4, hS4⟩; have HO4 := Lib.hid ho4; clear ho4 hS4)
            )
          go_ret3
          exact ⟨none, 0, by rw [HAT.out]; rfl, Ow.nil, ((HO.out.trans_new (S' := One b) HO4.out (fun i hi hh => by unfold One at hh; omega)).alloc _)⟩
end Go.Proofs.Ytamocachpjljdaa
