/- What was taken is what was accepted, in order, but for what was dropped; the end comes once, behind all (the statement TxOrder, as it is given). No condition. -/
import Derived.Test.YtlinmpcllmijaaaOrder22
import Derived.Deep.CutBlock
namespace Go.Proofs.Ytlinmpcllmijaaa
open Go.RowKit
open Go.Proofs.Ytlinmpcllmijaaa.Qu

theorem ba_inj {a b : ByteArray} (e : a.toList = b.toList) : a = b := by
  rw [ByteArray.toList_eq, ByteArray.toList_eq] at e
  have := Array.toList_inj.1 e
  cases a
  cases b
  congr
theorem rightE_0 {kd cp st : Int} (h : rightE kd cp st = 0) : (kd = 1 ∨ kd = 2) ∧ 0 ≤ cp ∧ cp ≤ 4096 ∧ (kd = 2 → cp ≤ 64) := by
  unfold rightE at h
  by_cases h1 : kd ≠ 1 ∧ kd ≠ 2
  · rw [if_pos h1] at h
    exact absurd h (by decide)
  rw [if_neg h1] at h
  by_cases h2 : cp < 0 ∨ kd = 1 ∧ 4096 < cp ∨ kd = 2 ∧ 64 < cp
  · rw [if_pos h2] at h
    exact absurd h (by decide)
  omega
set_option maxRecDepth 100000 in
set_option maxHeartbeats 16000000 in
theorem txOrder_walk (v0 v1 : Value) (w : World) (h0 : Kd.Fit w (.agg [.int .i64, .int .i64, .int .i64]) v0) (h1 : Kd.Fit w (.slc (.agg [.int .i64, .int .i64, .str])) v1) :
    Calls Try.prog 4 #[v0, v1] w fun e w' => e = .returned (.bool true) ∧ Below w.heap.size w w' := by
  obtain ⟨cs, rfl, hc⟩ := h0
  obtain ⟨u0, c0, rfl, i0, hc⟩ := Kd.headL rfl hc
  obtain ⟨u1, c1, rfl, i1, hc⟩ := Kd.headL rfl hc
  obtain ⟨u2, c2, rfl, i2, hc⟩ := Kd.headL rfl hc
  obtain rfl := Kd.end_ hc
  obtain ⟨kd, rfl, -⟩ := Kd.int_is i0
  obtain ⟨cp, rfl, -⟩ := Kd.int_is i1
  obtain ⟨st, rfl, -⟩ := Kd.int_is i2
  obtain ⟨A, len, cap, rfl, hl⟩ := Kd.slc_fit h1
  clear i0 i1 i2 hc h1
  have hn0 := (Only.refl Nil w).alloc (.cells #[.int .i64 kd, .int .i64 cp, .int .i64 st] 23)
  have hb0 := Blk.new w 23 #[.int .i64 kd, .int .i64 cp, .int .i64 st]
  by_cases he : rightE kd cp st = 0
  · have hN := Lib.hid (TNew_ok kd cp st (w.alloc (.cells #[.int .i64 kd, .int .i64 cp, .int .i64 st] 23)) he)
    have hR := Lib.hid (fun W => by have := right_any kd cp st W; rwa [he] at this)
    unfold NewPT at hN
    obtain ⟨hk, p0, p1, p2⟩ := rightE_0 he
    have HK := Lib.hid hk
    have HP2 := Lib.hid p2
    clear hk p2 he
    go_enter Try.func4, Try.ntmps4
    go_upto_block 0 with (first
      | (go_at_call 7; (with_reducible refine (hN.out).mono ?_); rintro e w1 ⟨b, F0, rfl, hP1, ho1⟩; have hb1 := hb0.kept ho1 (fun hh => hh); have d0 := hb1.cell 0; have d1 := hb1.cell 1; have d2 := hb1.cell 2; have zc := hb1.lt)
      | (go_at_call 8; (with_reducible refine (hR.out _).mono ?_); rintro e w2 ⟨rfl, ho2⟩; have hP2 := hP1.kept ho2; have hb2 := hb1.kept ho2 (fun hh => hh))
      | (go_at_call 9; (with_reducible refine (awake_any _).mono ?_); rintro e w3 ⟨rfl, ho3⟩)
      )
    have hP3 := hP2.kept ho3
    have hb3 := hb2.kept ho3 (fun hh => hh)
    have hO3 := (ho1.trans ho2).trans ho3
    have hBe3 := hO3.below (Nat.le_refl _) (fun _ _ hh => hh)
    obtain ⟨W1, hW1⟩ : ∃ W1, W1 = w.alloc (.cells #[.int .i64 kd, .int .i64 cp, .int .i64 st] 23) := ⟨_, rfl⟩
    have hsz1 : w.heap.size < W1.heap.size := by rw [hW1]; simp
    have hWB : Below w.heap.size w W1 := by rw [hW1]; exact hn0.below (Nat.le_refl _) (fun _ _ hh => hh)
    have hbC : Blk W1 w.heap.size 23 #[.int .i64 kd, .int .i64 cp, .int .i64 st] := by rw [hW1]; exact hb0
    rw [← hW1] at hP3 hBe3
    clear hP1 hP2 hb1 hb2 hb3 hO3 ho1 ho2 ho3 hb0 hn0 hN hR hW1
    go_cut [7, 8, 9, 10] (fun s7 s8 s9 s10 wx => ∃ (F : Nat → Prop) (B : List UInt8) (L : List ByteArray) (wn : Int) (en ou : Bool) (A S D : Int) (al tk : List UInt8) (items out : List ByteArray) (ends : Int) (Aa : Option Addr) (na ca : Nat) (At : Option Addr) (nt ct : Nat), s7 = .string (strOf al) ∧ s8 = .string (strOf tk) ∧ s9 = .slice Aa na ca ∧ items.length = na ∧ s10 = .slice At nt ct ∧ out.length = nt ∧ Ot wx b W1.heap.size F kd cp st B L wn en ou A S D (.slice Aa na ca) (.slice At nt ct) items out ∧ Oi kd st 80 B L ou al tk items out ends ∧ Below W1.heap.size W1 wx)
    case first =>
      go_wp2_with fail
      go_loopw [7, 8, 9, 10, 11, 12] (fun s7 s8 s9 s10 s11 s12 wr => ∃ (k : Nat) (F : Nat → Prop) (B : List UInt8) (L : List ByteArray) (wn : Int) (en ou : Bool) (A S D : Int) (al tk : List UInt8) (items out : List ByteArray) (ends : Int) (Aa : Option Addr) (na ca : Nat) (vt : Value), k ≤ len ∧ s7 = .string (strOf al) ∧ s8 = .string (strOf tk) ∧ s9 = .slice Aa na ca ∧ items.length = na ∧ s10 = vt ∧ s11 = .int .i64 ends ∧ s12 = .int .i64 k ∧ k ≤ 80 ∧ Ot wr b W1.heap.size F kd cp st B L wn en ou A S D (.slice Aa na ca) vt items out ∧ TI kd (600 * (k : Int)) cp B L wn en ou A S D ∧ Oi kd st k B L ou al tk items out ends ∧ Below W1.heap.size W1 wr) (fun _ _ _ _ _ s12 _ => len - (intOf s12).toNat)
      case atStart => exact ⟨0, F0, [], [], 0, false, false, 0, 0, 0, [], [], [], [], 0, _, _, _, _, Nat.zero_le _, rfl, rfl, rfl, rfl, rfl, rfl, rfl, by omega, ⟨hP3, Ow.nil, Ow.nil, fun g hg => by simp [Value.ownBlock] at hg, fun g hg => by simp [Value.ownBlock] at hg, fun g hg => by simp [Value.ownBlock] at hg⟩, ⟨rfl, by decide, by decide, by decide, by simpa [nOf] using p0, by decide, by decide, fun e => absurd e (by decide), fun _ => rfl, fun _ => rfl⟩, ⟨by simp, by simp, fun _ => rfl, by simp, by simp, List.Sublist.refl _, fun _ => rfl, by decide, fun e => absurd e (by decide), by decide, fun x hx => by simp at hx⟩, hBe3⟩
      case round =>
        clear hP3 hBe3 F0
        obtain ⟨k, F, B, L, wn, en, ou, A, S, D, al, tk, items, out, ends, Aa, na, ca, vt, hk, rfl, rfl, rfl, hna, rfl, rfl, rfl, hk1, hO, hi, hv, hBe⟩ := hrel
        have hmax : len ≤ 9223372036854775807 := Nat.le_trans hl.1 hl.2.1
        have hBe0 := hWB.trans (hBe.mono (Nat.le_of_lt hsz1))
        by_cases hlt : k < len
        · by_cases h80 : k < 80
          · obtain ⟨b', off, rfl, hb', cs, hcl, hcs, his⟩ := hl.at (by decide) hlt
            obtain ⟨u0, e0, rfl, i0, his⟩ := Kd.headL rfl (by unfold Kd.Is at his; exact his)
            obtain ⟨u1, e1, rfl, i1, his⟩ := Kd.headL rfl his
            obtain ⟨u2, e2, rfl, i2, his⟩ := Kd.headL rfl his
            obtain rfl := Kd.end_ his
            obtain ⟨ak, rfl, -⟩ := Kd.int_is i0
            obtain ⟨n, rfl, -⟩ := Kd.int_is i1
            obtain ⟨X, rfl, -⟩ := Kd.str_is i2
            have q0 := hcs 0 (by decide)
            have q1 := hcs 1 (by decide)
            have q2 := hcs 2 (by decide)
            simp [Kd.cells, Kd.cellsL] at q0 q1 q2
            have f0 := (hBe0.cell (p := ⟨b', _, none⟩) hb').trans q0
            have f1 := (hBe0.cell (p := ⟨b', _, none⟩) hb').trans q1
            have f2 := (hBe0.cell (p := ⟨b', _, none⟩) hb').trans q2
            clear q0 q1 q2 hcs hcl hl i0 i1 i2
            have HI := Lib.hid hi
            have HV := Lib.hid hv
            have HT := Lib.hid hO
            have HNA := Lib.hid hna
            have hki : (k : Int) < len := by omega
            have hk6 : (k : Int) < 80 := by omega
            have hA0 := Lib.hid (Blk.new wr 36 #[.int .i64 ak, .int .i64 n, .string X])
            have hnA := Lib.hid ((Only.refl Nil wr).alloc (.cells #[.int .i64 ak, .int .i64 n, .string X] 36))
            clear hi hv hO hna
            obtain ⟨At, ct, rfl, hct, -⟩ := HT.out.ot.form
            obtain ⟨nt, hnt⟩ : ∃ nt, out.length = nt := ⟨_, rfl⟩
            rw [hnt] at HT hct ⊢
            have HNT := Lib.hid hnt
            have hnt1 : nt ≤ k := by rw [← hnt]; exact HV.out.no
            have hna1 : na ≤ k := by rw [← HNA.out]; exact HV.out.ni
            have hal : (strOf al).size ≤ 48000 := by rw [strOf_size]; have := HV.out.n1; omega
            have htk : (strOf tk).size ≤ 20480 := by rw [strOf_size]; have := HV.out.n2; omega
            have he0 := HV.out.e0
            have he2 := HV.out.e2
            clear hnt
            obtain ⟨XA, hXA⟩ : ∃ XA, XA = strOf al := ⟨_, rfl⟩
            obtain ⟨XT, hXT⟩ : ∃ XT, XT = strOf tk := ⟨_, rfl⟩
            rw [← hXA] at hal ⊢
            rw [← hXT] at htk ⊢
            have HXA := Lib.hid hXA.symm
            have HXT := Lib.hid hXT.symm
            clear hXA hXT
            by_cases hS : 600 < X.size
            · have hSi : (600 : Int) < X.size := by omega
              as_aux_lemma =>
                go_wp2
                go_roundw
                case rel => exact ⟨k + 1, F, B, L, wn, en, ou, A, S, D, al, tk, items, out, ends, Aa, na, ca, _, by omega, by rw [HXA.out], by rw [HXT.out], rfl, HNA.out, rfl, rfl, by go_num, by omega, HT.out.kept hnA.out, HI.out.le (by push_cast; omega), HV.out.up (Nat.le_succ k), hBe.trans (hnA.out.below hBe.size (fun _ _ hh => hh))⟩
                case measure => simp [intOf]; omega
            · have hSi : ¬ (600 : Int) < X.size := by omega
              by_cases k8 : ak = 8
              · subst k8
                as_aux_lemma =>
                  go_wp2
                  go_roundw
                  case rel => exact ⟨k + 1, F, B, L, wn, en, ou, A, S, D, al, tk, items, out, ends, Aa, na, ca, _, by omega, by rw [HXA.out], by rw [HXT.out], rfl, HNA.out, rfl, rfl, by go_num, by omega, HT.out.kept hnA.out, HI.out.le (by push_cast; omega), HV.out.up (Nat.le_succ k), hBe.trans (hnA.out.below hBe.size (fun _ _ hh => hh))⟩
                  case measure => simp [intOf]; omega
              · have e8 : (ak == 8) = false := by simpa using k8
                have hcap2 : kd = 2 → L.length ≤ 1000 := fun e => by
                  have h1 := HP2.out e
                  have h2 := HI.out.cap
                  unfold nOf at h2
                  omega
                have hcc := HI.out.c (by omega)
                have hOa := Lib.hid (HT.out.kept hnA.out)
                have hBa : Below W1.heap.size W1 (wr.alloc (.cells #[.int .i64 ak, .int .i64 n, .string X] 36)) := hBe.trans (hnA.out.below hBe.size (fun _ _ hh => hh))
                have hnF : Hid (¬ F wr.heap.size) := Lib.hid (fun hh => by have := (HT.out.p.fp _ hh).2; omega)
                clear k8 hS
                by_cases k34 : ak = 3 ∨ ak = 4
                · obtain ⟨X', o, is, B', L', wn', ou', S', htk⟩ := TkR.ex (kd := kd) n HK.out HI.out
                  have hTk := Lib.hid (PT.Take hOa.out.p htk hcc hcap2 HI.out.w1)
                  have HTI := Lib.hid ((HI.out.le (m' := 600 * ((k + 1 : Nat) : Int)) (by push_cast; omega)).take htk)
                  have hap : Hid (strOf (tk ++ X'.data.toList) = XT ++ X') := Lib.hid (by rw [← HXT.out]; rfl)
                  have hoi := HV.out.take HI.out htk
                  clear htk hcc hcap2
                  rcases hoi with ⟨rfl, rfl, hx, hoi⟩ | ⟨rfl, rfl, hen, hx, hoi⟩ | ⟨rfl, rfl, rfl, hx, ek, hoi⟩ | ⟨rfl, rfl, rfl, hx, ek, hoi⟩
                  · have HOI := Lib.hid hoi
                    have hz : XT.size + X'.size ≤ 9223372036854775807 := by rw [hx]; show XT.size + 0 ≤ _; omega
                    clear hoi hx
                    rcases k34 with rfl | rfl
                    · as_aux_lemma =>
                        go_wp2_with (first
                          | (go_at_call 20; (with_reducible refine (hTk.out).mono ?_); rintro e w5 ⟨F5, rfl, hP5, ho5, hg5⟩; have hBe5 := hBa.trans (hOa.out.p.below ho5); have d0 := (hbC.below hBe5 hsz1).cell 0; have zc := (hbC.below hBe5 hsz1).lt; have HP5 := Lib.hid hP5; have HO5 := Lib.hid ho5; have HG5 := Lib.hid hg5; have HBe5 := Lib.hid hBe5; clear hP5 ho5 hg5 hBe5)
                          )
                        go_roundw
                        case rel => exact ⟨k + 1, F5, B', L', wn', en, ou', A, S', D, al, tk ++ X'.data.toList, items, out, ends, Aa, na, ca, _, by omega, by rw [HXA.out], by rw [hap.out], rfl, HNA.out, rfl, by first | rfl | go_num, by go_num, by omega, hOa.out.step HP5.out HO5.out HG5.out, HTI.out, HOI.out, HBe5.out⟩
                        case measure => simp [intOf]; omega
                    · as_aux_lemma =>
                        go_wp2_with (first
                          | (go_at_call 20; (with_reducible refine (hTk.out).mono ?_); rintro e w5 ⟨F5, rfl, hP5, ho5, hg5⟩; have hBe5 := hBa.trans (hOa.out.p.below ho5); have d0 := (hbC.below hBe5 hsz1).cell 0; have zc := (hbC.below hBe5 hsz1).lt; have HP5 := Lib.hid hP5; have HO5 := Lib.hid ho5; have HG5 := Lib.hid hg5; have HBe5 := Lib.hid hBe5; clear hP5 ho5 hg5 hBe5)
                          )
                        go_roundw
                        case rel => exact ⟨k + 1, F5, B', L', wn', en, ou', A, S', D, al, tk ++ X'.data.toList, items, out, ends, Aa, na, ca, _, by omega, by rw [HXA.out], by rw [hap.out], rfl, HNA.out, rfl, by first | rfl | go_num, by go_num, by omega, hOa.out.step HP5.out HO5.out HG5.out, HTI.out, HOI.out, HBe5.out⟩
                        case measure => simp [intOf]; omega
                  · have HOI : Hid (Oi kd st (k + 1) B' L' ou' al (tk ++ X'.data.toList) items out (ends + 1)) := Lib.hid (by rw [hen]; exact hoi)
                    have hz : XT.size + X'.size ≤ 9223372036854775807 := by omega
                    have hen2 : ¬ 0 < ends := by omega
                    clear hoi hen
                    by_cases k2 : kd = 2
                    · have ek : (kd == 2) = true := by simpa using k2
                      clear k2
                      rcases k34 with rfl | rfl
                      · as_aux_lemma =>
                          go_wp2_with (first
                            | (go_at_call 20; (with_reducible refine (hTk.out).mono ?_); rintro e w5 ⟨F5, rfl, hP5, ho5, hg5⟩; have hBe5 := hBa.trans (hOa.out.p.below ho5); have d0 := (hbC.below hBe5 hsz1).cell 0; have zc := (hbC.below hBe5 hsz1).lt; have HP5 := Lib.hid hP5; have HO5 := Lib.hid ho5; have HG5 := Lib.hid hg5; have HBe5 := Lib.hid hBe5; clear hP5 ho5 hg5 hBe5)
                            )
                          go_roundw
                          case rel => exact ⟨k + 1, F5, B', L', wn', en, ou', A, S', D, al, tk ++ X'.data.toList, items, out, ends + 1, Aa, na, ca, _, by omega, by rw [HXA.out], by rw [hap.out], rfl, HNA.out, rfl, by first | rfl | go_num, by go_num, by omega, hOa.out.step HP5.out HO5.out HG5.out, HTI.out, HOI.out, HBe5.out⟩
                          case measure => simp [intOf]; omega
                      · as_aux_lemma =>
                          go_wp2_with (first
                            | (go_at_call 20; (with_reducible refine (hTk.out).mono ?_); rintro e w5 ⟨F5, rfl, hP5, ho5, hg5⟩; have hBe5 := hBa.trans (hOa.out.p.below ho5); have d0 := (hbC.below hBe5 hsz1).cell 0; have zc := (hbC.below hBe5 hsz1).lt; have HP5 := Lib.hid hP5; have HO5 := Lib.hid ho5; have HG5 := Lib.hid hg5; have HBe5 := Lib.hid hBe5; clear hP5 ho5 hg5 hBe5)
                            )
                          go_roundw
                          case rel => exact ⟨k + 1, F5, B', L', wn', en, ou', A, S', D, al, tk ++ X'.data.toList, items, out, ends + 1, Aa, na, ca, _, by omega, by rw [HXA.out], by rw [hap.out], rfl, HNA.out, rfl, by first | rfl | go_num, by go_num, by omega, hOa.out.step HP5.out HO5.out HG5.out, HTI.out, HOI.out, HBe5.out⟩
                          case measure => simp [intOf]; omega
                    · have ek : (kd == 2) = false := by simpa using k2
                      clear k2
                      rcases k34 with rfl | rfl
                      · as_aux_lemma =>
                          go_wp2_with (first
                            | (go_at_call 20; (with_reducible refine (hTk.out).mono ?_); rintro e w5 ⟨F5, rfl, hP5, ho5, hg5⟩; have hBe5 := hBa.trans (hOa.out.p.below ho5); have d0 := (hbC.below hBe5 hsz1).cell 0; have zc := (hbC.below hBe5 hsz1).lt; have HP5 := Lib.hid hP5; have HO5 := Lib.hid ho5; have HG5 := Lib.hid hg5; have HBe5 := Lib.hid hBe5; clear hP5 ho5 hg5 hBe5)
                            )
                          go_roundw
                          case rel => exact ⟨k + 1, F5, B', L', wn', en, ou', A, S', D, al, tk ++ X'.data.toList, items, out, ends + 1, Aa, na, ca, _, by omega, by rw [HXA.out], by rw [hap.out], rfl, HNA.out, rfl, by first | rfl | go_num, by go_num, by omega, hOa.out.step HP5.out HO5.out HG5.out, HTI.out, HOI.out, HBe5.out⟩
                          case measure => simp [intOf]; omega
                      · as_aux_lemma =>
                          go_wp2_with (first
                            | (go_at_call 20; (with_reducible refine (hTk.out).mono ?_); rintro e w5 ⟨F5, rfl, hP5, ho5, hg5⟩; have hBe5 := hBa.trans (hOa.out.p.below ho5); have d0 := (hbC.below hBe5 hsz1).cell 0; have zc := (hbC.below hBe5 hsz1).lt; have HP5 := Lib.hid hP5; have HO5 := Lib.hid ho5; have HG5 := Lib.hid hg5; have HBe5 := Lib.hid hBe5; clear hP5 ho5 hg5 hBe5)
                            )
                          go_roundw
                          case rel => exact ⟨k + 1, F5, B', L', wn', en, ou', A, S', D, al, tk ++ X'.data.toList, items, out, ends + 1, Aa, na, ca, _, by omega, by rw [HXA.out], by rw [hap.out], rfl, HNA.out, rfl, by first | rfl | go_num, by go_num, by omega, hOa.out.step HP5.out HO5.out HG5.out, HTI.out, HOI.out, HBe5.out⟩
                          case measure => simp [intOf]; omega
                  · have HOI := Lib.hid hoi
                    have hz : XT.size + X'.size ≤ 9223372036854775807 := by omega
                    clear hoi
                    rcases k34 with rfl | rfl
                    · as_aux_lemma =>
                        go_wp2_with (first
                          | (go_at_call 20; (with_reducible refine (hTk.out).mono ?_); rintro e w5 ⟨F5, rfl, hP5, ho5, hg5⟩; have hBe5 := hBa.trans (hOa.out.p.below ho5); have d0 := (hbC.below hBe5 hsz1).cell 0; have zc := (hbC.below hBe5 hsz1).lt; have HP5 := Lib.hid hP5; have HO5 := Lib.hid ho5; have HG5 := Lib.hid hg5; have HBe5 := Lib.hid hBe5; clear hP5 ho5 hg5 hBe5)
                          )
                        go_roundw
                        case rel => exact ⟨k + 1, F5, B', L', wn', en, ou', A, S', D, al, tk ++ X'.data.toList, items, out, 0, Aa, na, ca, _, by omega, by rw [HXA.out], by rw [hap.out], rfl, HNA.out, rfl, by first | rfl | go_num, by go_num, by omega, hOa.out.step HP5.out HO5.out HG5.out, HTI.out, HOI.out, HBe5.out⟩
                        case measure => simp [intOf]; omega
                    · as_aux_lemma =>
                        go_wp2_with (first
                          | (go_at_call 20; (with_reducible refine (hTk.out).mono ?_); rintro e w5 ⟨F5, rfl, hP5, ho5, hg5⟩; have hBe5 := hBa.trans (hOa.out.p.below ho5); have d0 := (hbC.below hBe5 hsz1).cell 0; have zc := (hbC.below hBe5 hsz1).lt; have HP5 := Lib.hid hP5; have HO5 := Lib.hid ho5; have HG5 := Lib.hid hg5; have HBe5 := Lib.hid hBe5; clear hP5 ho5 hg5 hBe5)
                          )
                        go_roundw
                        case rel => exact ⟨k + 1, F5, B', L', wn', en, ou', A, S', D, al, tk ++ X'.data.toList, items, out, 0, Aa, na, ca, _, by omega, by rw [HXA.out], by rw [hap.out], rfl, HNA.out, rfl, by first | rfl | go_num, by go_num, by omega, hOa.out.step HP5.out HO5.out HG5.out, HTI.out, HOI.out, HBe5.out⟩
                        case measure => simp [intOf]; omega
                  · have HOI := Lib.hid hoi
                    have hz : XT.size + X'.size ≤ 9223372036854775807 := by omega
                    clear hoi
                    rcases k34 with rfl | rfl
                    · as_aux_lemma =>
                        go_wp2_with (first
                          | (go_at_call 20; (with_reducible refine (hTk.out).mono ?_); rintro e w5 ⟨F5, rfl, hP5, ho5, hg5⟩; have hBe5 := hBa.trans (hOa.out.p.below ho5); have d0 := (hbC.below hBe5 hsz1).cell 0; have zc := (hbC.below hBe5 hsz1).lt; have hO5 := hOa.out.step hP5 ho5 hg5; have HBe5 := Lib.hid hBe5; have HO5a := Lib.hid (hO5.kept ((Only.refl Nil w5).alloc (.cells #[.string X'] 9))); have s1 := Src.one (P := Try.prog) (enc := encS) (tx := 32) Try.underlying32 X' 1 rfl (Blk.new w5 9 #[.string X']) rfl (encS_one X'); clear hP5 ho5 hg5 hBe5 hO5)
                          | (at_builtin
                             refine wpList_app2 rfl (.tmp 138) (.tmp 140) _ _ rfl W1.heap.size 9 Try.underlying32 str_info rfl _ _ rfl HO5a.out.ot _ [X'] rfl s1 (by have := HNT.out; simp; omega) (by decide) HO5a.out.p.sz (nt + 1) (by have := HNT.out; simp; omega) (out ++ [X']) rfl ?_
                             intro A6 c6 w6 hown6 ho6 hg6
                             have HO6 := Lib.hid (HO5a.out.took_ hown6 ho6 hg6)
                             have HBe6 := Lib.hid ((HBe5.out.trans (((Only.refl Nil w5).alloc (.cells #[.string X'] 9)).below HBe5.out.size (fun _ _ hh => hh))).trans (HO5a.out.belowT ho6))
                             clear hown6 ho6 hg6 s1)
                          )
                        go_roundw
                        case rel => exact ⟨k + 1, F5, B', L', wn', en, ou', A, S', D, al, tk ++ X'.data.toList, items, out ++ [X'], 0, Aa, na, ca, _, by omega, by rw [HXA.out], by rw [hap.out], rfl, HNA.out, rfl, rfl, by go_num, by omega, HO6.out, HTI.out, HOI.out, HBe6.out⟩
                        case measure => simp [intOf]; omega
                    · as_aux_lemma =>
                        go_wp2_with (first
                          | (go_at_call 20; (with_reducible refine (hTk.out).mono ?_); rintro e w5 ⟨F5, rfl, hP5, ho5, hg5⟩; have hBe5 := hBa.trans (hOa.out.p.below ho5); have d0 := (hbC.below hBe5 hsz1).cell 0; have zc := (hbC.below hBe5 hsz1).lt; have hO5 := hOa.out.step hP5 ho5 hg5; have HBe5 := Lib.hid hBe5; have HO5a := Lib.hid (hO5.kept ((Only.refl Nil w5).alloc (.cells #[.string X'] 9))); have s1 := Src.one (P := Try.prog) (enc := encS) (tx := 32) Try.underlying32 X' 1 rfl (Blk.new w5 9 #[.string X']) rfl (encS_one X'); clear hP5 ho5 hg5 hBe5 hO5)
                          | (at_builtin
                             refine wpList_app2 rfl (.tmp 138) (.tmp 140) _ _ rfl W1.heap.size 9 Try.underlying32 str_info rfl _ _ rfl HO5a.out.ot _ [X'] rfl s1 (by have := HNT.out; simp; omega) (by decide) HO5a.out.p.sz (nt + 1) (by have := HNT.out; simp; omega) (out ++ [X']) rfl ?_
                             intro A6 c6 w6 hown6 ho6 hg6
                             have HO6 := Lib.hid (HO5a.out.took_ hown6 ho6 hg6)
                             have HBe6 := Lib.hid ((HBe5.out.trans (((Only.refl Nil w5).alloc (.cells #[.string X'] 9)).below HBe5.out.size (fun _ _ hh => hh))).trans (HO5a.out.belowT ho6))
                             clear hown6 ho6 hg6 s1)
                          )
                        go_roundw
                        case rel => exact ⟨k + 1, F5, B', L', wn', en, ou', A, S', D, al, tk ++ X'.data.toList, items, out ++ [X'], 0, Aa, na, ca, _, by omega, by rw [HXA.out], by rw [hap.out], rfl, HNA.out, rfl, rfl, by go_num, by omega, HO6.out, HTI.out, HOI.out, HBe6.out⟩
                        case measure => simp [intOf]; omega
                · by_cases k56 : ak = 5 ∨ ak = 6
                  · obtain ⟨ee, hee⟩ : ∃ ee, wnE kd n = ee := ⟨_, rfl⟩
                    have hW := Lib.hid (PT.Want n hOa.out.p HI.out.w0 HI.out.w1 ee hee _ rfl)
                    clear hee k34 hcc hcap2
                    rcases k56 with rfl | rfl
                    · as_aux_lemma =>
                        go_wp2_with (first
                          | (go_at_call 21; (with_reducible refine (hW.out).mono ?_); rintro e w5 ⟨F5, rfl, hP5, ho5, hg5⟩; have HP5 := Lib.hid hP5; have HO5 := Lib.hid ho5; have HG5 := Lib.hid hg5; clear hP5 ho5 hg5)
                          )
                        go_roundw
                        case rel => exact ⟨k + 1, F5, B, L, _, en, ou, A, S, D, al, tk, items, out, ends, Aa, na, ca, _, by omega, by rw [HXA.out], by rw [HXT.out], rfl, HNA.out, rfl, rfl, by go_num, by omega, hOa.out.step HP5.out HO5.out HG5.out, (HI.out.le (by push_cast; omega)).want n, HV.out.up (Nat.le_succ k), hBa.trans (hOa.out.p.below HO5.out)⟩
                        case measure => simp [intOf]; omega
                    · as_aux_lemma =>
                        go_wp2_with (first
                          | (go_at_call 21; (with_reducible refine (hW.out).mono ?_); rintro e w5 ⟨F5, rfl, hP5, ho5, hg5⟩; have HP5 := Lib.hid hP5; have HO5 := Lib.hid ho5; have HG5 := Lib.hid hg5; clear hP5 ho5 hg5)
                          )
                        go_roundw
                        case rel => exact ⟨k + 1, F5, B, L, _, en, ou, A, S, D, al, tk, items, out, ends, Aa, na, ca, _, by omega, by rw [HXA.out], by rw [HXT.out], rfl, HNA.out, rfl, rfl, by go_num, by omega, hOa.out.step HP5.out HO5.out HG5.out, (HI.out.le (by push_cast; omega)).want n, HV.out.up (Nat.le_succ k), hBa.trans (hOa.out.p.below HO5.out)⟩
                        case measure => simp [intOf]; omega
                  · have e3 : (ak == 3) = false := by simp; omega
                    have e4 : (ak == 4) = false := by simp; omega
                    have e5 : (ak == 5) = false := by simp; omega
                    have e6 : (ak == 6) = false := by simp; omega
                    clear k34 k56
                    by_cases k7 : ak = 7
                    · subst k7
                      have HE : Hid (∃ e, Calls Try.prog 22 #[.pointer (some ⟨b, 0, none⟩)] (wr.alloc (.cells #[.int .i64 7, .int .i64 n, .string X] 36)) (PTPost (wr.alloc (.cells #[.int .i64 7, .int .i64 n, .string X] 36)) b W1.heap.size F kd cp st (.int .i64 e) B L wn true ou A S D)) := Lib.hid (by
                        cases en with
                        | true => exact ⟨_, hOa.out.p.End1⟩
                        | false => exact ⟨_, hOa.out.p.End0⟩)
                      obtain ⟨ee, HE1⟩ := HE.out
                      have HE2 := Lib.hid HE1
                      clear HE HE1
                      as_aux_lemma =>
                        go_wp2_with (first
                          | (go_at_call 22; (with_reducible refine (HE2.out).mono ?_); rintro e w5 ⟨F5, rfl, hP5, ho5, hg5⟩; have HP5 := Lib.hid hP5; have HO5 := Lib.hid ho5; have HG5 := Lib.hid hg5; clear hP5 ho5 hg5)
                          )
                        go_roundw
                        case rel => exact ⟨k + 1, F5, B, L, wn, true, ou, A, S, D, al, tk, items, out, ends, Aa, na, ca, _, by omega, by rw [HXA.out], by rw [HXT.out], rfl, HNA.out, rfl, rfl, by go_num, by omega, hOa.out.step HP5.out HO5.out HG5.out, (HI.out.le (by push_cast; omega)).end_, HV.out.up (Nat.le_succ k), hBa.trans (hOa.out.p.below HO5.out)⟩
                        case measure => simp [intOf]; omega
                    · have e7 : (ak == 7) = false := by simp; omega
                      obtain ⟨r, ee, B', L', A', D', hof⟩ := OfR.ex (B := B) (L := L) (A := A) (D := D) (st := st) (en := en) X HK.out p0
                      have hOf := Lib.hid (PT.Offer X hOa.out.p hof hcc hcap2)
                      have HTI := Lib.hid ((HI.out.offer hof p0 (by omega)).le (m' := 600 * ((k + 1 : Nat) : Int)) (by push_cast; omega))
                      have hoi := HV.out.offer HI.out hof (by omega)
                      clear hof k7 hcap2 hcc
                      rcases hoi with ⟨ee0, hoi⟩ | ⟨rfl, k1, j, rfl, hj, hoi⟩ | ⟨rfl, ek, hoi⟩
                      · have HOI := Lib.hid hoi
                        clear hoi
                        as_aux_lemma =>
                          go_wp2_with (first
                            | (go_at_call 23; (with_reducible refine (hOf.out).mono ?_); rintro e w5 ⟨F5, rfl, hP5, ho5, hg5⟩; have HP5 := Lib.hid hP5; have HO5 := Lib.hid ho5; have HG5 := Lib.hid hg5; clear hP5 ho5 hg5)
                            )
                          go_roundw
                          case rel => exact ⟨k + 1, F5, B', L', wn, en, ou, A', S, D', al, tk, items, out, ends, Aa, na, ca, _, by omega, by rw [HXA.out], by rw [HXT.out], rfl, HNA.out, rfl, rfl, by go_num, by omega, hOa.out.step HP5.out HO5.out HG5.out, HTI.out, HOI.out, hBa.trans (hOa.out.p.below HO5.out)⟩
                          case measure => simp [intOf]; omega
                      · have HOI := Lib.hid hoi
                        have ek : (kd == 1) = true := by simpa using k1
                        have hap : Hid (strOf (al ++ X.data.toList.take j) = XA ++ X.extract 0 j) := Lib.hid (by
                          rw [← HXA.out]
                          apply ByteArray.ext
                          apply Array.ext'
                          simp [strOf])
                        have hji : (j : Int) ≤ X.size := by omega
                        have hz1 : XA.size + (X.extract 0 j).size ≤ 9223372036854775807 := by rw [ByteArray.size_extract]; omega
                        have hz2 : XA.size + min j X.size ≤ 9223372036854775807 := by omega
                        have hz3 : XA.size + j ≤ 9223372036854775807 := by omega
                        clear hoi k1
                        as_aux_lemma =>
                          go_wp2_with (first
                            | (go_at_call 23; (with_reducible refine (hOf.out).mono ?_); rintro e w5 ⟨F5, rfl, hP5, ho5, hg5⟩; have hBe5 := hBa.trans (hOa.out.p.below ho5); have d0 := (hbC.below hBe5 hsz1).cell 0; have zc := (hbC.below hBe5 hsz1).lt; have a2 := (hA0.out.kept ho5 (fun hh => hnF.out hh)).cell 2; have za := (hA0.out.kept ho5 (fun hh => hnF.out hh)).lt; have HP5 := Lib.hid hP5; have HO5 := Lib.hid ho5; have HG5 := Lib.hid hg5; clear hP5 ho5 hg5 hBe5)
                            )
                          go_roundw
                          case rel => exact ⟨k + 1, F5, B', L', wn, en, ou, A', S, D', al ++ X.data.toList.take j, tk, items, out, ends, Aa, na, ca, _, by omega, by rw [hap.out], by rw [HXT.out], rfl, HNA.out, rfl, rfl, by go_num, by omega, hOa.out.step HP5.out HO5.out HG5.out, HTI.out, HOI.out, hBa.trans (hOa.out.p.below HO5.out)⟩
                          case measure => simp [intOf]; omega
                      · have HOI := Lib.hid hoi
                        clear hoi
                        as_aux_lemma =>
                          go_wp2_with (first
                            | (go_at_call 23; (with_reducible refine (hOf.out).mono ?_); rintro e w5 ⟨F5, rfl, hP5, ho5, hg5⟩; have hBe5 := hBa.trans (hOa.out.p.below ho5); have d0 := (hbC.below hBe5 hsz1).cell 0; have zc := (hbC.below hBe5 hsz1).lt; have a2 := (hA0.out.kept ho5 (fun hh => hnF.out hh)).cell 2; have za := (hA0.out.kept ho5 (fun hh => hnF.out hh)).lt; have hO5 := hOa.out.step hP5 ho5 hg5; have HBe5 := Lib.hid hBe5; have HO5a := Lib.hid (hO5.kept ((Only.refl Nil w5).alloc (.cells #[.string X] 9))); have s1 := Src.one (P := Try.prog) (enc := encS) (tx := 32) Try.underlying32 X 1 rfl (Blk.new w5 9 #[.string X]) rfl (encS_one X); clear hP5 ho5 hg5 hBe5 hO5)
                            | (at_builtin
                               refine wpList_app2 rfl (.tmp 101) (.tmp 104) _ _ rfl W1.heap.size 9 Try.underlying32 str_info rfl _ _ rfl HO5a.out.oa _ [X] rfl s1 (by have := HNA.out; simp; omega) (by decide) HO5a.out.p.sz (na + 1) (by have := HNA.out; simp; omega) (items ++ [X]) rfl ?_
                               intro A6 c6 w6 hown6 ho6 hg6
                               have HO6 := Lib.hid (HO5a.out.all_ hown6 ho6 hg6)
                               have HBe6 := Lib.hid ((HBe5.out.trans (((Only.refl Nil w5).alloc (.cells #[.string X] 9)).below HBe5.out.size (fun _ _ hh => hh))).trans (HO5a.out.belowA ho6))
                               clear hown6 ho6 hg6 s1)
                            )
                          go_roundw
                          case rel => exact ⟨k + 1, F5, B', L', wn, en, ou, A', S, D', al, tk, items ++ [X], out, ends, A6, na + 1, c6, _, by omega, by rw [HXA.out], by rw [HXT.out], rfl, by have := HNA.out; simp; omega, rfl, rfl, by go_num, by omega, HO6.out, HTI.out, HOI.out, HBe6.out⟩
                          case measure => simp [intOf]; omega
          · clear hl
            obtain ⟨At, ct, rfl, hct, -⟩ := hO.ot.form
            go_wp2_with fail
            go_meet
            exact ⟨F, B, L, wn, en, ou, A, S, D, al, tk, items, out, ends, Aa, na, ca, At, _, ct, rfl, rfl, rfl, hna, rfl, rfl, hO, hv.up hk1, hBe⟩
        · clear hl
          obtain ⟨At, ct, rfl, hct, -⟩ := hO.ot.form
          go_wp2_with fail
          go_meet
          exact ⟨F, B, L, wn, en, ou, A, S, D, al, tk, items, out, ends, Aa, na, ca, At, _, ct, rfl, rfl, rfl, hna, rfl, rfl, hO, hv.up hk1, hBe⟩
    case rest =>
      clear hP3 hBe3 hl
      obtain ⟨F, B, L, wn, en, ou, A, S, D, al, tk, items, out, ends, Aa, na, ca, At, nt, ct, rfl, rfl, rfl, hna, rfl, hnt, hO, hv, hBe⟩ := hcut
      have hBe0 := hWB.trans (hBe.mono (Nat.le_of_lt hsz1))
      have hC := hbC.below hBe hsz1
      have d0 := hC.cell 0
      have zc := hC.lt
      have hna1 : na ≤ 80 := by rw [← hna]; exact hv.ni
      have hnt1 : nt ≤ 80 := by rw [← hnt]; exact hv.no
      by_cases k1 : kd = 1
      · have ek : (kd == 1) = true := by simpa using k1
        have hbs := hv.bs k1
        have hle : tk.length ≤ al.length := by rw [hbs, List.length_append]; omega
        have hx1 : (strOf al).extract 0 (strOf tk).size = strOf tk := by rw [strOf_size, strOf_take, hbs, List.take_left]
        have hs : (strOf tk).size ≤ (strOf al).size := by rw [strOf_size, strOf_size]; exact hle
        have hs2 : (strOf al).size ≤ 48000 := by rw [strOf_size]; have := hv.n1; omega
        have hsi : ((strOf tk).size : Int) ≤ (strOf al).size := by omega
        clear hv hO hbs hle k1
        generalize strOf al = XA at *
        generalize strOf tk = XT at *
        go_wp2
        go_ret
        exact ⟨rfl, hBe0⟩
      · have ek : (kd == 1) = false := by simpa using k1
        have hSu := Lib.hid ((List.sublist_append_left out L).trans hv.su)
        have hs0 := Lib.hid hv.s0
        have hA := Lib.hid (fun W (ho : Only Nil wc W) => (hO.kept ho).oa.sqn (fun _ _ => rfl))
        have hT := Lib.hid (fun W (ho : Only Nil wc W) => (hO.kept ho).ot.sqn (fun _ _ => rfl))
        have HNA := Lib.hid hna
        have HNT := Lib.hid hnt
        have hCs := Lib.hid (fun W (ho : Only Nil wc W) => (hC.kept ho (fun hh => hh)).cell 2)
        have hCz := Lib.hid (fun W (ho : Only Nil wc W) => (hC.kept ho (fun hh => hh)).lt)
        have hnca : na ≤ ca := hO.oa.len.2.1
        have hnt2 : nt ≤ na := by have := hv.su.length_le; rw [List.length_append, hna, hnt] at this; omega
        have hTx : Hid (st = 0 → ∀ W, Only Nil wc W → Calls Try.prog 24 #[.slice At nt ct, .slice Aa nt ca] W fun x w' => x = .returned (.bool true) ∧ Only Nil W w') := Lib.hid (fun e W ho => by
          have h1 := hT.out W ho
          have h2 := (hA.out W ho).take nt
          rw [hv.s0 e, ← hnt, List.take_left] at h2
          have h3 := Qu.Texts_same At Aa ct ca out W h1 h2 (by omega)
          rwa [hnt] at h3)
        clear hO hna hnt hv k1
        go_wp2
        go_loopw [19, 20] (fun pp ii wr => ∃ (p i : Nat), pp = .int .i64 p ∧ ii = .int .i64 i ∧ i ≤ na ∧ p ≤ nt ∧ Hid (List.Sublist (out.drop p) (items.drop i)) ∧ Only Nil wc wr) (fun _ ii _ => na - (intOf ii).toNat)
        case atStart => exact ⟨0, 0, rfl, rfl, Nat.zero_le _, Nat.zero_le _, hSu, Only.refl _ _⟩
        case round =>
          obtain ⟨p, i, rfl, rfl, hi, hp, hs, ho⟩ := hrel
          by_cases hlt : i < na
          · by_cases hpt : p < nt
            · obtain ⟨b1, o1, x, rfl, hb1, hx, hdx, h1⟩ := (hA.out _ ho).at_ (k := i) (by have := HNA.out; omega)
              obtain ⟨b2, o2, y, rfl, hb2, hy, hdy, h2⟩ := (hT.out _ ho).at_ (k := p) (by have := HNT.out; omega)
              have c1 : wr.cell? ⟨b1, o1 + i, none⟩ = some (.string x) := by simpa [encS] using h1 0 (by decide)
              have c2 : wr.cell? ⟨b2, o2 + p, none⟩ = some (.string y) := by simpa [encS] using h2 0 (by decide)
              have hs1 := hs.out
              rw [hdx, hdy] at hs1
              have HS1 := Lib.hid hs1
              have HDY := Lib.hid hdy
              clear hs1 hdx hdy hx hy h1 h2
              by_cases hxy : x = y
              · subst hxy
                have HS2 : Hid (List.Sublist (out.drop (p + 1)) (items.drop (i + 1))) := Lib.hid (List.cons_sublist_cons.1 HS1.out)
                go_wp2
                go_quiet (fail)
                go_wp2
                go_roundw
                case rel => exact ⟨p + 1, i + 1, by go_num, by go_num, by omega, by omega, HS2, ho.drewN _⟩
                case measure => simp [intOf]; omega
              · have HS2 : Hid (List.Sublist (out.drop p) (items.drop (i + 1))) := Lib.hid (by
                  have h := HS1.out
                  rw [HDY.out]
                  cases h with
                  | cons _ h => exact h
                  | cons_cons _ h => exact absurd rfl hxy)
                have exy : (x.toList == y.toList) = false := by
                  rw [beq_eq_false_iff_ne]
                  intro e
                  exact hxy (ba_inj e)
                go_wp2
                go_quiet (fail)
                go_wp2
                go_roundw
                case rel => exact ⟨p, i + 1, rfl, by go_num, by omega, by omega, HS2, ho.drewN _⟩
                case measure => simp [intOf]; omega
            · have hpn : p = nt := by omega
              subst hpn
              have f2 := hCs.out _ ho
              have zf := hCz.out _ ho
              by_cases e0 : st = 0
              · have es : (st != 0) = false := by simpa using e0
                have hTy := Lib.hid (hTx.out e0)
                clear e0
                go_wp2_with (first
                  | (go_at_call 24; (with_reducible refine (hTy.out _ ho).mono ?_); rintro e w9 ⟨rfl, ho9⟩)
                  )
                go_ret
                exact ⟨rfl, (hBe0.trans (ho.below hBe0.size (fun _ _ hh => hh))).trans (ho9.below (hBe0.trans (ho.below hBe0.size (fun _ _ hh => hh))).size (fun _ _ hh => hh))⟩
              · have es : (st != 0) = true := by simpa using e0
                clear e0
                go_wp2
                go_ret
                exact ⟨rfl, hBe0.trans (ho.below hBe0.size (fun _ _ hh => hh))⟩
          · have hpn : p = nt := by
              have h := hs.out
              rw [List.drop_of_length_le (l := items) (by have := HNA.out; omega)] at h
              have h2 := List.eq_nil_of_sublist_nil h
              have h3 := List.drop_eq_nil_iff.1 h2
              have := HNT.out
              omega
            subst hpn
            have f2 := hCs.out _ ho
            have zf := hCz.out _ ho
            by_cases e0 : st = 0
            · have es : (st != 0) = false := by simpa using e0
              have hTy := Lib.hid (hTx.out e0)
              clear e0
              go_wp2_with (first
                | (go_at_call 24; (with_reducible refine (hTy.out _ ho).mono ?_); rintro e w9 ⟨rfl, ho9⟩)
                )
              go_ret
              exact ⟨rfl, (hBe0.trans (ho.below hBe0.size (fun _ _ hh => hh))).trans (ho9.below (hBe0.trans (ho.below hBe0.size (fun _ _ hh => hh))).size (fun _ _ hh => hh))⟩
            · have es : (st != 0) = true := by simpa using e0
              clear e0
              go_wp2
              go_ret
              exact ⟨rfl, hBe0.trans (ho.below hBe0.size (fun _ _ hh => hh))⟩
  · have hR := Lib.hid (fun W => right_any kd cp st W)
    obtain ⟨re, hre⟩ : ∃ re, rightE kd cp st = re := ⟨_, rfl⟩
    rw [hre] at he hR
    have hN := Lib.hid (TNew_bad kd cp st re (w.alloc (.cells #[.int .i64 kd, .int .i64 cp, .int .i64 st] 23)) hre he)
    unfold NewBad at hN
    have hne : (re != 0) = true := by simpa using he
    clear he hre hl
    go_enter Try.func4, Try.ntmps4
    go_wp2_with (first
      | (go_at_call 7; (with_reducible refine (hN.out).mono ?_); rintro e w1 ⟨rfl, ho1⟩; have hb1 := hb0.kept ho1 (fun hh => hh); have d0 := hb1.cell 0; have d1 := hb1.cell 1; have d2 := hb1.cell 2; have zc := hb1.lt)
      | (go_at_call 8; (with_reducible refine (hR.out _).mono ?_); rintro e w2 ⟨rfl, ho2⟩)
      | (go_at_call 9; (with_reducible refine (awake_any _).mono ?_); rintro e w3 ⟨rfl, ho3⟩)
      )
    go_ret
    exact ⟨rfl, (((hn0.trans ho1).trans ho2).trans ho3).below (Nat.le_refl _) (fun _ _ hh => hh)⟩
/-! The step from the walk to the statement of TxOrder. -/
namespace frTxOrder
open Go.ChangeShapes Go.WideShapes Go.ChangeAt Go.RowKit
set_option linter.unusedVariables false
theorem own : ownKnob Try.prog.godebug = none := by kernel_rfl
theorem laidOut : laidOutB Try.prog = true := by kernel_rfl
theorem shape0 : Kd.ok Try.prog (.agg [.int .i64, .int .i64, .int .i64]) 23 = true := by kernel_rfl
theorem shape1 : Kd.ok Try.prog (.slc (.agg [.int .i64, .int .i64, .str])) 24 = true := by kernel_rfl
set_option maxRecDepth 100000 in
theorem contract (H : Type) (enc : TypeId × Value → H) (W : World) (base : Nat) (args : Array Value) (ds gs : List (DataW H)) (before : List MemPlace)
    (hval : ∀ (j : Nat) t v, Try.f4.params[j]? = some t → args[j]? = some v → Value.okWide Try.prog W .any base t v)
    (hW : DataW.Whole enc Try.prog Try.f4.params.toList Rows.txOrderSpec.vars false W args.toList ds gs before) :
    Calls Try.prog 4 args W fun e W' => ∃ v, e = .returned v ∧ Rows.txOrderSpec.post enc Try.prog Try.f4 false true false false W args v W' := by
  have hW' := hW
  obtain ⟨p, q, hA0, hV, rfl, hfz, hnd⟩ := hW
  have hA : DataW.TrodAll enc Try.prog W 0 (fun _ => true) true Try.f4.params.toList args.toList ds p := hA0
  rw [Try.params4] at hA hval
  obtain ⟨v0, vs0, d0, ds0, p0, q0, hargs, rfl, rfl, h0, r0⟩ := trodAll_cons hA
  obtain ⟨v1, vs1, d1, ds1, p1, q1, rfl, rfl, rfl, h1, r1⟩ := trodAll_cons r0
  obtain ⟨rfl, rfl, rfl⟩ := trodAll_nil r1
  obtain rfl : args = #[v0, v1] := by cases args; simp_all
  obtain ⟨rfl, rfl⟩ := trodVars_none hV
  have k0 := Kd.fit _ shape0 (hval 0 23 v0 rfl rfl) h0
  have lt0 : ∀ x ∈ p0, x.block < W.heap.size := by obtain ⟨m, hm⟩ := h0; exact DataW.trod_lt m _ _ _ hm
  have k1 := Kd.fit _ shape1 (hval 1 24 v1 rfl rfl) h1
  have lt1 : ∀ x ∈ p1, x.block < W.heap.size := by obtain ⟨m, hm⟩ := h1; exact DataW.trod_lt m _ _ _ hm
  refine (txOrder_walk v0 v1 W k0 k1).mono fun e W' ⟨he, bel⟩ => ?_
  subst he
  exact ⟨_, rfl, _, _, _, [], _, [], hW', trodAll_mk1 (shut_bool Try.underlying4 _), (trodAll_cons_mk (Below.trod laidOut (by kernel_rfl) (of_decide_eq_true (by kernel_rfl)) h0 bel lt0) (trodAll_cons_mk (Below.trod laidOut (by kernel_rfl) (of_decide_eq_true (by kernel_rfl)) h1 bel lt1) trodAll_mk0)), rfl, bel.frame _, fun h => by cases h⟩
set_option maxRecDepth 100000 in
theorem lifted (os : Os) (started : os.Started) (H : Type) (enc : TypeId × Value → H) :
    ReturnsInHanded {} Try.checked os 4 .any (Rows.txOrderSpec.pre6 enc Try.prog Try.f4 Rows.txOrderRow.domain false) (Rows.txOrderSpec.post enc Try.prog Try.f4 false true false false) := by
  refine returnsInHanded_of_change (C := Try.checked) own started (by kernel_rfl) Try.func4
    (ChangeSpec.witness6 (enc := enc) (C := Try.checked) false ⟨#[], #[.agg #[.int .i64 0, .int .i64 0, .int .i64 0], .slice none 0 0], []⟩ 8 (by kernel_rfl) (by kernel_rfl) (by kernel_rfl) (by kernel_rfl)) ?_
  intro W base args ds gs before hval hW _ _
  exact contract H enc W base args ds gs before hval hW
theorem over : Rows.txOrderRow.holds Try.pinned (OpenSpec.ofChange Rows.txOrderSpec) :=
  OpenClaim.holds_of_wide 4 Try.f4 rfl rfl rfl rfl rfl rfl rfl ⟨rfl, rfl, rfl, rfl, rfl⟩ rfl rfl rfl rfl rfl (by kernel_rfl) Try.func4 (by kernel_rfl)
    (of_decide_eq_true (by kernel_rfl)) (by unfold Func.isWrapper; first | (rw [if_pos (by decide +kernel)]; kernel_rfl) | (rw [if_neg (by decide +kernel)]; exact ⟨rfl, rfl⟩))
    (fun os started H enc _ => lifted os started H enc)
theorem proved : Rows.TxOrderSaid := over
end frTxOrder
end Go.Proofs.Ytlinmpcllmijaaa
