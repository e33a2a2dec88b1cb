/- No more items are taken than were wanted; no more bytes at once than credit says (the statement TxNever, as it is given). No condition. -/

import Derived.Test.YtlinmpcllmijaaaLaw22
import Derived.Deep.CutBlock
namespace Go.Proofs.Ytlinmpcllmijaaa
open Go.RowKit

structure NV (kd : Int) (L : List ByteArray) (S wn wanted : Int) : Prop where
  w0 : 0 ≤ wanted
  w1 : wanted ≤ 1099511627776
  le : kd = 2 → S + wn ≤ wanted ∨ wanted = 1099511627776
  sz : ∀ x ∈ L, x.size ≤ 256
theorem NV.offer {kd cp st : Int} {X : ByteArray} {B B' : List UInt8} {L L' : List ByteArray} {A D A' D' r e S wn wt : Int} {en : Bool} (h : NV kd L S wn wt) (hr : OfR kd cp st X B L A D en r e B' L' A' D') : NV kd L' S wn wt := by
  refine ⟨h.w0, h.w1, h.le, ?_⟩
  cases hr with
  | ended => exact h.sz
  | bytes k hk e => exact h.sz
  | big hk hX => exact h.sz
  | refused hk hX hf hs => exact h.sz
  | kept hk hX hf =>
    intro x hx
    rcases List.mem_append.1 hx with hx | hx
    · exact h.sz x hx
    · simp at hx
      subst hx
      exact hX
  | dropped hk hX hf hs hd => exact h.sz
  | pushed x R e hk hX hf hs hd =>
    subst e
    intro x hx
    rcases List.mem_append.1 hx with hx | hx
    · exact h.sz x (by simp [hx])
    · simp at hx
      subst hx
      exact hX
theorem NV.take {kd n : Int} {X : ByteArray} {o is ou ou' en : Bool} {B B' : List UInt8} {L L' : List ByteArray} {wn wn' S S' wt : Int} (h : NV kd L S wn wt) (hr : TkR kd n B L wn en ou S X o is B' L' wn' ou' S') :
    NV kd L' S' wn' wt ∧ X.size ≤ 256 ∧ (kd = 1 → (X.size : Int) ≤ n ∨ X.size = 0) ∧ (is = false → X = noS) := by
  have h1 := h.le
  cases hr with
  | no hr => exact ⟨h, by decide, fun _ => .inr rfl, fun _ => rfl⟩
  | bytes j hk hr e =>
    refine ⟨⟨h.w0, h.w1, fun e => by rw [hk] at e; exact absurd e (by decide), h.sz⟩, ?_, fun _ => ?_, fun e => absurd e (by decide)⟩
    · rw [strOf_size, List.length_take, e]
      unfold outN cnt
      split <;> omega
    · rw [strOf_size, List.length_take, e]
      unfold outN cnt
      split <;> omega
  | over hk hL he ho => exact ⟨h, by decide, fun _ => .inr rfl, fun _ => rfl⟩
  | item X R hk e hw =>
    subst e
    refine ⟨⟨h.w0, h.w1, fun e => ?_, fun x hx => h.sz x (by simp [hx])⟩, h.sz _ (by simp), fun e => by rw [hk] at e; exact absurd e (by decide), fun e => absurd e (by decide)⟩
    have := h1 e
    omega
theorem NV.no {kd S wn wt : Int} {L : List ByteArray} (h : NV kd L S wn wt) (hw : 0 ≤ wn) (hS : S ≤ 1000000) : kd = 2 → ¬ wt < S := fun e => by
  have := h.le e
  omega
theorem NV.want {kd S wn wt n wt' : Int} {L : List ByteArray} (h : NV kd L S wn wt) (hn : 1 ≤ n) (hw : wt' = 1099511627776 ∨ (wt' = wt + n ∧ wt + n ≤ 1099511627776)) : NV kd L S (wnK kd wn n) wt' := by
  have h0 := h.w0
  refine ⟨by omega, by omega, fun e => ?_, h.sz⟩
  have h1 := h.le e
  unfold wnK Dem.addK
  rw [if_neg (by omega), if_neg (by omega)]
  omega
theorem wnK_no {kd wn n : Int} (h : kd = 1 ∨ n < 1) : wnK kd wn n = wn := by
  unfold wnK Dem.addK
  split
  · rfl
  · rw [if_pos (by omega)]
    omega
theorem NV.start (kd : Int) : NV kd [] 0 0 0 := ⟨by decide, by decide, fun _ => .inl (by decide), fun x hx => by simp at hx⟩
theorem Calls.onto {P : Program} {f : FuncId} {args : Array Value} {w0 w : World} {r : Value} (ho : Only Nil w0 w) (h : Calls P f args w fun x w' => x = .returned r ∧ Only Nil w w') : Calls P f args w fun x w' => x = .returned r ∧ Only Nil w0 w' :=
  h.mono fun _ _ hh => ⟨hh.1, ho.trans hh.2⟩
theorem rightE_0 {kd cp st : Int} (h : rightE kd cp st = 0) : (kd = 1 ∨ kd = 2) ∧ 0 ≤ cp ∧ cp ≤ 4096 ∧ (kd = 2 → cp ≤ 64) := by
  unfold rightE at h
  by_cases h1 : kd ≠ 1 ∧ kd ≠ 2
  · rw [if_pos h1] at h
    exact absurd h (by decide)
  rw [if_neg h1] at h
  by_cases h2 : cp < 0 ∨ kd = 1 ∧ 4096 < cp ∨ kd = 2 ∧ 64 < cp
  · rw [if_pos h2] at h
    exact absurd h (by decide)
  omega
set_option maxRecDepth 100000 in
set_option maxHeartbeats 16000000 in
theorem txNever_walk (v0 v1 : Value) (w : World) (h0 : Kd.Fit w (.agg [.int .i64, .int .i64, .int .i64]) v0) (h1 : Kd.Fit w (.slc (.agg [.int .i64, .int .i64, .str])) v1) :
    Calls Try.prog 5 #[v0, v1] w fun e w' => e = .returned (.bool true) ∧ Below w.heap.size w w' := by
  obtain ⟨cs, rfl, hc⟩ := h0
  obtain ⟨u0, c0, rfl, i0, hc⟩ := Kd.headL rfl hc
  obtain ⟨u1, c1, rfl, i1, hc⟩ := Kd.headL rfl hc
  obtain ⟨u2, c2, rfl, i2, hc⟩ := Kd.headL rfl hc
  obtain rfl := Kd.end_ hc
  obtain ⟨kd, rfl, -⟩ := Kd.int_is i0
  obtain ⟨cp, rfl, -⟩ := Kd.int_is i1
  obtain ⟨st, rfl, -⟩ := Kd.int_is i2
  obtain ⟨A, len, cap, rfl, hl⟩ := Kd.slc_fit h1
  clear i0 i1 i2 hc h1
  have hn0 := (Only.refl Nil w).alloc (.cells #[.int .i64 kd, .int .i64 cp, .int .i64 st] 23)
  have hb0 := Blk.new w 23 #[.int .i64 kd, .int .i64 cp, .int .i64 st]
  by_cases he : rightE kd cp st = 0
  · have hN := Lib.hid (TNew_ok kd cp st (w.alloc (.cells #[.int .i64 kd, .int .i64 cp, .int .i64 st] 23)) he)
    have hR := Lib.hid (fun W => by have := right_any kd cp st W; rwa [he] at this)
    unfold NewPT at hN
    obtain ⟨hk, p0, p1, p2⟩ := rightE_0 he
    have HK := Lib.hid hk
    have HP2 := Lib.hid p2
    clear hk p2 he
    go_enter Try.func5, Try.ntmps5
    go_wp2_with (first
      | (go_at_call 7; (with_reducible refine (hN.out).mono ?_); rintro e w1 ⟨b, F0, rfl, hP1, ho1⟩; have hb1 := hb0.kept ho1 (fun hh => hh); have d0 := hb1.cell 0; have d1 := hb1.cell 1; have d2 := hb1.cell 2; have zc := hb1.lt)
      | (go_at_call 8; (with_reducible refine (hR.out _).mono ?_); rintro e w2 ⟨rfl, ho2⟩; have hP2 := hP1.kept ho2; have hb2 := hb1.kept ho2 (fun hh => hh))
      | (go_at_call 9; (with_reducible refine (awake_any _).mono ?_); rintro e w3 ⟨rfl, ho3⟩)
      )
    have hP3 := hP2.kept ho3
    have hb3 := hb2.kept ho3 (fun hh => hh)
    have hO3 := (ho1.trans ho2).trans ho3
    have hBe3 := hO3.below (Nat.le_refl _) (fun _ _ hh => hh)
    obtain ⟨W1, hW1⟩ : ∃ W1, W1 = w.alloc (.cells #[.int .i64 kd, .int .i64 cp, .int .i64 st] 23) := ⟨_, rfl⟩
    have hsz1 : w.heap.size < W1.heap.size := by rw [hW1]; simp
    have hWB : Below w.heap.size w W1 := by rw [hW1]; exact hn0.below (Nat.le_refl _) (fun _ _ hh => hh)
    have hbC : Blk W1 w.heap.size 23 #[.int .i64 kd, .int .i64 cp, .int .i64 st] := by rw [hW1]; exact hb0
    rw [← hW1] at hP3 hBe3
    clear hP1 hP2 hb1 hb2 hb3 hO3 ho1 ho2 ho3 hb0 hn0 hN hR hW1
    go_loopw [7, 8] (fun ww ii wr => ∃ (k : Nat) (F : Nat → Prop) (B : List UInt8) (L : List ByteArray) (wn : Int) (en ou : Bool) (A S D wt : Int), k ≤ len ∧ ww = .int .i64 wt ∧ ii = .int .i64 k ∧ k ≤ 80 ∧ PT wr b W1.heap.size F kd cp st B L wn en ou A S D ∧ TI kd (600 * (k : Int)) cp B L wn en ou A S D ∧ NV kd L S wn wt ∧ Below W1.heap.size W1 wr) (fun _ ii _ => len - (intOf ii).toNat)
    case atStart => exact ⟨0, F0, [], [], 0, false, false, 0, 0, 0, 0, Nat.zero_le _, rfl, rfl, by omega, hP3, ⟨rfl, by decide, by decide, by decide, by simpa [nOf] using p0, by decide, by decide, fun e => absurd e (by decide), fun _ => rfl, fun _ => rfl⟩, NV.start kd, hBe3⟩
    case round =>
      clear hP3 hBe3 F0
      obtain ⟨k, F, B, L, wn, en, ou, A, S, D, wt, hk, rfl, rfl, hk1, hPT, hi, hv, hBe⟩ := hrel
      have hmax : len ≤ 9223372036854775807 := Nat.le_trans hl.1 hl.2.1
      have hBe0 := hWB.trans (hBe.mono (Nat.le_of_lt hsz1))
      by_cases hlt : k < len
      · by_cases h80 : k < 80
        · obtain ⟨b', off, rfl, hb', cs, hcl, hcs, his⟩ := hl.at (by decide) hlt
          obtain ⟨u0, e0, rfl, i0, his⟩ := Kd.headL rfl (by unfold Kd.Is at his; exact his)
          obtain ⟨u1, e1, rfl, i1, his⟩ := Kd.headL rfl his
          obtain ⟨u2, e2, rfl, i2, his⟩ := Kd.headL rfl his
          obtain rfl := Kd.end_ his
          obtain ⟨ak, rfl, -⟩ := Kd.int_is i0
          obtain ⟨n, rfl, -⟩ := Kd.int_is i1
          obtain ⟨X, rfl, -⟩ := Kd.str_is i2
          have q0 := hcs 0 (by decide)
          have q1 := hcs 1 (by decide)
          have q2 := hcs 2 (by decide)
          simp [Kd.cells, Kd.cellsL] at q0 q1 q2
          have f0 := (hBe0.cell (p := ⟨b', _, none⟩) hb').trans q0
          have f1 := (hBe0.cell (p := ⟨b', _, none⟩) hb').trans q1
          have f2 := (hBe0.cell (p := ⟨b', _, none⟩) hb').trans q2
          clear q0 q1 q2 hcs hcl hl i0 i1 i2
          have HI := Lib.hid hi
          have HV := Lib.hid hv
          have HT := Lib.hid hPT
          have hki : (k : Int) < len := by omega
          have hk6 : (k : Int) < 80 := by omega
          have hA0 := Lib.hid (Blk.new wr 36 #[.int .i64 ak, .int .i64 n, .string X])
          have hnA := Lib.hid ((Only.refl Nil wr).alloc (.cells #[.int .i64 ak, .int .i64 n, .string X] 36))
          clear hi hv hPT
          by_cases hS : 600 < X.size
          · have hSi : (600 : Int) < X.size := by omega
            go_wp2
            go_roundw
            case rel => exact ⟨k + 1, F, B, L, wn, en, ou, A, S, D, wt, by omega, rfl, by go_num, by omega, HT.out.kept hnA.out, HI.out.le (by push_cast; omega), HV.out, hBe.trans (hnA.out.below hBe.size (fun _ _ hh => hh))⟩
            case measure => simp [intOf]; omega
          · have hSi : ¬ (600 : Int) < X.size := by omega
            go_upto_block 2 with fail
            go_cut [7] (fun ww wx => ∃ (F : Nat → Prop) (B : List UInt8) (L : List ByteArray) (wn : Int) (en ou : Bool) (A S D wt : Int), ww = .int .i64 wt ∧ PT wx b W1.heap.size F kd cp st B L wn en ou A S D ∧ TI kd (600 * ((k + 1 : Nat) : Int)) cp B L wn en ou A S D ∧ NV kd L S wn wt ∧ Below W1.heap.size W1 wx)
            case first =>
              have hcap2 : kd = 2 → L.length ≤ 1000 := fun e => by
                have h1 := HP2.out e
                have h2 := HI.out.cap
                unfold nOf at h2
                omega
              have hcc := HI.out.c (by omega)
              have hPa := Lib.hid (HT.out.kept hnA.out)
              have hBa : Below W1.heap.size W1 (wr.alloc (.cells #[.int .i64 ak, .int .i64 n, .string X] 36)) := hBe.trans (hnA.out.below hBe.size (fun _ _ hh => hh))
              have hnF : Hid (¬ F wr.heap.size) := Lib.hid (fun hh => by have := (HT.out.fp _ hh).2; omega)
              by_cases k34 : ak = 3 ∨ ak = 4
              · obtain ⟨X', o, is, B', L', wn', ou', S', htk⟩ := TkR.ex (kd := kd) n HK.out HI.out
                have hTk := Lib.hid (PT.Take hPa.out htk hcc hcap2 HI.out.w1)
                have HTI := Lib.hid ((HI.out.le (m' := 600 * ((k + 1 : Nat) : Int)) (by push_cast; omega)).take htk)
                obtain ⟨hv2, hsz, hk1s, hno⟩ := HV.out.take htk
                have HV2 := Lib.hid hv2
                have hszi : ¬ (256 : Int) < X'.size := by omega
                clear htk hv2 hcc hcap2
                cases is with
                | false =>
                  obtain rfl := hno rfl
                  clear hk1s hsz hszi
                  by_cases k1 : kd = 1
                  · have ek : (kd == 1) = true := by simpa using k1
                    clear k1
                    by_cases hn0 : n < 0
                    · rcases k34 with rfl | rfl
                      ·
                        as_aux_lemma =>
                          go_wp2_with (first
                            | (go_at_call 20; (with_reducible refine (hTk.out).mono ?_); rintro e w5 ⟨F5, rfl, hP5, ho5, hg5⟩; have hBe5 := hBa.trans (hPa.out.below ho5); have d0 := (hbC.below hBe5 hsz1).cell 0; have zc := (hbC.below hBe5 hsz1).lt; have a1 := (hA0.out.kept ho5 (fun hh => hnF.out hh)).cell 1; have za := (hA0.out.kept ho5 (fun hh => hnF.out hh)).lt)
                            )
                          go_meet
                          exact ⟨F5, B', L', wn', en, ou', A, S', D, wt, rfl, hP5, HTI.out, HV2.out, hBe5⟩
                      ·
                        as_aux_lemma =>
                          go_wp2_with (first
                            | (go_at_call 20; (with_reducible refine (hTk.out).mono ?_); rintro e w5 ⟨F5, rfl, hP5, ho5, hg5⟩; have hBe5 := hBa.trans (hPa.out.below ho5); have d0 := (hbC.below hBe5 hsz1).cell 0; have zc := (hbC.below hBe5 hsz1).lt; have a1 := (hA0.out.kept ho5 (fun hh => hnF.out hh)).cell 1; have za := (hA0.out.kept ho5 (fun hh => hnF.out hh)).lt)
                            )
                          go_meet
                          exact ⟨F5, B', L', wn', en, ou', A, S', D, wt, rfl, hP5, HTI.out, HV2.out, hBe5⟩
                    · rcases k34 with rfl | rfl
                      ·
                        as_aux_lemma =>
                          go_wp2_with (first
                            | (go_at_call 20; (with_reducible refine (hTk.out).mono ?_); rintro e w5 ⟨F5, rfl, hP5, ho5, hg5⟩; have hBe5 := hBa.trans (hPa.out.below ho5); have d0 := (hbC.below hBe5 hsz1).cell 0; have zc := (hbC.below hBe5 hsz1).lt; have a1 := (hA0.out.kept ho5 (fun hh => hnF.out hh)).cell 1; have za := (hA0.out.kept ho5 (fun hh => hnF.out hh)).lt)
                            )
                          go_meet
                          exact ⟨F5, B', L', wn', en, ou', A, S', D, wt, rfl, hP5, HTI.out, HV2.out, hBe5⟩
                      ·
                        as_aux_lemma =>
                          go_wp2_with (first
                            | (go_at_call 20; (with_reducible refine (hTk.out).mono ?_); rintro e w5 ⟨F5, rfl, hP5, ho5, hg5⟩; have hBe5 := hBa.trans (hPa.out.below ho5); have d0 := (hbC.below hBe5 hsz1).cell 0; have zc := (hbC.below hBe5 hsz1).lt; have a1 := (hA0.out.kept ho5 (fun hh => hnF.out hh)).cell 1; have za := (hA0.out.kept ho5 (fun hh => hnF.out hh)).lt)
                            )
                          go_meet
                          exact ⟨F5, B', L', wn', en, ou', A, S', D, wt, rfl, hP5, HTI.out, HV2.out, hBe5⟩
                  · have ek : (kd == 1) = false := by simpa using k1
                    clear k1
                    rcases k34 with rfl | rfl
                    ·
                      as_aux_lemma =>
                        go_wp2_with (first
                          | (go_at_call 20; (with_reducible refine (hTk.out).mono ?_); rintro e w5 ⟨F5, rfl, hP5, ho5, hg5⟩; have hBe5 := hBa.trans (hPa.out.below ho5); have d0 := (hbC.below hBe5 hsz1).cell 0; have zc := (hbC.below hBe5 hsz1).lt; have a1 := (hA0.out.kept ho5 (fun hh => hnF.out hh)).cell 1; have za := (hA0.out.kept ho5 (fun hh => hnF.out hh)).lt)
                          )
                        go_meet
                        exact ⟨F5, B', L', wn', en, ou', A, S', D, wt, rfl, hP5, HTI.out, HV2.out, hBe5⟩
                    ·
                      as_aux_lemma =>
                        go_wp2_with (first
                          | (go_at_call 20; (with_reducible refine (hTk.out).mono ?_); rintro e w5 ⟨F5, rfl, hP5, ho5, hg5⟩; have hBe5 := hBa.trans (hPa.out.below ho5); have d0 := (hbC.below hBe5 hsz1).cell 0; have zc := (hbC.below hBe5 hsz1).lt; have a1 := (hA0.out.kept ho5 (fun hh => hnF.out hh)).cell 1; have za := (hA0.out.kept ho5 (fun hh => hnF.out hh)).lt)
                          )
                        go_meet
                        exact ⟨F5, B', L', wn', en, ou', A, S', D, wt, rfl, hP5, HTI.out, HV2.out, hBe5⟩
                | true =>
                  clear hno
                  by_cases k1 : kd = 1
                  · have ek : (kd == 1) = true := by simpa using k1
                    have hk2 := hk1s k1
                    clear k1 hk1s
                    by_cases hn0 : n < 0
                    · obtain rfl : X' = noS := ByteArray.ext (Array.eq_empty_of_size_eq_zero (show X'.size = 0 by omega))
                      clear hk2 hsz hszi
                      rcases k34 with rfl | rfl
                      ·
                        as_aux_lemma =>
                          go_wp2_with (first
                            | (go_at_call 20; (with_reducible refine (hTk.out).mono ?_); rintro e w5 ⟨F5, rfl, hP5, ho5, hg5⟩; have hBe5 := hBa.trans (hPa.out.below ho5); have d0 := (hbC.below hBe5 hsz1).cell 0; have zc := (hbC.below hBe5 hsz1).lt; have a1 := (hA0.out.kept ho5 (fun hh => hnF.out hh)).cell 1; have za := (hA0.out.kept ho5 (fun hh => hnF.out hh)).lt)
                            )
                          go_meet
                          exact ⟨F5, B', L', wn', en, ou', A, S', D, wt, rfl, hP5, HTI.out, HV2.out, hBe5⟩
                      ·
                        as_aux_lemma =>
                          go_wp2_with (first
                            | (go_at_call 20; (with_reducible refine (hTk.out).mono ?_); rintro e w5 ⟨F5, rfl, hP5, ho5, hg5⟩; have hBe5 := hBa.trans (hPa.out.below ho5); have d0 := (hbC.below hBe5 hsz1).cell 0; have zc := (hbC.below hBe5 hsz1).lt; have a1 := (hA0.out.kept ho5 (fun hh => hnF.out hh)).cell 1; have za := (hA0.out.kept ho5 (fun hh => hnF.out hh)).lt)
                            )
                          go_meet
                          exact ⟨F5, B', L', wn', en, ou', A, S', D, wt, rfl, hP5, HTI.out, HV2.out, hBe5⟩
                    · have hx : ¬ n < X'.size := by omega
                      clear hk2 hsz
                      rcases k34 with rfl | rfl
                      ·
                        as_aux_lemma =>
                          go_wp2_with (first
                            | (go_at_call 20; (with_reducible refine (hTk.out).mono ?_); rintro e w5 ⟨F5, rfl, hP5, ho5, hg5⟩; have hBe5 := hBa.trans (hPa.out.below ho5); have d0 := (hbC.below hBe5 hsz1).cell 0; have zc := (hbC.below hBe5 hsz1).lt; have a1 := (hA0.out.kept ho5 (fun hh => hnF.out hh)).cell 1; have za := (hA0.out.kept ho5 (fun hh => hnF.out hh)).lt)
                            )
                          go_meet
                          exact ⟨F5, B', L', wn', en, ou', A, S', D, wt, rfl, hP5, HTI.out, HV2.out, hBe5⟩
                      ·
                        as_aux_lemma =>
                          go_wp2_with (first
                            | (go_at_call 20; (with_reducible refine (hTk.out).mono ?_); rintro e w5 ⟨F5, rfl, hP5, ho5, hg5⟩; have hBe5 := hBa.trans (hPa.out.below ho5); have d0 := (hbC.below hBe5 hsz1).cell 0; have zc := (hbC.below hBe5 hsz1).lt; have a1 := (hA0.out.kept ho5 (fun hh => hnF.out hh)).cell 1; have za := (hA0.out.kept ho5 (fun hh => hnF.out hh)).lt)
                            )
                          go_meet
                          exact ⟨F5, B', L', wn', en, ou', A, S', D, wt, rfl, hP5, HTI.out, HV2.out, hBe5⟩
                  · have ek : (kd == 1) = false := by simpa using k1
                    clear k1 hk1s hsz
                    rcases k34 with rfl | rfl
                    ·
                      as_aux_lemma =>
                        go_wp2_with (first
                          | (go_at_call 20; (with_reducible refine (hTk.out).mono ?_); rintro e w5 ⟨F5, rfl, hP5, ho5, hg5⟩; have hBe5 := hBa.trans (hPa.out.below ho5); have d0 := (hbC.below hBe5 hsz1).cell 0; have zc := (hbC.below hBe5 hsz1).lt; have a1 := (hA0.out.kept ho5 (fun hh => hnF.out hh)).cell 1; have za := (hA0.out.kept ho5 (fun hh => hnF.out hh)).lt)
                          )
                        go_meet
                        exact ⟨F5, B', L', wn', en, ou', A, S', D, wt, rfl, hP5, HTI.out, HV2.out, hBe5⟩
                    ·
                      as_aux_lemma =>
                        go_wp2_with (first
                          | (go_at_call 20; (with_reducible refine (hTk.out).mono ?_); rintro e w5 ⟨F5, rfl, hP5, ho5, hg5⟩; have hBe5 := hBa.trans (hPa.out.below ho5); have d0 := (hbC.below hBe5 hsz1).cell 0; have zc := (hbC.below hBe5 hsz1).lt; have a1 := (hA0.out.kept ho5 (fun hh => hnF.out hh)).cell 1; have za := (hA0.out.kept ho5 (fun hh => hnF.out hh)).lt)
                          )
                        go_meet
                        exact ⟨F5, B', L', wn', en, ou', A, S', D, wt, rfl, hP5, HTI.out, HV2.out, hBe5⟩
              · by_cases k56 : ak = 5 ∨ ak = 6
                · clear k34 hcc hcap2
                  by_cases hbad : kd = 1 ∨ n < 1
                  · have hK := wnK_no (wn := wn) hbad
                    obtain ⟨ee, hee⟩ : ∃ ee, wnE kd n = ee := ⟨_, rfl⟩
                    have he0 : (ee == 0) = false := by
                      rw [← hee]
                      unfold wnE Dem.addE
                      split
                      · rfl
                      · rw [if_pos (by omega)]; rfl
                    have hW := Lib.hid (PT.Want n hPa.out HI.out.w0 HI.out.w1 ee hee wn hK)
                    clear hee hbad hK
                    rcases k56 with rfl | rfl
                    ·
                      as_aux_lemma =>
                        go_wp2_with (first
                          | (go_at_call 21; (with_reducible refine (hW.out).mono ?_); rintro e w5 ⟨F5, rfl, hP5, ho5, hg5⟩)
                          )
                        go_meet
                        exact ⟨F5, B, L, wn, en, ou, A, S, D, wt, rfl, hP5, HI.out.le (by push_cast; omega), HV.out, hBa.trans (hPa.out.below ho5)⟩
                    ·
                      as_aux_lemma =>
                        go_wp2_with (first
                          | (go_at_call 21; (with_reducible refine (hW.out).mono ?_); rintro e w5 ⟨F5, rfl, hP5, ho5, hg5⟩)
                          )
                        go_meet
                        exact ⟨F5, B, L, wn, en, ou, A, S, D, wt, rfl, hP5, HI.out.le (by push_cast; omega), HV.out, hBa.trans (hPa.out.below ho5)⟩
                  · have hee : wnE kd n = 0 := by
                      unfold wnE Dem.addE
                      rw [if_neg (by omega), if_neg (by omega)]
                    have hW := Lib.hid (PT.Want n hPa.out HI.out.w0 HI.out.w1 0 hee _ rfl)
                    have hn1 : 1 ≤ n := by omega
                    have hw0 := HV.out.w0
                    have hw1 := HV.out.w1
                    clear hee hbad
                    by_cases hbig : 1073741824 < n
                    · have HV2 := Lib.hid (HV.out.want (n := n) hn1 (.inl rfl))
                      rcases k56 with rfl | rfl
                      ·
                        as_aux_lemma =>
                          go_wp2_with (first
                            | (go_at_call 21; (with_reducible refine (hW.out).mono ?_); rintro e w5 ⟨F5, rfl, hP5, ho5, hg5⟩; have a1 := (hA0.out.kept ho5 (fun hh => hnF.out hh)).cell 1; have za := (hA0.out.kept ho5 (fun hh => hnF.out hh)).lt)
                            )
                          all_goals
                            go_meet
                            exact ⟨F5, B, L, _, en, ou, A, S, D, _, rfl, hP5, (HI.out.le (by push_cast; omega)).want n, HV2.out, hBa.trans (hPa.out.below ho5)⟩
                      ·
                        as_aux_lemma =>
                          go_wp2_with (first
                            | (go_at_call 21; (with_reducible refine (hW.out).mono ?_); rintro e w5 ⟨F5, rfl, hP5, ho5, hg5⟩; have a1 := (hA0.out.kept ho5 (fun hh => hnF.out hh)).cell 1; have za := (hA0.out.kept ho5 (fun hh => hnF.out hh)).lt)
                            )
                          all_goals
                            go_meet
                            exact ⟨F5, B, L, _, en, ou, A, S, D, _, rfl, hP5, (HI.out.le (by push_cast; omega)).want n, HV2.out, hBa.trans (hPa.out.below ho5)⟩
                    · have hmod : n % 2147483648 = n := Int.emod_eq_of_lt (by omega) (by omega)
                      by_cases hmn : 1099511627776 < wt + n
                      · have HV2 := Lib.hid (HV.out.want (n := n) hn1 (.inl rfl))
                        rcases k56 with rfl | rfl
                        ·
                          as_aux_lemma =>
                            go_wp2_with (first
                              | (go_at_call 21; (with_reducible refine (hW.out).mono ?_); rintro e w5 ⟨F5, rfl, hP5, ho5, hg5⟩; have a1 := (hA0.out.kept ho5 (fun hh => hnF.out hh)).cell 1; have za := (hA0.out.kept ho5 (fun hh => hnF.out hh)).lt)
                              )
                            all_goals
                              go_meet
                              exact ⟨F5, B, L, _, en, ou, A, S, D, _, rfl, hP5, (HI.out.le (by push_cast; omega)).want n, HV2.out, hBa.trans (hPa.out.below ho5)⟩
                        ·
                          as_aux_lemma =>
                            go_wp2_with (first
                              | (go_at_call 21; (with_reducible refine (hW.out).mono ?_); rintro e w5 ⟨F5, rfl, hP5, ho5, hg5⟩; have a1 := (hA0.out.kept ho5 (fun hh => hnF.out hh)).cell 1; have za := (hA0.out.kept ho5 (fun hh => hnF.out hh)).lt)
                              )
                            all_goals
                              go_meet
                              exact ⟨F5, B, L, _, en, ou, A, S, D, _, rfl, hP5, (HI.out.le (by push_cast; omega)).want n, HV2.out, hBa.trans (hPa.out.below ho5)⟩
                      · have HV2 := Lib.hid (HV.out.want (n := n) hn1 (.inr ⟨rfl, by omega⟩))
                        rcases k56 with rfl | rfl
                        ·
                          as_aux_lemma =>
                            go_wp2_with (first
                              | (go_at_call 21; (with_reducible refine (hW.out).mono ?_); rintro e w5 ⟨F5, rfl, hP5, ho5, hg5⟩; have a1 := (hA0.out.kept ho5 (fun hh => hnF.out hh)).cell 1; have za := (hA0.out.kept ho5 (fun hh => hnF.out hh)).lt)
                              )
                            all_goals
                              go_meet
                              exact ⟨F5, B, L, _, en, ou, A, S, D, _, rfl, hP5, (HI.out.le (by push_cast; omega)).want n, HV2.out, hBa.trans (hPa.out.below ho5)⟩
                        ·
                          as_aux_lemma =>
                            go_wp2_with (first
                              | (go_at_call 21; (with_reducible refine (hW.out).mono ?_); rintro e w5 ⟨F5, rfl, hP5, ho5, hg5⟩; have a1 := (hA0.out.kept ho5 (fun hh => hnF.out hh)).cell 1; have za := (hA0.out.kept ho5 (fun hh => hnF.out hh)).lt)
                              )
                            all_goals
                              go_meet
                              exact ⟨F5, B, L, _, en, ou, A, S, D, _, rfl, hP5, (HI.out.le (by push_cast; omega)).want n, HV2.out, hBa.trans (hPa.out.below ho5)⟩
                · have e3 : (ak == 3) = false := by simp; omega
                  have e4 : (ak == 4) = false := by simp; omega
                  have e5 : (ak == 5) = false := by simp; omega
                  have e6 : (ak == 6) = false := by simp; omega
                  clear k34 k56
                  by_cases k7 : ak = 7
                  · subst k7
                    have HE : Hid (∃ e, Calls Try.prog 22 #[.pointer (some ⟨b, 0, none⟩)] (wr.alloc (.cells #[.int .i64 7, .int .i64 n, .string X] 36)) (PTPost (wr.alloc (.cells #[.int .i64 7, .int .i64 n, .string X] 36)) b W1.heap.size F kd cp st (.int .i64 e) B L wn true ou A S D)) := Lib.hid (by
                      cases en with
                      | true => exact ⟨_, hPa.out.End1⟩
                      | false => exact ⟨_, hPa.out.End0⟩)
                    obtain ⟨ee, HE1⟩ := HE.out
                    have HE2 := Lib.hid HE1
                    clear HE HE1
                    go_wp2_with (first
                      | (go_at_call 22; (with_reducible refine (HE2.out).mono ?_); rintro e w5 ⟨F5, rfl, hP5, ho5, hg5⟩)
                      )
                    go_meet
                    exact ⟨F5, B, L, wn, true, ou, A, S, D, wt, rfl, hP5, (HI.out.le (by push_cast; omega)).end_, HV.out, hBa.trans (hPa.out.below ho5)⟩
                  · have e7 : (ak == 7) = false := by simp; omega
                    obtain ⟨r, e, B', L', A', D', hof⟩ := OfR.ex (B := B) (L := L) (A := A) (D := D) (st := st) (en := en) X HK.out p0
                    have HO := Lib.hid (PT.Offer X hPa.out hof hcc hcap2)
                    have HOF := Lib.hid hof
                    clear hof k7 hcap2 hcc
                    go_wp2_with (first
                      | (go_at_call 23; (with_reducible refine (HO.out).mono ?_); rintro e w5 ⟨F5, rfl, hP5, ho5, hg5⟩)
                      )
                    go_meet
                    exact ⟨F5, B', L', wn, en, ou, A', S, D', wt, rfl, hP5, (HI.out.offer HOF.out p0 (by omega)).le (by push_cast; omega), HV.out.offer HOF.out, hBa.trans (hPa.out.below ho5)⟩
            case rest =>
              clear HI HV HT hA0 hnA hBe0 hBe f0 f1 f2 hSi hS
              obtain ⟨F, B, L, wn, en, ou, A, S, D, wt, rfl, hPT, hi, hv, hBe⟩ := hcut
              obtain ⟨j1, j2, j3, j4, j5⟩ := hi.c (by omega)
              have hTd := Lib.hid (fun W (ho : Only Nil wc W) => Calls.onto ho ((hPT.kept ho).Told))
              have hWa := Lib.hid (fun W (ho : Only Nil wc W) => Calls.onto ho (Waiting_in A S D (nOf B L : Nat) W (by omega) (by omega) (by omega) (by omega) (by omega) (by omega) (by omega)))
              have hS0 := Lib.hid (fun W (ho : Only Nil wc W) => (show W.cell? ⟨w.heap.size, 0, none⟩ = some (.int .i64 kd) ∧ W.cell? ⟨w.heap.size, 1, none⟩ = some (.int .i64 cp) from ⟨((hbC.below hBe hsz1).kept ho (fun hh => hh)).cell 0, ((hbC.below hBe hsz1).kept ho (fun hh => hh)).cell 1⟩))
              have hon := (Only.refl Nil wc).drew
              have hfd : ∀ w : World, (Instr.field 39 (.agg #[.int .i64 A, .int .i64 S, .int .i64 D]) 1).run Try.prog w = .ok (.int .i64 S) w := fun _ => by kernel_rfl
              have hno := hv.no hi.w0 (by omega)
              have hcap : ¬ cp < ((nOf B L : Nat) : Int) := by have := hi.cap; omega
              have hneg : ¬ ((nOf B L : Nat) : Int) < 0 := by omega
              generalize nOf B L = q at *
              have HI := Lib.hid hi
              have HV := Lib.hid hv
              have HT := Lib.hid hPT
              clear hi hv hPT j1
              by_cases k2 : kd = 2
              · have hws := hno k2
                have ek : (kd == 2) = true := by simpa using k2
                clear hno k2
                as_aux_lemma =>
                  go_wp2
                  refine wp_region_held_drew (S := fun w' => w'.cell? ⟨w.heap.size, 0, none⟩ = some (.int .i64 kd) ∧ w'.cell? ⟨w.heap.size, 1, none⟩ = some (.int .i64 cp)) (by kernel_rfl) (hS0.out _ hon) (fun hHeld => ?_)
                  refine wpAnyH_take (i := 0) (oi := { dst := some 117, op := Op.fieldAddr 23 (Operand.tmp 2) 0, type := 0, pos := "law.go:201", after := #[], guard := none }) (v := ?_) rfl (by kernel_rfl) (by kernel_rfl) (by kernel_rfl) (fun _ _ _ h => h) (Or.inl ⟨by rfl, ?_⟩) (by assumption) ?_
                  rotate_left
                  · intro w hSw
                    try dsimp only at hSw
                    first
                      | (go_simp; done)
                      | (go_simp; with_reducible rfl)
                  try simp only [Act.put, List.setIfInBounds_toArray, List.set_cons_zero, List.set_cons_succ]
                  refine wpAnyH_take (i := 1) (oi := { dst := some 118, op := Op.load 3 (Operand.tmp 117), type := 3, pos := "law.go:201", after := #[{ on := 0, ground := Ground.data }], guard := none }) (v := ?_) rfl (by kernel_rfl) (by kernel_rfl) (by kernel_rfl) (fun _ _ _ h => h) (Or.inl ⟨by rfl, ?_⟩) (by assumption) ?_
                  rotate_left
                  · intro w hSw
                    try dsimp only at hSw
                    first
                      | (go_simp; done)
                      | (go_simp; with_reducible rfl)
                  try simp only [Act.put, List.setIfInBounds_toArray, List.set_cons_zero, List.set_cons_succ]
                  refine wpAnyH_take (i := 2) (oi := { dst := some 119, op := Op.binOp BinOp.eql 3 (Operand.tmp 118) (Operand.const (Value.int IntKind.i64 2)) 3, type := 4, pos := "law.go:201", after := #[{ on := 1, ground := Ground.data }], guard := none }) (v := ?_) rfl (by kernel_rfl) (by kernel_rfl) (by kernel_rfl) (fun _ _ _ h => h) (Or.inl ⟨by rfl, ?_⟩) (by assumption) ?_
                  rotate_left
                  · intro w hSw
                    try dsimp only at hSw
                    first
                      | (go_simp; done)
                      | (go_simp; with_reducible rfl)
                  try simp only [Act.put, List.setIfInBounds_toArray, List.set_cons_zero, List.set_cons_succ]
                  refine wpAnyH_take (i := 3) (oi := { dst := some 120, op := Op.move (Operand.tmp 119), type := 4, pos := "law.go:201", after := #[{ on := 2, ground := Ground.data }], guard := none }) (v := ?_) rfl (by kernel_rfl) (by kernel_rfl) (by kernel_rfl) (fun _ _ _ h => h) (Or.inl ⟨by rfl, ?_⟩) (by assumption) ?_
                  rotate_left
                  · intro w hSw
                    try dsimp only at hSw
                    first
                      | (go_simp; done)
                      | (go_simp; with_reducible rfl)
                  try simp only [Act.put, List.setIfInBounds_toArray, List.set_cons_zero, List.set_cons_succ]
                  refine wpAnyH_take (i := 4) (oi := { dst := some 121, op := Op.move (Operand.tmp 5), type := 25, pos := "law.go:201", after := #[{ on := 3, ground := Ground.guard }], guard := some (3, true) }) (v := ?_) rfl (by kernel_rfl) (by kernel_rfl) (by kernel_rfl) (fun _ _ _ h => h) (Or.inl ⟨by rfl, ?_⟩) (by assumption) ?_
                  rotate_left
                  · intro w hSw
                    try dsimp only at hSw
                    first
                      | (go_simp; done)
                      | (go_simp; with_reducible rfl)
                  try simp only [Act.put, List.setIfInBounds_toArray, List.set_cons_zero, List.set_cons_succ]
                  refine wpAnyH_take (i := 7) (oi := { dst := some 124, op := Op.move (Operand.tmp 7), type := 3, pos := "law.go:201", after := #[{ on := 3, ground := Ground.guard }], guard := some (3, true) }) (v := ?_) rfl (by kernel_rfl) (by kernel_rfl) (by kernel_rfl) (fun _ _ _ h => h) (Or.inl ⟨by rfl, ?_⟩) (by assumption) ?_
                  rotate_left
                  · intro w hSw
                    try dsimp only at hSw
                    first
                      | (go_simp; done)
                      | (go_simp; with_reducible rfl)
                  try simp only [Act.put, List.setIfInBounds_toArray, List.set_cons_zero, List.set_cons_succ]
                  refine wpAnyH_ready (rs := [5]) (by kernel_rfl) (by simp) ?_
                  refine AllReadyH.cons (o := { dst := some 122, op := Op.call { callee := Callee.value (Operand.func 11), args := #[Operand.tmp 121], argTypes := #[25] }, type := 39, pos := "law.go:201", after := #[{ on := 4, ground := Ground.data }, { on := 3, ground := Ground.chain }, { on := 3, ground := Ground.guard }], guard := some (3, true) }) rfl (fun K hK => ?_) AllReadyH.nil
                  rw [if_pos (by rfl)]
                  go_wp2_with (first
                    | (go_at_call 11; (with_reducible refine (hTd.out _ (by assumption)).mono ?_); rintro e w9 ⟨rfl, ho9⟩)
                    )
                  refine hK.out _ _ (hS0.out _ ho9) (fun hHeld => ?_)
                  clear hK K
                  try simp only [Act.put, List.setIfInBounds_toArray, List.set_cons_zero, List.set_cons_succ]
                  refine wpAnyH_take (i := 6) (oi := { dst := some 123, op := Op.field 39 (Operand.tmp 122) 1, type := 3, pos := "law.go:201", after := #[{ on := 5, ground := Ground.data }, { on := 3, ground := Ground.guard }], guard := some (3, true) }) (v := ?_) rfl (by kernel_rfl) (by kernel_rfl) (by kernel_rfl) (fun _ _ _ h => h) (Or.inl ⟨by rfl, ?_⟩) (by assumption) ?_
                  rotate_left
                  · intro w hSw
                    try dsimp only at hSw
                    first
                      | (go_simp; done)
                      | (go_simp; with_reducible rfl)
                  try simp only [Act.put, List.setIfInBounds_toArray, List.set_cons_zero, List.set_cons_succ]
                  refine wpAnyH_take (i := 8) (oi := { dst := some 125, op := Op.binOp BinOp.gtr 3 (Operand.tmp 123) (Operand.tmp 124) 3, type := 4, pos := "law.go:201", after := #[{ on := 6, ground := Ground.data }, { on := 7, ground := Ground.data }, { on := 3, ground := Ground.guard }], guard := some (3, true) }) (v := ?_) rfl (by kernel_rfl) (by kernel_rfl) (by kernel_rfl) (fun _ _ _ h => h) (Or.inl ⟨by rfl, ?_⟩) (by assumption) ?_
                  rotate_left
                  · intro w hSw
                    try dsimp only at hSw
                    first
                      | (go_simp; done)
                      | (go_simp; with_reducible rfl)
                  try simp only [Act.put, List.setIfInBounds_toArray, List.set_cons_zero, List.set_cons_succ]
                  generalize hqq : decide (wt < S) = qq
                  obtain rfl : qq = false := by rw [← hqq]; exact decide_eq_false (by omega)
                  clear hqq
                  refine wpAnyH_take (i := 9) (oi := { dst := some 126, op := Op.pick (Operand.tmp 120) (Operand.tmp 125) (Operand.const (Value.bool false)), type := 4, pos := "law.go:201", after := #[{ on := 3, ground := Ground.data }, { on := 8, ground := Ground.data }], guard := none }) (v := ?_) rfl (by kernel_rfl) (by kernel_rfl) (by kernel_rfl) (fun _ _ _ h => h) (Or.inl ⟨by rfl, ?_⟩) (by assumption) ?_
                  rotate_left
                  · intro w hSw
                    try dsimp only at hSw
                    first
                      | (go_simp; done)
                      | (go_simp; with_reducible rfl)
                  try simp only [Act.put, List.setIfInBounds_toArray, List.set_cons_zero, List.set_cons_succ]
                  refine wpAnyH_take (i := 10) (oi := { dst := some 127, op := Op.move (Operand.tmp 126), type := 4, pos := "law.go:201", after := #[{ on := 9, ground := Ground.data }, { on := 5, ground := Ground.chain }], guard := none }) (v := ?_) rfl (by kernel_rfl) (by kernel_rfl) (by kernel_rfl) (fun _ _ _ h => h) (Or.inl ⟨by rfl, ?_⟩) (by assumption) ?_
                  rotate_left
                  · intro w hSw
                    try dsimp only at hSw
                    first
                      | (go_simp; done)
                      | (go_simp; with_reducible rfl)
                  try simp only [Act.put, List.setIfInBounds_toArray, List.set_cons_zero, List.set_cons_succ]
                  refine wpAnyH_take (i := 11) (oi := { dst := some 128, op := Op.move (Operand.tmp 5), type := 25, pos := "law.go:201", after := #[{ on := 10, ground := Ground.guard }], guard := some (10, false) }) (v := ?_) rfl (by kernel_rfl) (by kernel_rfl) (by kernel_rfl) (fun _ _ _ h => h) (Or.inl ⟨by rfl, ?_⟩) (by assumption) ?_
                  rotate_left
                  · intro w hSw
                    try dsimp only at hSw
                    first
                      | (go_simp; done)
                      | (go_simp; with_reducible rfl)
                  try simp only [Act.put, List.setIfInBounds_toArray, List.set_cons_zero, List.set_cons_succ]
                  refine wpAnyH_ready (rs := [12]) (by kernel_rfl) (by simp) ?_
                  refine AllReadyH.cons (o := { dst := some 129, op := Op.call { callee := Callee.value (Operand.func 11), args := #[Operand.tmp 128], argTypes := #[25] }, type := 39, pos := "law.go:201", after := #[{ on := 11, ground := Ground.data }, { on := 10, ground := Ground.chain }, { on := 10, ground := Ground.guard }], guard := some (10, false) }) rfl (fun K hK => ?_) AllReadyH.nil
                  rw [if_pos (by rfl)]
                  go_wp2_with (first
                    | (go_at_call 11; (with_reducible refine (hTd.out _ (by assumption)).mono ?_); rintro e w9 ⟨rfl, ho9⟩)
                    )
                  refine hK.out _ _ (hS0.out _ ho9) (fun hHeld => ?_)
                  clear hK K
                  try simp only [Act.put, List.setIfInBounds_toArray, List.set_cons_zero, List.set_cons_succ]
                  refine wpAnyH_ready (rs := [13]) (by kernel_rfl) (by simp) ?_
                  refine AllReadyH.cons (o := { dst := some 130, op := Op.call { callee := Callee.value (Operand.func 12), args := #[Operand.tmp 129], argTypes := #[39] }, type := 3, pos := "law.go:201", after := #[{ on := 12, ground := Ground.data }, { on := 12, ground := Ground.chain }, { on := 10, ground := Ground.guard }], guard := some (10, false) }) rfl (fun K hK => ?_) AllReadyH.nil
                  rw [if_pos (by rfl)]
                  go_wp2_with (first
                    | (go_at_call 12; (with_reducible refine (hWa.out _ (by assumption)).mono ?_); rintro e w9 ⟨rfl, ho9⟩)
                    )
                  refine hK.out _ _ (hS0.out _ ho9) (fun hHeld => ?_)
                  clear hK K
                  try simp only [Act.put, List.setIfInBounds_toArray, List.set_cons_zero, List.set_cons_succ]
                  refine wpAnyH_take (i := 14) (oi := { dst := some 131, op := Op.binOp BinOp.lss 3 (Operand.tmp 130) (Operand.const (Value.int IntKind.i64 0)) 3, type := 4, pos := "law.go:201", after := #[{ on := 13, ground := Ground.data }, { on := 10, ground := Ground.guard }], guard := some (10, false) }) (v := ?_) rfl (by kernel_rfl) (by kernel_rfl) (by kernel_rfl) (fun _ _ _ h => h) (Or.inl ⟨by rfl, ?_⟩) (by assumption) ?_
                  rotate_left
                  · intro w hSw
                    try dsimp only at hSw
                    first
                      | (go_simp; done)
                      | (go_simp; with_reducible rfl)
                  try simp only [Act.put, List.setIfInBounds_toArray, List.set_cons_zero, List.set_cons_succ]
                  generalize hqq : decide ((q : Int) < 0) = qq
                  obtain rfl : qq = false := by rw [← hqq]; exact decide_eq_false (by omega)
                  clear hqq
                  refine wpAnyH_take (i := 15) (oi := { dst := some 132, op := Op.pick (Operand.tmp 127) (Operand.const (Value.bool true)) (Operand.tmp 131), type := 4, pos := "law.go:201", after := #[{ on := 10, ground := Ground.data }, { on := 14, ground := Ground.data }], guard := none }) (v := ?_) rfl (by kernel_rfl) (by kernel_rfl) (by kernel_rfl) (fun _ _ _ h => h) (Or.inl ⟨by rfl, ?_⟩) (by assumption) ?_
                  rotate_left
                  · intro w hSw
                    try dsimp only at hSw
                    first
                      | (go_simp; done)
                      | (go_simp; with_reducible rfl)
                  try simp only [Act.put, List.setIfInBounds_toArray, List.set_cons_zero, List.set_cons_succ]
                  refine wpAnyH_take (i := 16) (oi := { dst := some 133, op := Op.move (Operand.tmp 132), type := 4, pos := "law.go:201", after := #[{ on := 15, ground := Ground.data }, { on := 13, ground := Ground.chain }], guard := none }) (v := ?_) rfl (by kernel_rfl) (by kernel_rfl) (by kernel_rfl) (fun _ _ _ h => h) (Or.inl ⟨by rfl, ?_⟩) (by assumption) ?_
                  rotate_left
                  · intro w hSw
                    try dsimp only at hSw
                    first
                      | (go_simp; done)
                      | (go_simp; with_reducible rfl)
                  try simp only [Act.put, List.setIfInBounds_toArray, List.set_cons_zero, List.set_cons_succ]
                  refine wpAnyH_take (i := 17) (oi := { dst := some 134, op := Op.move (Operand.tmp 5), type := 25, pos := "law.go:201", after := #[{ on := 16, ground := Ground.guard }], guard := some (16, false) }) (v := ?_) rfl (by kernel_rfl) (by kernel_rfl) (by kernel_rfl) (fun _ _ _ h => h) (Or.inl ⟨by rfl, ?_⟩) (by assumption) ?_
                  rotate_left
                  · intro w hSw
                    try dsimp only at hSw
                    first
                      | (go_simp; done)
                      | (go_simp; with_reducible rfl)
                  try simp only [Act.put, List.setIfInBounds_toArray, List.set_cons_zero, List.set_cons_succ]
                  refine wpAnyH_take (i := 20) (oi := { dst := some 137, op := Op.fieldAddr 23 (Operand.tmp 2) 1, type := 0, pos := "law.go:201", after := #[{ on := 16, ground := Ground.guard }], guard := some (16, false) }) (v := ?_) rfl (by kernel_rfl) (by kernel_rfl) (by kernel_rfl) (fun _ _ _ h => h) (Or.inl ⟨by rfl, ?_⟩) (by assumption) ?_
                  rotate_left
                  · intro w hSw
                    try dsimp only at hSw
                    first
                      | (go_simp; done)
                      | (go_simp; with_reducible rfl)
                  try simp only [Act.put, List.setIfInBounds_toArray, List.set_cons_zero, List.set_cons_succ]
                  refine wpAnyH_take (i := 21) (oi := { dst := some 138, op := Op.load 3 (Operand.tmp 137), type := 3, pos := "law.go:201", after := #[{ on := 20, ground := Ground.data }, { on := 16, ground := Ground.guard }], guard := some (16, false) }) (v := ?_) rfl (by kernel_rfl) (by kernel_rfl) (by kernel_rfl) (fun _ _ _ h => h) (Or.inl ⟨by rfl, ?_⟩) (by assumption) ?_
                  rotate_left
                  · intro w hSw
                    try dsimp only at hSw
                    first
                      | (go_simp; done)
                      | (go_simp; with_reducible rfl)
                  try simp only [Act.put, List.setIfInBounds_toArray, List.set_cons_zero, List.set_cons_succ]
                  refine wpAnyH_ready (rs := [18]) (by kernel_rfl) (by simp) ?_
                  refine AllReadyH.cons (o := { dst := some 135, op := Op.call { callee := Callee.value (Operand.func 11), args := #[Operand.tmp 134], argTypes := #[25] }, type := 39, pos := "law.go:201", after := #[{ on := 17, ground := Ground.data }, { on := 16, ground := Ground.chain }, { on := 16, ground := Ground.guard }], guard := some (16, false) }) rfl (fun K hK => ?_) AllReadyH.nil
                  rw [if_pos (by rfl)]
                  go_wp2_with (first
                    | (go_at_call 11; (with_reducible refine (hTd.out _ (by assumption)).mono ?_); rintro e w9 ⟨rfl, ho9⟩)
                    )
                  refine hK.out _ _ (hS0.out _ ho9) (fun hHeld => ?_)
                  clear hK K
                  try simp only [Act.put, List.setIfInBounds_toArray, List.set_cons_zero, List.set_cons_succ]
                  refine wpAnyH_ready (rs := [19]) (by kernel_rfl) (by simp) ?_
                  refine AllReadyH.cons (o := { dst := some 136, op := Op.call { callee := Callee.value (Operand.func 12), args := #[Operand.tmp 135], argTypes := #[39] }, type := 3, pos := "law.go:201", after := #[{ on := 18, ground := Ground.data }, { on := 18, ground := Ground.chain }, { on := 16, ground := Ground.guard }], guard := some (16, false) }) rfl (fun K hK => ?_) AllReadyH.nil
                  rw [if_pos (by rfl)]
                  go_wp2_with (first
                    | (go_at_call 12; (with_reducible refine (hWa.out _ (by assumption)).mono ?_); rintro e w9 ⟨rfl, ho9⟩)
                    )
                  refine hK.out _ _ (hS0.out _ ho9) (fun hHeld => ?_)
                  clear hK K
                  try simp only [Act.put, List.setIfInBounds_toArray, List.set_cons_zero, List.set_cons_succ]
                  refine wpAnyH_take (i := 22) (oi := { dst := some 139, op := Op.binOp BinOp.gtr 3 (Operand.tmp 136) (Operand.tmp 138) 3, type := 4, pos := "law.go:201", after := #[{ on := 19, ground := Ground.data }, { on := 21, ground := Ground.data }, { on := 16, ground := Ground.guard }], guard := some (16, false) }) (v := ?_) rfl (by kernel_rfl) (by kernel_rfl) (by kernel_rfl) (fun _ _ _ h => h) (Or.inl ⟨by rfl, ?_⟩) (by assumption) ?_
                  rotate_left
                  · intro w hSw
                    try dsimp only at hSw
                    first
                      | (go_simp; done)
                      | (go_simp; with_reducible rfl)
                  try simp only [Act.put, List.setIfInBounds_toArray, List.set_cons_zero, List.set_cons_succ]
                  generalize hqq : decide (cp < (q : Int)) = qq
                  obtain rfl : qq = false := by rw [← hqq]; exact decide_eq_false (by omega)
                  clear hqq
                  refine wpAnyH_take (i := 23) (oi := { dst := some 140, op := Op.pick (Operand.tmp 133) (Operand.const (Value.bool true)) (Operand.tmp 139), type := 4, pos := "law.go:201", after := #[{ on := 16, ground := Ground.data }, { on := 22, ground := Ground.data }], guard := none }) (v := ?_) rfl (by kernel_rfl) (by kernel_rfl) (by kernel_rfl) (fun _ _ _ h => h) (Or.inl ⟨by rfl, ?_⟩) (by assumption) ?_
                  rotate_left
                  · intro w hSw
                    try dsimp only at hSw
                    first
                      | (go_simp; done)
                      | (go_simp; with_reducible rfl)
                  try simp only [Act.put, List.setIfInBounds_toArray, List.set_cons_zero, List.set_cons_succ]
                  refine wpAnyH_done (by kernel_rfl) ?_ _
                  go_wp2
                  go_roundw
                  case rel => exact ⟨k + 1, F, B, L, wn, en, ou, A, S, D, wt, by omega, rfl, by go_num, by omega, HT.out.kept ho9, HI.out, HV.out, hBe.trans (ho9.below hBe.size (fun _ _ hh => hh))⟩
                  case measure => simp [intOf]; omega
              · have ek : (kd == 2) = false := by simpa using k2
                clear hno k2
                as_aux_lemma =>
                  go_wp2
                  refine wp_region_held_drew (S := fun w' => w'.cell? ⟨w.heap.size, 0, none⟩ = some (.int .i64 kd) ∧ w'.cell? ⟨w.heap.size, 1, none⟩ = some (.int .i64 cp)) (by kernel_rfl) (hS0.out _ hon) (fun hHeld => ?_)
                  refine wpAnyH_take (i := 0) (oi := { dst := some 117, op := Op.fieldAddr 23 (Operand.tmp 2) 0, type := 0, pos := "law.go:201", after := #[], guard := none }) (v := ?_) rfl (by kernel_rfl) (by kernel_rfl) (by kernel_rfl) (fun _ _ _ h => h) (Or.inl ⟨by rfl, ?_⟩) (by assumption) ?_
                  rotate_left
                  · intro w hSw
                    try dsimp only at hSw
                    first
                      | (go_simp; done)
                      | (go_simp; with_reducible rfl)
                  try simp only [Act.put, List.setIfInBounds_toArray, List.set_cons_zero, List.set_cons_succ]
                  refine wpAnyH_take (i := 1) (oi := { dst := some 118, op := Op.load 3 (Operand.tmp 117), type := 3, pos := "law.go:201", after := #[{ on := 0, ground := Ground.data }], guard := none }) (v := ?_) rfl (by kernel_rfl) (by kernel_rfl) (by kernel_rfl) (fun _ _ _ h => h) (Or.inl ⟨by rfl, ?_⟩) (by assumption) ?_
                  rotate_left
                  · intro w hSw
                    try dsimp only at hSw
                    first
                      | (go_simp; done)
                      | (go_simp; with_reducible rfl)
                  try simp only [Act.put, List.setIfInBounds_toArray, List.set_cons_zero, List.set_cons_succ]
                  refine wpAnyH_take (i := 2) (oi := { dst := some 119, op := Op.binOp BinOp.eql 3 (Operand.tmp 118) (Operand.const (Value.int IntKind.i64 2)) 3, type := 4, pos := "law.go:201", after := #[{ on := 1, ground := Ground.data }], guard := none }) (v := ?_) rfl (by kernel_rfl) (by kernel_rfl) (by kernel_rfl) (fun _ _ _ h => h) (Or.inl ⟨by rfl, ?_⟩) (by assumption) ?_
                  rotate_left
                  · intro w hSw
                    try dsimp only at hSw
                    first
                      | (go_simp; done)
                      | (go_simp; with_reducible rfl)
                  try simp only [Act.put, List.setIfInBounds_toArray, List.set_cons_zero, List.set_cons_succ]
                  refine wpAnyH_take (i := 3) (oi := { dst := some 120, op := Op.move (Operand.tmp 119), type := 4, pos := "law.go:201", after := #[{ on := 2, ground := Ground.data }], guard := none }) (v := ?_) rfl (by kernel_rfl) (by kernel_rfl) (by kernel_rfl) (fun _ _ _ h => h) (Or.inl ⟨by rfl, ?_⟩) (by assumption) ?_
                  rotate_left
                  · intro w hSw
                    try dsimp only at hSw
                    first
                      | (go_simp; done)
                      | (go_simp; with_reducible rfl)
                  try simp only [Act.put, List.setIfInBounds_toArray, List.set_cons_zero, List.set_cons_succ]
                  refine wpAnyH_take (i := 4) (oi := { dst := some 121, op := Op.move (Operand.tmp 5), type := 25, pos := "law.go:201", after := #[{ on := 3, ground := Ground.guard }], guard := some (3, true) }) (v := undef) rfl (by kernel_rfl) (by kernel_rfl) (by kernel_rfl) (fun _ _ _ h => h) (Or.inr ⟨by rfl, rfl⟩) (by assumption) ?_
                  try simp only [Act.put, List.setIfInBounds_toArray, List.set_cons_zero, List.set_cons_succ]
                  refine wpAnyH_take (i := 7) (oi := { dst := some 124, op := Op.move (Operand.tmp 7), type := 3, pos := "law.go:201", after := #[{ on := 3, ground := Ground.guard }], guard := some (3, true) }) (v := undef) rfl (by kernel_rfl) (by kernel_rfl) (by kernel_rfl) (fun _ _ _ h => h) (Or.inr ⟨by rfl, rfl⟩) (by assumption) ?_
                  try simp only [Act.put, List.setIfInBounds_toArray, List.set_cons_zero, List.set_cons_succ]
                  refine wpAnyH_take (i := 5) (oi := { dst := some 122, op := Op.call { callee := Callee.value (Operand.func 11), args := #[Operand.tmp 121], argTypes := #[25] }, type := 39, pos := "law.go:201", after := #[{ on := 4, ground := Ground.data }, { on := 3, ground := Ground.chain }, { on := 3, ground := Ground.guard }], guard := some (3, true) }) (v := undef) rfl (by kernel_rfl) (by kernel_rfl) (by kernel_rfl) (fun _ _ _ h => h) (Or.inr ⟨by rfl, rfl⟩) (by assumption) ?_
                  try simp only [Act.put, List.setIfInBounds_toArray, List.set_cons_zero, List.set_cons_succ]
                  refine wpAnyH_take (i := 6) (oi := { dst := some 123, op := Op.field 39 (Operand.tmp 122) 1, type := 3, pos := "law.go:201", after := #[{ on := 5, ground := Ground.data }, { on := 3, ground := Ground.guard }], guard := some (3, true) }) (v := undef) rfl (by kernel_rfl) (by kernel_rfl) (by kernel_rfl) (fun _ _ _ h => h) (Or.inr ⟨by rfl, rfl⟩) (by assumption) ?_
                  try simp only [Act.put, List.setIfInBounds_toArray, List.set_cons_zero, List.set_cons_succ]
                  refine wpAnyH_take (i := 8) (oi := { dst := some 125, op := Op.binOp BinOp.gtr 3 (Operand.tmp 123) (Operand.tmp 124) 3, type := 4, pos := "law.go:201", after := #[{ on := 6, ground := Ground.data }, { on := 7, ground := Ground.data }, { on := 3, ground := Ground.guard }], guard := some (3, true) }) (v := undef) rfl (by kernel_rfl) (by kernel_rfl) (by kernel_rfl) (fun _ _ _ h => h) (Or.inr ⟨by rfl, rfl⟩) (by assumption) ?_
                  try simp only [Act.put, List.setIfInBounds_toArray, List.set_cons_zero, List.set_cons_succ]
                  refine wpAnyH_take (i := 9) (oi := { dst := some 126, op := Op.pick (Operand.tmp 120) (Operand.tmp 125) (Operand.const (Value.bool false)), type := 4, pos := "law.go:201", after := #[{ on := 3, ground := Ground.data }, { on := 8, ground := Ground.data }], guard := none }) (v := ?_) rfl (by kernel_rfl) (by kernel_rfl) (by kernel_rfl) (fun _ _ _ h => h) (Or.inl ⟨by rfl, ?_⟩) (by assumption) ?_
                  rotate_left
                  · intro w hSw
                    try dsimp only at hSw
                    first
                      | (go_simp; done)
                      | (go_simp; with_reducible rfl)
                  try simp only [Act.put, List.setIfInBounds_toArray, List.set_cons_zero, List.set_cons_succ]
                  refine wpAnyH_take (i := 10) (oi := { dst := some 127, op := Op.move (Operand.tmp 126), type := 4, pos := "law.go:201", after := #[{ on := 9, ground := Ground.data }, { on := 5, ground := Ground.chain }], guard := none }) (v := ?_) rfl (by kernel_rfl) (by kernel_rfl) (by kernel_rfl) (fun _ _ _ h => h) (Or.inl ⟨by rfl, ?_⟩) (by assumption) ?_
                  rotate_left
                  · intro w hSw
                    try dsimp only at hSw
                    first
                      | (go_simp; done)
                      | (go_simp; with_reducible rfl)
                  try simp only [Act.put, List.setIfInBounds_toArray, List.set_cons_zero, List.set_cons_succ]
                  refine wpAnyH_take (i := 11) (oi := { dst := some 128, op := Op.move (Operand.tmp 5), type := 25, pos := "law.go:201", after := #[{ on := 10, ground := Ground.guard }], guard := some (10, false) }) (v := ?_) rfl (by kernel_rfl) (by kernel_rfl) (by kernel_rfl) (fun _ _ _ h => h) (Or.inl ⟨by rfl, ?_⟩) (by assumption) ?_
                  rotate_left
                  · intro w hSw
                    try dsimp only at hSw
                    first
                      | (go_simp; done)
                      | (go_simp; with_reducible rfl)
                  try simp only [Act.put, List.setIfInBounds_toArray, List.set_cons_zero, List.set_cons_succ]
                  refine wpAnyH_ready (rs := [12]) (by kernel_rfl) (by simp) ?_
                  refine AllReadyH.cons (o := { dst := some 129, op := Op.call { callee := Callee.value (Operand.func 11), args := #[Operand.tmp 128], argTypes := #[25] }, type := 39, pos := "law.go:201", after := #[{ on := 11, ground := Ground.data }, { on := 10, ground := Ground.chain }, { on := 10, ground := Ground.guard }], guard := some (10, false) }) rfl (fun K hK => ?_) AllReadyH.nil
                  rw [if_pos (by rfl)]
                  go_wp2_with (first
                    | (go_at_call 11; (with_reducible refine (hTd.out _ (by assumption)).mono ?_); rintro e w9 ⟨rfl, ho9⟩)
                    )
                  refine hK.out _ _ (hS0.out _ ho9) (fun hHeld => ?_)
                  clear hK K
                  try simp only [Act.put, List.setIfInBounds_toArray, List.set_cons_zero, List.set_cons_succ]
                  refine wpAnyH_ready (rs := [13]) (by kernel_rfl) (by simp) ?_
                  refine AllReadyH.cons (o := { dst := some 130, op := Op.call { callee := Callee.value (Operand.func 12), args := #[Operand.tmp 129], argTypes := #[39] }, type := 3, pos := "law.go:201", after := #[{ on := 12, ground := Ground.data }, { on := 12, ground := Ground.chain }, { on := 10, ground := Ground.guard }], guard := some (10, false) }) rfl (fun K hK => ?_) AllReadyH.nil
                  rw [if_pos (by rfl)]
                  go_wp2_with (first
                    | (go_at_call 12; (with_reducible refine (hWa.out _ (by assumption)).mono ?_); rintro e w9 ⟨rfl, ho9⟩)
                    )
                  refine hK.out _ _ (hS0.out _ ho9) (fun hHeld => ?_)
                  clear hK K
                  try simp only [Act.put, List.setIfInBounds_toArray, List.set_cons_zero, List.set_cons_succ]
                  refine wpAnyH_take (i := 14) (oi := { dst := some 131, op := Op.binOp BinOp.lss 3 (Operand.tmp 130) (Operand.const (Value.int IntKind.i64 0)) 3, type := 4, pos := "law.go:201", after := #[{ on := 13, ground := Ground.data }, { on := 10, ground := Ground.guard }], guard := some (10, false) }) (v := ?_) rfl (by kernel_rfl) (by kernel_rfl) (by kernel_rfl) (fun _ _ _ h => h) (Or.inl ⟨by rfl, ?_⟩) (by assumption) ?_
                  rotate_left
                  · intro w hSw
                    try dsimp only at hSw
                    first
                      | (go_simp; done)
                      | (go_simp; with_reducible rfl)
                  try simp only [Act.put, List.setIfInBounds_toArray, List.set_cons_zero, List.set_cons_succ]
                  generalize hqq : decide ((q : Int) < 0) = qq
                  obtain rfl : qq = false := by rw [← hqq]; exact decide_eq_false (by omega)
                  clear hqq
                  refine wpAnyH_take (i := 15) (oi := { dst := some 132, op := Op.pick (Operand.tmp 127) (Operand.const (Value.bool true)) (Operand.tmp 131), type := 4, pos := "law.go:201", after := #[{ on := 10, ground := Ground.data }, { on := 14, ground := Ground.data }], guard := none }) (v := ?_) rfl (by kernel_rfl) (by kernel_rfl) (by kernel_rfl) (fun _ _ _ h => h) (Or.inl ⟨by rfl, ?_⟩) (by assumption) ?_
                  rotate_left
                  · intro w hSw
                    try dsimp only at hSw
                    first
                      | (go_simp; done)
                      | (go_simp; with_reducible rfl)
                  try simp only [Act.put, List.setIfInBounds_toArray, List.set_cons_zero, List.set_cons_succ]
                  refine wpAnyH_take (i := 16) (oi := { dst := some 133, op := Op.move (Operand.tmp 132), type := 4, pos := "law.go:201", after := #[{ on := 15, ground := Ground.data }, { on := 13, ground := Ground.chain }], guard := none }) (v := ?_) rfl (by kernel_rfl) (by kernel_rfl) (by kernel_rfl) (fun _ _ _ h => h) (Or.inl ⟨by rfl, ?_⟩) (by assumption) ?_
                  rotate_left
                  · intro w hSw
                    try dsimp only at hSw
                    first
                      | (go_simp; done)
                      | (go_simp; with_reducible rfl)
                  try simp only [Act.put, List.setIfInBounds_toArray, List.set_cons_zero, List.set_cons_succ]
                  refine wpAnyH_take (i := 17) (oi := { dst := some 134, op := Op.move (Operand.tmp 5), type := 25, pos := "law.go:201", after := #[{ on := 16, ground := Ground.guard }], guard := some (16, false) }) (v := ?_) rfl (by kernel_rfl) (by kernel_rfl) (by kernel_rfl) (fun _ _ _ h => h) (Or.inl ⟨by rfl, ?_⟩) (by assumption) ?_
                  rotate_left
                  · intro w hSw
                    try dsimp only at hSw
                    first
                      | (go_simp; done)
                      | (go_simp; with_reducible rfl)
                  try simp only [Act.put, List.setIfInBounds_toArray, List.set_cons_zero, List.set_cons_succ]
                  refine wpAnyH_take (i := 20) (oi := { dst := some 137, op := Op.fieldAddr 23 (Operand.tmp 2) 1, type := 0, pos := "law.go:201", after := #[{ on := 16, ground := Ground.guard }], guard := some (16, false) }) (v := ?_) rfl (by kernel_rfl) (by kernel_rfl) (by kernel_rfl) (fun _ _ _ h => h) (Or.inl ⟨by rfl, ?_⟩) (by assumption) ?_
                  rotate_left
                  · intro w hSw
                    try dsimp only at hSw
                    first
                      | (go_simp; done)
                      | (go_simp; with_reducible rfl)
                  try simp only [Act.put, List.setIfInBounds_toArray, List.set_cons_zero, List.set_cons_succ]
                  refine wpAnyH_take (i := 21) (oi := { dst := some 138, op := Op.load 3 (Operand.tmp 137), type := 3, pos := "law.go:201", after := #[{ on := 20, ground := Ground.data }, { on := 16, ground := Ground.guard }], guard := some (16, false) }) (v := ?_) rfl (by kernel_rfl) (by kernel_rfl) (by kernel_rfl) (fun _ _ _ h => h) (Or.inl ⟨by rfl, ?_⟩) (by assumption) ?_
                  rotate_left
                  · intro w hSw
                    try dsimp only at hSw
                    first
                      | (go_simp; done)
                      | (go_simp; with_reducible rfl)
                  try simp only [Act.put, List.setIfInBounds_toArray, List.set_cons_zero, List.set_cons_succ]
                  refine wpAnyH_ready (rs := [18]) (by kernel_rfl) (by simp) ?_
                  refine AllReadyH.cons (o := { dst := some 135, op := Op.call { callee := Callee.value (Operand.func 11), args := #[Operand.tmp 134], argTypes := #[25] }, type := 39, pos := "law.go:201", after := #[{ on := 17, ground := Ground.data }, { on := 16, ground := Ground.chain }, { on := 16, ground := Ground.guard }], guard := some (16, false) }) rfl (fun K hK => ?_) AllReadyH.nil
                  rw [if_pos (by rfl)]
                  go_wp2_with (first
                    | (go_at_call 11; (with_reducible refine (hTd.out _ (by assumption)).mono ?_); rintro e w9 ⟨rfl, ho9⟩)
                    )
                  refine hK.out _ _ (hS0.out _ ho9) (fun hHeld => ?_)
                  clear hK K
                  try simp only [Act.put, List.setIfInBounds_toArray, List.set_cons_zero, List.set_cons_succ]
                  refine wpAnyH_ready (rs := [19]) (by kernel_rfl) (by simp) ?_
                  refine AllReadyH.cons (o := { dst := some 136, op := Op.call { callee := Callee.value (Operand.func 12), args := #[Operand.tmp 135], argTypes := #[39] }, type := 3, pos := "law.go:201", after := #[{ on := 18, ground := Ground.data }, { on := 18, ground := Ground.chain }, { on := 16, ground := Ground.guard }], guard := some (16, false) }) rfl (fun K hK => ?_) AllReadyH.nil
                  rw [if_pos (by rfl)]
                  go_wp2_with (first
                    | (go_at_call 12; (with_reducible refine (hWa.out _ (by assumption)).mono ?_); rintro e w9 ⟨rfl, ho9⟩)
                    )
                  refine hK.out _ _ (hS0.out _ ho9) (fun hHeld => ?_)
                  clear hK K
                  try simp only [Act.put, List.setIfInBounds_toArray, List.set_cons_zero, List.set_cons_succ]
                  refine wpAnyH_take (i := 22) (oi := { dst := some 139, op := Op.binOp BinOp.gtr 3 (Operand.tmp 136) (Operand.tmp 138) 3, type := 4, pos := "law.go:201", after := #[{ on := 19, ground := Ground.data }, { on := 21, ground := Ground.data }, { on := 16, ground := Ground.guard }], guard := some (16, false) }) (v := ?_) rfl (by kernel_rfl) (by kernel_rfl) (by kernel_rfl) (fun _ _ _ h => h) (Or.inl ⟨by rfl, ?_⟩) (by assumption) ?_
                  rotate_left
                  · intro w hSw
                    try dsimp only at hSw
                    first
                      | (go_simp; done)
                      | (go_simp; with_reducible rfl)
                  try simp only [Act.put, List.setIfInBounds_toArray, List.set_cons_zero, List.set_cons_succ]
                  generalize hqq : decide (cp < (q : Int)) = qq
                  obtain rfl : qq = false := by rw [← hqq]; exact decide_eq_false (by omega)
                  clear hqq
                  refine wpAnyH_take (i := 23) (oi := { dst := some 140, op := Op.pick (Operand.tmp 133) (Operand.const (Value.bool true)) (Operand.tmp 139), type := 4, pos := "law.go:201", after := #[{ on := 16, ground := Ground.data }, { on := 22, ground := Ground.data }], guard := none }) (v := ?_) rfl (by kernel_rfl) (by kernel_rfl) (by kernel_rfl) (fun _ _ _ h => h) (Or.inl ⟨by rfl, ?_⟩) (by assumption) ?_
                  rotate_left
                  · intro w hSw
                    try dsimp only at hSw
                    first
                      | (go_simp; done)
                      | (go_simp; with_reducible rfl)
                  try simp only [Act.put, List.setIfInBounds_toArray, List.set_cons_zero, List.set_cons_succ]
                  refine wpAnyH_done (by kernel_rfl) ?_ _
                  go_wp2
                  go_roundw
                  case rel => exact ⟨k + 1, F, B, L, wn, en, ou, A, S, D, wt, by omega, rfl, by go_num, by omega, HT.out.kept ho9, HI.out, HV.out, hBe.trans (ho9.below hBe.size (fun _ _ hh => hh))⟩
                  case measure => simp [intOf]; omega
        · clear hl
          go_wp2
          go_ret
          exact ⟨rfl, hBe0⟩
      · clear hl
        go_wp2
        go_ret
        exact ⟨rfl, hBe0⟩
  · have hR := Lib.hid (fun W => right_any kd cp st W)
    obtain ⟨re, hre⟩ : ∃ re, rightE kd cp st = re := ⟨_, rfl⟩
    rw [hre] at he hR
    have hN := Lib.hid (TNew_bad kd cp st re (w.alloc (.cells #[.int .i64 kd, .int .i64 cp, .int .i64 st] 23)) hre he)
    unfold NewBad at hN
    have hne : (re != 0) = true := by simpa using he
    clear he hre hl
    go_enter Try.func5, Try.ntmps5
    go_wp2_with (first
      | (go_at_call 7; (with_reducible refine (hN.out).mono ?_); rintro e w1 ⟨rfl, ho1⟩; have hb1 := hb0.kept ho1 (fun hh => hh); have d0 := hb1.cell 0; have d1 := hb1.cell 1; have d2 := hb1.cell 2; have zc := hb1.lt)
      | (go_at_call 8; (with_reducible refine (hR.out _).mono ?_); rintro e w2 ⟨rfl, ho2⟩)
      | (go_at_call 9; (with_reducible refine (awake_any _).mono ?_); rintro e w3 ⟨rfl, ho3⟩)
      )
    go_ret
    exact ⟨rfl, (((hn0.trans ho1).trans ho2).trans ho3).below (Nat.le_refl _) (fun _ _ hh => hh)⟩
/-! The step from the walk to the statement of TxNever. -/
namespace frTxNever
open Go.ChangeShapes Go.WideShapes Go.ChangeAt Go.RowKit
set_option linter.unusedVariables false
theorem own : ownKnob Try.prog.godebug = none := by kernel_rfl
theorem laidOut : laidOutB Try.prog = true := by kernel_rfl
theorem shape0 : Kd.ok Try.prog (.agg [.int .i64, .int .i64, .int .i64]) 23 = true := by kernel_rfl
theorem shape1 : Kd.ok Try.prog (.slc (.agg [.int .i64, .int .i64, .str])) 24 = true := by kernel_rfl
set_option maxRecDepth 100000 in
theorem contract (H : Type) (enc : TypeId × Value → H) (W : World) (base : Nat) (args : Array Value) (ds gs : List (DataW H)) (before : List MemPlace)
    (hval : ∀ (j : Nat) t v, Try.f5.params[j]? = some t → args[j]? = some v → Value.okWide Try.prog W .any base t v)
    (hW : DataW.Whole enc Try.prog Try.f5.params.toList Rows.txNeverSpec.vars false W args.toList ds gs before) :
    Calls Try.prog 5 args W fun e W' => ∃ v, e = .returned v ∧ Rows.txNeverSpec.post enc Try.prog Try.f5 false true false false W args v W' := by
  have hW' := hW
  obtain ⟨p, q, hA0, hV, rfl, hfz, hnd⟩ := hW
  have hA : DataW.TrodAll enc Try.prog W 0 (fun _ => true) true Try.f5.params.toList args.toList ds p := hA0
  rw [Try.params5] at hA hval
  obtain ⟨v0, vs0, d0, ds0, p0, q0, hargs, rfl, rfl, h0, r0⟩ := trodAll_cons hA
  obtain ⟨v1, vs1, d1, ds1, p1, q1, rfl, rfl, rfl, h1, r1⟩ := trodAll_cons r0
  obtain ⟨rfl, rfl, rfl⟩ := trodAll_nil r1
  obtain rfl : args = #[v0, v1] := by cases args; simp_all
  obtain ⟨rfl, rfl⟩ := trodVars_none hV
  have k0 := Kd.fit _ shape0 (hval 0 23 v0 rfl rfl) h0
  have lt0 : ∀ x ∈ p0, x.block < W.heap.size := by obtain ⟨m, hm⟩ := h0; exact DataW.trod_lt m _ _ _ hm
  have k1 := Kd.fit _ shape1 (hval 1 24 v1 rfl rfl) h1
  have lt1 : ∀ x ∈ p1, x.block < W.heap.size := by obtain ⟨m, hm⟩ := h1; exact DataW.trod_lt m _ _ _ hm
  refine (txNever_walk v0 v1 W k0 k1).mono fun e W' ⟨he, bel⟩ => ?_
  subst he
  exact ⟨_, rfl, _, _, _, [], _, [], hW', trodAll_mk1 (shut_bool Try.underlying4 _), (trodAll_cons_mk (Below.trod laidOut (by kernel_rfl) (of_decide_eq_true (by kernel_rfl)) h0 bel lt0) (trodAll_cons_mk (Below.trod laidOut (by kernel_rfl) (of_decide_eq_true (by kernel_rfl)) h1 bel lt1) trodAll_mk0)), rfl, bel.frame _, fun h => by cases h⟩
set_option maxRecDepth 100000 in
theorem lifted (os : Os) (started : os.Started) (H : Type) (enc : TypeId × Value → H) :
    ReturnsInHanded {} Try.checked os 5 .any (Rows.txNeverSpec.pre6 enc Try.prog Try.f5 Rows.txNeverRow.domain false) (Rows.txNeverSpec.post enc Try.prog Try.f5 false true false false) := by
  refine returnsInHanded_of_change (C := Try.checked) own started (by kernel_rfl) Try.func5
    (ChangeSpec.witness6 (enc := enc) (C := Try.checked) false ⟨#[], #[.agg #[.int .i64 0, .int .i64 0, .int .i64 0], .slice none 0 0], []⟩ 8 (by kernel_rfl) (by kernel_rfl) (by kernel_rfl) (by kernel_rfl)) ?_
  intro W base args ds gs before hval hW _ _
  exact contract H enc W base args ds gs before hval hW
theorem over : Rows.txNeverRow.holds Try.pinned (OpenSpec.ofChange Rows.txNeverSpec) :=
  OpenClaim.holds_of_wide 5 Try.f5 rfl rfl rfl rfl rfl rfl rfl ⟨rfl, rfl, rfl, rfl, rfl⟩ rfl rfl rfl rfl rfl (by kernel_rfl) Try.func5 (by kernel_rfl)
    (of_decide_eq_true (by kernel_rfl)) (by unfold Func.isWrapper; first | (rw [if_pos (by decide +kernel)]; kernel_rfl) | (rw [if_neg (by decide +kernel)]; exact ⟨rfl, rfl⟩))
    (fun os started H enc _ => lifted os started H enc)
theorem proved : Rows.TxNeverSaid := over
end frTxNever
end Go.Proofs.Ytlinmpcllmijaaa
