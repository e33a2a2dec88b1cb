/- Every call of a sender of any kind is answered as the document says (the statement TxDoes, as it is given). No condition. -/

import Derived.Test.YtlinmpcllmijaaaDo22
import Derived.Deep.CutBlock
namespace Go.Proofs.Ytlinmpcllmijaaa
open Go.RowKit

theorem wpAnyH_mono {P : Program} {md : Region.Mode} {ops : Array Oper} {Q : Exit → Act → World → Prop} {S S' : World → Prop} (hs : ∀ w, S' w → S w) :
    ∀ (fuel : Nat) (listed : Array Bool) (a : Act) (w : World), wpAnyH P md ops Q S' fuel listed a w → wpAnyH P md ops Q S fuel listed a w
  | 0, _, _, _, h => h
  | fuel + 1, _, _, _, h => ⟨h.1, fun i hi => wpOp_mono (fun a' w' h' => ⟨hs _ h'.1, wpAnyH_mono hs fuel _ a' w' h'.2⟩) (h.2 i hi)⟩
theorem Calls.onto {P : Program} {f : FuncId} {args : Array Value} {w0 w : World} {r : Value} (ho : Only Nil w0 w) (h : Calls P f args w fun x w' => x = .returned r ∧ Only Nil w w') : Calls P f args w fun x w' => x = .returned r ∧ Only Nil w0 w' :=
  h.mono fun _ _ hh => ⟨hh.1, ho.trans hh.2⟩
theorem Calls.onto0 {P : Program} {f : FuncId} {args : Array Value} {w0 w : World} {r : Value} (ho : Only Nil w0 w) (h : Calls P f args w fun x w' => x = .returned r ∧ w = w') : Calls P f args w fun x w' => x = .returned r ∧ Only Nil w0 w' :=
  h.mono fun _ _ hh => ⟨hh.1, hh.2 ▸ ho⟩
theorem rightE_0 {kd cp st : Int} (h : rightE kd cp st = 0) : (kd = 1 ∨ kd = 2) ∧ 0 ≤ cp ∧ cp ≤ 4096 ∧ (kd = 2 → cp ≤ 64) := by
  unfold rightE at h
  by_cases h1 : kd ≠ 1 ∧ kd ≠ 2
  · rw [if_pos h1] at h
    exact absurd h (by decide)
  rw [if_neg h1] at h
  by_cases h2 : cp < 0 ∨ kd = 1 ∧ 4096 < cp ∨ kd = 2 ∧ 64 < cp
  · rw [if_pos h2] at h
    exact absurd h (by decide)
  omega
theorem do_any {w : World} {b bx base : Nat} {F : Nat → Prop} {v : Value} {kd cp st : Int} {B : List UInt8} {L : List ByteArray} {wn A S D m : Int} {en ou : Bool} (ak n : Int) (Y : ByteArray) (h : Tw w b bx base F v kd cp st B L wn en ou A S D) (hi : TI kd m cp B L wn en ou A S D) (hm : m ≤ 1000000) (hk : kd = 1 ∨ kd = 2) (hc0 : 0 ≤ cp) (hcp : cp ≤ 4096) (hl : kd = 2 → L.length ≤ 1000) (hY : Y.size ≤ 600) :
    Calls Try.prog 10 #[.pointer (some ⟨b, 0, none⟩), .pointer (some ⟨bx, 0, none⟩), .agg #[.int .i64 ak, .int .i64 n, .string Y]] w (DoT w b bx base F kd cp st (m + 600)) := by
  have up : ∀ {x : Ending} {w' : World}, DoT w b bx base F kd cp st m x w' → DoT w b bx base F kd cp st (m + 600) x w' := fun ⟨F', v', B', L', wn', en', ou', A', S', D', h1, h2, h3, h4⟩ => ⟨F', v', B', L', wn', en', ou', A', S', D', h1, h2, h3.le (by omega), h4⟩
  by_cases k34 : ak = 3 ∨ ak = 4
  · exact (do_take ak n Y w h hi hm hk hcp hl k34).mono fun _ _ hh => up hh
  by_cases k56 : ak = 5 ∨ ak = 6
  · exact (do_want ak n Y w h hi hk k56).mono fun _ _ hh => up hh
  by_cases k7 : ak = 7
  · subst k7
    cases hn : (n.tmod 3 != 0) with
    | true => exact (do_skip 7 n Y w h hi (.inl ⟨rfl, hn⟩)).mono fun _ _ hh => up hh
    | false => exact (do_end n Y w h hi hn).mono fun _ _ hh => up hh
  by_cases k8 : ak = 8
  · subst k8
    cases hn : (n.tmod 5 != 0) with
    | true => exact (do_skip 8 n Y w h hi (.inr ⟨rfl, hn⟩)).mono fun _ _ hh => up hh
    | false => exact (do_clear n Y w h hi hm hk hc0 hl hn).mono fun _ _ hh => up hh
  exact do_offer ak n Y w h hi hm hk hc0 hcp hl hY (by simp; omega) (by simp; omega) (by simp; omega) (by simp; omega) (by simp; omega) (by simp; omega)
set_option maxRecDepth 100000 in
set_option maxHeartbeats 16000000 in
theorem txDoes_walk (v0 v1 : Value) (w : World) (h0 : Kd.Fit w (.agg [.int .i64, .int .i64, .int .i64]) v0) (h1 : Kd.Fit w (.slc (.agg [.int .i64, .int .i64, .str])) v1) :
    Calls Try.prog 3 #[v0, v1] w fun e w' => e = .returned (.bool true) ∧ Below w.heap.size w w' := by
  obtain ⟨cs, rfl, hc⟩ := h0
  obtain ⟨u0, c0, rfl, i0, hc⟩ := Kd.headL rfl hc
  obtain ⟨u1, c1, rfl, i1, hc⟩ := Kd.headL rfl hc
  obtain ⟨u2, c2, rfl, i2, hc⟩ := Kd.headL rfl hc
  obtain rfl := Kd.end_ hc
  obtain ⟨kd, rfl, -⟩ := Kd.int_is i0
  obtain ⟨cp, rfl, -⟩ := Kd.int_is i1
  obtain ⟨st, rfl, -⟩ := Kd.int_is i2
  obtain ⟨A, len, cap, rfl, hl⟩ := Kd.slc_fit h1
  clear i0 i1 i2 hc h1
  have hn0 := (Only.refl Nil w).alloc (.cells #[.int .i64 kd, .int .i64 cp, .int .i64 st] 23)
  have hb0 := Blk.new w 23 #[.int .i64 kd, .int .i64 cp, .int .i64 st]
  by_cases he : rightE kd cp st = 0
  · have hN := Lib.hid (TNew_ok kd cp st (w.alloc (.cells #[.int .i64 kd, .int .i64 cp, .int .i64 st] 23)) he)
    have hR := Lib.hid (fun W => by have := right_any kd cp st W; rwa [he] at this)
    unfold NewPT at hN
    obtain ⟨hk, p0, p1, p2⟩ := rightE_0 he
    have HK := Lib.hid hk
    have HP2 := Lib.hid p2
    clear hk p2 he
    go_enter Try.func3, Try.ntmps3
    go_wp2_with (first
      | (go_at_call 7; (with_reducible refine (hN.out).mono ?_); rintro e w1 ⟨b, F0, rfl, hP1, ho1⟩; have hb1 := hb0.kept ho1 (fun hh => hh); have d0 := hb1.cell 0; have d1 := hb1.cell 1; have d2 := hb1.cell 2; have zc := hb1.lt)
      | (go_at_call 8; (with_reducible refine (hR.out _).mono ?_); rintro e w2 ⟨rfl, ho2⟩; have hP2 := hP1.kept ho2; have hb2 := hb1.kept ho2 (fun hh => hh); have g0 := hb2.cell 0; have g1 := hb2.cell 1; have g2 := hb2.cell 2; have zg := hb2.lt)
      | (go_at_call 9; (with_reducible refine (awake_any _).mono ?_); rintro e w3 ⟨rfl, ho3⟩)
      )
    obtain ⟨cx, hcx⟩ : ∃ cx : Array Value, cx = #[.int .i64 kd, .int .i64 cp, .int .i64 st, .string noS, .slice none 0 0, .int .i64 0, .bool false, .bool false, .int .i64 0, .int .i64 0, .int .i64 0] := ⟨_, rfl⟩
    have hnx := (Only.refl Nil w2).alloc (.cells #[.int .i64 kd, .int .i64 cp, .int .i64 st, .string noS, .slice none 0 0, .int .i64 0, .bool false, .bool false, .int .i64 0, .int .i64 0, .int .i64 0] 34)
    have hbx := (Blk.new w2 34 #[.int .i64 kd, .int .i64 cp, .int .i64 st, .string noS, .slice none 0 0, .int .i64 0, .bool false, .bool false, .int .i64 0, .int .i64 0, .int .i64 0]).kept ho3 (fun hh => hh)
    have hO3 := ((ho1.trans ho2).trans hnx).trans ho3
    have hTw3 : Tw w3 b w2.heap.size (w.alloc (.cells #[.int .i64 kd, .int .i64 cp, .int .i64 st] 23)).heap.size F0 (.slice none 0 0) kd cp st [] [] 0 false false 0 0 0 :=
      ⟨(hP2.kept hnx).kept ho3, ⟨hbx, Ow.nil, (ho1.trans ho2).size⟩, fun hh => by have := (hP2.fp _ hh).2; omega, fun g hg => by simp [Value.ownBlock] at hg⟩
    have hBe3 := hO3.below (Nat.le_refl _) (fun _ _ hh => hh)
    obtain ⟨W1, hW1⟩ : ∃ W1, W1 = w.alloc (.cells #[.int .i64 kd, .int .i64 cp, .int .i64 st] 23) := ⟨_, rfl⟩
    have hsz1 : w.heap.size < W1.heap.size := by rw [hW1]; simp
    have hWB : Below w.heap.size w W1 := by rw [hW1]; exact hn0.below (Nat.le_refl _) (fun _ _ hh => hh)
    have hbC : Blk W1 w.heap.size 23 #[.int .i64 kd, .int .i64 cp, .int .i64 st] := by rw [hW1]; exact hb0
    rw [← hW1] at hTw3 hBe3
    generalize w2.heap.size = bx at *
    clear hP1 hP2 hb1 hb2 hO3 ho1 ho2 ho3 hb0 hn0 hN hR hW1 hnx hbx hcx cx
    go_loopw [9] (fun ii wr => ∃ (k : Nat) (F : Nat → Prop) (v : Value) (B : List UInt8) (L : List ByteArray) (wn : Int) (en ou : Bool) (A S D : Int), k ≤ len ∧ ii = .int .i64 k ∧ k ≤ 80 ∧ Tw wr b bx W1.heap.size F v kd cp st B L wn en ou A S D ∧ TI kd (600 * (k : Int)) cp B L wn en ou A S D ∧ Below W1.heap.size W1 wr) (fun ii _ => len - (intOf ii).toNat)
    case atStart => exact ⟨0, F0, _, [], [], 0, false, false, 0, 0, 0, Nat.zero_le _, rfl, by omega, hTw3, ⟨rfl, by decide, by decide, by decide, by simpa [nOf] using p0, by decide, by decide, fun e => absurd e (by decide), fun _ => rfl, fun _ => rfl⟩, hBe3⟩
    case round =>
      clear hTw3 hBe3 F0
      obtain ⟨k, F, v, B, L, wn, en, ou, A, S, D, hk, rfl, hk1, hTw, hi, hBe⟩ := hrel
      have hmax : len ≤ 9223372036854775807 := Nat.le_trans hl.1 hl.2.1
      have hBe0 := hWB.trans (hBe.mono (Nat.le_of_lt hsz1))
      by_cases hlt : k < len
      · by_cases h80 : k < 80
        · obtain ⟨b', off, rfl, hb', cs, hcl, hcs, his⟩ := hl.at (by decide) hlt
          obtain ⟨u0, e0, rfl, i0, his⟩ := Kd.headL rfl (by unfold Kd.Is at his; exact his)
          obtain ⟨u1, e1, rfl, i1, his⟩ := Kd.headL rfl his
          obtain ⟨u2, e2, rfl, i2, his⟩ := Kd.headL rfl his
          obtain rfl := Kd.end_ his
          obtain ⟨ak, rfl, -⟩ := Kd.int_is i0
          obtain ⟨n, rfl, -⟩ := Kd.int_is i1
          obtain ⟨Y, rfl, -⟩ := Kd.str_is i2
          have q0 := hcs 0 (by decide)
          have q1 := hcs 1 (by decide)
          have q2 := hcs 2 (by decide)
          simp [Kd.cells, Kd.cellsL] at q0 q1 q2
          have f0 := (hBe0.cell (p := ⟨b', _, none⟩) hb').trans q0
          have f1 := (hBe0.cell (p := ⟨b', _, none⟩) hb').trans q1
          have f2 := (hBe0.cell (p := ⟨b', _, none⟩) hb').trans q2
          clear q0 q1 q2 hcs hcl hl i0 i1 i2
          have HI := Lib.hid hi
          have HT := Lib.hid hTw
          have hki : (k : Int) < len := by omega
          have hk6 : (k : Int) < 80 := by omega
          have hA0 := Lib.hid (Blk.new wr 36 #[.int .i64 ak, .int .i64 n, .string Y])
          have hnA := Lib.hid ((Only.refl Nil wr).alloc (.cells #[.int .i64 ak, .int .i64 n, .string Y] 36))
          clear hi hTw
          by_cases hS : 600 < Y.size
          · have hSi : (600 : Int) < Y.size := by omega
            go_wp2
            go_roundw
            case rel => exact ⟨k + 1, F, v, B, L, wn, en, ou, A, S, D, by omega, by go_num, by omega, HT.out.kept hnA.out, HI.out.le (by push_cast; omega), hBe.trans (hnA.out.below hBe.size (fun _ _ hh => hh))⟩
            case measure => simp [intOf]; omega
          · have hSi : ¬ (600 : Int) < Y.size := by omega
            go_upto_region 13 with fail
            have hcap2 : kd = 2 → L.length ≤ 1000 := fun e => by
              have h1 := HP2.out e
              have h2 := HI.out.cap
              unfold nOf at h2
              omega
            have HTd := Lib.hid ((HT.out.kept hnA.out).kept ((Only.refl Nil _).drew))
            have hDo := Lib.hid (do_any ak n Y HTd.out HI.out (by omega) HK.out p0 p1 hcap2 (by omega))
            have hnF : Hid (¬ F2 F bx wr.heap.size) := Lib.hid (fun hh => by
              rcases hh with hh | hh
              · have := (HT.out.p.fp _ hh).2; omega
              · have := HT.out.r.blk.lt; omega)
            clear f0 f1 f2 hS hcap2 hBe0
            unfold DoT at hDo
            refine wp_region_held_drew (S := fun w' => w'.cell? ⟨wr.heap.size, 0, none⟩ = some (.int .i64 ak) ∧ w'.cell? ⟨wr.heap.size, 1, none⟩ = some (.int .i64 n) ∧ w'.cell? ⟨wr.heap.size, 2, none⟩ = some (.string Y)) (by kernel_rfl) ⟨hA0.out.cell 0, hA0.out.cell 1, hA0.out.cell 2⟩ (fun hHeld => ?_)
            refine wpAnyH_take (i := 0) (oi := { dst := some 72, op := Op.move (Operand.tmp 5), type := 25, pos := "law.go:99", after := #[], guard := none }) (v := ?_) rfl (by kernel_rfl) (by kernel_rfl) (by kernel_rfl) (fun _ _ _ h => h) (Or.inl ⟨by rfl, ?_⟩) (by assumption) ?_
            rotate_left
            · intro w hSw
              try dsimp only at hSw
              first
                | (go_simp; done)
                | (go_simp; with_reducible rfl)
            try simp only [Act.put, List.setIfInBounds_toArray, List.set_cons_zero, List.set_cons_succ]
            refine wpAnyH_take (i := 1) (oi := { dst := some 73, op := Op.move (Operand.tmp 8), type := 31, pos := "law.go:99", after := #[], guard := none }) (v := ?_) rfl (by kernel_rfl) (by kernel_rfl) (by kernel_rfl) (fun _ _ _ h => h) (Or.inl ⟨by rfl, ?_⟩) (by assumption) ?_
            rotate_left
            · intro w hSw
              try dsimp only at hSw
              first
                | (go_simp; done)
                | (go_simp; with_reducible rfl)
            try simp only [Act.put, List.setIfInBounds_toArray, List.set_cons_zero, List.set_cons_succ]
            refine wpAnyH_take (i := 2) (oi := { dst := some 74, op := Op.load 36 (Operand.tmp 10), type := 36, pos := "law.go:99", after := #[], guard := none }) (v := ?_) rfl (by kernel_rfl) (by kernel_rfl) (by kernel_rfl) (fun _ _ _ h => h) (Or.inl ⟨by rfl, ?_⟩) (by assumption) ?_
            rotate_left
            · intro w hSw
              try dsimp only at hSw
              first
                | (go_simp; done)
                | (go_simp; with_reducible rfl)
            try simp only [Act.put, List.setIfInBounds_toArray, List.set_cons_zero, List.set_cons_succ]
            refine wpAnyH_ready (rs := [3]) (by kernel_rfl) (by simp) ?_
            refine AllReadyH.cons (o := { dst := some 75, op := Op.call { callee := Callee.value (Operand.func 10), args := #[Operand.tmp 72, Operand.tmp 73, Operand.tmp 74], argTypes := #[25, 31, 36] }, type := 4, pos := "law.go:99", after := #[{ on := 0, ground := Ground.data }, { on := 1, ground := Ground.data }, { on := 2, ground := Ground.data }], guard := none }) rfl (fun K hK => ?_) AllReadyH.nil
            rw [if_pos (by rfl)]
            go_wp2_with (first
              | (go_at_call 10; (with_reducible refine (hDo.out).mono ?_); rintro e w5 ⟨F5, v5, B5, L5, wn5, en5, ou5, A5, S5, D5, rfl, hT5, hI5, ho5⟩)
              )
            have hA5 := hA0.out.drew.kept ho5 hnF.out
            refine hK.out _ _ ⟨hA5.cell 0, hA5.cell 1, hA5.cell 2⟩ (fun _ => ?_)
            clear hK K
            have hBe5 : Below W1.heap.size W1 w5 := (hBe.trans ((hnA.out.drew).below hBe.size (fun _ _ hh => hh))).trans (HTd.out.below ho5)
            have hC5 := hbC.below hBe5 hsz1
            have hx5 := hT5.r.blk
            have hS1 := Lib.hid (fun W (ho : Only Nil w5 W) => (show (W.cell? ⟨wr.heap.size, 0, none⟩ = some (.int .i64 ak) ∧ W.cell? ⟨wr.heap.size, 1, none⟩ = some (.int .i64 n) ∧ W.cell? ⟨wr.heap.size, 2, none⟩ = some (.string Y)) ∧ W.cell? ⟨bx, 5, none⟩ = some (.int .i64 wn5) ∧ W.cell? ⟨bx, 7, none⟩ = some (.bool ou5) ∧ W.cell? ⟨bx, 8, none⟩ = some (.int .i64 A5) ∧ W.cell? ⟨bx, 9, none⟩ = some (.int .i64 S5) ∧ W.cell? ⟨bx, 10, none⟩ = some (.int .i64 D5) ∧ W.cell? ⟨w.heap.size, 0, none⟩ = some (.int .i64 kd) from
              ⟨⟨(hA5.kept ho (fun hh => hh)).cell 0, (hA5.kept ho (fun hh => hh)).cell 1, (hA5.kept ho (fun hh => hh)).cell 2⟩, (hx5.kept ho (fun hh => hh)).cell 5, (hx5.kept ho (fun hh => hh)).cell 7, (hx5.kept ho (fun hh => hh)).cell 8, (hx5.kept ho (fun hh => hh)).cell 9, (hx5.kept ho (fun hh => hh)).cell 10, (hC5.kept ho (fun hh => hh)).cell 0⟩))
            refine wpAnyH_mono (S' := fun w' => (w'.cell? ⟨wr.heap.size, 0, none⟩ = some (.int .i64 ak) ∧ w'.cell? ⟨wr.heap.size, 1, none⟩ = some (.int .i64 n) ∧ w'.cell? ⟨wr.heap.size, 2, none⟩ = some (.string Y)) ∧ w'.cell? ⟨bx, 5, none⟩ = some (.int .i64 wn5) ∧ w'.cell? ⟨bx, 7, none⟩ = some (.bool ou5) ∧ w'.cell? ⟨bx, 8, none⟩ = some (.int .i64 A5) ∧ w'.cell? ⟨bx, 9, none⟩ = some (.int .i64 S5) ∧ w'.cell? ⟨bx, 10, none⟩ = some (.int .i64 D5) ∧ w'.cell? ⟨w.heap.size, 0, none⟩ = some (.int .i64 kd)) (fun _ hh => hh.1) _ _ _ _ ?_
            have hon := Only.refl Nil w5
            have hHeld := hS1.out w5 hon
            have hcc := hI5.c (by omega)
            obtain ⟨j1, j2, j3, j4, j5⟩ := hcc
            have hTd := Lib.hid (fun W (ho : Only Nil w5 W) => Calls.onto ho ((hT5.p.kept ho).Told))
            have hWa := Lib.hid (fun W (ho : Only Nil w5 W) => Calls.onto ho (Waiting_in A5 S5 D5 (nOf B5 L5 : Nat) W (by omega) (by omega) (by omega) (by omega) (by omega) (by omega) (by omega)))
            have hRW := Lib.hid (fun W (ho : Only Nil w5 W) => Calls.onto0 ho ((hT5.r.kept ho).Waiting HK.out hI5.k1 hI5.k2))
            have hWn := Lib.hid (fun W (ho : Only Nil w5 W) => Calls.onto0 ho ((hT5.p.kept ho).Wanted))
            have hOu := Lib.hid (fun W (ho : Only Nil w5 W) => Calls.onto0 ho ((hT5.p.kept ho).Out))
            have hKi := Lib.hid (fun W (ho : Only Nil w5 W) => Calls.onto0 ho ((hT5.p.kept ho).Kind))
            obtain ⟨rb, hrb⟩ : ∃ rb, rdyF kd n wn5 (nOf B5 L5) en5 ou5 = rb := ⟨_, rfl⟩
            have hRr := Lib.hid (fun W (ho : Only Nil w5 W) => Calls.onto0 ho ((hT5.r.kept ho).Ready n HK.out hI5.k1 hI5.k2 rb hrb))
            have hRp := Lib.hid (fun W (ho : Only Nil w5 W) => Calls.onto ho ((hT5.p.kept ho).Ready n (hI5.c (by omega)) rb hrb))
            have hSt := Lib.hid (fun W (ho : Only Nil w5 W) => Calls.onto ho ((hT5.p.kept ho).Stuck n (hI5.c (by omega)) rb hrb _ rfl))
            have HI5 := Lib.hid hI5
            have HT5 := Lib.hid hT5
            have HBe5 := Lib.hid hBe5
            generalize nOf B5 L5 = q at *
            clear j1 j2 j3 j4 j5 hrb hI5 hT5 hBe5 hA5 hC5 hx5 ho5
            try simp only [Act.put, List.setIfInBounds_toArray, List.set_cons_zero, List.set_cons_succ]
            refine wpAnyH_take (i := 4) (oi := { dst := some 76, op := Op.unOp UnOp.not 4 (Operand.tmp 75), type := 4, pos := "law.go:99", after := #[{ on := 3, ground := Ground.data }], guard := none }) (v := ?_) rfl (by kernel_rfl) (by kernel_rfl) (by kernel_rfl) (fun _ _ _ h => h) (Or.inl ⟨by rfl, ?_⟩) (by assumption) ?_
            rotate_left
            · intro w hSw
              try dsimp only at hSw
              first
                | (go_simp; done)
                | (go_simp; with_reducible rfl)
            try simp only [Act.put, List.setIfInBounds_toArray, List.set_cons_zero, List.set_cons_succ]
            refine wpAnyH_take (i := 5) (oi := { dst := some 77, op := Op.move (Operand.tmp 76), type := 4, pos := "law.go:99", after := #[{ on := 4, ground := Ground.data }, { on := 3, ground := Ground.chain }], guard := none }) (v := ?_) rfl (by kernel_rfl) (by kernel_rfl) (by kernel_rfl) (fun _ _ _ h => h) (Or.inl ⟨by rfl, ?_⟩) (by assumption) ?_
            rotate_left
            · intro w hSw
              try dsimp only at hSw
              first
                | (go_simp; done)
                | (go_simp; with_reducible rfl)
            try simp only [Act.put, List.setIfInBounds_toArray, List.set_cons_zero, List.set_cons_succ]
            refine wpAnyH_take (i := 6) (oi := { dst := some 78, op := Op.move (Operand.tmp 5), type := 25, pos := "law.go:99", after := #[{ on := 5, ground := Ground.guard }], guard := some (5, false) }) (v := ?_) rfl (by kernel_rfl) (by kernel_rfl) (by kernel_rfl) (fun _ _ _ h => h) (Or.inl ⟨by rfl, ?_⟩) (by assumption) ?_
            rotate_left
            · intro w hSw
              try dsimp only at hSw
              first
                | (go_simp; done)
                | (go_simp; with_reducible rfl)
            try simp only [Act.put, List.setIfInBounds_toArray, List.set_cons_zero, List.set_cons_succ]
            refine wpAnyH_take (i := 8) (oi := { dst := some 80, op := Op.move (Operand.tmp 8), type := 31, pos := "law.go:99", after := #[{ on := 5, ground := Ground.guard }], guard := some (5, false) }) (v := ?_) rfl (by kernel_rfl) (by kernel_rfl) (by kernel_rfl) (fun _ _ _ h => h) (Or.inl ⟨by rfl, ?_⟩) (by assumption) ?_
            rotate_left
            · intro w hSw
              try dsimp only at hSw
              first
                | (go_simp; done)
                | (go_simp; with_reducible rfl)
            try simp only [Act.put, List.setIfInBounds_toArray, List.set_cons_zero, List.set_cons_succ]
            refine wpAnyH_take (i := 9) (oi := { dst := some 81, op := Op.nilCheck (Operand.tmp 80), type := 0, pos := "law.go:99", after := #[{ on := 8, ground := Ground.data }, { on := 5, ground := Ground.guard }], guard := some (5, false) }) (v := ?_) rfl (by kernel_rfl) (by kernel_rfl) (by kernel_rfl) (fun _ _ _ h => h) (Or.inl ⟨by rfl, ?_⟩) (by assumption) ?_
            rotate_left
            · intro w hSw
              try dsimp only at hSw
              first
                | (go_simp; done)
                | (go_simp; with_reducible rfl)
            try simp only [Act.put, List.setIfInBounds_toArray, List.set_cons_zero, List.set_cons_succ]
            refine wpAnyH_take (i := 10) (oi := { dst := some 82, op := Op.fieldAddr 34 (Operand.tmp 81) 8, type := 0, pos := "law.go:99", after := #[{ on := 9, ground := Ground.data }, { on := 5, ground := Ground.guard }], guard := some (5, false) }) (v := ?_) rfl (by kernel_rfl) (by kernel_rfl) (by kernel_rfl) (fun _ _ _ h => h) (Or.inl ⟨by rfl, ?_⟩) (by assumption) ?_
            rotate_left
            · intro w hSw
              try dsimp only at hSw
              first
                | (go_simp; done)
                | (go_simp; with_reducible rfl)
            try simp only [Act.put, List.setIfInBounds_toArray, List.set_cons_zero, List.set_cons_succ]
            refine wpAnyH_take (i := 11) (oi := { dst := some 83, op := Op.load 3 (Operand.tmp 82), type := 3, pos := "law.go:99", after := #[{ on := 10, ground := Ground.data }, { on := 5, ground := Ground.guard }], guard := some (5, false) }) (v := ?_) rfl (by kernel_rfl) (by kernel_rfl) (by kernel_rfl) (fun _ _ _ h => h) (Or.inl ⟨by rfl, ?_⟩) (by assumption) ?_
            rotate_left
            · intro w hSw
              try dsimp only at hSw
              first
                | (go_simp; done)
                | (go_simp; with_reducible rfl)
            try simp only [Act.put, List.setIfInBounds_toArray, List.set_cons_zero, List.set_cons_succ]
            refine wpAnyH_take (i := 12) (oi := { dst := some 84, op := Op.move (Operand.tmp 8), type := 31, pos := "law.go:99", after := #[{ on := 5, ground := Ground.guard }], guard := some (5, false) }) (v := ?_) rfl (by kernel_rfl) (by kernel_rfl) (by kernel_rfl) (fun _ _ _ h => h) (Or.inl ⟨by rfl, ?_⟩) (by assumption) ?_
            rotate_left
            · intro w hSw
              try dsimp only at hSw
              first
                | (go_simp; done)
                | (go_simp; with_reducible rfl)
            try simp only [Act.put, List.setIfInBounds_toArray, List.set_cons_zero, List.set_cons_succ]
            refine wpAnyH_take (i := 13) (oi := { dst := some 85, op := Op.nilCheck (Operand.tmp 84), type := 0, pos := "law.go:99", after := #[{ on := 12, ground := Ground.data }, { on := 5, ground := Ground.guard }], guard := some (5, false) }) (v := ?_) rfl (by kernel_rfl) (by kernel_rfl) (by kernel_rfl) (fun _ _ _ h => h) (Or.inl ⟨by rfl, ?_⟩) (by assumption) ?_
            rotate_left
            · intro w hSw
              try dsimp only at hSw
              first
                | (go_simp; done)
                | (go_simp; with_reducible rfl)
            try simp only [Act.put, List.setIfInBounds_toArray, List.set_cons_zero, List.set_cons_succ]
            refine wpAnyH_take (i := 14) (oi := { dst := some 86, op := Op.fieldAddr 34 (Operand.tmp 85) 9, type := 0, pos := "law.go:99", after := #[{ on := 13, ground := Ground.data }, { on := 5, ground := Ground.guard }], guard := some (5, false) }) (v := ?_) rfl (by kernel_rfl) (by kernel_rfl) (by kernel_rfl) (fun _ _ _ h => h) (Or.inl ⟨by rfl, ?_⟩) (by assumption) ?_
            rotate_left
            · intro w hSw
              try dsimp only at hSw
              first
                | (go_simp; done)
                | (go_simp; with_reducible rfl)
            try simp only [Act.put, List.setIfInBounds_toArray, List.set_cons_zero, List.set_cons_succ]
            refine wpAnyH_take (i := 15) (oi := { dst := some 87, op := Op.load 3 (Operand.tmp 86), type := 3, pos := "law.go:99", after := #[{ on := 14, ground := Ground.data }, { on := 5, ground := Ground.guard }], guard := some (5, false) }) (v := ?_) rfl (by kernel_rfl) (by kernel_rfl) (by kernel_rfl) (fun _ _ _ h => h) (Or.inl ⟨by rfl, ?_⟩) (by assumption) ?_
            rotate_left
            · intro w hSw
              try dsimp only at hSw
              first
                | (go_simp; done)
                | (go_simp; with_reducible rfl)
            try simp only [Act.put, List.setIfInBounds_toArray, List.set_cons_zero, List.set_cons_succ]
            refine wpAnyH_take (i := 16) (oi := { dst := some 88, op := Op.move (Operand.tmp 8), type := 31, pos := "law.go:99", after := #[{ on := 5, ground := Ground.guard }], guard := some (5, false) }) (v := ?_) rfl (by kernel_rfl) (by kernel_rfl) (by kernel_rfl) (fun _ _ _ h => h) (Or.inl ⟨by rfl, ?_⟩) (by assumption) ?_
            rotate_left
            · intro w hSw
              try dsimp only at hSw
              first
                | (go_simp; done)
                | (go_simp; with_reducible rfl)
            try simp only [Act.put, List.setIfInBounds_toArray, List.set_cons_zero, List.set_cons_succ]
            refine wpAnyH_take (i := 17) (oi := { dst := some 89, op := Op.nilCheck (Operand.tmp 88), type := 0, pos := "law.go:99", after := #[{ on := 16, ground := Ground.data }, { on := 5, ground := Ground.guard }], guard := some (5, false) }) (v := ?_) rfl (by kernel_rfl) (by kernel_rfl) (by kernel_rfl) (fun _ _ _ h => h) (Or.inl ⟨by rfl, ?_⟩) (by assumption) ?_
            rotate_left
            · intro w hSw
              try dsimp only at hSw
              first
                | (go_simp; done)
                | (go_simp; with_reducible rfl)
            try simp only [Act.put, List.setIfInBounds_toArray, List.set_cons_zero, List.set_cons_succ]
            refine wpAnyH_take (i := 18) (oi := { dst := some 90, op := Op.fieldAddr 34 (Operand.tmp 89) 10, type := 0, pos := "law.go:99", after := #[{ on := 17, ground := Ground.data }, { on := 5, ground := Ground.guard }], guard := some (5, false) }) (v := ?_) rfl (by kernel_rfl) (by kernel_rfl) (by kernel_rfl) (fun _ _ _ h => h) (Or.inl ⟨by rfl, ?_⟩) (by assumption) ?_
            rotate_left
            · intro w hSw
              try dsimp only at hSw
              first
                | (go_simp; done)
                | (go_simp; with_reducible rfl)
            try simp only [Act.put, List.setIfInBounds_toArray, List.set_cons_zero, List.set_cons_succ]
            refine wpAnyH_take (i := 19) (oi := { dst := some 91, op := Op.load 3 (Operand.tmp 90), type := 3, pos := "law.go:99", after := #[{ on := 18, ground := Ground.data }, { on := 5, ground := Ground.guard }], guard := some (5, false) }) (v := ?_) rfl (by kernel_rfl) (by kernel_rfl) (by kernel_rfl) (fun _ _ _ h => h) (Or.inl ⟨by rfl, ?_⟩) (by assumption) ?_
            rotate_left
            · intro w hSw
              try dsimp only at hSw
              first
                | (go_simp; done)
                | (go_simp; with_reducible rfl)
            try simp only [Act.put, List.setIfInBounds_toArray, List.set_cons_zero, List.set_cons_succ]
            refine wpAnyH_take (i := 20) (oi := { dst := some 92, op := Op.build 39 #[(0, Operand.tmp 83), (1, Operand.tmp 87), (2, Operand.tmp 91)], type := 39, pos := "law.go:99", after := #[{ on := 11, ground := Ground.data }, { on := 15, ground := Ground.data }, { on := 19, ground := Ground.data }, { on := 5, ground := Ground.guard }], guard := some (5, false) }) (v := ?_) rfl (by kernel_rfl) (by kernel_rfl) (by kernel_rfl) (fun _ _ _ h => h) (Or.inl ⟨by rfl, ?_⟩) (by assumption) ?_
            rotate_left
            · intro w hSw
              try dsimp only at hSw
              first
                | (go_simp; done)
                | (go_simp; with_reducible rfl)
            try simp only [Act.put, List.setIfInBounds_toArray, List.set_cons_zero, List.set_cons_succ]
            refine wpAnyH_ready (rs := [7]) (by kernel_rfl) (by simp) ?_
            refine AllReadyH.cons (o := { dst := some 79, op := Op.call { callee := Callee.value (Operand.func 11), args := #[Operand.tmp 78], argTypes := #[25] }, type := 39, pos := "law.go:99", after := #[{ on := 6, ground := Ground.data }, { on := 5, ground := Ground.chain }, { on := 5, ground := Ground.guard }], guard := some (5, false) }) rfl (fun K hK => ?_) AllReadyH.nil
            rw [if_pos (by rfl)]
            go_wp2_with (first
              | (go_at_call 11; (with_reducible refine (hTd.out _ (by assumption)).mono ?_); rintro e w9 ⟨rfl, ho9⟩)
              )
            refine hK.out _ _ (hS1.out _ ho9) (fun hHeld => ?_)
            clear hK K
            try simp only [Act.put, List.setIfInBounds_toArray, List.set_cons_zero, List.set_cons_succ]
            refine wpAnyH_take (i := 21) (oi := { dst := some 93, op := Op.binOp BinOp.neq 39 (Operand.tmp 79) (Operand.tmp 92) 39, type := 4, pos := "law.go:99", after := #[{ on := 7, ground := Ground.data }, { on := 20, ground := Ground.data }, { on := 5, ground := Ground.guard }], guard := some (5, false) }) (v := ?_) rfl (by kernel_rfl) (by kernel_rfl) (by kernel_rfl) (fun _ _ _ h => h) (Or.inl ⟨by rfl, ?_⟩) (by assumption) ?_
            rotate_left
            · intro w hSw
              try dsimp only at hSw
              first
                | (go_simp; done)
                | (go_simp; with_reducible rfl)
            try simp only [Act.put, List.setIfInBounds_toArray, List.set_cons_zero, List.set_cons_succ]
            refine wpAnyH_take (i := 22) (oi := { dst := some 94, op := Op.pick (Operand.tmp 77) (Operand.const (Value.bool true)) (Operand.tmp 93), type := 4, pos := "law.go:99", after := #[{ on := 5, ground := Ground.data }, { on := 21, ground := Ground.data }], guard := none }) (v := ?_) rfl (by kernel_rfl) (by kernel_rfl) (by kernel_rfl) (fun _ _ _ h => h) (Or.inl ⟨by rfl, ?_⟩) (by assumption) ?_
            rotate_left
            · intro w hSw
              try dsimp only at hSw
              first
                | (go_simp; done)
                | (go_simp; with_reducible rfl)
            try simp only [Act.put, List.setIfInBounds_toArray, List.set_cons_zero, List.set_cons_succ]
            refine wpAnyH_take (i := 23) (oi := { dst := some 95, op := Op.move (Operand.tmp 94), type := 4, pos := "law.go:99", after := #[{ on := 22, ground := Ground.data }, { on := 7, ground := Ground.chain }], guard := none }) (v := ?_) rfl (by kernel_rfl) (by kernel_rfl) (by kernel_rfl) (fun _ _ _ h => h) (Or.inl ⟨by rfl, ?_⟩) (by assumption) ?_
            rotate_left
            · intro w hSw
              try dsimp only at hSw
              first
                | (go_simp; done)
                | (go_simp; with_reducible rfl)
            try simp only [Act.put, List.setIfInBounds_toArray, List.set_cons_zero, List.set_cons_succ]
            refine wpAnyH_take (i := 24) (oi := { dst := some 96, op := Op.move (Operand.tmp 5), type := 25, pos := "law.go:99", after := #[{ on := 23, ground := Ground.guard }], guard := some (23, false) }) (v := ?_) rfl (by kernel_rfl) (by kernel_rfl) (by kernel_rfl) (fun _ _ _ h => h) (Or.inl ⟨by rfl, ?_⟩) (by assumption) ?_
            rotate_left
            · intro w hSw
              try dsimp only at hSw
              first
                | (go_simp; done)
                | (go_simp; with_reducible rfl)
            try simp only [Act.put, List.setIfInBounds_toArray, List.set_cons_zero, List.set_cons_succ]
            refine wpAnyH_take (i := 27) (oi := { dst := some 99, op := Op.move (Operand.tmp 8), type := 31, pos := "law.go:99", after := #[{ on := 23, ground := Ground.guard }], guard := some (23, false) }) (v := ?_) rfl (by kernel_rfl) (by kernel_rfl) (by kernel_rfl) (fun _ _ _ h => h) (Or.inl ⟨by rfl, ?_⟩) (by assumption) ?_
            rotate_left
            · intro w hSw
              try dsimp only at hSw
              first
                | (go_simp; done)
                | (go_simp; with_reducible rfl)
            try simp only [Act.put, List.setIfInBounds_toArray, List.set_cons_zero, List.set_cons_succ]
            refine wpAnyH_ready (rs := [25]) (by kernel_rfl) (by simp) ?_
            refine AllReadyH.cons (o := { dst := some 97, op := Op.call { callee := Callee.value (Operand.func 11), args := #[Operand.tmp 96], argTypes := #[25] }, type := 39, pos := "law.go:99", after := #[{ on := 24, ground := Ground.data }, { on := 23, ground := Ground.chain }, { on := 23, ground := Ground.guard }], guard := some (23, false) }) rfl (fun K hK => ?_) AllReadyH.nil
            rw [if_pos (by rfl)]
            go_wp2_with (first
              | (go_at_call 11; (with_reducible refine (hTd.out _ (by assumption)).mono ?_); rintro e w9 ⟨rfl, ho9⟩)
              )
            refine hK.out _ _ (hS1.out _ ho9) (fun hHeld => ?_)
            clear hK K
            try simp only [Act.put, List.setIfInBounds_toArray, List.set_cons_zero, List.set_cons_succ]
            refine wpAnyH_ready (rs := [26]) (by kernel_rfl) (by simp) ?_
            refine AllReadyH.cons (o := { dst := some 98, op := Op.call { callee := Callee.value (Operand.func 12), args := #[Operand.tmp 97], argTypes := #[39] }, type := 3, pos := "law.go:99", after := #[{ on := 25, ground := Ground.data }, { on := 25, ground := Ground.chain }, { on := 23, ground := Ground.guard }], guard := some (23, false) }) rfl (fun K hK => ?_) AllReadyH.nil
            rw [if_pos (by rfl)]
            go_wp2_with (first
              | (go_at_call 12; (with_reducible refine (hWa.out _ (by assumption)).mono ?_); rintro e w9 ⟨rfl, ho9⟩)
              )
            refine hK.out _ _ (hS1.out _ ho9) (fun hHeld => ?_)
            clear hK K
            try simp only [Act.put, List.setIfInBounds_toArray, List.set_cons_zero, List.set_cons_succ]
            refine wpAnyH_ready (rs := [28]) (by kernel_rfl) (by simp) ?_
            refine AllReadyH.cons (o := { dst := some 100, op := Op.call { callee := Callee.value (Operand.func 13), args := #[Operand.tmp 99], argTypes := #[31] }, type := 3, pos := "law.go:99", after := #[{ on := 27, ground := Ground.data }, { on := 26, ground := Ground.chain }, { on := 23, ground := Ground.guard }], guard := some (23, false) }) rfl (fun K hK => ?_) AllReadyH.nil
            rw [if_pos (by rfl)]
            go_wp2_with (first
              | (go_at_call 13; (with_reducible refine (hRW.out _ (by assumption)).mono ?_); rintro e w9 ⟨rfl, ho9⟩)
              )
            refine hK.out _ _ (hS1.out _ ho9) (fun hHeld => ?_)
            clear hK K
            try simp only [Act.put, List.setIfInBounds_toArray, List.set_cons_zero, List.set_cons_succ]
            refine wpAnyH_take (i := 29) (oi := { dst := some 101, op := Op.binOp BinOp.neq 3 (Operand.tmp 98) (Operand.tmp 100) 3, type := 4, pos := "law.go:99", after := #[{ on := 26, ground := Ground.data }, { on := 28, ground := Ground.data }, { on := 23, ground := Ground.guard }], guard := some (23, false) }) (v := ?_) rfl (by kernel_rfl) (by kernel_rfl) (by kernel_rfl) (fun _ _ _ h => h) (Or.inl ⟨by rfl, ?_⟩) (by assumption) ?_
            rotate_left
            · intro w hSw
              try dsimp only at hSw
              first
                | (go_simp; done)
                | (go_simp; with_reducible rfl)
            try simp only [Act.put, List.setIfInBounds_toArray, List.set_cons_zero, List.set_cons_succ]
            refine wpAnyH_take (i := 30) (oi := { dst := some 102, op := Op.pick (Operand.tmp 95) (Operand.const (Value.bool true)) (Operand.tmp 101), type := 4, pos := "law.go:99", after := #[{ on := 23, ground := Ground.data }, { on := 29, ground := Ground.data }], guard := none }) (v := ?_) rfl (by kernel_rfl) (by kernel_rfl) (by kernel_rfl) (fun _ _ _ h => h) (Or.inl ⟨by rfl, ?_⟩) (by assumption) ?_
            rotate_left
            · intro w hSw
              try dsimp only at hSw
              first
                | (go_simp; done)
                | (go_simp; with_reducible rfl)
            try simp only [Act.put, List.setIfInBounds_toArray, List.set_cons_zero, List.set_cons_succ]
            refine wpAnyH_take (i := 31) (oi := { dst := some 103, op := Op.move (Operand.tmp 102), type := 4, pos := "law.go:99", after := #[{ on := 30, ground := Ground.data }, { on := 28, ground := Ground.chain }], guard := none }) (v := ?_) rfl (by kernel_rfl) (by kernel_rfl) (by kernel_rfl) (fun _ _ _ h => h) (Or.inl ⟨by rfl, ?_⟩) (by assumption) ?_
            rotate_left
            · intro w hSw
              try dsimp only at hSw
              first
                | (go_simp; done)
                | (go_simp; with_reducible rfl)
            try simp only [Act.put, List.setIfInBounds_toArray, List.set_cons_zero, List.set_cons_succ]
            refine wpAnyH_take (i := 32) (oi := { dst := some 104, op := Op.move (Operand.tmp 5), type := 25, pos := "law.go:99", after := #[{ on := 31, ground := Ground.guard }], guard := some (31, false) }) (v := ?_) rfl (by kernel_rfl) (by kernel_rfl) (by kernel_rfl) (fun _ _ _ h => h) (Or.inl ⟨by rfl, ?_⟩) (by assumption) ?_
            rotate_left
            · intro w hSw
              try dsimp only at hSw
              first
                | (go_simp; done)
                | (go_simp; with_reducible rfl)
            try simp only [Act.put, List.setIfInBounds_toArray, List.set_cons_zero, List.set_cons_succ]
            refine wpAnyH_take (i := 34) (oi := { dst := some 106, op := Op.move (Operand.tmp 8), type := 31, pos := "law.go:99", after := #[{ on := 31, ground := Ground.guard }], guard := some (31, false) }) (v := ?_) rfl (by kernel_rfl) (by kernel_rfl) (by kernel_rfl) (fun _ _ _ h => h) (Or.inl ⟨by rfl, ?_⟩) (by assumption) ?_
            rotate_left
            · intro w hSw
              try dsimp only at hSw
              first
                | (go_simp; done)
                | (go_simp; with_reducible rfl)
            try simp only [Act.put, List.setIfInBounds_toArray, List.set_cons_zero, List.set_cons_succ]
            refine wpAnyH_take (i := 35) (oi := { dst := some 107, op := Op.nilCheck (Operand.tmp 106), type := 0, pos := "law.go:99", after := #[{ on := 34, ground := Ground.data }, { on := 31, ground := Ground.guard }], guard := some (31, false) }) (v := ?_) rfl (by kernel_rfl) (by kernel_rfl) (by kernel_rfl) (fun _ _ _ h => h) (Or.inl ⟨by rfl, ?_⟩) (by assumption) ?_
            rotate_left
            · intro w hSw
              try dsimp only at hSw
              first
                | (go_simp; done)
                | (go_simp; with_reducible rfl)
            try simp only [Act.put, List.setIfInBounds_toArray, List.set_cons_zero, List.set_cons_succ]
            refine wpAnyH_take (i := 36) (oi := { dst := some 108, op := Op.fieldAddr 34 (Operand.tmp 107) 5, type := 0, pos := "law.go:99", after := #[{ on := 35, ground := Ground.data }, { on := 31, ground := Ground.guard }], guard := some (31, false) }) (v := ?_) rfl (by kernel_rfl) (by kernel_rfl) (by kernel_rfl) (fun _ _ _ h => h) (Or.inl ⟨by rfl, ?_⟩) (by assumption) ?_
            rotate_left
            · intro w hSw
              try dsimp only at hSw
              first
                | (go_simp; done)
                | (go_simp; with_reducible rfl)
            try simp only [Act.put, List.setIfInBounds_toArray, List.set_cons_zero, List.set_cons_succ]
            refine wpAnyH_take (i := 37) (oi := { dst := some 109, op := Op.load 3 (Operand.tmp 108), type := 3, pos := "law.go:99", after := #[{ on := 36, ground := Ground.data }, { on := 31, ground := Ground.guard }], guard := some (31, false) }) (v := ?_) rfl (by kernel_rfl) (by kernel_rfl) (by kernel_rfl) (fun _ _ _ h => h) (Or.inl ⟨by rfl, ?_⟩) (by assumption) ?_
            rotate_left
            · intro w hSw
              try dsimp only at hSw
              first
                | (go_simp; done)
                | (go_simp; with_reducible rfl)
            try simp only [Act.put, List.setIfInBounds_toArray, List.set_cons_zero, List.set_cons_succ]
            refine wpAnyH_ready (rs := [33]) (by kernel_rfl) (by simp) ?_
            refine AllReadyH.cons (o := { dst := some 105, op := Op.call { callee := Callee.value (Operand.func 14), args := #[Operand.tmp 104], argTypes := #[25] }, type := 3, pos := "law.go:99", after := #[{ on := 32, ground := Ground.data }, { on := 31, ground := Ground.chain }, { on := 31, ground := Ground.guard }], guard := some (31, false) }) rfl (fun K hK => ?_) AllReadyH.nil
            rw [if_pos (by rfl)]
            go_wp2_with (first
              | (go_at_call 14; (with_reducible refine (hWn.out _ (by assumption)).mono ?_); rintro e w9 ⟨rfl, ho9⟩)
              )
            refine hK.out _ _ (hS1.out _ ho9) (fun hHeld => ?_)
            clear hK K
            try simp only [Act.put, List.setIfInBounds_toArray, List.set_cons_zero, List.set_cons_succ]
            refine wpAnyH_take (i := 38) (oi := { dst := some 110, op := Op.binOp BinOp.neq 3 (Operand.tmp 105) (Operand.tmp 109) 3, type := 4, pos := "law.go:99", after := #[{ on := 33, ground := Ground.data }, { on := 37, ground := Ground.data }, { on := 31, ground := Ground.guard }], guard := some (31, false) }) (v := ?_) rfl (by kernel_rfl) (by kernel_rfl) (by kernel_rfl) (fun _ _ _ h => h) (Or.inl ⟨by rfl, ?_⟩) (by assumption) ?_
            rotate_left
            · intro w hSw
              try dsimp only at hSw
              first
                | (go_simp; done)
                | (go_simp; with_reducible rfl)
            try simp only [Act.put, List.setIfInBounds_toArray, List.set_cons_zero, List.set_cons_succ]
            refine wpAnyH_take (i := 39) (oi := { dst := some 111, op := Op.pick (Operand.tmp 103) (Operand.const (Value.bool true)) (Operand.tmp 110), type := 4, pos := "law.go:99", after := #[{ on := 31, ground := Ground.data }, { on := 38, ground := Ground.data }], guard := none }) (v := ?_) rfl (by kernel_rfl) (by kernel_rfl) (by kernel_rfl) (fun _ _ _ h => h) (Or.inl ⟨by rfl, ?_⟩) (by assumption) ?_
            rotate_left
            · intro w hSw
              try dsimp only at hSw
              first
                | (go_simp; done)
                | (go_simp; with_reducible rfl)
            try simp only [Act.put, List.setIfInBounds_toArray, List.set_cons_zero, List.set_cons_succ]
            refine wpAnyH_take (i := 40) (oi := { dst := some 112, op := Op.move (Operand.tmp 111), type := 4, pos := "law.go:99", after := #[{ on := 39, ground := Ground.data }, { on := 33, ground := Ground.chain }], guard := none }) (v := ?_) rfl (by kernel_rfl) (by kernel_rfl) (by kernel_rfl) (fun _ _ _ h => h) (Or.inl ⟨by rfl, ?_⟩) (by assumption) ?_
            rotate_left
            · intro w hSw
              try dsimp only at hSw
              first
                | (go_simp; done)
                | (go_simp; with_reducible rfl)
            try simp only [Act.put, List.setIfInBounds_toArray, List.set_cons_zero, List.set_cons_succ]
            refine wpAnyH_take (i := 41) (oi := { dst := some 113, op := Op.move (Operand.tmp 5), type := 25, pos := "law.go:99", after := #[{ on := 40, ground := Ground.guard }], guard := some (40, false) }) (v := ?_) rfl (by kernel_rfl) (by kernel_rfl) (by kernel_rfl) (fun _ _ _ h => h) (Or.inl ⟨by rfl, ?_⟩) (by assumption) ?_
            rotate_left
            · intro w hSw
              try dsimp only at hSw
              first
                | (go_simp; done)
                | (go_simp; with_reducible rfl)
            try simp only [Act.put, List.setIfInBounds_toArray, List.set_cons_zero, List.set_cons_succ]
            refine wpAnyH_take (i := 43) (oi := { dst := some 115, op := Op.move (Operand.tmp 8), type := 31, pos := "law.go:99", after := #[{ on := 40, ground := Ground.guard }], guard := some (40, false) }) (v := ?_) rfl (by kernel_rfl) (by kernel_rfl) (by kernel_rfl) (fun _ _ _ h => h) (Or.inl ⟨by rfl, ?_⟩) (by assumption) ?_
            rotate_left
            · intro w hSw
              try dsimp only at hSw
              first
                | (go_simp; done)
                | (go_simp; with_reducible rfl)
            try simp only [Act.put, List.setIfInBounds_toArray, List.set_cons_zero, List.set_cons_succ]
            refine wpAnyH_take (i := 44) (oi := { dst := some 116, op := Op.nilCheck (Operand.tmp 115), type := 0, pos := "law.go:99", after := #[{ on := 43, ground := Ground.data }, { on := 40, ground := Ground.guard }], guard := some (40, false) }) (v := ?_) rfl (by kernel_rfl) (by kernel_rfl) (by kernel_rfl) (fun _ _ _ h => h) (Or.inl ⟨by rfl, ?_⟩) (by assumption) ?_
            rotate_left
            · intro w hSw
              try dsimp only at hSw
              first
                | (go_simp; done)
                | (go_simp; with_reducible rfl)
            try simp only [Act.put, List.setIfInBounds_toArray, List.set_cons_zero, List.set_cons_succ]
            refine wpAnyH_take (i := 45) (oi := { dst := some 117, op := Op.fieldAddr 34 (Operand.tmp 116) 7, type := 0, pos := "law.go:99", after := #[{ on := 44, ground := Ground.data }, { on := 40, ground := Ground.guard }], guard := some (40, false) }) (v := ?_) rfl (by kernel_rfl) (by kernel_rfl) (by kernel_rfl) (fun _ _ _ h => h) (Or.inl ⟨by rfl, ?_⟩) (by assumption) ?_
            rotate_left
            · intro w hSw
              try dsimp only at hSw
              first
                | (go_simp; done)
                | (go_simp; with_reducible rfl)
            try simp only [Act.put, List.setIfInBounds_toArray, List.set_cons_zero, List.set_cons_succ]
            refine wpAnyH_take (i := 46) (oi := { dst := some 118, op := Op.load 4 (Operand.tmp 117), type := 4, pos := "law.go:99", after := #[{ on := 45, ground := Ground.data }, { on := 40, ground := Ground.guard }], guard := some (40, false) }) (v := ?_) rfl (by kernel_rfl) (by kernel_rfl) (by kernel_rfl) (fun _ _ _ h => h) (Or.inl ⟨by rfl, ?_⟩) (by assumption) ?_
            rotate_left
            · intro w hSw
              try dsimp only at hSw
              first
                | (go_simp; done)
                | (go_simp; with_reducible rfl)
            try simp only [Act.put, List.setIfInBounds_toArray, List.set_cons_zero, List.set_cons_succ]
            refine wpAnyH_ready (rs := [42]) (by kernel_rfl) (by simp) ?_
            refine AllReadyH.cons (o := { dst := some 114, op := Op.call { callee := Callee.value (Operand.func 15), args := #[Operand.tmp 113], argTypes := #[25] }, type := 4, pos := "law.go:99", after := #[{ on := 41, ground := Ground.data }, { on := 40, ground := Ground.chain }, { on := 40, ground := Ground.guard }], guard := some (40, false) }) rfl (fun K hK => ?_) AllReadyH.nil
            rw [if_pos (by rfl)]
            go_wp2_with (first
              | (go_at_call 15; (with_reducible refine (hOu.out _ (by assumption)).mono ?_); rintro e w9 ⟨rfl, ho9⟩)
              )
            refine hK.out _ _ (hS1.out _ ho9) (fun hHeld => ?_)
            clear hK K
            try simp only [Act.put, List.setIfInBounds_toArray, List.set_cons_zero, List.set_cons_succ]
            refine wpAnyH_take (i := 47) (oi := { dst := some 119, op := Op.binOp BinOp.neq 4 (Operand.tmp 114) (Operand.tmp 118) 4, type := 4, pos := "law.go:99", after := #[{ on := 42, ground := Ground.data }, { on := 46, ground := Ground.data }, { on := 40, ground := Ground.guard }], guard := some (40, false) }) (v := ?_) rfl (by kernel_rfl) (by kernel_rfl) (by kernel_rfl) (fun _ _ _ h => h) (Or.inl ⟨by rfl, ?_⟩) (by assumption) ?_
            rotate_left
            · intro w hSw
              try dsimp only at hSw
              first
                | (go_simp; done)
                | (go_simp; with_reducible rfl)
            try simp only [Act.put, List.setIfInBounds_toArray, List.set_cons_zero, List.set_cons_succ]
            refine wpAnyH_take (i := 48) (oi := { dst := some 120, op := Op.pick (Operand.tmp 112) (Operand.const (Value.bool true)) (Operand.tmp 119), type := 4, pos := "law.go:99", after := #[{ on := 40, ground := Ground.data }, { on := 47, ground := Ground.data }], guard := none }) (v := ?_) rfl (by kernel_rfl) (by kernel_rfl) (by kernel_rfl) (fun _ _ _ h => h) (Or.inl ⟨by rfl, ?_⟩) (by assumption) ?_
            rotate_left
            · intro w hSw
              try dsimp only at hSw
              first
                | (go_simp; done)
                | (go_simp; with_reducible rfl)
            try simp only [Act.put, List.setIfInBounds_toArray, List.set_cons_zero, List.set_cons_succ]
            refine wpAnyH_take (i := 49) (oi := { dst := some 121, op := Op.move (Operand.tmp 120), type := 4, pos := "law.go:99", after := #[{ on := 48, ground := Ground.data }, { on := 42, ground := Ground.chain }], guard := none }) (v := ?_) rfl (by kernel_rfl) (by kernel_rfl) (by kernel_rfl) (fun _ _ _ h => h) (Or.inl ⟨by rfl, ?_⟩) (by assumption) ?_
            rotate_left
            · intro w hSw
              try dsimp only at hSw
              first
                | (go_simp; done)
                | (go_simp; with_reducible rfl)
            try simp only [Act.put, List.setIfInBounds_toArray, List.set_cons_zero, List.set_cons_succ]
            refine wpAnyH_take (i := 50) (oi := { dst := some 122, op := Op.move (Operand.tmp 5), type := 25, pos := "law.go:99", after := #[{ on := 49, ground := Ground.guard }], guard := some (49, false) }) (v := ?_) rfl (by kernel_rfl) (by kernel_rfl) (by kernel_rfl) (fun _ _ _ h => h) (Or.inl ⟨by rfl, ?_⟩) (by assumption) ?_
            rotate_left
            · intro w hSw
              try dsimp only at hSw
              first
                | (go_simp; done)
                | (go_simp; with_reducible rfl)
            try simp only [Act.put, List.setIfInBounds_toArray, List.set_cons_zero, List.set_cons_succ]
            refine wpAnyH_take (i := 52) (oi := { dst := some 124, op := Op.fieldAddr 23 (Operand.tmp 2) 0, type := 0, pos := "law.go:99", after := #[{ on := 49, ground := Ground.guard }], guard := some (49, false) }) (v := ?_) rfl (by kernel_rfl) (by kernel_rfl) (by kernel_rfl) (fun _ _ _ h => h) (Or.inl ⟨by rfl, ?_⟩) (by assumption) ?_
            rotate_left
            · intro w hSw
              try dsimp only at hSw
              first
                | (go_simp; done)
                | (go_simp; with_reducible rfl)
            try simp only [Act.put, List.setIfInBounds_toArray, List.set_cons_zero, List.set_cons_succ]
            refine wpAnyH_take (i := 53) (oi := { dst := some 125, op := Op.load 3 (Operand.tmp 124), type := 3, pos := "law.go:99", after := #[{ on := 52, ground := Ground.data }, { on := 49, ground := Ground.guard }], guard := some (49, false) }) (v := ?_) rfl (by kernel_rfl) (by kernel_rfl) (by kernel_rfl) (fun _ _ _ h => h) (Or.inl ⟨by rfl, ?_⟩) (by assumption) ?_
            rotate_left
            · intro w hSw
              try dsimp only at hSw
              first
                | (go_simp; done)
                | (go_simp; with_reducible rfl)
            try simp only [Act.put, List.setIfInBounds_toArray, List.set_cons_zero, List.set_cons_succ]
            refine wpAnyH_ready (rs := [51]) (by kernel_rfl) (by simp) ?_
            refine AllReadyH.cons (o := { dst := some 123, op := Op.call { callee := Callee.value (Operand.func 16), args := #[Operand.tmp 122], argTypes := #[25] }, type := 3, pos := "law.go:99", after := #[{ on := 50, ground := Ground.data }, { on := 49, ground := Ground.chain }, { on := 49, ground := Ground.guard }], guard := some (49, false) }) rfl (fun K hK => ?_) AllReadyH.nil
            rw [if_pos (by rfl)]
            go_wp2_with (first
              | (go_at_call 16; (with_reducible refine (hKi.out _ (by assumption)).mono ?_); rintro e w9 ⟨rfl, ho9⟩)
              )
            refine hK.out _ _ (hS1.out _ ho9) (fun hHeld => ?_)
            clear hK K
            try simp only [Act.put, List.setIfInBounds_toArray, List.set_cons_zero, List.set_cons_succ]
            refine wpAnyH_take (i := 54) (oi := { dst := some 126, op := Op.binOp BinOp.neq 3 (Operand.tmp 123) (Operand.tmp 125) 3, type := 4, pos := "law.go:99", after := #[{ on := 51, ground := Ground.data }, { on := 53, ground := Ground.data }, { on := 49, ground := Ground.guard }], guard := some (49, false) }) (v := ?_) rfl (by kernel_rfl) (by kernel_rfl) (by kernel_rfl) (fun _ _ _ h => h) (Or.inl ⟨by rfl, ?_⟩) (by assumption) ?_
            rotate_left
            · intro w hSw
              try dsimp only at hSw
              first
                | (go_simp; done)
                | (go_simp; with_reducible rfl)
            try simp only [Act.put, List.setIfInBounds_toArray, List.set_cons_zero, List.set_cons_succ]
            refine wpAnyH_take (i := 55) (oi := { dst := some 127, op := Op.pick (Operand.tmp 121) (Operand.const (Value.bool true)) (Operand.tmp 126), type := 4, pos := "law.go:99", after := #[{ on := 49, ground := Ground.data }, { on := 54, ground := Ground.data }], guard := none }) (v := ?_) rfl (by kernel_rfl) (by kernel_rfl) (by kernel_rfl) (fun _ _ _ h => h) (Or.inl ⟨by rfl, ?_⟩) (by assumption) ?_
            rotate_left
            · intro w hSw
              try dsimp only at hSw
              first
                | (go_simp; done)
                | (go_simp; with_reducible rfl)
            try simp only [Act.put, List.setIfInBounds_toArray, List.set_cons_zero, List.set_cons_succ]
            refine wpAnyH_done (by kernel_rfl) ?_ _
            obtain ⟨a0, a1, a2⟩ := (hS1.out _ ho9).1
            have zA : wr.heap.size < w9.heap.size := World.block_lt_of_cell? _ _ a0
            by_cases hq0 : q = 0
            · subst hq0
              go_wp2_with (first
                | (go_at_call 17; (with_reducible refine (hRr.out _ (by assumption)).mono ?_); rintro e w10 ⟨rfl, ho10⟩; have b1 := (hS1.out _ ho10).1.2.1; have zB := World.block_lt_of_cell? _ _ b1)
                | (go_at_call 18; (with_reducible refine (hRp.out _ (by assumption)).mono ?_); rintro e w11 ⟨rfl, ho11⟩; have b2 := (hS1.out _ ho11).1.2.1; have zC := World.block_lt_of_cell? _ _ b2)
                | (go_at_call 19; (with_reducible refine (hSt.out _ (by assumption)).mono ?_); rintro e w12 ⟨rfl, ho12⟩)
                | (go_at_call 13; (with_reducible refine (hRW.out _ (by assumption)).mono ?_); rintro e w13 ⟨rfl, ho13⟩)
                )
              go_roundw
              case rel => exact ⟨k + 1, F5, v5, B5, L5, wn5, en5, ou5, A5, S5, D5, by omega, by go_num, by omega, HT5.out.kept ho13, by have := HI5.out; push_cast at *; simpa [Int.mul_add] using this, HBe5.out.trans (ho13.below HBe5.out.size (fun _ _ hh => hh))⟩
              case measure => simp [intOf]; omega
            · have hq1 : (0 : Int) < (q : Int) := by omega
              cases rb with
              | true =>
                go_wp2_with (first
                  | (go_at_call 17; (with_reducible refine (hRr.out _ (by assumption)).mono ?_); rintro e w10 ⟨rfl, ho10⟩; have b1 := (hS1.out _ ho10).1.2.1; have zB := World.block_lt_of_cell? _ _ b1)
                  | (go_at_call 18; (with_reducible refine (hRp.out _ (by assumption)).mono ?_); rintro e w11 ⟨rfl, ho11⟩; have b2 := (hS1.out _ ho11).1.2.1; have zC := World.block_lt_of_cell? _ _ b2)
                  | (go_at_call 19; (with_reducible refine (hSt.out _ (by assumption)).mono ?_); rintro e w12 ⟨rfl, ho12⟩)
                  | (go_at_call 13; (with_reducible refine (hRW.out _ (by assumption)).mono ?_); rintro e w13 ⟨rfl, ho13⟩)
                  )
                go_roundw
                case rel => exact ⟨k + 1, F5, v5, B5, L5, wn5, en5, ou5, A5, S5, D5, by omega, by go_num, by omega, HT5.out.kept ho13, by have := HI5.out; push_cast at *; simpa [Int.mul_add] using this, HBe5.out.trans (ho13.below HBe5.out.size (fun _ _ hh => hh))⟩
                case measure => simp [intOf]; omega
              | false =>
                go_wp2_with (first
                  | (go_at_call 17; (with_reducible refine (hRr.out _ (by assumption)).mono ?_); rintro e w10 ⟨rfl, ho10⟩; have b1 := (hS1.out _ ho10).1.2.1; have zB := World.block_lt_of_cell? _ _ b1)
                  | (go_at_call 18; (with_reducible refine (hRp.out _ (by assumption)).mono ?_); rintro e w11 ⟨rfl, ho11⟩; have b2 := (hS1.out _ ho11).1.2.1; have zC := World.block_lt_of_cell? _ _ b2)
                  | (go_at_call 19; (with_reducible refine (hSt.out _ (by assumption)).mono ?_); rintro e w12 ⟨rfl, ho12⟩)
                  | (go_at_call 13; (with_reducible refine (hRW.out _ (by assumption)).mono ?_); rintro e w13 ⟨rfl, ho13⟩)
                  )
                go_roundw
                case rel => exact ⟨k + 1, F5, v5, B5, L5, wn5, en5, ou5, A5, S5, D5, by omega, by go_num, by omega, HT5.out.kept ho13, by have := HI5.out; push_cast at *; simpa [Int.mul_add] using this, HBe5.out.trans (ho13.below HBe5.out.size (fun _ _ hh => hh))⟩
                case measure => simp [intOf]; omega
        · clear hl
          go_wp2
          go_ret
          exact ⟨rfl, hBe0⟩
      · clear hl
        go_wp2
        go_ret
        exact ⟨rfl, hBe0⟩
  · have hR := Lib.hid (fun W => right_any kd cp st W)
    obtain ⟨re, hre⟩ : ∃ re, rightE kd cp st = re := ⟨_, rfl⟩
    rw [hre] at he hR
    have hN := Lib.hid (TNew_bad kd cp st re (w.alloc (.cells #[.int .i64 kd, .int .i64 cp, .int .i64 st] 23)) hre he)
    unfold NewBad at hN
    have hne : (re != 0) = true := by simpa using he
    clear he hre hl
    go_enter Try.func3, Try.ntmps3
    go_wp2_with (first
      | (go_at_call 7; (with_reducible refine (hN.out).mono ?_); rintro e w1 ⟨rfl, ho1⟩; have hb1 := hb0.kept ho1 (fun hh => hh); have d0 := hb1.cell 0; have d1 := hb1.cell 1; have d2 := hb1.cell 2; have zc := hb1.lt)
      | (go_at_call 8; (with_reducible refine (hR.out _).mono ?_); rintro e w2 ⟨rfl, ho2⟩)
      | (go_at_call 9; (with_reducible refine (awake_any _).mono ?_); rintro e w3 ⟨rfl, ho3⟩)
      )
    go_ret
    exact ⟨rfl, (((hn0.trans ho1).trans ho2).trans ho3).below (Nat.le_refl _) (fun _ _ hh => hh)⟩
/-! The step from the walk to the statement of TxDoes. -/
namespace frTxDoes
open Go.ChangeShapes Go.WideShapes Go.ChangeAt Go.RowKit
set_option linter.unusedVariables false
theorem own : ownKnob Try.prog.godebug = none := by kernel_rfl
theorem laidOut : laidOutB Try.prog = true := by kernel_rfl
theorem shape0 : Kd.ok Try.prog (.agg [.int .i64, .int .i64, .int .i64]) 23 = true := by kernel_rfl
theorem shape1 : Kd.ok Try.prog (.slc (.agg [.int .i64, .int .i64, .str])) 24 = true := by kernel_rfl
set_option maxRecDepth 100000 in
theorem contract (H : Type) (enc : TypeId × Value → H) (W : World) (base : Nat) (args : Array Value) (ds gs : List (DataW H)) (before : List MemPlace)
    (hval : ∀ (j : Nat) t v, Try.f3.params[j]? = some t → args[j]? = some v → Value.okWide Try.prog W .any base t v)
    (hW : DataW.Whole enc Try.prog Try.f3.params.toList Rows.txDoesSpec.vars false W args.toList ds gs before) :
    Calls Try.prog 3 args W fun e W' => ∃ v, e = .returned v ∧ Rows.txDoesSpec.post enc Try.prog Try.f3 false true false false W args v W' := by
  have hW' := hW
  obtain ⟨p, q, hA0, hV, rfl, hfz, hnd⟩ := hW
  have hA : DataW.TrodAll enc Try.prog W 0 (fun _ => true) true Try.f3.params.toList args.toList ds p := hA0
  rw [Try.params3] at hA hval
  obtain ⟨v0, vs0, d0, ds0, p0, q0, hargs, rfl, rfl, h0, r0⟩ := trodAll_cons hA
  obtain ⟨v1, vs1, d1, ds1, p1, q1, rfl, rfl, rfl, h1, r1⟩ := trodAll_cons r0
  obtain ⟨rfl, rfl, rfl⟩ := trodAll_nil r1
  obtain rfl : args = #[v0, v1] := by cases args; simp_all
  obtain ⟨rfl, rfl⟩ := trodVars_none hV
  have k0 := Kd.fit _ shape0 (hval 0 23 v0 rfl rfl) h0
  have lt0 : ∀ x ∈ p0, x.block < W.heap.size := by obtain ⟨m, hm⟩ := h0; exact DataW.trod_lt m _ _ _ hm
  have k1 := Kd.fit _ shape1 (hval 1 24 v1 rfl rfl) h1
  have lt1 : ∀ x ∈ p1, x.block < W.heap.size := by obtain ⟨m, hm⟩ := h1; exact DataW.trod_lt m _ _ _ hm
  refine (txDoes_walk v0 v1 W k0 k1).mono fun e W' ⟨he, bel⟩ => ?_
  subst he
  exact ⟨_, rfl, _, _, _, [], _, [], hW', trodAll_mk1 (shut_bool Try.underlying4 _), (trodAll_cons_mk (Below.trod laidOut (by kernel_rfl) (of_decide_eq_true (by kernel_rfl)) h0 bel lt0) (trodAll_cons_mk (Below.trod laidOut (by kernel_rfl) (of_decide_eq_true (by kernel_rfl)) h1 bel lt1) trodAll_mk0)), rfl, bel.frame _, fun h => by cases h⟩
set_option maxRecDepth 100000 in
theorem lifted (os : Os) (started : os.Started) (H : Type) (enc : TypeId × Value → H) :
    ReturnsInHanded {} Try.checked os 3 .any (Rows.txDoesSpec.pre6 enc Try.prog Try.f3 Rows.txDoesRow.domain false) (Rows.txDoesSpec.post enc Try.prog Try.f3 false true false false) := by
  refine returnsInHanded_of_change (C := Try.checked) own started (by kernel_rfl) Try.func3
    (ChangeSpec.witness6 (enc := enc) (C := Try.checked) false ⟨#[], #[.agg #[.int .i64 0, .int .i64 0, .int .i64 0], .slice none 0 0], []⟩ 8 (by kernel_rfl) (by kernel_rfl) (by kernel_rfl) (by kernel_rfl)) ?_
  intro W base args ds gs before hval hW _ _
  exact contract H enc W base args ds gs before hval hW
theorem over : Rows.txDoesRow.holds Try.pinned (OpenSpec.ofChange Rows.txDoesSpec) :=
  OpenClaim.holds_of_wide 3 Try.f3 rfl rfl rfl rfl rfl rfl rfl ⟨rfl, rfl, rfl, rfl, rfl⟩ rfl rfl rfl rfl rfl (by kernel_rfl) Try.func3 (by kernel_rfl)
    (of_decide_eq_true (by kernel_rfl)) (by unfold Func.isWrapper; first | (rw [if_pos (by decide +kernel)]; kernel_rfl) | (rw [if_neg (by decide +kernel)]; exact ⟨rfl, rfl⟩))
    (fun os started H enc _ => lifted os started H enc)
theorem proved : Rows.TxDoesSaid := over
end frTxDoes
end Go.Proofs.Ytlinmpcllmijaaa
