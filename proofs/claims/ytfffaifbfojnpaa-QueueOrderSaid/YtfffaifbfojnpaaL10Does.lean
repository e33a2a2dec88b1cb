/- For every capacity, every strategy and every list of calls: each call of a queue is answered as the document says (the statement QueueDoes, as it is given). No condition. -/
import Derived.Test.YtfffaifbfojnpaaAwake10
namespace Go.Proofs.Ytfffaifbfojnpaa
open Go.RowKit

theorem Two.below {w w' : World} {bq bx base : Nat} {cp st : Int} {vq vx : Value} {L : List ByteArray} {a t d : Int} (h : Two w bq bx base cp st vq vx L a t d) (ho : Only (Fp2 bq bx vq vx) w w') : Below base w w' :=
  ho.below h.q.sz fun i hi hh => by
    rcases hh with hh | hh
    · exact h.q.fpBase i hi hh
    · exact h.x.fpBase i hi hh
theorem Qs.old {T : TypeId} {w w' : World} {b base B : Nat} {cp st : Int} {v : Value} {L : List ByteArray} {a t d : Int} (h : Qs T w b base cp st v L a t d) (hb : Below B w w') (hB : b < B) (hv : ∀ g, v.ownBlock = some g → g < B) : Qs T w' b base cp st v L a t d :=
  ⟨h.blk.below hb hB, by
    refine ⟨h.own.1, ?_⟩
    rcases h.own.2 with h0 | ⟨g, off, cap, cur, rfl, hbs, hh, hr⟩
    · exact .inl h0
    · exact .inr ⟨g, off, cap, cur, rfl, hbs, hh.below hb (hv g rfl), hr⟩, h.hb⟩
def ItN (w : World) (L : List ByteArray) (n : Nat) (x : Ending) (w' : World) : Prop := ∃ A c, x = .returned (.slice A n c) ∧ Ow encS 1 w' w.heap.size 9 (.slice A n c) L ∧ Only Nil w w'
theorem Items_n {b base : Nat} {cp st : Int} {v : Value} {L : List ByteArray} {a t d : Int} (w : World) (h : Qs 50 w b base cp st v L a t d) (hl : L.length ≤ 1000) (n : Nat) (hn : L.length = n) : Calls Try.prog 13 #[.pointer (some ⟨b, 0, none⟩)] w (ItN w L n) := by
  subst hn
  exact Items_any w h hl
set_option maxRecDepth 100000 in
set_option maxHeartbeats 16000000 in
theorem queueDoes_walk (v0 v1 v2 : Value) (w : World) (h0 : Kd.Fit w (.int .i64) v0) (h1 : Kd.Fit w (.int .i64) v1) (h2 : Kd.Fit w (.slc (.agg [.int .i64, .str])) v2) :
    Calls Try.prog 3 #[v0, v1, v2] w fun e w' => e = .returned (.bool true) ∧ Below w.heap.size w w' := by
  obtain ⟨cp, rfl, -⟩ := Kd.int_fit h0
  obtain ⟨st, rfl, -⟩ := Kd.int_fit h1
  obtain ⟨A, len, cap, rfl, hl⟩ := Kd.slc_fit h2
  clear h0 h1 h2
  by_cases a1 : cp < 0
  · have hn := fun (W : World) => New_range cp st W (.inl a1)
    clear hl
    go_enter Try.func3, Try.ntmps3
    go_wp2_with (first
      | (go_at_call 6; (with_reducible refine (hn _).mono ?_); rintro e w1 ⟨rfl, rfl⟩)
      | (go_at_call 7; (with_reducible refine (awake_any _).mono ?_); rintro e w2 ⟨rfl, ho2⟩)
      )
    go_ret
    exact ⟨rfl, ho2⟩
  by_cases a2 : 64 < cp
  · have hn := fun (W : World) => New_range cp st W (.inr a2)
    clear hl
    go_enter Try.func3, Try.ntmps3
    go_wp2_with (first
      | (go_at_call 6; (with_reducible refine (hn _).mono ?_); rintro e w1 ⟨rfl, rfl⟩)
      | (go_at_call 7; (with_reducible refine (awake_any _).mono ?_); rintro e w2 ⟨rfl, ho2⟩)
      )
    go_ret
    exact ⟨rfl, ho2⟩
  have c0 : 0 ≤ cp := by omega
  have c1 : cp ≤ 64 := by omega
  clear a1 a2
  by_cases b1 : st < 0
  · have hn := fun (W : World) => New_arg cp st W c0 c1 (.inl b1)
    clear hl
    go_enter Try.func3, Try.ntmps3
    go_wp2_with (first
      | (go_at_call 6; (with_reducible refine (hn _).mono ?_); rintro e w1 ⟨rfl, rfl⟩)
      | (go_at_call 7; (with_reducible refine (awake_any _).mono ?_); rintro e w2 ⟨rfl, ho2⟩)
      )
    go_ret
    exact ⟨rfl, ho2⟩
  by_cases b2 : 2 < st
  · have hn := fun (W : World) => New_arg cp st W c0 c1 (.inr b2)
    clear hl
    go_enter Try.func3, Try.ntmps3
    go_wp2_with (first
      | (go_at_call 6; (with_reducible refine (hn _).mono ?_); rintro e w1 ⟨rfl, rfl⟩)
      | (go_at_call 7; (with_reducible refine (awake_any _).mono ?_); rintro e w2 ⟨rfl, ho2⟩)
      )
    go_ret
    exact ⟨rfl, ho2⟩
  have s0 : 0 ≤ st := by omega
  have s1 : st ≤ 2 := by omega
  clear b1 b2
  go_enter Try.func3, Try.ntmps3
  go_wp2_with (first
    | (go_at_call 6; (with_reducible refine (New_any cp st _ c0 c1 s0 s1).mono ?_); rintro e w1 ⟨b, rfl, ho1, hbb, hq1⟩; have hz1 := hq1.blk.lt)
    | (go_at_call 7; (with_reducible refine (awake_any _).mono ?_); rintro e w2 ⟨rfl, hb2⟩)
    )
  have hno := (Only.refl Nil w1).alloc (.cells #[.int .i64 cp, .int .i64 st, .slice none 0 0, .int .i64 0, .int .i64 0, .int .i64 0] 31)
  have hB1 : Blk (w1.alloc (.cells #[.int .i64 cp, .int .i64 st, .slice none 0 0, .int .i64 0, .int .i64 0, .int .i64 0] 31)) w1.heap.size 31 #[.int .i64 cp, .int .i64 st, .slice none 0 0, .int .i64 0, .int .i64 0, .int .i64 0] := Blk.new _ _ _
  have hTw : Two w2 b w1.heap.size w.heap.size cp st (.slice none 0 0) (.slice none 0 0) [] 0 0 0 :=
    ⟨(hq1.kept hno).old hb2 (by simp; omega) (fun g hg => by simp [Value.ownBlock] at hg), ⟨hB1.below hb2 (by simp), Ow.nil, ho1.size⟩, fun g hg => by simp [Value.ownBlock] at hg⟩
  have hBe2 := ((ho1.trans hno).below (Nat.le_refl _) (fun _ _ hh => hh)).trans (hb2.mono (ho1.trans hno).size)
  generalize w1.heap.size = bx at *
  clear hq1 hno hB1 hb2
  go_loopw [10] (fun ii wr => ∃ (k : Nat) (vq vx : Value) (L : List ByteArray) (a t d : Int), k ≤ len ∧ ii = .int .i64 k ∧ k ≤ 150 ∧ Two wr b bx w.heap.size cp st vq vx L a t d ∧ Inv cp k L a t d ∧ Below w.heap.size w wr) (fun ii _ => len - (intOf ii).toNat)
  case atStart => exact ⟨0, _, _, [], 0, 0, 0, Nat.zero_le _, rfl, by omega, hTw, ⟨by simp, by simpa using c0, by omega, by omega, by omega, by simp⟩, hBe2⟩
  case round =>
    clear hTw hBe2
    obtain ⟨k, vq, vx, L, a, t, d, hk, rfl, hk1, hTw, hi, hBe⟩ := hrel
    have hmax : len ≤ 9223372036854775807 := Nat.le_trans hl.1 hl.2.1
    by_cases hlt : k < len
    · by_cases h80 : k < 150
      · obtain ⟨b', off, rfl, hb', cs, hcl, hcs, his⟩ := hl.at (by decide) hlt
        obtain ⟨u0, e0, rfl, i0, his⟩ := Kd.headL rfl (by unfold Kd.Is at his; exact his)
        obtain ⟨u1, e1, rfl, i1, his⟩ := Kd.headL rfl his
        obtain rfl := Kd.end_ his
        obtain ⟨kd, rfl, -⟩ := Kd.int_is i0
        obtain ⟨S, rfl, -⟩ := Kd.str_is i1
        have q0 := hcs 0 (by decide)
        have q1 := hcs 1 (by decide)
        simp [Kd.cells, Kd.cellsL] at q0 q1
        have f0 := (hBe.cell (p := ⟨b', _, none⟩) hb').trans q0
        have f1 := (hBe.cell (p := ⟨b', _, none⟩) hb').trans q1
        clear q0 q1 hcs hcl hl i0 i1
        by_cases hS : 300 < S.size
        · have hSi : (300 : Int) < S.size := by omega
          obtain ⟨i1, i2, i3, i4, i5, i6⟩ := hi
          have hI : Hid (Inv cp ((k + 1 : Nat) : Int) L a t d) := Lib.hid ⟨i1, i2, i3, i4, i5, by push_cast; omega⟩
          clear i1 i2 i3 i4 i5 i6
          go_wp2
          go_roundw
          case rel => exact ⟨k + 1, vq, vx, L, a, t, d, by omega, by go_num, by omega, hTw, hI.out, hBe⟩
          case measure => simp [intOf]; omega
        · have hSi : ¬ (300 : Int) < S.size := by omega
          have hD := Lib.hid (do_any kd S wr k hTw hi (by omega) (by omega) c0 c1)
          clear hi
          go_upto_region 14 with (first
            | (go_at_call 8; (with_reducible refine (hD.out).mono ?_); rintro e w5 ⟨vq', vx', L', a', t', d', rfl, hT5, ho5, hg5, hi5⟩)
            )
          have hBe5 := hBe.trans (hTw.below ho5)
          have hI5 : Hid (Inv cp ((k + 1 : Nat) : Int) L' a' t' d') := Lib.hid (by push_cast; exact hi5)
          obtain ⟨j1, j2, j3, j4, j5, j6⟩ := hi5
          have hC := Lib.hid (Counts_any w5 hT5.q)
          obtain ⟨fb, hfb⟩ : ∃ fb, ((L'.length : Int) == cp) = fb := ⟨_, rfl⟩
          have hfb2 : decide (cp ≤ (L'.length : Int)) = fb := by rw [← hfb, Bool.eq_iff_iff]; simp; omega
          have hF := Lib.hid (fun W (ho : Only Nil w5 W) => Full_any fb W (hT5.kept ho).q hfb2)
          have hL := Lib.hid (fun W (ho : Only Nil w5 W) => Len_any W (hT5.kept ho).q)
          have hIt := Lib.hid (fun W (ho : Only Nil w5 W) => Items_n W (hT5.kept ho).q (by omega) L'.length rfl)
          have hTx := Lib.hid (fun W A B ca cb (h1 : Sq encS 1 W W.heap.size A L') (h2 : Sq encS 1 W W.heap.size B L') => Texts_same A B ca cb L' W h1 h2 (by omega))
          have hXs := Lib.hid (fun W (ho : Only Nil w5 W) => (hT5.kept ho).x.own)
          have HC := Lib.hid (fun W (ho : Only Nil w5 W) => (hT5.kept ho).x.facts)
          have HT5 := Lib.hid hT5
          obtain ⟨Ax, cx, rfl, hcx, hmx⟩ := hT5.x.own.form
          have hsum : (a' != t' + d' + (L'.length : Int)) = false := by simp; omega
          have hw1 : IntKind.i64.wrap (t' + d') = t' + d' := IntWalk.i64_in _ (by omega)
          have hw2 : IntKind.i64.wrap (t' + d' + (L'.length : Int)) = t' + d' + (L'.length : Int) := IntWalk.i64_in _ (by omega)
          have hcl : decide (cp < (L'.length : Int)) = false := by simp; omega
          generalize hm : L'.length = m at *
          have HM := Lib.hid hm
          clear hm hfb2 hT5 ho5 hg5 hTw hBe hD f0 f1 hmx hcx j1
          go_wp2_with (first
            | (go_at_call 9; (with_reducible refine (hC.out).mono ?_); rintro e w6 ⟨rfl, ho6⟩)
            )
          have ho6d := ho6.drew
          obtain ⟨c60, c61, c62, c63, c64, c65⟩ := HC.out _ ho6
          have s6 : w6.drew.cell? ⟨bx, 2, none⟩ = some (.slice Ax m cx) ∧ w6.drew.cell? ⟨bx, 3, none⟩ = some (.int .i64 a') ∧ w6.drew.cell? ⟨bx, 4, none⟩ = some (.int .i64 t') ∧ w6.drew.cell? ⟨bx, 5, none⟩ = some (.int .i64 d') := ⟨c62, c63, c64, c65⟩
          simp only [List.append_eq, List.cons_append, List.nil_append]
          go_region_held3 (fun W => W.cell? ⟨bx, 2, none⟩ = some (.slice Ax m cx) ∧ W.cell? ⟨bx, 3, none⟩ = some (.int .i64 a') ∧ W.cell? ⟨bx, 4, none⟩ = some (.int .i64 t') ∧ W.cell? ⟨bx, 5, none⟩ = some (.int .i64 d')) (with_reducible (first | exact s6 | exact s7 | exact s8 | exact s9)) (first
            | (go_at_call 12; (with_reducible refine (hTx.out _ _ _ _ _ r8 x8).mono ?_); rintro e w9 ⟨rfl, ho9⟩; have ho79 := ho78.trans ho9; have s9 := (by have := HC.out _ ho79; exact ⟨this.2.2.1, this.2.2.2.1, this.2.2.2.2.1, this.2.2.2.2.2⟩ : w9.cell? ⟨bx, 2, none⟩ = some (.slice Ax m cx) ∧ w9.cell? ⟨bx, 3, none⟩ = some (.int .i64 a') ∧ w9.cell? ⟨bx, 4, none⟩ = some (.int .i64 t') ∧ w9.cell? ⟨bx, 5, none⟩ = some (.int .i64 d')))
            | (go_at_call 13; (with_reducible refine (hIt.out _ ho67).mono ?_); rintro e w8 ⟨A8, c8, rfl, hO8, ho8⟩; have ho78 := ho67.trans ho8; have r8 := hO8.sqn (fun _ _ => rfl); have x8 := (hXs.out _ ho78).sqn (fun _ _ => rfl); have s8 := (by have := HC.out _ ho78; exact ⟨this.2.2.1, this.2.2.2.1, this.2.2.2.2.1, this.2.2.2.2.2⟩ : w8.cell? ⟨bx, 2, none⟩ = some (.slice Ax m cx) ∧ w8.cell? ⟨bx, 3, none⟩ = some (.int .i64 a') ∧ w8.cell? ⟨bx, 4, none⟩ = some (.int .i64 t') ∧ w8.cell? ⟨bx, 5, none⟩ = some (.int .i64 d')))
            | (go_at_call 11; (with_reducible refine (hF.out _ ho6d).mono ?_); rintro e w7 ⟨rfl, ho7⟩; have ho67 := ho6d.trans ho7; have s7 := (by have := HC.out _ ho67; exact ⟨this.2.2.1, this.2.2.2.1, this.2.2.2.2.1, this.2.2.2.2.2⟩ : w7.cell? ⟨bx, 2, none⟩ = some (.slice Ax m cx) ∧ w7.cell? ⟨bx, 3, none⟩ = some (.int .i64 a') ∧ w7.cell? ⟨bx, 4, none⟩ = some (.int .i64 t') ∧ w7.cell? ⟨bx, 5, none⟩ = some (.int .i64 d')))
            | (go_at_call 10; (with_reducible refine (hL.out _ ho67).mono ?_); rintro e w7x ⟨rfl, rfl⟩)
            | (go_at_call 10; (with_reducible refine (hL.out _ ho6d).mono ?_); rintro e w7y ⟨rfl, rfl⟩)
            )
          go_wp2
          go_roundw
          case rel => exact ⟨k + 1, vq', _, L', a', t', d', by omega, by go_num, by omega, HT5.out.kept ho79, hI5.out, hBe5.trans (ho79.below (Below.size hBe5) (fun _ _ hh => hh))⟩
          case measure => simp [intOf]; omega
      · clear hl
        go_wp2
        go_ret
        exact ⟨rfl, hBe⟩
    · clear hl
      go_wp2
      go_ret
      exact ⟨rfl, hBe⟩
/-! The step from the walk to the statement of QueueDoes. -/
namespace frQueueDoes
open Go.ChangeShapes Go.WideShapes Go.ChangeAt Go.RowKit
set_option linter.unusedVariables false
theorem own : ownKnob Try.prog.godebug = none := by kernel_rfl
theorem laidOut : laidOutB Try.prog = true := by kernel_rfl
theorem shape0 : Kd.ok Try.prog (.int .i64) 3 = true := by kernel_rfl
theorem shape1 : Kd.ok Try.prog (.int .i64) 3 = true := by kernel_rfl
theorem shape2 : Kd.ok Try.prog (.slc (.agg [.int .i64, .str])) 22 = true := by kernel_rfl
set_option maxRecDepth 100000 in
theorem contract (H : Type) (enc : TypeId × Value → H) (W : World) (base : Nat) (args : Array Value) (ds gs : List (DataW H)) (before : List MemPlace)
    (hval : ∀ (j : Nat) t v, Try.f3.params[j]? = some t → args[j]? = some v → Value.okWide Try.prog W .any base t v)
    (hW : DataW.Whole enc Try.prog Try.f3.params.toList Rows.queueDoesSpec.vars false W args.toList ds gs before) :
    Calls Try.prog 3 args W fun e W' => ∃ v, e = .returned v ∧ Rows.queueDoesSpec.post enc Try.prog Try.f3 false true false false W args v W' := by
  have hW' := hW
  obtain ⟨p, q, hA0, hV, rfl, hfz, hnd⟩ := hW
  have hA : DataW.TrodAll enc Try.prog W 0 (fun _ => true) true Try.f3.params.toList args.toList ds p := hA0
  rw [Try.params3] at hA hval
  obtain ⟨v0, vs0, d0, ds0, p0, q0, hargs, rfl, rfl, h0, r0⟩ := trodAll_cons hA
  obtain ⟨v1, vs1, d1, ds1, p1, q1, rfl, rfl, rfl, h1, r1⟩ := trodAll_cons r0
  obtain ⟨v2, vs2, d2, ds2, p2, q2, rfl, rfl, rfl, h2, r2⟩ := trodAll_cons r1
  obtain ⟨rfl, rfl, rfl⟩ := trodAll_nil r2
  obtain rfl : args = #[v0, v1, v2] := by cases args; simp_all
  obtain ⟨rfl, rfl⟩ := trodVars_none hV
  have k0 := Kd.fit _ shape0 (hval 0 3 v0 rfl rfl) h0
  have lt0 : ∀ x ∈ p0, x.block < W.heap.size := by obtain ⟨m, hm⟩ := h0; exact DataW.trod_lt m _ _ _ hm
  have k1 := Kd.fit _ shape1 (hval 1 3 v1 rfl rfl) h1
  have lt1 : ∀ x ∈ p1, x.block < W.heap.size := by obtain ⟨m, hm⟩ := h1; exact DataW.trod_lt m _ _ _ hm
  have k2 := Kd.fit _ shape2 (hval 2 22 v2 rfl rfl) h2
  have lt2 : ∀ x ∈ p2, x.block < W.heap.size := by obtain ⟨m, hm⟩ := h2; exact DataW.trod_lt m _ _ _ hm
  refine (queueDoes_walk v0 v1 v2 W k0 k1 k2).mono fun e W' ⟨he, bel⟩ => ?_
  subst he
  exact ⟨_, rfl, _, _, _, [], _, [], hW', trodAll_mk1 (shut_bool Try.underlying4 _), (trodAll_cons_mk (Below.trod laidOut (by kernel_rfl) (of_decide_eq_true (by kernel_rfl)) h0 bel lt0) (trodAll_cons_mk (Below.trod laidOut (by kernel_rfl) (of_decide_eq_true (by kernel_rfl)) h1 bel lt1) (trodAll_cons_mk (Below.trod laidOut (by kernel_rfl) (of_decide_eq_true (by kernel_rfl)) h2 bel lt2) trodAll_mk0))), rfl, bel.frame _, fun h => by cases h⟩
set_option maxRecDepth 100000 in
theorem lifted (os : Os) (started : os.Started) (H : Type) (enc : TypeId × Value → H) :
    ReturnsInHanded {} Try.checked os 3 .any (Rows.queueDoesSpec.pre6 enc Try.prog Try.f3 Rows.queueDoesRow.domain false) (Rows.queueDoesSpec.post enc Try.prog Try.f3 false true false false) := by
  refine returnsInHanded_of_change (C := Try.checked) own started (by kernel_rfl) Try.func3
    (ChangeSpec.witness6 (enc := enc) (C := Try.checked) false ⟨#[], #[.int .i64 0, .int .i64 0, .slice none 0 0], []⟩ 8 (by kernel_rfl) (by kernel_rfl) (by kernel_rfl) (by kernel_rfl)) ?_
  intro W base args ds gs before hval hW _ _
  exact contract H enc W base args ds gs before hval hW
theorem over : Rows.queueDoesRow.holds Try.pinned (OpenSpec.ofChange Rows.queueDoesSpec) :=
  OpenClaim.holds_of_wide 3 Try.f3 rfl rfl rfl rfl rfl rfl rfl ⟨rfl, rfl, rfl, rfl, rfl⟩ rfl rfl rfl rfl rfl (by kernel_rfl) Try.func3 (by kernel_rfl)
    (of_decide_eq_true (by kernel_rfl)) (by unfold Func.isWrapper; first | (rw [if_pos (by decide +kernel)]; kernel_rfl) | (rw [if_neg (by decide +kernel)]; exact ⟨rfl, rfl⟩))
    (fun os started H enc _ => lifted os started H enc)
theorem proved : Rows.QueueDoesSaid := over
end frQueueDoes
end Go.Proofs.Ytfffaifbfojnpaa
