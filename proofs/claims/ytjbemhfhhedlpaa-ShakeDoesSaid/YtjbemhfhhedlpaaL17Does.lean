/- For every list of acts: every call is answered as the document says; what the other side applies, in order, is what was sent (the statement ShakeDoes, as it is given). No condition. -/
import Derived.Test.YtjbemhfhhedlpaaAwake17
import Derived.Test.YtjbemhfhhedlpaaSame17
import Derived.Deep.DeepCutAuto
namespace Go.Proofs.Ytjbemhfhhedlpaa
open Go.RowKit

set_option maxRecDepth 100000 in
set_option maxHeartbeats 200000000 in
theorem shakeDoes_walk (v0 : Value) (w : World) (h0 : Kd.Fit w (.slc (.agg [.bool, .agg [.int .i64, .int .i64, .int .i64]])) v0) :
    Calls Try.prog 3 #[v0] w fun e w' => e = .returned (.bool true) ∧ Below w.heap.size w w' := by
  obtain ⟨A, len, cap, rfl, hl⟩ := Kd.slc_fit h0
  clear h0
  go_enter Try.func3, Try.ntmps3
  go_wp2_with (first
    | (go_at_call 5; (with_reducible refine (New_any _).mono ?_); rintro e w1 ⟨b, rfl, ho1, k1⟩)
    | (go_at_call 6; (with_reducible refine (awake_any _).mono ?_); rintro e w2 ⟨rfl, hb2⟩)
    )
  have k2 := k1.kept (Only.of_below hb2)
  have s1 := ho1.size
  have s2 := hb2.size
  have zb := k2.blk.lt
  have hx := (((((Only.refl Nil w2).alloc (.cells #[.int .i64 64, .int .i64 8, .int .i64 4] 27)).alloc (.cells #[.int .i64 64, .int .i64 8, .int .i64 4] 27)).alloc (.cells #[.int .i64 64, .int .i64 8, .int .i64 4] 27)).alloc (.cells #[.int .i64 64, .int .i64 8, .int .i64 4] 27)).drew
  have k4 := k2.kept hx
  have c1 : Sb ((((w2.alloc (.cells #[.int .i64 64, .int .i64 8, .int .i64 4] 27)).alloc (.cells #[.int .i64 64, .int .i64 8, .int .i64 4] 27)).alloc (.cells #[.int .i64 64, .int .i64 8, .int .i64 4] 27)).alloc (.cells #[.int .i64 64, .int .i64 8, .int .i64 4] 27)).drew (w2.heap.size + 1) ⟨64, 8, 4⟩ := Blk.drew (by simpa using ((Blk.new (w2.alloc (.cells #[.int .i64 64, .int .i64 8, .int .i64 4] 27)) 27 #[.int .i64 64, .int .i64 8, .int .i64 4]).alloc (.cells #[.int .i64 64, .int .i64 8, .int .i64 4] 27)).alloc (.cells #[.int .i64 64, .int .i64 8, .int .i64 4] 27))
  have c2 : Sb ((((w2.alloc (.cells #[.int .i64 64, .int .i64 8, .int .i64 4] 27)).alloc (.cells #[.int .i64 64, .int .i64 8, .int .i64 4] 27)).alloc (.cells #[.int .i64 64, .int .i64 8, .int .i64 4] 27)).alloc (.cells #[.int .i64 64, .int .i64 8, .int .i64 4] 27)).drew (w2.heap.size + 1 + 1) ⟨64, 8, 4⟩ := Blk.drew (by simpa using (Blk.new ((w2.alloc (.cells #[.int .i64 64, .int .i64 8, .int .i64 4] 27)).alloc (.cells #[.int .i64 64, .int .i64 8, .int .i64 4] 27)) 27 #[.int .i64 64, .int .i64 8, .int .i64 4]).alloc (.cells #[.int .i64 64, .int .i64 8, .int .i64 4] 27))
  have c3 : Sb ((((w2.alloc (.cells #[.int .i64 64, .int .i64 8, .int .i64 4] 27)).alloc (.cells #[.int .i64 64, .int .i64 8, .int .i64 4] 27)).alloc (.cells #[.int .i64 64, .int .i64 8, .int .i64 4] 27)).alloc (.cells #[.int .i64 64, .int .i64 8, .int .i64 4] 27)).drew (w2.heap.size + 1 + 1 + 1) ⟨64, 8, 4⟩ := Blk.drew (by simpa using Blk.new (((w2.alloc (.cells #[.int .i64 64, .int .i64 8, .int .i64 4] 27)).alloc (.cells #[.int .i64 64, .int .i64 8, .int .i64 4] 27)).alloc (.cells #[.int .i64 64, .int .i64 8, .int .i64 4] 27)) 27 #[.int .i64 64, .int .i64 8, .int .i64 4])
  have hbe4 : Below w.heap.size w ((((w2.alloc (.cells #[.int .i64 64, .int .i64 8, .int .i64 4] 27)).alloc (.cells #[.int .i64 64, .int .i64 8, .int .i64 4] 27)).alloc (.cells #[.int .i64 64, .int .i64 8, .int .i64 4] 27)).alloc (.cells #[.int .i64 64, .int .i64 8, .int .i64 4] 27)).drew := ((ho1.below (Nat.le_refl _) (fun _ _ hh => hh)).trans (hb2.mono s1)).trans (hx.below (by omega) (fun _ _ hh => hh))
  go_cut [5, 6, 7] (fun s5 s6 s7 wx => ∃ B5 B6 B7, s5 = .pointer (some ⟨B5, 0, none⟩) ∧ s6 = .pointer (some ⟨B6, 0, none⟩) ∧ s7 = .pointer (some ⟨B7, 0, none⟩) ∧ Inv w wx (w2.heap.size + 4) b B5 B6 B7 (.slice none 0 0) (.slice none 0 0) ⟨64, 8, 4⟩ ⟨64, 8, 4⟩ [] ∧ Fx w.heap.size (w2.heap.size + 4) b B5 B6 B7)
  case first =>
    go_region
    all_goals
      go_wp2_with fail
      go_meet
      refine ⟨_, _, _, rfl, rfl, rfl, ⟨k4, Ow.nil, by simp, by first | exact c1 | exact c2 | exact c3, by first | exact c1 | exact c2 | exact c3, by first | exact c1 | exact c2 | exact c3, fun g hg => by simp [Value.ownBlock] at hg, hbe4, by simp⟩, ?_⟩
      have := k1.hb
      constructor <;> omega
  case rest =>
    obtain ⟨B5, B6, B7, rfl, rfl, rfl, i0, f⟩ := hcut
    generalize w2.heap.size + 4 = M at i0 f
    clear c1 c2 c3 k4 k2 k1 hx hbe4 ho1 hb2 s1 s2 zb
    go_wp2
    go_loopw [8, 9] (fun ss ii wr => ∃ (k : Nat) (v : Value) (h m : St) (L : List St), k ≤ len ∧ k ≤ 80 ∧ ii = .int .i64 k ∧ Inv w wr M b B5 B6 B7 ss v h m L) (fun _ ii _ => len - (intOf ii).toNat)
    case atStart => exact ⟨0, _, _, _, _, Nat.zero_le _, by omega, rfl, i0⟩
    case round =>
      obtain ⟨k, v, h, m, L, hk, hk8, rfl, i⟩ := hrel
      clear i0
      by_cases hlt : k < len
      · by_cases h80 : k < 80
        · obtain ⟨b', off, rfl, hb', cs, hcl, hcs, his⟩ := hl.at (by decide) hlt
          obtain ⟨v0, c0, rfl, i0, his⟩ := Kd.headL rfl (by unfold Kd.Is at his; exact his)
          obtain ⟨c1, c2, rfl, _, hi1, hr1⟩ : ∃ c1 c2, c0 = c1 ++ c2 ∧ c1.length = Kd.cells (.agg [.int .i64, .int .i64, .int .i64]) ∧ Kd.Is w (.agg [.int .i64, .int .i64, .int .i64]) c1 ∧ Kd.IsL w [] c2 := by unfold Kd.IsL at his; exact his
          obtain ⟨ta, tb, tc, rfl, _, _, _⟩ := Kd.list_ints3 (by unfold Kd.Is at hi1; exact hi1)
          obtain rfl := Kd.end_ hr1
          obtain ⟨ack, rfl⟩ := Kd.bool_is i0
          have q0 := hcs 0 (by decide)
          have q1 := hcs 1 (by decide)
          have q2 := hcs 2 (by decide)
          have q3 := hcs 3 (by decide)
          simp [Kd.cells, Kd.cellsL] at q0 q1 q2 q3
          have f0 := (i.bel.cell (p := ⟨b', _, none⟩) hb').trans q0
          have f1 := (i.bel.cell (p := ⟨b', _, none⟩) hb').trans q1
          have f2 := (i.bel.cell (p := ⟨b', _, none⟩) hb').trans q2
          have f3 := (i.bel.cell (p := ⟨b', _, none⟩) hb').trans q3
          clear hcs hcl i0 hi1 hr1 hl
          obtain ⟨A8, c8, rfl, hc8, hm8⟩ := i.ow.form
          cases ack
          ·
            cases hr : rightB ta tb tc
            · have hS := fun W (_ : Sk W b w.heap.size v h m L) => Send_bad W b ⟨ta, tb, tc⟩ hr
              have hR := fun W => Right_any ta tb tc W
              rw [hr] at hR
              have hfull : True := trivial
              by_cases hne : L = []
              · subst hne
                have HS : Hid (∀ W, Sk W b w.heap.size v h m [] → Calls Try.prog 8 #[.pointer (some ⟨b, 0, none⟩), .agg #[.int .i64 ta, .int .i64 tb, .int .i64 tc]] W fun x w' => x = .returned (.tuple #[.slice none 0 0, .int .i64 3]) ∧ Only Nil W w') := Lib.hid hS
                have HR := Lib.hid hR
                clear hS hR
                as_aux_lemma =>
                  have HWt := Lib.hid (fun W (k0 : Sk W b w.heap.size v h m []) => Waiting_any W k0)
                  have HLt := Lib.hid (fun W (k0 : Sk W b w.heap.size v h m []) => Latest_none W k0)
                  go_wp2_with (first
                    | (go_at_call 8; (with_reducible refine (HS.out _ i.sk).mono ?_); rintro e w3 ⟨rfl, ho3⟩; have j3 := i.kept ho3; have f1 := (j3.bel.cell (p := ⟨b', _, none⟩) hb').trans q1; have f2 := (j3.bel.cell (p := ⟨b', _, none⟩) hb').trans q2; have f3 := (j3.bel.cell (p := ⟨b', _, none⟩) hb').trans q3)
                    | (go_at_call 9; (with_reducible refine (HR.out _).mono ?_); rintro e wf ⟨rfl, ho4⟩; have j := j3.kept ho4; obtain ⟨x50, x51, x52⟩ := Sb.facts j.b5)
                    )
                  have jq : Sb wf B7 h := j.b7
                  have hX : wf.heap.size = wf.heap.size := rfl
                  have hx := (Only.refl Nil wf).alloc (.cells #[.int .i64 h.a, .int .i64 h.b, .int .i64 h.c] 27)
                  have r0 : Sb _ B5 h := Blk.drew (Blk.kept j.b5 hx (fun hh => hh))
                  have x0 : Sb (wf.alloc (.cells #[.int .i64 h.a, .int .i64 h.b, .int .i64 h.c] 27)).drew (wf.heap.size) h := Blk.drew (by have h9 := Blk.new wf 27 #[.int .i64 h.a, .int .i64 h.b, .int .i64 h.c]; rw [hX] at h9; exact h9)
                  have y0 : Sb _ B7 h := Blk.drew (Blk.kept jq hx (fun hh => hh))
                  have z0 : Sb _ B6 m := Blk.drew (Blk.kept j.b6 hx (fun hh => hh))
                  have kk0 := (j.sk.kept hx).kept (Only.refl Nil _).drew
                  have hnn : (((0 : Nat) : Int) != ((0 : Nat) : Int)) = false := by simp
                  go_region_held3 (fun w' => (w'.cell? ⟨B5, 0, none⟩ = some (.int .i64 h.a) ∧ w'.cell? ⟨B5, 1, none⟩ = some (.int .i64 h.b) ∧ w'.cell? ⟨B5, 2, none⟩ = some (.int .i64 h.c)) ∧ (w'.cell? ⟨wf.heap.size, 0, none⟩ = some (.int .i64 h.a) ∧ w'.cell? ⟨wf.heap.size, 1, none⟩ = some (.int .i64 h.b) ∧ w'.cell? ⟨wf.heap.size, 2, none⟩ = some (.int .i64 h.c)) ∧ (w'.cell? ⟨B7, 0, none⟩ = some (.int .i64 h.a) ∧ w'.cell? ⟨B7, 1, none⟩ = some (.int .i64 h.b) ∧ w'.cell? ⟨B7, 2, none⟩ = some (.int .i64 h.c)) ∧ (w'.cell? ⟨B6, 0, none⟩ = some (.int .i64 m.a) ∧ w'.cell? ⟨B6, 1, none⟩ = some (.int .i64 m.b) ∧ w'.cell? ⟨B6, 2, none⟩ = some (.int .i64 m.c))) (first | exact ⟨Sb.facts (q := h) r3, Sb.facts (q := h) x3, Sb.facts (q := h) y3, Sb.facts (q := m) z3⟩ | exact ⟨Sb.facts (q := h) r2, Sb.facts (q := h) x2, Sb.facts (q := h) y2, Sb.facts (q := m) z2⟩ | exact ⟨Sb.facts (q := h) r1, Sb.facts (q := h) x1, Sb.facts (q := h) y1, Sb.facts (q := m) z1⟩ | exact ⟨Sb.facts (q := h) r0, Sb.facts (q := h) x0, Sb.facts (q := h) y0, Sb.facts (q := m) z0⟩) (first
                    | (go_at_call 15; (with_reducible refine (HWt.out _ kk3).mono ?_); rintro e w14 ⟨rfl, rfl⟩)
                    | (go_at_call 14; (with_reducible refine (Most_any _ kk2).mono ?_); rintro e w13 ⟨rfl, ho13⟩; have r3 := Blk.kept r2 ho13 (fun hh => hh); have x3 := Blk.kept x2 ho13 (fun hh => hh); have y3 := Blk.kept y2 ho13 (fun hh => hh); have z3 := Blk.kept z2 ho13 (fun hh => hh); have kk3 := kk2.kept ho13)
                    | (go_at_call 13; (with_reducible refine (HLt.out _ kk1).mono ?_); rintro e w12 ⟨rfl, ho12⟩; have r2 := Blk.kept r1 ho12 (fun hh => hh); have x2 := Blk.kept x1 ho12 (fun hh => hh); have y2 := Blk.kept y1 ho12 (fun hh => hh); have z2 := Blk.kept z1 ho12 (fun hh => hh); have kk2 := kk1.kept ho12)
                    | (go_at_call 12; (with_reducible refine (Holds_any _ kk0).mono ?_); rintro e w11 ⟨rfl, ho11⟩; have r1 := Blk.kept r0 ho11 (fun hh => hh); have x1 := Blk.kept x0 ho11 (fun hh => hh); have y1 := Blk.kept y0 ho11 (fun hh => hh); have z1 := Blk.kept z0 ho11 (fun hh => hh); have kk1 := kk0.kept ho11)
                    )
                  all_goals
                    go_wp2
                    go_roundw
                    case rel => exact ⟨k + 1, v, h, m, [], by omega, by omega, by go_num, j.kept (((hx.drew.trans ho11).trans ho12).trans ho13)⟩
                    case measure => simp [intOf]; omega
              · have HS : Hid (∀ W, Sk W b w.heap.size v h m L → Calls Try.prog 8 #[.pointer (some ⟨b, 0, none⟩), .agg #[.int .i64 ta, .int .i64 tb, .int .i64 tc]] W fun x w' => x = .returned (.tuple #[.slice none 0 0, .int .i64 3]) ∧ Only Nil W w') := Lib.hid hS
                have HR := Lib.hid hR
                clear hS hR
                as_aux_lemma =>
                  have hpos : L ≠ [] := hne
                  have hs8 := i.ow.sq (fun _ _ => rfl) rfl
                  obtain ⟨g8, o8, x8, rfl, hg8, _, _, _⟩ := hs8.at_ (k := 0) (List.length_pos_iff.2 hpos)
                  have HWt := Lib.hid (fun W (k0 : Sk W b w.heap.size v h m L) => Waiting_any W k0)
                  have HLt := Lib.hid (fun W (k0 : Sk W b w.heap.size v h m L) => Latest_any W k0 i.l4)
                  obtain ⟨q, hq⟩ : ∃ q, lastOf h L = q := ⟨_, rfl⟩
                  rw [hq] at HLt
                  have hn1 := List.length_pos_iff.2 hpos
                  have hn4 := i.l4
                  have hfull' := hfull
                  clear hs8
                  generalize hnn8 : L.length = n8 at *
                  have hgt : (0 : Int) < ((n8 : Nat) : Int) := by omega
                  have hgt2 : 0 < n8 := by omega
                  have ew : wrap64 (((n8 : Nat) : Int) - 1) = ((n8 : Nat) : Int) - 1 := by simp only [wrap64]; omega
                  have ew2 : IntKind.i64.wrap (((n8 : Nat) : Int) - 1) = ((n8 : Nat) : Int) - 1 := IntWalk.i64_in _ (by omega)
                  have ez : (1 : Int) ≤ ((n8 : Nat) : Int) := by omega
                  have en : ((n8 : Nat) : Int) - 1 < ((n8 : Nat) : Int) := by omega
                  have et : (((n8 : Nat) : Int) - 1).toNat = n8 - 1 := by omega
                  have HNN := Lib.hid hnn8
                  clear hnn8
                  go_wp2_with (first
                    | (go_at_call 8; (with_reducible refine (HS.out _ i.sk).mono ?_); rintro e w3 ⟨rfl, ho3⟩; have j3 := i.kept ho3; have f1 := (j3.bel.cell (p := ⟨b', _, none⟩) hb').trans q1; have f2 := (j3.bel.cell (p := ⟨b', _, none⟩) hb').trans q2; have f3 := (j3.bel.cell (p := ⟨b', _, none⟩) hb').trans q3)
                    | (go_at_call 9; (with_reducible refine (HR.out _).mono ?_); rintro e wf ⟨rfl, ho4⟩; have j := j3.kept ho4; obtain ⟨x50, x51, x52⟩ := Sb.facts j.b5; obtain ⟨d0, d1, d2⟩ := lastAt h j.ow hpos hq; have hgl := (j.ow.lt (g := g8) rfl).2; have d0w := (World.cell?_alloc_lt wf (.cells #[.int .i64 h.a, .int .i64 h.b, .int .i64 h.c] 27) ⟨g8, o8 + (n8 - 1) * 3, none⟩ hgl).trans d0; have d1w := (World.cell?_alloc_lt wf (.cells #[.int .i64 h.a, .int .i64 h.b, .int .i64 h.c] 27) ⟨g8, o8 + (n8 - 1) * 3 + 1, none⟩ hgl).trans d1; have d2w := (World.cell?_alloc_lt wf (.cells #[.int .i64 h.a, .int .i64 h.b, .int .i64 h.c] 27) ⟨g8, o8 + (n8 - 1) * 3 + 2, none⟩ hgl).trans d2)
                    )
                  have jq : Sb wf B7 q := by have := j.b7; rw [hq] at this; exact this
                  have hX : wf.heap.size = wf.heap.size := rfl
                  have hx := (Only.refl Nil wf).alloc (.cells #[.int .i64 q.a, .int .i64 q.b, .int .i64 q.c] 27)
                  have r0 : Sb _ B5 h := Blk.drew (Blk.kept j.b5 hx (fun hh => hh))
                  have x0 : Sb (wf.alloc (.cells #[.int .i64 q.a, .int .i64 q.b, .int .i64 q.c] 27)).drew (wf.heap.size) q := Blk.drew (by have h9 := Blk.new wf 27 #[.int .i64 q.a, .int .i64 q.b, .int .i64 q.c]; rw [hX] at h9; exact h9)
                  have y0 : Sb _ B7 q := Blk.drew (Blk.kept jq hx (fun hh => hh))
                  have z0 : Sb _ B6 m := Blk.drew (Blk.kept j.b6 hx (fun hh => hh))
                  have kk0 := (j.sk.kept hx).kept (Only.refl Nil _).drew
                  have hnn : (((n8 : Nat) : Int) != ((n8 : Nat) : Int)) = false := by simp
                  go_region_held3 (fun w' => (w'.cell? ⟨B5, 0, none⟩ = some (.int .i64 h.a) ∧ w'.cell? ⟨B5, 1, none⟩ = some (.int .i64 h.b) ∧ w'.cell? ⟨B5, 2, none⟩ = some (.int .i64 h.c)) ∧ (w'.cell? ⟨wf.heap.size, 0, none⟩ = some (.int .i64 q.a) ∧ w'.cell? ⟨wf.heap.size, 1, none⟩ = some (.int .i64 q.b) ∧ w'.cell? ⟨wf.heap.size, 2, none⟩ = some (.int .i64 q.c)) ∧ (w'.cell? ⟨B7, 0, none⟩ = some (.int .i64 q.a) ∧ w'.cell? ⟨B7, 1, none⟩ = some (.int .i64 q.b) ∧ w'.cell? ⟨B7, 2, none⟩ = some (.int .i64 q.c)) ∧ (w'.cell? ⟨B6, 0, none⟩ = some (.int .i64 m.a) ∧ w'.cell? ⟨B6, 1, none⟩ = some (.int .i64 m.b) ∧ w'.cell? ⟨B6, 2, none⟩ = some (.int .i64 m.c))) (first | exact ⟨Sb.facts (q := h) r3, Sb.facts (q := q) x3, Sb.facts (q := q) y3, Sb.facts (q := m) z3⟩ | exact ⟨Sb.facts (q := h) r2, Sb.facts (q := q) x2, Sb.facts (q := q) y2, Sb.facts (q := m) z2⟩ | exact ⟨Sb.facts (q := h) r1, Sb.facts (q := q) x1, Sb.facts (q := q) y1, Sb.facts (q := m) z1⟩ | exact ⟨Sb.facts (q := h) r0, Sb.facts (q := q) x0, Sb.facts (q := q) y0, Sb.facts (q := m) z0⟩) (first
                    | (go_at_call 15; (with_reducible refine (HWt.out _ kk3).mono ?_); rintro e w14 ⟨rfl, rfl⟩)
                    | (go_at_call 14; (with_reducible refine (Most_any _ kk2).mono ?_); rintro e w13 ⟨rfl, ho13⟩; have r3 := Blk.kept r2 ho13 (fun hh => hh); have x3 := Blk.kept x2 ho13 (fun hh => hh); have y3 := Blk.kept y2 ho13 (fun hh => hh); have z3 := Blk.kept z2 ho13 (fun hh => hh); have kk3 := kk2.kept ho13)
                    | (go_at_call 13; (with_reducible refine (HLt.out _ kk1).mono ?_); rintro e w12 ⟨rfl, ho12⟩; have r2 := Blk.kept r1 ho12 (fun hh => hh); have x2 := Blk.kept x1 ho12 (fun hh => hh); have y2 := Blk.kept y1 ho12 (fun hh => hh); have z2 := Blk.kept z1 ho12 (fun hh => hh); have kk2 := kk1.kept ho12)
                    | (go_at_call 12; (with_reducible refine (Holds_any _ kk0).mono ?_); rintro e w11 ⟨rfl, ho11⟩; have r1 := Blk.kept r0 ho11 (fun hh => hh); have x1 := Blk.kept x0 ho11 (fun hh => hh); have y1 := Blk.kept y0 ho11 (fun hh => hh); have z1 := Blk.kept z0 ho11 (fun hh => hh); have kk1 := kk0.kept ho11)
                    )
                  all_goals
                    go_wp2
                    go_roundw
                    case rel => exact ⟨k + 1, v, h, m, L, by omega, by omega, by go_num, j.kept (((hx.drew.trans ho11).trans ho12).trans ho13)⟩
                    case measure => simp [intOf]; omega
            · have hR := fun W => Right_any ta tb tc W
              rw [hr] at hR
              have HR := Lib.hid hR
              clear hR
              by_cases h4 : L.length = 4
              · have hne : ¬ L = [] := fun e => by rw [e] at h4; simp at h4
                have hfull : ((L.length : Int) == 4) = true := by rw [h4]; rfl
                have HS : Hid (∀ W, Sk W b w.heap.size v h m L → Calls Try.prog 8 #[.pointer (some ⟨b, 0, none⟩), .agg #[.int .i64 ta, .int .i64 tb, .int .i64 tc]] W fun x w' => x = .returned (.tuple #[.slice none 0 0, .int .i64 16]) ∧ Only Nil W w') := Lib.hid (fun W k0 => Send_full W k0 ⟨ta, tb, tc⟩ hr h4)
                clear h4
                as_aux_lemma =>
                  have hpos : L ≠ [] := hne
                  have hs8 := i.ow.sq (fun _ _ => rfl) rfl
                  obtain ⟨g8, o8, x8, rfl, hg8, _, _, _⟩ := hs8.at_ (k := 0) (List.length_pos_iff.2 hpos)
                  have HWt := Lib.hid (fun W (k0 : Sk W b w.heap.size v h m L) => Waiting_any W k0)
                  have HLt := Lib.hid (fun W (k0 : Sk W b w.heap.size v h m L) => Latest_any W k0 i.l4)
                  obtain ⟨q, hq⟩ : ∃ q, lastOf h L = q := ⟨_, rfl⟩
                  rw [hq] at HLt
                  have hn1 := List.length_pos_iff.2 hpos
                  have hn4 := i.l4
                  have hfull' := hfull
                  clear hs8
                  generalize hnn8 : L.length = n8 at *
                  have hgt : (0 : Int) < ((n8 : Nat) : Int) := by omega
                  have hgt2 : 0 < n8 := by omega
                  have ew : wrap64 (((n8 : Nat) : Int) - 1) = ((n8 : Nat) : Int) - 1 := by simp only [wrap64]; omega
                  have ew2 : IntKind.i64.wrap (((n8 : Nat) : Int) - 1) = ((n8 : Nat) : Int) - 1 := IntWalk.i64_in _ (by omega)
                  have ez : (1 : Int) ≤ ((n8 : Nat) : Int) := by omega
                  have en : ((n8 : Nat) : Int) - 1 < ((n8 : Nat) : Int) := by omega
                  have et : (((n8 : Nat) : Int) - 1).toNat = n8 - 1 := by omega
                  have HNN := Lib.hid hnn8
                  clear hnn8
                  go_wp2_with (first
                    | (go_at_call 8; (with_reducible refine (HS.out _ i.sk).mono ?_); rintro e w3 ⟨rfl, ho3⟩; have j3 := i.kept ho3; have f1 := (j3.bel.cell (p := ⟨b', _, none⟩) hb').trans q1; have f2 := (j3.bel.cell (p := ⟨b', _, none⟩) hb').trans q2; have f3 := (j3.bel.cell (p := ⟨b', _, none⟩) hb').trans q3)
                    | (go_at_call 9; (with_reducible refine (HR.out _).mono ?_); rintro e wf ⟨rfl, ho4⟩; have j := j3.kept ho4; obtain ⟨x50, x51, x52⟩ := Sb.facts j.b5; obtain ⟨d0, d1, d2⟩ := lastAt h j.ow hpos hq; have hgl := (j.ow.lt (g := g8) rfl).2; have d0w := (World.cell?_alloc_lt wf (.cells #[.int .i64 h.a, .int .i64 h.b, .int .i64 h.c] 27) ⟨g8, o8 + (n8 - 1) * 3, none⟩ hgl).trans d0; have d1w := (World.cell?_alloc_lt wf (.cells #[.int .i64 h.a, .int .i64 h.b, .int .i64 h.c] 27) ⟨g8, o8 + (n8 - 1) * 3 + 1, none⟩ hgl).trans d1; have d2w := (World.cell?_alloc_lt wf (.cells #[.int .i64 h.a, .int .i64 h.b, .int .i64 h.c] 27) ⟨g8, o8 + (n8 - 1) * 3 + 2, none⟩ hgl).trans d2)
                    )
                  have jq : Sb wf B7 q := by have := j.b7; rw [hq] at this; exact this
                  have hX : wf.heap.size = wf.heap.size := rfl
                  have hx := (Only.refl Nil wf).alloc (.cells #[.int .i64 q.a, .int .i64 q.b, .int .i64 q.c] 27)
                  have r0 : Sb _ B5 h := Blk.drew (Blk.kept j.b5 hx (fun hh => hh))
                  have x0 : Sb (wf.alloc (.cells #[.int .i64 q.a, .int .i64 q.b, .int .i64 q.c] 27)).drew (wf.heap.size) q := Blk.drew (by have h9 := Blk.new wf 27 #[.int .i64 q.a, .int .i64 q.b, .int .i64 q.c]; rw [hX] at h9; exact h9)
                  have y0 : Sb _ B7 q := Blk.drew (Blk.kept jq hx (fun hh => hh))
                  have z0 : Sb _ B6 m := Blk.drew (Blk.kept j.b6 hx (fun hh => hh))
                  have kk0 := (j.sk.kept hx).kept (Only.refl Nil _).drew
                  have hnn : (((n8 : Nat) : Int) != ((n8 : Nat) : Int)) = false := by simp
                  go_region_held3 (fun w' => (w'.cell? ⟨B5, 0, none⟩ = some (.int .i64 h.a) ∧ w'.cell? ⟨B5, 1, none⟩ = some (.int .i64 h.b) ∧ w'.cell? ⟨B5, 2, none⟩ = some (.int .i64 h.c)) ∧ (w'.cell? ⟨wf.heap.size, 0, none⟩ = some (.int .i64 q.a) ∧ w'.cell? ⟨wf.heap.size, 1, none⟩ = some (.int .i64 q.b) ∧ w'.cell? ⟨wf.heap.size, 2, none⟩ = some (.int .i64 q.c)) ∧ (w'.cell? ⟨B7, 0, none⟩ = some (.int .i64 q.a) ∧ w'.cell? ⟨B7, 1, none⟩ = some (.int .i64 q.b) ∧ w'.cell? ⟨B7, 2, none⟩ = some (.int .i64 q.c)) ∧ (w'.cell? ⟨B6, 0, none⟩ = some (.int .i64 m.a) ∧ w'.cell? ⟨B6, 1, none⟩ = some (.int .i64 m.b) ∧ w'.cell? ⟨B6, 2, none⟩ = some (.int .i64 m.c))) (first | exact ⟨Sb.facts (q := h) r3, Sb.facts (q := q) x3, Sb.facts (q := q) y3, Sb.facts (q := m) z3⟩ | exact ⟨Sb.facts (q := h) r2, Sb.facts (q := q) x2, Sb.facts (q := q) y2, Sb.facts (q := m) z2⟩ | exact ⟨Sb.facts (q := h) r1, Sb.facts (q := q) x1, Sb.facts (q := q) y1, Sb.facts (q := m) z1⟩ | exact ⟨Sb.facts (q := h) r0, Sb.facts (q := q) x0, Sb.facts (q := q) y0, Sb.facts (q := m) z0⟩) (first
                    | (go_at_call 15; (with_reducible refine (HWt.out _ kk3).mono ?_); rintro e w14 ⟨rfl, rfl⟩)
                    | (go_at_call 14; (with_reducible refine (Most_any _ kk2).mono ?_); rintro e w13 ⟨rfl, ho13⟩; have r3 := Blk.kept r2 ho13 (fun hh => hh); have x3 := Blk.kept x2 ho13 (fun hh => hh); have y3 := Blk.kept y2 ho13 (fun hh => hh); have z3 := Blk.kept z2 ho13 (fun hh => hh); have kk3 := kk2.kept ho13)
                    | (go_at_call 13; (with_reducible refine (HLt.out _ kk1).mono ?_); rintro e w12 ⟨rfl, ho12⟩; have r2 := Blk.kept r1 ho12 (fun hh => hh); have x2 := Blk.kept x1 ho12 (fun hh => hh); have y2 := Blk.kept y1 ho12 (fun hh => hh); have z2 := Blk.kept z1 ho12 (fun hh => hh); have kk2 := kk1.kept ho12)
                    | (go_at_call 12; (with_reducible refine (Holds_any _ kk0).mono ?_); rintro e w11 ⟨rfl, ho11⟩; have r1 := Blk.kept r0 ho11 (fun hh => hh); have x1 := Blk.kept x0 ho11 (fun hh => hh); have y1 := Blk.kept y0 ho11 (fun hh => hh); have z1 := Blk.kept z0 ho11 (fun hh => hh); have kk1 := kk0.kept ho11)
                    )
                  all_goals
                    go_wp2
                    go_roundw
                    case rel => exact ⟨k + 1, v, h, m, L, by omega, by omega, by go_num, j.kept (((hx.drew.trans ho11).trans ho12).trans ho13)⟩
                    case measure => simp [intOf]; omega
              · have hl4 : L.length < 4 := by have := i.l4; omega
                have h4b : ((L.length : Int) == 4) = false := by simp; omega
                obtain ⟨ra0, ra1, rb0, rb1, rc0, rc1⟩ : 0 ≤ ta ∧ ta ≤ 4096 ∧ 0 ≤ tb ∧ tb ≤ 32 ∧ 0 ≤ tc ∧ tc ≤ 64 := by
                  unfold rightB at hr
                  simp only [Bool.and_eq_true, decide_eq_true_eq] at hr
                  omega
                have hS := fun W (k0 : Sk W b w.heap.size v h m L) => Send_ok W k0 ⟨ta, tb, tc⟩ hr hl4
                obtain ⟨q, hq⟩ : ∃ q, lastOf h L = q := ⟨_, rfl⟩
                have hD : ∀ W A cap, Sq encP 2 W W.heap.size A (dpre q ⟨ta, tb, tc⟩ 3) → Calls Try.prog 10 #[.agg #[.int .i64 q.a, .int .i64 q.b, .int .i64 q.c], .slice A (dpre q ⟨ta, tb, tc⟩ 3).length cap] W fun x w' => x = .returned (.tuple #[stV ta tb tc, .int .i64 0]) ∧ Only Nil W w' := fun W A cap hsq => by
                  have := RApply_any q A cap _ W hsq (by have := dpre_len q ⟨ta, tb, tc⟩ 3; omega)
                  rw [dpre_apply q ⟨ta, tb, tc⟩ (by dsimp only; omega) (by dsimp only; omega) (by dsimp only; omega)] at this
                  exact this
                unfold SdPost at hS
                rw [hq] at hS
                generalize dpre q ⟨ta, tb, tc⟩ 3 = D at hS hD
                have hH : ∀ W, Calls Try.prog 11 #[.agg #[.int .i64 m.a, .int .i64 m.b, .int .i64 m.c], .agg #[.int .i64 ta, .int .i64 tb, .int .i64 tc]] W fun x w' => x = .returned (stV (hiS m ⟨ta, tb, tc⟩).a (hiS m ⟨ta, tb, tc⟩).b (hiS m ⟨ta, tb, tc⟩).c) ∧ Only Nil W w' := fun W => High_any m ⟨ta, tb, tc⟩ W
                generalize hiS m ⟨ta, tb, tc⟩ = mm at hS hH
                have HH := Lib.hid hH
                have HS : Hid (∀ W, Sk W b w.heap.size v h m L → Calls Try.prog 8 #[.pointer (some ⟨b, 0, none⟩), .agg #[.int .i64 ta, .int .i64 tb, .int .i64 tc]] W fun x w' => ∃ A cap v', x = .returned (.tuple #[.slice A D.length cap, .int .i64 0]) ∧ Sq encP 2 w' w'.heap.size A D ∧ Sk w' b w.heap.size v' h mm (L ++ [⟨ta, tb, tc⟩]) ∧ Below w.heap.size W w' ∧ cap ≤ maxLen ∧ Only (Tch b v) W w' ∧ ∀ g, v'.ownBlock = some g → v.ownBlock = some g ∨ W.heap.size ≤ g) := Lib.hid hS
                have HD := Lib.hid hD
                clear hS hD hH h4 hr
                as_aux_lemma =>
                  go_wp2_with (first
                    | (go_at_call 8; (with_reducible refine (HS.out _ i.sk).mono ?_); rintro e w3 ⟨A3, c3, v3, rfl, hsq3, k3, hb3, hc3, ht3, hf3⟩; have bl3 := i.bel.trans hb3; have f1 := (bl3.cell (p := ⟨b', _, none⟩) hb').trans q1; have f2 := (bl3.cell (p := ⟨b', _, none⟩) hb').trans q2; have f3 := (bl3.cell (p := ⟨b', _, none⟩) hb').trans q3)
                    | (go_at_call 9; (with_reducible refine (HR.out _).mono ?_); rintro e w4 ⟨rfl, ho4⟩; have hsq4 := hsq3.go ho4; have h74 : Sb w4 B7 q := (by have := Blk.kept (i.away f ht3).2.2.2 ho4 (fun hh => hh); rw [hq] at this; exact this); obtain ⟨x70, x71, x72⟩ := Sb.facts h74)
                    | (go_at_call 10; (with_reducible refine (HD.out _ _ _ hsq4).mono ?_); rintro e w5 ⟨rfl, ho5⟩)
                    )
                  have hx5 := ((ho4.trans ho5).alloc (.cells #[.int .i64 ta, .int .i64 tb, .int .i64 tc] 27))
                  have h75 : Sb _ B7 q := Blk.kept h74 (ho5.alloc (.cells #[.int .i64 ta, .int .i64 tb, .int .i64 tc] 27)) (fun hh => hh)
                  obtain ⟨x70', x71', x72'⟩ := Sb.facts h75
                  obtain ⟨y70, y71, y72⟩ := Sb.loose h75
                  have x15 : Sb _ w5.heap.size ⟨ta, tb, tc⟩ := Blk.new w5 27 #[.int .i64 ta, .int .i64 tb, .int .i64 tc]
                  obtain ⟨z0, z1, z2⟩ := Sb.facts x15
                  have l7 := h75.lt
                  have l15 := x15.lt
                  have bl5 := bl3.trans (hx5.below bl3.size (fun _ _ hh => hh))
                  have g1 := (bl5.cell (p := ⟨b', _, none⟩) hb').trans q1
                  have g2 := (bl5.cell (p := ⟨b', _, none⟩) hb').trans q2
                  have g3 := (bl5.cell (p := ⟨b', _, none⟩) hb').trans q3
                  have hb7 : b' ≠ B7 := fun e => by have := f.n7; omega
                  go_quiet (fail)
                  have md := Inv.sent1 i f k3 hb3 ht3 hf3 (hx5.drewN nq)
                  have md4 := md.kept ((Only.refl Nil _).alloc (.cells #[.int .i64 ta, .int .i64 tb, .int .i64 tc] 27))
                  have hN4 : Blk ((((((w5.alloc (.cells #[.int .i64 ta, .int .i64 tb, .int .i64 tc] 27)).drewN nq).setCell ⟨B7, 0, none⟩ (.int .i64 ta)).setCell ⟨B7, 1, none⟩ (.int .i64 tb)).setCell ⟨B7, 2, none⟩ (.int .i64 tc)).alloc (.cells #[.int .i64 ta, .int .i64 tb, .int .i64 tc] 27)) (w5.heap.size + 1) 27 #[.int .i64 ta, .int .i64 tb, .int .i64 tc] := by
                    have h9 := Blk.new (((((w5.alloc (.cells #[.int .i64 ta, .int .i64 tb, .int .i64 tc] 27)).drewN nq).setCell ⟨B7, 0, none⟩ (.int .i64 ta)).setCell ⟨B7, 1, none⟩ (.int .i64 tb)).setCell ⟨B7, 2, none⟩ (.int .i64 tc)) 27 #[.int .i64 ta, .int .i64 tb, .int .i64 tc]
                    have h8 : (((((w5.alloc (.cells #[.int .i64 ta, .int .i64 tb, .int .i64 tc] 27)).drewN nq).setCell ⟨B7, 0, none⟩ (.int .i64 ta)).setCell ⟨B7, 1, none⟩ (.int .i64 tb)).setCell ⟨B7, 2, none⟩ (.int .i64 tc)).heap.size = w5.heap.size + 1 := by simp
                    rw [h8] at h9
                    exact h9
                  have t1 := Src.one (P := Try.prog) (enc := encS) (tx := 28) Try.underlying28 (⟨ta, tb, tc⟩ : St) 1 rfl hN4 rfl (by simp [encS, Value.oneCell'])
                  have bl7 := md4.bel
                  have m3 := md.bel
                  have k1w : (((((w5.alloc (.cells #[.int .i64 ta, .int .i64 tb, .int .i64 tc] 27)).drewN nq).setCell ⟨B7, 0, none⟩ (.int .i64 ta)).setCell ⟨B7, 1, none⟩ (.int .i64 tb)).setCell ⟨B7, 2, none⟩ (.int .i64 tc)).cell? ⟨b', _, none⟩ = _ := (m3.cell (p := ⟨b', _, none⟩) hb').trans q1
                  have k2w : (((((w5.alloc (.cells #[.int .i64 ta, .int .i64 tb, .int .i64 tc] 27)).drewN nq).setCell ⟨B7, 0, none⟩ (.int .i64 ta)).setCell ⟨B7, 1, none⟩ (.int .i64 tb)).setCell ⟨B7, 2, none⟩ (.int .i64 tc)).cell? ⟨b', _, none⟩ = _ := (m3.cell (p := ⟨b', _, none⟩) hb').trans q2
                  have k3w : (((((w5.alloc (.cells #[.int .i64 ta, .int .i64 tb, .int .i64 tc] 27)).drewN nq).setCell ⟨B7, 0, none⟩ (.int .i64 ta)).setCell ⟨B7, 1, none⟩ (.int .i64 tb)).setCell ⟨B7, 2, none⟩ (.int .i64 tc)).cell? ⟨b', _, none⟩ = _ := (m3.cell (p := ⟨b', _, none⟩) hb').trans q3
                  go_wp2_with (first
                    | (at_builtin
                       refine wpList_app rfl (.tmp 116) (.tmp 122) _ _ rfl M 27 Try.underlying28 st_info rfl _ L rfl md4.ow _ [⟨ta, tb, tc⟩] rfl t1 (by simp; omega) (by decide) md4.hM ?_
                       intro A6 c6 w6 hown6 ho6 hg6
                       have bl6 := bl7.trans (ho6.below bl7.size (fun i' hi hh => by have := (md4.ow.lt hh).1; have := f.m5; have := f.n5; omega)))
                    )
                  have hown6' : Ow encS 3 w6 M 27 (.slice A6 (L.length + 1) c6) (L ++ [⟨ta, tb, tc⟩]) := hown6
                  have hg6' : ∀ g, (Value.slice A6 (L.length + 1) c6).ownBlock = some g → (Value.slice A8 L.length c8).ownBlock = some g ∨ g = ((((((w5.alloc (.cells #[.int .i64 ta, .int .i64 tb, .int .i64 tc] 27)).drewN nq).setCell ⟨B7, 0, none⟩ (.int .i64 ta)).setCell ⟨B7, 1, none⟩ (.int .i64 tb)).setCell ⟨B7, 2, none⟩ (.int .i64 tc)).alloc (.cells #[.int .i64 ta, .int .i64 tb, .int .i64 tc] 27)).heap.size := hg6
                  have x66 : Sb w6 B6 m := Blk.kept md4.b6 ho6 (fun hh => by have := (md4.ow.lt hh).1; have := f.m6; omega)
                  obtain ⟨x60, x61, x62⟩ := Sb.facts x66
                  have l6 := x66.lt
                  have r1 := (bl6.cell (p := ⟨b', _, none⟩) hb').trans q1
                  have r2 := (bl6.cell (p := ⟨b', _, none⟩) hb').trans q2
                  have r3 := (bl6.cell (p := ⟨b', _, none⟩) hb').trans q3
                  go_region_with (first
                    | (go_at_call 11; (with_reducible refine (HH.out _).mono ?_); rintro e w8 ⟨rfl, ho8⟩; have x68 : Sb w8 B6 m := Blk.kept (Blk.drew x66) ho8 (fun hh => hh); obtain ⟨x60, x61, x62⟩ := Sb.facts x68; obtain ⟨y60, y61, y62⟩ := Sb.loose x68; have l6 := x68.lt)
                    )
                  all_goals
                    have j := Mid.appd md4 f ho6 hown6' hg6' hl4 ((Only.refl Nil _).drew.trans ho8)
                    clear md4 md hown6 hg6 hown6' hg6' x66 x68 ho6
                    generalize (((w8.setCell ⟨B6, 0, none⟩ (.int .i64 mm.a)).setCell ⟨B6, 1, none⟩ (.int .i64 mm.b)).setCell ⟨B6, 2, none⟩ (.int .i64 mm.c)) = wf at *
                    obtain ⟨g9, o9, x9, rfl, hg9, _, _, _⟩ := (j.ow.sq (fun _ _ => rfl) rfl).at_ (k := 0) (by simp)
                    obtain ⟨d0, d1, d2⟩ := lastAt h j.ow (by simp) (last_snoc h ⟨ta, tb, tc⟩ L)
                    have hl9 : (L ++ [(⟨ta, tb, tc⟩ : St)]).length = L.length + 1 := by simp
                    have HWt := Lib.hid (fun W (k0 : Sk W b w.heap.size v3 h mm (L ++ [⟨ta, tb, tc⟩])) => Waiting_any W k0)
                    have HLt := Lib.hid (fun W (k0 : Sk W b w.heap.size v3 h mm (L ++ [⟨ta, tb, tc⟩])) => Latest_any W k0 (by rw [hl9]; omega))
                    rw [hl9] at HWt
                    rw [last_snoc] at HLt
                    have hgl := (j.ow.lt (g := g9) rfl).2
                    have hn9 : 1 ≤ L.length + 1 := by omega
                    have hn8 : L.length + 1 ≤ 4 := by omega
                    clear hl9 h4b
                    have jq : Sb wf B7 ⟨ta, tb, tc⟩ := by have := j.b7; rw [last_snoc] at this; exact this
                    obtain ⟨x50, x51, x52⟩ := Sb.facts j.b5
                    have l5 := j.b5.lt
                    generalize L.length + 1 = n9 at *
                    have hgt : (0 : Int) < ((n9 : Nat) : Int) := by omega
                    have hgt2 : 0 < n9 := by omega
                    have ew : wrap64 (((n9 : Nat) : Int) - 1) = ((n9 : Nat) : Int) - 1 := by simp only [wrap64]; omega
                    have ew2 : IntKind.i64.wrap (((n9 : Nat) : Int) - 1) = ((n9 : Nat) : Int) - 1 := IntWalk.i64_in _ (by omega)
                    have ez : (1 : Int) ≤ ((n9 : Nat) : Int) := by omega
                    have en : ((n9 : Nat) : Int) - 1 < ((n9 : Nat) : Int) := by omega
                    have et : (((n9 : Nat) : Int) - 1).toNat = n9 - 1 := by omega
                    have d0w := (World.cell?_alloc_lt wf (.cells #[.int .i64 h.a, .int .i64 h.b, .int .i64 h.c] 27) ⟨g9, o9 + (n9 - 1) * 3, none⟩ hgl).trans d0
                    have d1w := (World.cell?_alloc_lt wf (.cells #[.int .i64 h.a, .int .i64 h.b, .int .i64 h.c] 27) ⟨g9, o9 + (n9 - 1) * 3 + 1, none⟩ hgl).trans d1
                    have d2w := (World.cell?_alloc_lt wf (.cells #[.int .i64 h.a, .int .i64 h.b, .int .i64 h.c] 27) ⟨g9, o9 + (n9 - 1) * 3 + 2, none⟩ hgl).trans d2
                    go_wp2
                    have hX : wf.heap.size = wf.heap.size := rfl
                    have hx := (Only.refl Nil wf).alloc (.cells #[.int .i64 ta, .int .i64 tb, .int .i64 tc] 27)
                    have r0 : Sb _ B5 h := Blk.drew (Blk.kept j.b5 hx (fun hh => hh))
                    have x0 : Sb (wf.alloc (.cells #[.int .i64 ta, .int .i64 tb, .int .i64 tc] 27)).drew (wf.heap.size) ⟨ta, tb, tc⟩ := Blk.drew (by have h9 := Blk.new wf 27 #[.int .i64 ta, .int .i64 tb, .int .i64 tc]; rw [hX] at h9; exact h9)
                    have y0 : Sb _ B7 ⟨ta, tb, tc⟩ := Blk.drew (Blk.kept jq hx (fun hh => hh))
                    have z0 : Sb _ B6 mm := Blk.drew (Blk.kept j.b6 hx (fun hh => hh))
                    have kk0 := (j.sk.kept hx).kept (Only.refl Nil _).drew
                    have hnn : (((n9 : Nat) : Int) != ((n9 : Nat) : Int)) = false := by simp
                    go_region_held3 (fun w' => (w'.cell? ⟨B5, 0, none⟩ = some (.int .i64 h.a) ∧ w'.cell? ⟨B5, 1, none⟩ = some (.int .i64 h.b) ∧ w'.cell? ⟨B5, 2, none⟩ = some (.int .i64 h.c)) ∧ (w'.cell? ⟨wf.heap.size, 0, none⟩ = some (.int .i64 ta) ∧ w'.cell? ⟨wf.heap.size, 1, none⟩ = some (.int .i64 tb) ∧ w'.cell? ⟨wf.heap.size, 2, none⟩ = some (.int .i64 tc)) ∧ (w'.cell? ⟨B7, 0, none⟩ = some (.int .i64 ta) ∧ w'.cell? ⟨B7, 1, none⟩ = some (.int .i64 tb) ∧ w'.cell? ⟨B7, 2, none⟩ = some (.int .i64 tc)) ∧ (w'.cell? ⟨B6, 0, none⟩ = some (.int .i64 mm.a) ∧ w'.cell? ⟨B6, 1, none⟩ = some (.int .i64 mm.b) ∧ w'.cell? ⟨B6, 2, none⟩ = some (.int .i64 mm.c))) (first | exact ⟨Sb.facts (q := h) r3, Sb.facts (q := ⟨ta, tb, tc⟩) x3, Sb.facts (q := ⟨ta, tb, tc⟩) y3, Sb.facts (q := mm) z3⟩ | exact ⟨Sb.facts (q := h) r2, Sb.facts (q := ⟨ta, tb, tc⟩) x2, Sb.facts (q := ⟨ta, tb, tc⟩) y2, Sb.facts (q := mm) z2⟩ | exact ⟨Sb.facts (q := h) r1, Sb.facts (q := ⟨ta, tb, tc⟩) x1, Sb.facts (q := ⟨ta, tb, tc⟩) y1, Sb.facts (q := mm) z1⟩ | exact ⟨Sb.facts (q := h) r0, Sb.facts (q := ⟨ta, tb, tc⟩) x0, Sb.facts (q := ⟨ta, tb, tc⟩) y0, Sb.facts (q := mm) z0⟩) (first
                      | (go_at_call 15; (with_reducible refine (HWt.out _ kk3).mono ?_); rintro e w14 ⟨rfl, rfl⟩)
                      | (go_at_call 14; (with_reducible refine (Most_any _ kk2).mono ?_); rintro e w13 ⟨rfl, ho13⟩; have r3 := Blk.kept r2 ho13 (fun hh => hh); have x3 := Blk.kept x2 ho13 (fun hh => hh); have y3 := Blk.kept y2 ho13 (fun hh => hh); have z3 := Blk.kept z2 ho13 (fun hh => hh); have kk3 := kk2.kept ho13)
                      | (go_at_call 13; (with_reducible refine (HLt.out _ kk1).mono ?_); rintro e w12 ⟨rfl, ho12⟩; have r2 := Blk.kept r1 ho12 (fun hh => hh); have x2 := Blk.kept x1 ho12 (fun hh => hh); have y2 := Blk.kept y1 ho12 (fun hh => hh); have z2 := Blk.kept z1 ho12 (fun hh => hh); have kk2 := kk1.kept ho12)
                      | (go_at_call 12; (with_reducible refine (Holds_any _ kk0).mono ?_); rintro e w11 ⟨rfl, ho11⟩; have r1 := Blk.kept r0 ho11 (fun hh => hh); have x1 := Blk.kept x0 ho11 (fun hh => hh); have y1 := Blk.kept y0 ho11 (fun hh => hh); have z1 := Blk.kept z0 ho11 (fun hh => hh); have kk1 := kk0.kept ho11)
                      )
                    all_goals
                      go_wp2
                      go_roundw
                      case rel => exact ⟨k + 1, v3, h, mm, (L ++ [⟨ta, tb, tc⟩]), by omega, by omega, by go_num, j.kept (((hx.drew.trans ho11).trans ho12).trans ho13)⟩
                      case measure => simp [intOf]; omega
          · rcases L with _ | ⟨t, M'⟩
            · go_wp2_with (first
                | (go_at_call 7; (with_reducible refine (Ack_none _ i.sk).mono ?_); rintro e w3 ⟨rfl, ho3⟩)
                )
              go_roundw
              case rel => exact ⟨k + 1, v, h, m, [], by omega, by omega, by go_num, i.kept ((ho3.alloc _).alloc _)⟩
              case measure => simp [intOf]; omega
            ·
              have hs8 := i.ow.sq (fun _ _ => rfl) rfl
              obtain ⟨g8, o8, x8, rfl, hg8, hx8, _, hcs8⟩ := hs8.at_ (k := 0) (by simp)
              simp at hx8
              subst hx8
              have hn8 : (t :: M').length = M'.length + 1 := by simp
              have hA := fun W (k0 : Sk W b w.heap.size v h m (t :: M')) => Ack_ok W t M' k0 (by have := i.l4; simp at this; omega)
              generalize hnn8 : (t :: M').length = n8 at *
              have hz8 : ((n8 : Int) == 0) = false := by simp; omega
              have hp8 : (1 : Int) ≤ n8 := by omega
              have hp9 : 1 ≤ n8 := by omega
              have HA := Lib.hid hA
              have HN := Lib.hid hn8
              clear hA hn8 hs8 hnn8
              go_wp2_with (first
                | (go_at_call 7; (with_reducible refine (HA.out _ i.sk).mono ?_); rintro e w3 ⟨v3, rfl, k3, hb3, ht3, hf3⟩)
                )
              have hx3 := (((Only.refl Nil w3).alloc (.cells #[.int .i64 h.a, .int .i64 h.b, .int .i64 h.c] 27)).alloc (.cells #[.int .i64 t.a, .int .i64 t.b, .int .i64 t.c] 27))
              obtain ⟨oo1, bb5, bb6, bb7⟩ := i.away f ht3
              have oW := oo1.kept hx3 (fun _ _ hh => hh)
              obtain ⟨g', o', x', e', hgW, hx', _, hcW⟩ := (oW.sq (fun _ _ => rfl) rfl).at_ (k := 0) (by simp)
              injection e' with e'
              injection e' with e1 e2
              subst e1 e2
              simp at hx'
              subst hx'
              have a0 := hcW 0 (by decide)
              have a1 := hcW 1 (by decide)
              have a2 := hcW 2 (by decide)
              simp [encS] at a0 a1 a2
              have p5 : Sb _ B5 h := Blk.kept bb5 hx3 (fun hh => hh)
              have p10 : Sb _ w3.heap.size h := (Blk.new w3 27 #[.int .i64 h.a, .int .i64 h.b, .int .i64 h.c]).alloc (.cells #[.int .i64 t.a, .int .i64 t.b, .int .i64 t.c] 27)
              have p11 : Sb _ (w3.heap.size + 1) t := (by simpa using Blk.new (w3.alloc (.cells #[.int .i64 h.a, .int .i64 h.b, .int .i64 h.c] 27)) 27 #[.int .i64 t.a, .int .i64 t.b, .int .i64 t.c])
              obtain ⟨x50, x51, x52⟩ := Sb.facts p5
              obtain ⟨y50, y51, y52⟩ := Sb.loose p5
              obtain ⟨x10, x11, x12⟩ := Sb.facts p10
              obtain ⟨z10, z11, z12⟩ := Sb.facts p11
              have l5 := p5.lt
              have l10 := p10.lt
              have l11 := p11.lt
              have hg5 : g8 ≠ B5 := fun e => by have := (i.ow.lt (g := g8) rfl).1; have := f.m5; omega
              have l4 := i.l4
              have hOM : ∀ M1, M' = M1 → Ow encS 3 ((w3.alloc (.cells #[.int .i64 h.a, .int .i64 h.b, .int .i64 h.c] 27)).alloc (.cells #[.int .i64 t.a, .int .i64 t.b, .int .i64 t.c] 27)) M 27 (.slice (some ⟨g8, o8, none⟩) n8 c8) (t :: M1) := fun M1 e => e ▸ oW
              clear p5 p10 p11 hcW hgW oW oo1 bb5 bb6 bb7 hcs8 hg8
              rcases M' with _ | ⟨u, M''⟩
              · have hn0 : n8 - 1 = 0 := by have := HN.out; simp at this; omega
                have HWt := Lib.hid (fun W (k0 : Sk W b w.heap.size v3 t m []) => Waiting_any W k0)
                have HLt := Lib.hid (fun W (k0 : Sk W b w.heap.size v3 t m []) => Latest_none W k0)
                by_cases hc1 : c8 = 1
                · have hc0 : c8 - 1 = 0 := by omega
                  as_aux_lemma =>
                    clear hOM
                    go_quiet (fail)
                    go_wp2
                    have j0 := Inv.acked i f k3 hb3 ht3 hf3 (hx3.drewN nq) rfl
                    rw [if_pos hc1, hc0, hn0] at j0
                    have hX : ((((((w3.alloc (.cells #[.int .i64 h.a, .int .i64 h.b, .int .i64 h.c] 27)).alloc (.cells #[.int .i64 t.a, .int .i64 t.b, .int .i64 t.c] 27)).drewN nq).setCell ⟨B5, 0, none⟩ (.int .i64 t.a)).setCell ⟨B5, 1, none⟩ (.int .i64 t.b)).setCell ⟨B5, 2, none⟩ (.int .i64 t.c)).heap.size = w3.heap.size + 1 + 1 := by simp
                    generalize (((((w3.alloc (.cells #[.int .i64 h.a, .int .i64 h.b, .int .i64 h.c] 27)).alloc (.cells #[.int .i64 t.a, .int .i64 t.b, .int .i64 t.c] 27)).drewN nq).setCell ⟨B5, 0, none⟩ (.int .i64 t.a)).setCell ⟨B5, 1, none⟩ (.int .i64 t.b)).setCell ⟨B5, 2, none⟩ (.int .i64 t.c) = wf at *
                    have j := j0
                    have jq : Sb wf B7 t := j.b7
                    have hx := (Only.refl Nil wf).alloc (.cells #[.int .i64 t.a, .int .i64 t.b, .int .i64 t.c] 27)
                    have r0 : Sb _ B5 t := Blk.drew (Blk.kept j.b5 hx (fun hh => hh))
                    have x0 : Sb (wf.alloc (.cells #[.int .i64 t.a, .int .i64 t.b, .int .i64 t.c] 27)).drew (w3.heap.size + 1 + 1) t := Blk.drew (by have h9 := Blk.new wf 27 #[.int .i64 t.a, .int .i64 t.b, .int .i64 t.c]; rw [hX] at h9; exact h9)
                    have y0 : Sb _ B7 t := Blk.drew (Blk.kept jq hx (fun hh => hh))
                    have z0 : Sb _ B6 m := Blk.drew (Blk.kept j.b6 hx (fun hh => hh))
                    have kk0 := (j.sk.kept hx).kept (Only.refl Nil _).drew
                    have hnn : (((0 : Nat) : Int) != ((0 : Nat) : Int)) = false := by simp
                    go_region_held3 (fun w' => (w'.cell? ⟨B5, 0, none⟩ = some (.int .i64 t.a) ∧ w'.cell? ⟨B5, 1, none⟩ = some (.int .i64 t.b) ∧ w'.cell? ⟨B5, 2, none⟩ = some (.int .i64 t.c)) ∧ (w'.cell? ⟨w3.heap.size + 1 + 1, 0, none⟩ = some (.int .i64 t.a) ∧ w'.cell? ⟨w3.heap.size + 1 + 1, 1, none⟩ = some (.int .i64 t.b) ∧ w'.cell? ⟨w3.heap.size + 1 + 1, 2, none⟩ = some (.int .i64 t.c)) ∧ (w'.cell? ⟨B7, 0, none⟩ = some (.int .i64 t.a) ∧ w'.cell? ⟨B7, 1, none⟩ = some (.int .i64 t.b) ∧ w'.cell? ⟨B7, 2, none⟩ = some (.int .i64 t.c)) ∧ (w'.cell? ⟨B6, 0, none⟩ = some (.int .i64 m.a) ∧ w'.cell? ⟨B6, 1, none⟩ = some (.int .i64 m.b) ∧ w'.cell? ⟨B6, 2, none⟩ = some (.int .i64 m.c))) (first | exact ⟨Sb.facts (q := t) r3, Sb.facts (q := t) x3, Sb.facts (q := t) y3, Sb.facts (q := m) z3⟩ | exact ⟨Sb.facts (q := t) r2, Sb.facts (q := t) x2, Sb.facts (q := t) y2, Sb.facts (q := m) z2⟩ | exact ⟨Sb.facts (q := t) r1, Sb.facts (q := t) x1, Sb.facts (q := t) y1, Sb.facts (q := m) z1⟩ | exact ⟨Sb.facts (q := t) r0, Sb.facts (q := t) x0, Sb.facts (q := t) y0, Sb.facts (q := m) z0⟩) (first
                      | (go_at_call 15; (with_reducible refine (HWt.out _ kk3).mono ?_); rintro e w14 ⟨rfl, rfl⟩)
                      | (go_at_call 14; (with_reducible refine (Most_any _ kk2).mono ?_); rintro e w13 ⟨rfl, ho13⟩; have r3 := Blk.kept r2 ho13 (fun hh => hh); have x3 := Blk.kept x2 ho13 (fun hh => hh); have y3 := Blk.kept y2 ho13 (fun hh => hh); have z3 := Blk.kept z2 ho13 (fun hh => hh); have kk3 := kk2.kept ho13)
                      | (go_at_call 13; (with_reducible refine (HLt.out _ kk1).mono ?_); rintro e w12 ⟨rfl, ho12⟩; have r2 := Blk.kept r1 ho12 (fun hh => hh); have x2 := Blk.kept x1 ho12 (fun hh => hh); have y2 := Blk.kept y1 ho12 (fun hh => hh); have z2 := Blk.kept z1 ho12 (fun hh => hh); have kk2 := kk1.kept ho12)
                      | (go_at_call 12; (with_reducible refine (Holds_any _ kk0).mono ?_); rintro e w11 ⟨rfl, ho11⟩; have r1 := Blk.kept r0 ho11 (fun hh => hh); have x1 := Blk.kept x0 ho11 (fun hh => hh); have y1 := Blk.kept y0 ho11 (fun hh => hh); have z1 := Blk.kept z0 ho11 (fun hh => hh); have kk1 := kk0.kept ho11)
                      )
                    all_goals
                      go_wp2
                      go_roundw
                      case rel => exact ⟨k + 1, v3, t, m, [], by omega, by omega, by go_num, j.kept (((hx.drew.trans ho11).trans ho12).trans ho13)⟩
                      case measure => simp [intOf]; omega
                ·
                  as_aux_lemma =>
                    clear hOM
                    go_quiet (fail)
                    go_wp2
                    have j0 := Inv.acked i f k3 hb3 ht3 hf3 (hx3.drewN nq) rfl
                    rw [if_neg hc1, hn0] at j0
                    have hX : ((((((w3.alloc (.cells #[.int .i64 h.a, .int .i64 h.b, .int .i64 h.c] 27)).alloc (.cells #[.int .i64 t.a, .int .i64 t.b, .int .i64 t.c] 27)).drewN nq).setCell ⟨B5, 0, none⟩ (.int .i64 t.a)).setCell ⟨B5, 1, none⟩ (.int .i64 t.b)).setCell ⟨B5, 2, none⟩ (.int .i64 t.c)).heap.size = w3.heap.size + 1 + 1 := by simp
                    generalize (((((w3.alloc (.cells #[.int .i64 h.a, .int .i64 h.b, .int .i64 h.c] 27)).alloc (.cells #[.int .i64 t.a, .int .i64 t.b, .int .i64 t.c] 27)).drewN nq).setCell ⟨B5, 0, none⟩ (.int .i64 t.a)).setCell ⟨B5, 1, none⟩ (.int .i64 t.b)).setCell ⟨B5, 2, none⟩ (.int .i64 t.c) = wf at *
                    have j := j0
                    have jq : Sb wf B7 t := j.b7
                    have hx := (Only.refl Nil wf).alloc (.cells #[.int .i64 t.a, .int .i64 t.b, .int .i64 t.c] 27)
                    have r0 : Sb _ B5 t := Blk.drew (Blk.kept j.b5 hx (fun hh => hh))
                    have x0 : Sb (wf.alloc (.cells #[.int .i64 t.a, .int .i64 t.b, .int .i64 t.c] 27)).drew (w3.heap.size + 1 + 1) t := Blk.drew (by have h9 := Blk.new wf 27 #[.int .i64 t.a, .int .i64 t.b, .int .i64 t.c]; rw [hX] at h9; exact h9)
                    have y0 : Sb _ B7 t := Blk.drew (Blk.kept jq hx (fun hh => hh))
                    have z0 : Sb _ B6 m := Blk.drew (Blk.kept j.b6 hx (fun hh => hh))
                    have kk0 := (j.sk.kept hx).kept (Only.refl Nil _).drew
                    have hnn : (((0 : Nat) : Int) != ((0 : Nat) : Int)) = false := by simp
                    go_region_held3 (fun w' => (w'.cell? ⟨B5, 0, none⟩ = some (.int .i64 t.a) ∧ w'.cell? ⟨B5, 1, none⟩ = some (.int .i64 t.b) ∧ w'.cell? ⟨B5, 2, none⟩ = some (.int .i64 t.c)) ∧ (w'.cell? ⟨w3.heap.size + 1 + 1, 0, none⟩ = some (.int .i64 t.a) ∧ w'.cell? ⟨w3.heap.size + 1 + 1, 1, none⟩ = some (.int .i64 t.b) ∧ w'.cell? ⟨w3.heap.size + 1 + 1, 2, none⟩ = some (.int .i64 t.c)) ∧ (w'.cell? ⟨B7, 0, none⟩ = some (.int .i64 t.a) ∧ w'.cell? ⟨B7, 1, none⟩ = some (.int .i64 t.b) ∧ w'.cell? ⟨B7, 2, none⟩ = some (.int .i64 t.c)) ∧ (w'.cell? ⟨B6, 0, none⟩ = some (.int .i64 m.a) ∧ w'.cell? ⟨B6, 1, none⟩ = some (.int .i64 m.b) ∧ w'.cell? ⟨B6, 2, none⟩ = some (.int .i64 m.c))) (first | exact ⟨Sb.facts (q := t) r3, Sb.facts (q := t) x3, Sb.facts (q := t) y3, Sb.facts (q := m) z3⟩ | exact ⟨Sb.facts (q := t) r2, Sb.facts (q := t) x2, Sb.facts (q := t) y2, Sb.facts (q := m) z2⟩ | exact ⟨Sb.facts (q := t) r1, Sb.facts (q := t) x1, Sb.facts (q := t) y1, Sb.facts (q := m) z1⟩ | exact ⟨Sb.facts (q := t) r0, Sb.facts (q := t) x0, Sb.facts (q := t) y0, Sb.facts (q := m) z0⟩) (first
                      | (go_at_call 15; (with_reducible refine (HWt.out _ kk3).mono ?_); rintro e w14 ⟨rfl, rfl⟩)
                      | (go_at_call 14; (with_reducible refine (Most_any _ kk2).mono ?_); rintro e w13 ⟨rfl, ho13⟩; have r3 := Blk.kept r2 ho13 (fun hh => hh); have x3 := Blk.kept x2 ho13 (fun hh => hh); have y3 := Blk.kept y2 ho13 (fun hh => hh); have z3 := Blk.kept z2 ho13 (fun hh => hh); have kk3 := kk2.kept ho13)
                      | (go_at_call 13; (with_reducible refine (HLt.out _ kk1).mono ?_); rintro e w12 ⟨rfl, ho12⟩; have r2 := Blk.kept r1 ho12 (fun hh => hh); have x2 := Blk.kept x1 ho12 (fun hh => hh); have y2 := Blk.kept y1 ho12 (fun hh => hh); have z2 := Blk.kept z1 ho12 (fun hh => hh); have kk2 := kk1.kept ho12)
                      | (go_at_call 12; (with_reducible refine (Holds_any _ kk0).mono ?_); rintro e w11 ⟨rfl, ho11⟩; have r1 := Blk.kept r0 ho11 (fun hh => hh); have x1 := Blk.kept x0 ho11 (fun hh => hh); have y1 := Blk.kept y0 ho11 (fun hh => hh); have z1 := Blk.kept z0 ho11 (fun hh => hh); have kk1 := kk0.kept ho11)
                      )
                    all_goals
                      go_wp2
                      go_roundw
                      case rel => exact ⟨k + 1, v3, t, m, [], by omega, by omega, by go_num, j.kept (((hx.drew.trans ho11).trans ho12).trans ho13)⟩
                      case measure => simp [intOf]; omega
              · have hn2 : 2 ≤ n8 := by have := HN.out; simp at this; omega
                have hn5 : n8 ≤ 4 := by have := HN.out; simp at this l4; omega
                have hc1 : ¬ c8 = 1 := by omega
                have hlen' : (u :: M'').length = n8 - 1 := by have := HN.out; omega
                have HWt := Lib.hid (fun W (k0 : Sk W b w.heap.size v3 t m (u :: M'')) => Waiting_any W k0)
                have HLt := Lib.hid (fun W (k0 : Sk W b w.heap.size v3 t m (u :: M'')) => Latest_any W k0 (by omega))
                rw [hlen'] at HWt
                obtain ⟨q, hq⟩ : ∃ q, lastOf t (u :: M'') = q := ⟨_, rfl⟩
                rw [hq] at HLt
                obtain ⟨d0, d1, d2⟩ := lastAt t (dropOw (hOM _ rfl) hc1) (by simp) hq
                have hgt : (0 : Int) < ((n8 - 1 : Nat) : Int) := by omega
                have hgt2 : 0 < n8 - 1 := by omega
                have ew : wrap64 (((n8 - 1 : Nat) : Int) - 1) = ((n8 - 1 : Nat) : Int) - 1 := by simp only [wrap64]; omega
                have ew2 : IntKind.i64.wrap (((n8 - 1 : Nat) : Int) - 1) = ((n8 - 1 : Nat) : Int) - 1 := IntWalk.i64_in _ (by omega)
                have ez : (1 : Int) ≤ ((n8 - 1 : Nat) : Int) := by omega
                have en : ((n8 - 1 : Nat) : Int) - 1 < ((n8 - 1 : Nat) : Int) := by omega
                have et : (((n8 - 1 : Nat) : Int) - 1).toNat = n8 - 1 - 1 := by omega
                have hgl := ((hOM _ rfl).lt (g := g8) rfl).2
                as_aux_lemma =>
                  clear hOM hlen'
                  go_quiet (fail)
                  have hgw : g8 < ((((((w3.alloc (.cells #[.int .i64 h.a, .int .i64 h.b, .int .i64 h.c] 27)).alloc (.cells #[.int .i64 t.a, .int .i64 t.b, .int .i64 t.c] 27)).drewN nq).setCell ⟨B5, 0, none⟩ (.int .i64 t.a)).setCell ⟨B5, 1, none⟩ (.int .i64 t.b)).setCell ⟨B5, 2, none⟩ (.int .i64 t.c)).heap.size := by simpa using hgl
                  have d0w : (((((((w3.alloc (.cells #[.int .i64 h.a, .int .i64 h.b, .int .i64 h.c] 27)).alloc (.cells #[.int .i64 t.a, .int .i64 t.b, .int .i64 t.c] 27)).drewN nq).setCell ⟨B5, 0, none⟩ (.int .i64 t.a)).setCell ⟨B5, 1, none⟩ (.int .i64 t.b)).setCell ⟨B5, 2, none⟩ (.int .i64 t.c)).alloc (.cells #[.int .i64 t.a, .int .i64 t.b, .int .i64 t.c] 27)).cell? ⟨g8, o8 + 3 + (n8 - 1 - 1) * 3, none⟩ = some (.int .i64 q.a) := (World.cell?_alloc_lt _ _ _ hgw).trans (far3 d0 hg5.symm)
                  have d1w : (((((((w3.alloc (.cells #[.int .i64 h.a, .int .i64 h.b, .int .i64 h.c] 27)).alloc (.cells #[.int .i64 t.a, .int .i64 t.b, .int .i64 t.c] 27)).drewN nq).setCell ⟨B5, 0, none⟩ (.int .i64 t.a)).setCell ⟨B5, 1, none⟩ (.int .i64 t.b)).setCell ⟨B5, 2, none⟩ (.int .i64 t.c)).alloc (.cells #[.int .i64 t.a, .int .i64 t.b, .int .i64 t.c] 27)).cell? ⟨g8, o8 + 3 + (n8 - 1 - 1) * 3 + 1, none⟩ = some (.int .i64 q.b) := (World.cell?_alloc_lt _ _ _ hgw).trans (far3 d1 hg5.symm)
                  have d2w : (((((((w3.alloc (.cells #[.int .i64 h.a, .int .i64 h.b, .int .i64 h.c] 27)).alloc (.cells #[.int .i64 t.a, .int .i64 t.b, .int .i64 t.c] 27)).drewN nq).setCell ⟨B5, 0, none⟩ (.int .i64 t.a)).setCell ⟨B5, 1, none⟩ (.int .i64 t.b)).setCell ⟨B5, 2, none⟩ (.int .i64 t.c)).alloc (.cells #[.int .i64 t.a, .int .i64 t.b, .int .i64 t.c] 27)).cell? ⟨g8, o8 + 3 + (n8 - 1 - 1) * 3 + 2, none⟩ = some (.int .i64 q.c) := (World.cell?_alloc_lt _ _ _ hgw).trans (far3 d2 hg5.symm)
                  go_wp2
                  have j0 := Inv.acked i f k3 hb3 ht3 hf3 (hx3.drewN nq) rfl
                  rw [if_neg hc1] at j0
                  have hX : ((((((w3.alloc (.cells #[.int .i64 h.a, .int .i64 h.b, .int .i64 h.c] 27)).alloc (.cells #[.int .i64 t.a, .int .i64 t.b, .int .i64 t.c] 27)).drewN nq).setCell ⟨B5, 0, none⟩ (.int .i64 t.a)).setCell ⟨B5, 1, none⟩ (.int .i64 t.b)).setCell ⟨B5, 2, none⟩ (.int .i64 t.c)).heap.size = w3.heap.size + 1 + 1 := by simp
                  generalize (((((w3.alloc (.cells #[.int .i64 h.a, .int .i64 h.b, .int .i64 h.c] 27)).alloc (.cells #[.int .i64 t.a, .int .i64 t.b, .int .i64 t.c] 27)).drewN nq).setCell ⟨B5, 0, none⟩ (.int .i64 t.a)).setCell ⟨B5, 1, none⟩ (.int .i64 t.b)).setCell ⟨B5, 2, none⟩ (.int .i64 t.c) = wf at *
                  have j := j0
                  have jq := j.b7
                  rw [hq] at jq
                  have hx := (Only.refl Nil wf).alloc (.cells #[.int .i64 q.a, .int .i64 q.b, .int .i64 q.c] 27)
                  have r0 : Sb _ B5 t := Blk.drew (Blk.kept j.b5 hx (fun hh => hh))
                  have x0 : Sb (wf.alloc (.cells #[.int .i64 q.a, .int .i64 q.b, .int .i64 q.c] 27)).drew (w3.heap.size + 1 + 1) q := Blk.drew (by have h9 := Blk.new wf 27 #[.int .i64 q.a, .int .i64 q.b, .int .i64 q.c]; rw [hX] at h9; exact h9)
                  have y0 : Sb _ B7 q := Blk.drew (Blk.kept jq hx (fun hh => hh))
                  have z0 : Sb _ B6 m := Blk.drew (Blk.kept j.b6 hx (fun hh => hh))
                  have kk0 := (j.sk.kept hx).kept (Only.refl Nil _).drew
                  have hnn : (((n8 - 1 : Nat) : Int) != ((n8 - 1 : Nat) : Int)) = false := by simp
                  go_region_held3 (fun w' => (w'.cell? ⟨B5, 0, none⟩ = some (.int .i64 t.a) ∧ w'.cell? ⟨B5, 1, none⟩ = some (.int .i64 t.b) ∧ w'.cell? ⟨B5, 2, none⟩ = some (.int .i64 t.c)) ∧ (w'.cell? ⟨w3.heap.size + 1 + 1, 0, none⟩ = some (.int .i64 q.a) ∧ w'.cell? ⟨w3.heap.size + 1 + 1, 1, none⟩ = some (.int .i64 q.b) ∧ w'.cell? ⟨w3.heap.size + 1 + 1, 2, none⟩ = some (.int .i64 q.c)) ∧ (w'.cell? ⟨B7, 0, none⟩ = some (.int .i64 q.a) ∧ w'.cell? ⟨B7, 1, none⟩ = some (.int .i64 q.b) ∧ w'.cell? ⟨B7, 2, none⟩ = some (.int .i64 q.c)) ∧ (w'.cell? ⟨B6, 0, none⟩ = some (.int .i64 m.a) ∧ w'.cell? ⟨B6, 1, none⟩ = some (.int .i64 m.b) ∧ w'.cell? ⟨B6, 2, none⟩ = some (.int .i64 m.c))) (first | exact ⟨Sb.facts (q := t) r3, Sb.facts (q := q) x3, Sb.facts (q := q) y3, Sb.facts (q := m) z3⟩ | exact ⟨Sb.facts (q := t) r2, Sb.facts (q := q) x2, Sb.facts (q := q) y2, Sb.facts (q := m) z2⟩ | exact ⟨Sb.facts (q := t) r1, Sb.facts (q := q) x1, Sb.facts (q := q) y1, Sb.facts (q := m) z1⟩ | exact ⟨Sb.facts (q := t) r0, Sb.facts (q := q) x0, Sb.facts (q := q) y0, Sb.facts (q := m) z0⟩) (first
                    | (go_at_call 15; (with_reducible refine (HWt.out _ kk3).mono ?_); rintro e w14 ⟨rfl, rfl⟩)
                    | (go_at_call 14; (with_reducible refine (Most_any _ kk2).mono ?_); rintro e w13 ⟨rfl, ho13⟩; have r3 := Blk.kept r2 ho13 (fun hh => hh); have x3 := Blk.kept x2 ho13 (fun hh => hh); have y3 := Blk.kept y2 ho13 (fun hh => hh); have z3 := Blk.kept z2 ho13 (fun hh => hh); have kk3 := kk2.kept ho13)
                    | (go_at_call 13; (with_reducible refine (HLt.out _ kk1).mono ?_); rintro e w12 ⟨rfl, ho12⟩; have r2 := Blk.kept r1 ho12 (fun hh => hh); have x2 := Blk.kept x1 ho12 (fun hh => hh); have y2 := Blk.kept y1 ho12 (fun hh => hh); have z2 := Blk.kept z1 ho12 (fun hh => hh); have kk2 := kk1.kept ho12)
                    | (go_at_call 12; (with_reducible refine (Holds_any _ kk0).mono ?_); rintro e w11 ⟨rfl, ho11⟩; have r1 := Blk.kept r0 ho11 (fun hh => hh); have x1 := Blk.kept x0 ho11 (fun hh => hh); have y1 := Blk.kept y0 ho11 (fun hh => hh); have z1 := Blk.kept z0 ho11 (fun hh => hh); have kk1 := kk0.kept ho11)
                    )
                  all_goals
                    go_wp2
                    go_roundw
                    case rel => exact ⟨k + 1, v3, t, m, (u :: M''), by omega, by omega, by go_num, j.kept (((hx.drew.trans ho11).trans ho12).trans ho13)⟩
                    case measure => simp [intOf]; omega
        · go_wp2
          go_ret
          exact ⟨rfl, i.bel⟩
      · go_wp2
        go_ret
        exact ⟨rfl, i.bel⟩
/-! The step from the walk to the statement of ShakeDoes. -/
namespace frShakeDoes
open Go.ChangeShapes Go.WideShapes Go.ChangeAt Go.RowKit
set_option linter.unusedVariables false
theorem own : ownKnob Try.prog.godebug = none := by kernel_rfl
theorem laidOut : laidOutB Try.prog = true := by kernel_rfl
theorem shape0 : Kd.ok Try.prog (.slc (.agg [.bool, .agg [.int .i64, .int .i64, .int .i64]])) 22 = true := by kernel_rfl
set_option maxRecDepth 100000 in
theorem contract (H : Type) (enc : TypeId × Value → H) (W : World) (base : Nat) (args : Array Value) (ds gs : List (DataW H)) (before : List MemPlace)
    (hval : ∀ (j : Nat) t v, Try.f3.params[j]? = some t → args[j]? = some v → Value.okWide Try.prog W .any base t v)
    (hW : DataW.Whole enc Try.prog Try.f3.params.toList Rows.shakeDoesSpec.vars false W args.toList ds gs before) :
    Calls Try.prog 3 args W fun e W' => ∃ v, e = .returned v ∧ Rows.shakeDoesSpec.post enc Try.prog Try.f3 false true false false W args v W' := by
  have hW' := hW
  obtain ⟨p, q, hA0, hV, rfl, hfz, hnd⟩ := hW
  have hA : DataW.TrodAll enc Try.prog W 0 (fun _ => true) true Try.f3.params.toList args.toList ds p := hA0
  rw [Try.params3] at hA hval
  obtain ⟨v0, vs0, d0, ds0, p0, q0, hargs, rfl, rfl, h0, r0⟩ := trodAll_cons hA
  obtain ⟨rfl, rfl, rfl⟩ := trodAll_nil r0
  obtain rfl : args = #[v0] := by cases args; simp_all
  obtain ⟨rfl, rfl⟩ := trodVars_none hV
  have k0 := Kd.fit _ shape0 (hval 0 22 v0 rfl rfl) h0
  have lt0 : ∀ x ∈ p0, x.block < W.heap.size := by obtain ⟨m, hm⟩ := h0; exact DataW.trod_lt m _ _ _ hm
  refine (shakeDoes_walk v0 W k0).mono fun e W' ⟨he, bel⟩ => ?_
  subst he
  exact ⟨_, rfl, _, _, _, [], _, [], hW', trodAll_mk1 (shut_bool Try.underlying4 _), (trodAll_cons_mk (Below.trod laidOut (by kernel_rfl) (of_decide_eq_true (by kernel_rfl)) h0 bel lt0) trodAll_mk0), rfl, bel.frame _, fun h => by cases h⟩
set_option maxRecDepth 100000 in
theorem lifted (os : Os) (started : os.Started) (H : Type) (enc : TypeId × Value → H) :
    ReturnsInHanded {} Try.checked os 3 .any (Rows.shakeDoesSpec.pre6 enc Try.prog Try.f3 Rows.shakeDoesRow.domain false) (Rows.shakeDoesSpec.post enc Try.prog Try.f3 false true false false) := by
  refine returnsInHanded_of_change (C := Try.checked) own started (by kernel_rfl) Try.func3
    (ChangeSpec.witness6 (enc := enc) (C := Try.checked) false ⟨#[], #[.slice none 0 0], []⟩ 8 (by kernel_rfl) (by kernel_rfl) (by kernel_rfl) (by kernel_rfl)) ?_
  intro W base args ds gs before hval hW _ _
  exact contract H enc W base args ds gs before hval hW
theorem over : Rows.shakeDoesRow.holds Try.pinned (OpenSpec.ofChange Rows.shakeDoesSpec) :=
  OpenClaim.holds_of_wide 3 Try.f3 rfl rfl rfl rfl rfl rfl rfl ⟨rfl, rfl, rfl, rfl, rfl⟩ rfl rfl rfl rfl rfl (by kernel_rfl) Try.func3 (by kernel_rfl)
    (of_decide_eq_true (by kernel_rfl)) (by unfold Func.isWrapper; first | (rw [if_pos (by decide +kernel)]; kernel_rfl) | (rw [if_neg (by decide +kernel)]; exact ⟨rfl, rfl⟩))
    (fun os started H enc _ => lifted os started H enc)
theorem proved : Rows.ShakeDoesSaid := over
end frShakeDoes
end Go.Proofs.Ytjbemhfhhedlpaa
