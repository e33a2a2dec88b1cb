/- A call of both ledgers; do both say the same? -/
import Derived.Test.YtlnemadkggfmbaaBoth07
import Derived.Test.YtlnemadkggfmbaaAwake07
namespace Go.Proofs.Ytlnemadkggfmbaa
open Go.RowKit

structure St (w : World) (b cb xb base : Nat) (M C S : Int) (v vx : Value) (L : List Gn) : Prop where
  lg : Lg w b cb base C S v L
  rl : Rl w xb base C S vx L
  inv : Inv M C S L
def DoPost (w : World) (b cb xb base : Nat) (M : Int) (x : Ending) (w' : World) : Prop :=
  ∃ C' S' v' vx' L', x = .returned (.bool true) ∧ St w' b cb xb base (M + 2147483648) C' S' v' vx' L' ∧ Below base w w'
section
variable {w : World} {b cb xb base : Nat} {M C S : Int} {v vx : Value} {L : List Gn}
theorem Rl.keptP {w' : World} (h : Rl w xb base C S vx L) {b cb : Nat} {v : Value} {L' : List Gn} {C' S' : Int} (q : Lg w b cb base C' S' v L') (ho : Only (One xb) w w') : Lg w' b cb base C' S' v L' :=
  q.keptS ho fun k hk t cs hB hm => by
    unfold One at hk
    subst hk
    have := (hB.inj h.blk).1
    subst this
    revert hm
    unfold myT
    decide
set_option maxHeartbeats 4000000 in
theorem do_any (kd id n t : Int) (w : World) (hs : St w b cb xb base M C S v vx L) (hM : 0 ≤ M ∧ M ≤ 900000000000) (hn : i64Ok n) (ht : i64Ok t) :
    Calls Try.prog 9 #[.pointer (some ⟨b, 0, none⟩), .pointer (some ⟨xb, 0, none⟩), .agg #[.int .i64 kd, .int .i64 id, .int .i64 n, .int .i64 t]] w (DoPost w b cb xb base M) := by
  have hn0 := ((Only.refl Nil w).alloc (.cells #[.int .i64 kd, .int .i64 id, .int .i64 n, .int .i64 t] 35)).drew
  have hB0 : Blk (w.alloc (.cells #[.int .i64 kd, .int .i64 id, .int .i64 n, .int .i64 t] 35)).drew w.heap.size 35 #[.int .i64 kd, .int .i64 id, .int .i64 n, .int .i64 t] := Blk.new w 35 #[.int .i64 kd, .int .i64 id, .int .i64 n, .int .i64 t]
  have HC : Hid (∀ W, Blk W w.heap.size 35 #[.int .i64 kd, .int .i64 id, .int .i64 n, .int .i64 t] → W.cell? ⟨w.heap.size, 0, none⟩ = some (.int .i64 kd) ∧ W.cell? ⟨w.heap.size, 1, none⟩ = some (.int .i64 id) ∧ W.cell? ⟨w.heap.size, 2, none⟩ = some (.int .i64 n) ∧ W.cell? ⟨w.heap.size, 3, none⟩ = some (.int .i64 t)) := Lib.hid fun W q => ⟨q.cell 0, q.cell 1, q.cell 2, q.cell 3⟩
  have lg0 := hs.lg.kept hn0
  have rl0 := hs.rl.kept hn0
  have hsz := hs.lg.sz
  have HXB : Hid (xb ≠ w.heap.size) := Lib.hid (by have := hs.rl.blk.lt; omega)
  have inv := hs.inv
  clear hs
  by_cases c0 : (kd == 0) = true
  · have HB := Lib.hid (both_open (xb := xb) (vx := vx) id n lg0 inv hM.1)
    clear inv hn ht hM
    go_enter Try.func9, Try.ntmps9
    go_wp2
    go_region_held3 (fun w' => w'.cell? ⟨w.heap.size, 0, none⟩ = some (.int .i64 kd) ∧ w'.cell? ⟨w.heap.size, 1, none⟩ = some (.int .i64 id) ∧ w'.cell? ⟨w.heap.size, 2, none⟩ = some (.int .i64 n) ∧ w'.cell? ⟨w.heap.size, 3, none⟩ = some (.int .i64 t)) (with_reducible (first | exact HC.out _ hB0 | exact HC.out _ hB1 | exact HC.out _ hB2)) (first
      | (go_at_call 22; (with_reducible refine (hR1.out _ hq1).mono ?_); rintro e w2 ⟨vx', rfl, hq2, ho2⟩; have hB2 := hB1.kept ho2 (fun hh => HXB.out hh.symm))
      | (go_at_call 11; (with_reducible refine (HB.out).mono ?_); rintro e w1 ⟨r, C', S', v', L', rfl, hp1, ho1, hi1, hr1⟩; have hR1 := Lib.hid hr1; have hO1 := lg0.oth ho1; have hB1 := hO1 _ _ _ hB0 (by unfold myT; decide); have hq1 := rl0.oth hO1)
      )
    all_goals
      go_wp2
      go_ret
      have hbx := hq1.hb
      exact ⟨C', S', v', vx', L', by simp, ⟨hq1.keptP hp1 ho2, hq2, hi1⟩, ((hn0.below hsz (fun _ _ hh => hh)).trans (lg0.bel ho1)).trans (ho2.below (Nat.le_trans lg0.sz ho1.size) (fun i hi hh => by unfold One at hh; omega))⟩
  have e0 : (kd == 0) = false := by simpa using c0
  clear c0
  by_cases c1 : (kd == 1) = true
  · have HB := Lib.hid (both_close (xb := xb) (vx := vx) id lg0 inv)
    clear inv hn ht hM
    go_enter Try.func9, Try.ntmps9
    go_wp2
    go_region_held3 (fun w' => w'.cell? ⟨w.heap.size, 0, none⟩ = some (.int .i64 kd) ∧ w'.cell? ⟨w.heap.size, 1, none⟩ = some (.int .i64 id) ∧ w'.cell? ⟨w.heap.size, 2, none⟩ = some (.int .i64 n) ∧ w'.cell? ⟨w.heap.size, 3, none⟩ = some (.int .i64 t)) (with_reducible (first | exact HC.out _ hB0 | exact HC.out _ hB1 | exact HC.out _ hB2)) (first
      | (go_at_call 23; (with_reducible refine (hR1.out _ hq1).mono ?_); rintro e w2 ⟨vx', rfl, hq2, ho2⟩; have hB2 := hB1.kept ho2 (fun hh => HXB.out hh.symm))
      | (go_at_call 12; (with_reducible refine (HB.out).mono ?_); rintro e w1 ⟨r, C', S', v', L', rfl, hp1, ho1, hi1, hr1⟩; have hR1 := Lib.hid hr1; have hO1 := lg0.oth ho1; have hB1 := hO1 _ _ _ hB0 (by unfold myT; decide); have hq1 := rl0.oth hO1)
      )
    all_goals
      go_wp2
      go_ret
      have hbx := hq1.hb
      exact ⟨C', S', v', vx', L', by simp, ⟨hq1.keptP hp1 ho2, hq2, hi1⟩, ((hn0.below hsz (fun _ _ hh => hh)).trans (lg0.bel ho1)).trans (ho2.below (Nat.le_trans lg0.sz ho1.size) (fun i hi hh => by unfold One at hh; omega))⟩
  have e1 : (kd == 1) = false := by simpa using c1
  clear c1
  by_cases c5 : (kd == 5) = true
  · have HB := Lib.hid (both_grow (xb := xb) (vx := vx) id n hn lg0 inv)
    clear inv hn ht hM
    go_enter Try.func9, Try.ntmps9
    go_wp2
    go_region_held3 (fun w' => w'.cell? ⟨w.heap.size, 0, none⟩ = some (.int .i64 kd) ∧ w'.cell? ⟨w.heap.size, 1, none⟩ = some (.int .i64 id) ∧ w'.cell? ⟨w.heap.size, 2, none⟩ = some (.int .i64 n) ∧ w'.cell? ⟨w.heap.size, 3, none⟩ = some (.int .i64 t)) (with_reducible (first | exact HC.out _ hB0 | exact HC.out _ hB1 | exact HC.out _ hB2)) (first
      | (go_at_call 24; (with_reducible refine (hR1.out _ hq1).mono ?_); rintro e w2 ⟨vx', rfl, hq2, ho2⟩; have hB2 := hB1.kept ho2 (fun hh => HXB.out hh.symm))
      | (go_at_call 13; (with_reducible refine (HB.out).mono ?_); rintro e w1 ⟨r, C', S', v', L', rfl, hp1, ho1, hi1, hr1⟩; have hR1 := Lib.hid hr1; have hO1 := lg0.oth ho1; have hB1 := hO1 _ _ _ hB0 (by unfold myT; decide); have hq1 := rl0.oth hO1)
      )
    all_goals
      go_wp2
      go_ret
      have hbx := hq1.hb
      exact ⟨C', S', v', vx', L', by simp, ⟨hq1.keptP hp1 ho2, hq2, hi1⟩, ((hn0.below hsz (fun _ _ hh => hh)).trans (lg0.bel ho1)).trans (ho2.below (Nat.le_trans lg0.sz ho1.size) (fun i hi hh => by unfold One at hh; omega))⟩
  have e5 : (kd == 5) = false := by simpa using c5
  clear c5
  by_cases c6 : (kd == 6) = true
  · have HB := Lib.hid (both_grow (xb := xb) (vx := vx) id n hn lg0 inv)
    clear inv hn ht hM
    go_enter Try.func9, Try.ntmps9
    go_wp2
    go_region_held3 (fun w' => w'.cell? ⟨w.heap.size, 0, none⟩ = some (.int .i64 kd) ∧ w'.cell? ⟨w.heap.size, 1, none⟩ = some (.int .i64 id) ∧ w'.cell? ⟨w.heap.size, 2, none⟩ = some (.int .i64 n) ∧ w'.cell? ⟨w.heap.size, 3, none⟩ = some (.int .i64 t)) (with_reducible (first | exact HC.out _ hB0 | exact HC.out _ hB1 | exact HC.out _ hB2)) (first
      | (go_at_call 24; (with_reducible refine (hR1.out _ hq1).mono ?_); rintro e w2 ⟨vx', rfl, hq2, ho2⟩; have hB2 := hB1.kept ho2 (fun hh => HXB.out hh.symm))
      | (go_at_call 13; (with_reducible refine (HB.out).mono ?_); rintro e w1 ⟨r, C', S', v', L', rfl, hp1, ho1, hi1, hr1⟩; have hR1 := Lib.hid hr1; have hO1 := lg0.oth ho1; have hB1 := hO1 _ _ _ hB0 (by unfold myT; decide); have hq1 := rl0.oth hO1)
      )
    all_goals
      go_wp2
      go_ret
      have hbx := hq1.hb
      exact ⟨C', S', v', vx', L', by simp, ⟨hq1.keptP hp1 ho2, hq2, hi1⟩, ((hn0.below hsz (fun _ _ hh => hh)).trans (lg0.bel ho1)).trans (ho2.below (Nat.le_trans lg0.sz ho1.size) (fun i hi hh => by unfold One at hh; omega))⟩
  have e6 : (kd == 6) = false := by simpa using c6
  clear c6
  by_cases c7 : (kd == 7) = true
  · have HB := Lib.hid (both_resize (xb := xb) (vx := vx) n t hn ht lg0 inv)
    clear inv hn ht hM
    go_enter Try.func9, Try.ntmps9
    go_wp2
    go_region_held3 (fun w' => w'.cell? ⟨w.heap.size, 0, none⟩ = some (.int .i64 kd) ∧ w'.cell? ⟨w.heap.size, 1, none⟩ = some (.int .i64 id) ∧ w'.cell? ⟨w.heap.size, 2, none⟩ = some (.int .i64 n) ∧ w'.cell? ⟨w.heap.size, 3, none⟩ = some (.int .i64 t)) (with_reducible (first | exact HC.out _ hB0 | exact HC.out _ hB1 | exact HC.out _ hB2)) (first
      | (go_at_call 25; (with_reducible refine (hR1.out _ hq1).mono ?_); rintro e w2 ⟨vx', rfl, hq2, ho2⟩; have hB2 := hB1.kept ho2 (fun hh => HXB.out hh.symm))
      | (go_at_call 15; (with_reducible refine (HB.out).mono ?_); rintro e w1 ⟨r, C', S', v', L', rfl, hp1, ho1, hi1, hr1⟩; have hR1 := Lib.hid hr1; have hO1 := lg0.oth ho1; have hB1 := hO1 _ _ _ hB0 (by unfold myT; decide); have hq1 := rl0.oth hO1)
      )
    all_goals
      go_wp2
      go_ret
      have hbx := hq1.hb
      exact ⟨C', S', v', vx', L', by simp, ⟨hq1.keptP hp1 ho2, hq2, hi1⟩, ((hn0.below hsz (fun _ _ hh => hh)).trans (lg0.bel ho1)).trans (ho2.below (Nat.le_trans lg0.sz ho1.size) (fun i hi hh => by unfold One at hh; omega))⟩
  have e7 : (kd == 7) = false := by simpa using c7
  clear c7
  have HB := Lib.hid (both_spend (xb := xb) (vx := vx) id n lg0 inv hM.2)
  clear inv hn ht hM
  go_enter Try.func9, Try.ntmps9
  go_wp2
  go_region_held3 (fun w' => w'.cell? ⟨w.heap.size, 0, none⟩ = some (.int .i64 kd) ∧ w'.cell? ⟨w.heap.size, 1, none⟩ = some (.int .i64 id) ∧ w'.cell? ⟨w.heap.size, 2, none⟩ = some (.int .i64 n) ∧ w'.cell? ⟨w.heap.size, 3, none⟩ = some (.int .i64 t)) (with_reducible (first | exact HC.out _ hB0 | exact HC.out _ hB1 | exact HC.out _ hB2)) (first
    | (go_at_call 26; (with_reducible refine (hR1.out _ hq1).mono ?_); rintro e w2 ⟨vx', rfl, hq2, ho2⟩; have hB2 := hB1.kept ho2 (fun hh => HXB.out hh.symm))
    | (go_at_call 16; (with_reducible refine (HB.out).mono ?_); rintro e w1 ⟨r, C', S', v', L', rfl, hp1, ho1, hi1, hr1⟩; have hR1 := Lib.hid hr1; have hO1 := lg0.oth ho1; have hB1 := hO1 _ _ _ hB0 (by unfold myT; decide); have hq1 := rl0.oth hO1)
    )
  all_goals
    go_wp2
    go_ret
    have hbx := hq1.hb
    exact ⟨C', S', v', vx', L', by simp, ⟨hq1.keptP hp1 ho2, hq2, hi1⟩, ((hn0.below hsz (fun _ _ hh => hh)).trans (lg0.bel ho1)).trans (ho2.below (Nat.le_trans lg0.sz ho1.size) (fun i hi hh => by unfold One at hh; omega))⟩
set_option maxRecDepth 100000 in
set_option maxHeartbeats 4000000 in
theorem same_any (id : Int) (w : World) (hs : St w b cb xb base M C S v vx L) :
    Calls Try.prog 10 #[.pointer (some ⟨b, 0, none⟩), .pointer (some ⟨xb, 0, none⟩), .int .i64 id] w fun x w' => x = .returned (.bool true) ∧ Only Nil w w' := by
  have hl : L.length ≤ 1000 := by have := hs.inv.len; omega
  have hll : (L.map (·.id)).length ≤ 100000 := by simp; omega
  have hr := hs.inv.up
  have HI : Hid (∀ W, Lg W b cb base C S v L → Calls Try.prog 14 #[.pointer (some ⟨b, 0, none⟩)] W fun x w' => ∃ A cap, x = .returned (.slice A L.length cap) ∧ Sq encZ 1 w' w'.heap.size A (L.map (·.id)) ∧ Only Nil W w') := Lib.hid fun W q => by
    have := IDs_any W q hl
    unfold IdsPost at this
    rwa [List.length_map] at this
  have HRI : Hid (∀ W, Rl W xb base C S vx L → Calls Try.prog 27 #[.pointer (some ⟨xb, 0, none⟩)] W fun x w' => ∃ A cap, x = .returned (.slice A L.length cap) ∧ Sq encZ 1 w' w'.heap.size A (L.map (·.id)) ∧ Only Nil W w') := Lib.hid fun W q => by
    have := RIDs_any W q hl
    unfold IdsPost at this
    rwa [List.length_map] at this
  have HT : Hid (∀ W A B ca cb', Sq encZ 1 W W.heap.size A (L.map (·.id)) → Sq encZ 1 W W.heap.size B (L.map (·.id)) → Calls Try.prog 21 #[.slice A L.length ca, .slice B L.length cb'] W fun x w' => x = .returned (.bool true) ∧ Only Nil W w') := Lib.hid fun W A B ca cb' h1 h2 => by
    have := Ints_same A B ca cb' (L.map (·.id)) W h1 h2 hll
    rwa [List.length_map] at this
  obtain ⟨A, cap, hvx, hcp, hm⟩ := hs.rl.own.form
  subst hvx
  have hrl := hs.rl
  rw [List.length_map] at hrl hcp
  have hlg := hs.lg
  have hids := Lib.hid hs.inv.ids
  have hRow := Lib.hid (fun W i (x : Gn) (q : Rl W xb base C S (.slice A L.length cap) L) (hx : L[i]? = some x) => q.row hx)
  rw [List.length_map] at HRI
  clear hs hll
  have HLen := Lib.hid hl
  generalize hn : L.length = m at hl HI HRI HT hrl hcp hRow ⊢
  have HN := Lib.hid hn
  clear hn
  go_enter Try.func10, Try.ntmps10
  go_wp2_with (first
    | (go_at_call 14; (with_reducible refine (HI.out _ hlg).mono ?_); rintro e w1 ⟨A1, c1, rfl, s1, ho1⟩; have hrl1 := hrl.kept ho1)
    | (go_at_call 27; (with_reducible refine (HRI.out _ hrl1).mono ?_); rintro e w2 ⟨A2, c2, rfl, s2, ho2⟩; have s1' := s1.go ho2; have ho12 := ho1.trans ho2)
    | (go_at_call 21; (with_reducible refine (HT.out _ _ _ _ _ s1' s2).mono ?_); rintro e w3 ⟨rfl, ho3⟩; have ho13 := ho12.trans ho3; have lg3 := hlg.kept ho13; have rl3 := hrl.kept ho13; obtain ⟨r0, r1, r2⟩ := rl3.facts)
    | (go_at_call 17; (with_reducible refine (Size_0 _ lg3).mono ?_); rintro e w4 ⟨rfl, rfl⟩)
    | (go_at_call 18; (with_reducible refine (Spent_0 _ lg3).mono ?_); rintro e w4 ⟨rfl, rfl⟩)
    )
  go_loopw [11] (fun ii wr => ∃ k : Nat, k ≤ m ∧ ii = .int .i64 k ∧ Only Nil w wr) (fun ii _ => m - (intOf ii).toNat)
  case atStart => exact ⟨0, Nat.zero_le _, rfl, ho13⟩
  case round =>
    obtain ⟨k, hk, rfl, ho⟩ := hrel
    have lgr := hlg.kept ho
    have rlr := hrl.kept ho
    obtain ⟨r0, r1, r2⟩ := rlr.facts
    by_cases hlt : k < m
    · obtain ⟨x, hx⟩ : ∃ x, L[k]? = some x := ⟨_, List.getElem?_eq_getElem (by have := HN.out; omega)⟩
      obtain ⟨g, o, rfl, hg, e0, e1, e2⟩ := hRow.out _ _ _ rlr hx
      have hki : (k : Int) < m := by omega
      have hx1 := (hids.out x (List.mem_of_getElem? hx)).1
      have hid0 : (x.id == 0) = false := by simp; omega
      have HSz := Lib.hid (fun W (q : Lg W b cb base C S v L) => Size_in k x x.id W q HLen.out hr hx rfl hid0)
      have HSp := Lib.hid (fun W (q : Lg W b cb base C S v L) => Spent_in k x x.id W q HLen.out hr hx rfl hid0)
      have HFr := Lib.hid (fun W (q : Lg W b cb base C S v L) => Free_in k x x.id W q HLen.out hr hx rfl)
      have HRF := Lib.hid (fun W (q : Rl W xb base C S (.slice (some ⟨g, o, none⟩) m cap) L) => RFree_in k x x.id W q HLen.out hr hx rfl)
      have HC : Hid (∀ W, Rl W xb base C S (.slice (some ⟨g, o, none⟩) m cap) L → W.cell? ⟨xb, 2, none⟩ = some (.slice (some ⟨g, o, none⟩) m cap) ∧ W.cell? ⟨g, o + k * 3, none⟩ = some (.int .i64 x.id) ∧ W.cell? ⟨g, o + k * 3 + 1, none⟩ = some (.int .i64 x.n) ∧ W.cell? ⟨g, o + k * 3 + 2, none⟩ = some (.int .i64 x.s)) := Lib.hid fun W q => by
        obtain ⟨g', o', hA', _, q0, q1, q2⟩ := hRow.out _ _ _ q hx
        injection hA' with hA'
        injection hA' with hA1 hA2
        subst hA1 hA2
        exact ⟨q.facts.2.2, q0, q1, q2⟩
      generalize frI C x.n = f at *
      clear hx
      go_wp2_with (first
        | (go_at_call 17; (with_reducible refine (HSz.out _ lgr).mono ?_); rintro e w4 ⟨rfl, ho4⟩; have ho14 := ho.trans ho4; have lg4 := hlg.kept ho14; have rl4 := hrl.kept ho14; obtain ⟨f2, f0, f1, f3⟩ := HC.out _ rl4)
        | (go_at_call 18; (with_reducible refine (HSp.out _ lg4).mono ?_); rintro e w5 ⟨rfl, ho5⟩; have ho15 := ho14.trans ho5; have lg5 := hlg.kept ho15.drew; have rl5 := hrl.kept ho15.drew)
        )
      have b1 := HC.out _ rl5
      go_region_held3 (fun w' => w'.cell? ⟨xb, 2, none⟩ = some (.slice (some ⟨g, o, none⟩) m cap) ∧ w'.cell? ⟨g, o + k * 3, none⟩ = some (.int .i64 x.id) ∧ w'.cell? ⟨g, o + k * 3 + 1, none⟩ = some (.int .i64 x.n) ∧ w'.cell? ⟨g, o + k * 3 + 2, none⟩ = some (.int .i64 x.s)) (with_reducible (first | exact b1 | exact b2 | exact b3)) (first
        | (go_at_call 28; (with_reducible refine (HRF.out _ rl6).mono ?_); rintro e w7 ⟨rfl, ho7⟩; have ho17 := ho16.trans ho7; have b3 := HC.out _ (hrl.kept ho17))
        | (go_at_call 19; (with_reducible refine (HFr.out _ lg5).mono ?_); rintro e w6 ⟨rfl, ho6⟩; have ho16 := ho15.drew.trans ho6; have rl6 := hrl.kept ho16; have b2 := HC.out _ rl6)
        )
      all_goals
        go_wp2
        go_roundw
        case rel => exact ⟨k + 1, by omega, by go_num, ho17⟩
        case measure => simp [intOf]; omega
    · obtain rfl : k = m := by omega
      by_cases hz : id = 0
      · subst hz
        go_wp2
        go_ret
        exact ⟨rfl, ho⟩
      · have hz0 : (id == 0) = false := by simpa using hz
        rcases in_or_out L id with hout | ⟨i, x, hx, hxi⟩
        · have HF := Lib.hid (fun W (q : Rl W xb base C S (.slice A k cap) L) => Find_out id W q HLen.out hout)
          have HSz := Lib.hid (fun W (q : Lg W b cb base C S v L) => Size_out id W q HLen.out hout hz0)
          have HSp := Lib.hid (fun W (q : Lg W b cb base C S v L) => Spent_out id W q HLen.out hout hz0)
          have HFr := Lib.hid (fun W (q : Lg W b cb base C S v L) => Free_out id W q HLen.out hout)
          clear hout hz hr hl
          go_wp2_with (first
            | (go_at_call 29; (with_reducible refine (HF.out _ rlr).mono ?_); rintro e w4 ⟨rfl, rfl⟩)
            | (go_at_call 17; (with_reducible refine (HSz.out _ lgr).mono ?_); rintro e w4 ⟨rfl, ho4⟩; have lg4 := lgr.kept ho4)
            | (go_at_call 18; (with_reducible refine (HSp.out _ lg4).mono ?_); rintro e w5 ⟨rfl, ho5⟩; have lg5 := lg4.kept ho5)
            | (go_at_call 19; (with_reducible refine (HFr.out _ lg5).mono ?_); rintro e w6 ⟨rfl, ho6⟩)
            )
          go_ret
          exact ⟨rfl, ((ho.trans ho4).trans ho5).trans ho6⟩
        · have HF := Lib.hid (fun W (q : Rl W xb base C S (.slice A k cap) L) => Find_in i x id W q HLen.out hr hx hxi)
          clear hx hxi hz hr hl
          go_wp2_with (first
            | (go_at_call 29; (with_reducible refine (HF.out _ rlr).mono ?_); rintro e w4 ⟨rfl, rfl⟩)
            )
          go_ret
          exact ⟨rfl, ho⟩
end
end Go.Proofs.Ytlnemadkggfmbaa
