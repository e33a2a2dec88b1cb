/- Each call of both ledgers, side by side: the same answer, the same streams. -/
import Derived.Test.YtlnemadkggfmbaaCredit5
import Derived.Test.YtlnemadkggfmbaaRef07s
import Derived.Test.YtlnemadkggfmbaaRef07g
namespace Go.Proofs.Ytlnemadkggfmbaa
open Go.RowKit

/-! ### the streams, plainly -/
theorem rise_pw {L : List Gn} : rise L ↔ (L.map (·.id)).Pairwise (· < ·) := by
  rw [List.pairwise_iff_getElem]
  constructor
  · intro h i j hi hj hij
    simp only [List.length_map] at hi hj
    simp only [List.getElem_map]
    exact h i j _ _ (List.getElem?_eq_getElem hi) (List.getElem?_eq_getElem hj) hij
  · intro h i j x y hx hy hij
    obtain ⟨hi, rfl⟩ := List.getElem?_eq_some_iff.1 hx
    obtain ⟨hj, rfl⟩ := List.getElem?_eq_some_iff.1 hy
    have := h i j (by simpa using hi) (by simpa using hj) hij
    simpa using this
theorem rise_same {L L' : List Gn} (h : rise L) (e : L'.map (·.id) = L.map (·.id)) : rise L' := by
  rw [rise_pw] at h ⊢
  rwa [e]
theorem rise_sub {L L' : List Gn} (h : rise L) (e : L'.Sublist L) : rise L' := by
  rw [rise_pw] at h ⊢
  exact h.sublist (e.map _)
theorem rise_ins {L : List Gn} (h : rise L) {id n : Int} {k wb : Nat} (hk : Pc L id k) (ho : outL L id) : rise (L.take k ++ ⟨id, 0, n, wb⟩ :: L.drop k) := by
  rw [rise_pw] at h ⊢
  have h' := h
  rw [← List.take_append_drop k L, List.map_append, List.pairwise_append] at h'
  rw [List.map_append, List.map_cons, List.pairwise_append, List.pairwise_cons]
  have a1 : ∀ x ∈ (L.take k).map (·.id), x < id := by
    intro x hx
    obtain ⟨p, hp, rfl⟩ := List.mem_map.1 hx
    obtain ⟨j, hj⟩ := List.mem_iff_getElem?.1 hp
    have hjk : j < k := by have := (List.getElem?_eq_some_iff.1 hj).1; rw [List.length_take] at this; omega
    rw [List.getElem?_take_of_lt hjk] at hj
    exact hk.2.1 j p hj hjk
  have a2 : ∀ x ∈ (L.drop k).map (·.id), id < x := by
    intro x hx
    have hne : id ≠ x := by
      rintro rfl
      obtain ⟨p, hp, e⟩ := List.mem_map.1 hx
      exact ho p (List.mem_of_mem_drop hp) e
    rcases Nat.lt_or_ge k L.length with hl | hl
    · have b1 := hk.2.2 _ (List.getElem?_eq_getElem hl)
      rw [List.drop_eq_getElem_cons hl, List.map_cons] at hx h'
      rcases List.mem_cons.1 hx with rfl | hx
      · omega
      · have := (List.pairwise_cons.1 h'.2.1).1 _ hx
        omega
    · rw [List.drop_of_length_le hl] at hx
      simp at hx
  exact ⟨h'.1, ⟨a2, h'.2.1⟩, fun x hx y hy => by
    have b1 := a1 x hx
    rcases List.mem_cons.1 hy with rfl | hy
    · exact b1
    · have := a2 y hy
      omega⟩
theorem pc_uniq {L : List Gn} {id : Int} {r s : Nat} (h : Pc L id r) (k : Pc L id s) : r = s := by
  obtain ⟨h0, h1, h2⟩ := h
  obtain ⟨k0, k1, k2⟩ := k
  rcases Nat.lt_trichotomy r s with c | c | c
  · have e := List.getElem?_eq_getElem (show r < L.length by omega)
    have := h2 _ e
    have := k1 _ _ e c
    omega
  · exact c
  · have e := List.getElem?_eq_getElem (show s < L.length by omega)
    have := k2 _ e
    have := h1 _ _ e c
    omega
structure Inv (M C S : Int) (L : List Gn) : Prop where
  up : rise L
  len : L.length ≤ 64
  win : gOk C L
  sum : sOk M S L
  ids : ∀ x ∈ L, 1 ≤ x.id ∧ x.id ≤ 2147483647
section
variable {M C S : Int} {L : List Gn}
theorem sOk.more {M M' S : Int} {L : List Gn} (h : sOk M S L) (hm : M ≤ M') : sOk M' S L := ⟨⟨h.1.1, by have := h.1.2; omega⟩, fun x hx => ⟨(h.2 x hx).1, by have := (h.2 x hx).2; omega⟩⟩
theorem Inv.more (h : Inv M C S L) {M' : Int} (hm : M ≤ M') : Inv M' C S L := ⟨h.up, h.len, h.win, h.sum.more hm, h.ids⟩
theorem mem_ins {x y : Gn} {k : Nat} (h : x ∈ L.take k ++ y :: L.drop k) : x = y ∨ x ∈ L := by
  simp only [List.mem_append, List.mem_cons] at h
  rcases h with h | rfl | h
  · exact .inr (List.mem_of_mem_take h)
  · exact .inl rfl
  · exact .inr (List.mem_of_mem_drop h)
theorem Inv.ins (h : Inv M C S L) (hM : 0 ≤ M) {id n : Int} {k wb : Nat} (hk : Pc L id k) (ho : outL L id) (hl : L.length < 64) (h1 : 1 ≤ id) (h2 : id ≤ 2147483647) (hn : 0 ≤ n ∧ n ≤ 2147483647) : Inv M C S (L.take k ++ ⟨id, 0, n, wb⟩ :: L.drop k) := by
  refine ⟨rise_ins h.up hk ho, ?_, ⟨h.win.1, fun x hx => ?_⟩, ⟨h.sum.1, fun x hx => ?_⟩, fun x hx => ?_⟩
  · have := hk.1
    simp
    omega
  · rcases mem_ins hx with rfl | hx
    · unfold winOk; dsimp only; omega
    · exact h.win.2 x hx
  · rcases mem_ins hx with rfl | hx
    · exact ⟨Int.le_refl _, hM⟩
    · exact h.sum.2 x hx
  · rcases mem_ins hx with rfl | hx
    · exact ⟨h1, h2⟩
    · exact h.ids x hx
theorem Inv.sub (h : Inv M C S L) {L' : List Gn} (e : L'.Sublist L) : Inv M C S L' :=
  ⟨rise_sub h.up e, Nat.le_trans e.length_le h.len, ⟨h.win.1, fun x hx => h.win.2 x (e.subset hx)⟩, ⟨h.sum.1, fun x hx => h.sum.2 x (e.subset hx)⟩, fun x hx => h.ids x (e.subset hx)⟩
theorem set_ids {i : Nat} {x y : Gn} (hx : L[i]? = some x) (e : y.id = x.id) : (L.set i y).map (·.id) = L.map (·.id) := map_set_same (·.id) hx e
theorem Inv.setG (h : Inv M C S L) {i : Nat} {x y : Gn} (hx : L[i]? = some x) (e : y.id = x.id) {M' C' S' : Int} (hm : M ≤ M') (hC : winOk C') (hS : 0 ≤ S' ∧ S' ≤ M') (hw : winOk y.n) (hs : 0 ≤ y.s ∧ y.s ≤ M') : Inv M' C' S' (L.set i y) := by
  refine ⟨rise_same h.up (set_ids hx e), by rw [List.length_set]; exact h.len, ⟨hC, fun z hz => ?_⟩, ⟨hS, fun z hz => ?_⟩, fun z hz => ?_⟩
  · rcases mem_set hx hz with rfl | ⟨j, _, hz⟩
    · exact hw
    · exact h.win.2 z (List.mem_of_getElem? hz)
  · rcases mem_set hx hz with rfl | ⟨j, _, hz⟩
    · exact hs
    · have := h.sum.2 z (List.mem_of_getElem? hz)
      omega
  · rcases mem_set hx hz with rfl | ⟨j, _, hz⟩
    · rw [e]; exact h.ids x (List.mem_of_getElem? hx)
    · exact h.ids z (List.mem_of_getElem? hz)
theorem chN_ok {n k : Int} (hn : winOk n) : winOk (chN n k) := by
  unfold chN chB
  split
  · rename_i h
    simpa [winOk] using h
  · exact hn
theorem growN_ok {n k : Int} (hn : winOk n) : winOk (growN n k) := by
  unfold growN
  split
  · exact chN_ok hn
  · exact hn
theorem resN_ok {n a c : Int} (hn : winOk n) : winOk (resN n a c) := by
  unfold resN
  split
  · exact chN_ok hn
  · exact hn
theorem rzZ_mem {f t : Int} {bs : List Nat} {y : Gn} (hb : bs.length = L.length) (h : y ∈ rzZ f t L bs) : ∃ x ∈ L, y.id = x.id ∧ y.s = x.s ∧ y.n = resN x.n f t := by
  obtain ⟨j, hj⟩ := List.mem_iff_getElem?.1 h
  have hjl := (List.getElem?_eq_some_iff.1 hj).1
  rw [rzZ_len hb] at hjl
  have hx := List.getElem?_eq_getElem hjl
  have hc := List.getElem?_eq_getElem (show j < bs.length by omega)
  rw [rzZ_at hx hc] at hj
  injection hj with hj
  subst hj
  exact ⟨_, List.getElem_mem hjl, rfl, rfl, rfl⟩
theorem rzZ_map {f t : Int} {bs : List Nat} {β : Type} (F : Gn → β) (hF : ∀ (x : Gn) (c d : Nat), F ⟨x.id, x.s, resN x.n f t, c⟩ = F ⟨x.id, x.s, resN x.n f t, d⟩) (hb : bs.length = L.length) : (rzZ f t L bs).map F = (rzL f t L).map F := by
  apply List.ext_getElem?
  intro j
  rw [List.getElem?_map, List.getElem?_map]
  by_cases hj : j < L.length
  · have hx := List.getElem?_eq_getElem hj
    have hc := List.getElem?_eq_getElem (show j < bs.length by omega)
    rw [rzZ_at hx hc, List.getElem?_map, hx]
    exact congrArg some (hF L[j] bs[j] L[j].b)
  · rw [List.getElem?_eq_none (by rw [rzZ_len hb]; omega), List.getElem?_eq_none (by simp; omega)]
theorem Inv.rz (h : Inv M C S L) {f t : Int} {bs : List Nat} (hb : bs.length = L.length) : Inv M C S (rzZ f t L bs) := by
  refine ⟨rise_same h.up ?_, by rw [rzZ_len hb]; exact h.len, ⟨h.win.1, fun y hy => ?_⟩, ⟨h.sum.1, fun y hy => ?_⟩, fun y hy => ?_⟩
  · rw [rzZ_map (·.id) (fun _ _ _ => rfl) hb]
    simp [rzL, rzG]
  · obtain ⟨x, hx, _, _, e⟩ := rzZ_mem hb hy
    rw [e]
    exact resN_ok (h.win.2 x hx)
  · obtain ⟨x, hx, _, e, _⟩ := rzZ_mem hb hy
    rw [e]
    exact h.sum.2 x hx
  · obtain ⟨x, hx, e, _, _⟩ := rzZ_mem hb hy
    rw [e]
    exact h.ids x hx
end
/-! ### both -/
def Both (F : Nat) (rargs : Array Value) (w : World) (b cb xb base : Nat) (M C S : Int) (v vx : Value) (L : List Gn) (x : Ending) (w' : World) : Prop :=
  ∃ (r C' S' : Int) (v' : Value) (L' : List Gn), x = .returned (.int .i64 r) ∧ Lg w' b cb base C' S' v' L' ∧ Only (Ft b cb v L) w w' ∧ Inv (M + 2147483648) C' S' L' ∧
    ∀ W, Rl W xb base C S vx L → Calls Try.prog F rargs W (RPost W xb base (.int .i64 r) C' S' L')
theorem Rl.same {W : World} {xb base : Nat} {C S : Int} {v : Value} {L L' : List Gn} (h : Rl W xb base C S v L) (e : lns L' = lns L) : Rl W xb base C S v L' := ⟨h.blk, by rw [e]; exact h.own, h.hb⟩
section
variable {w : World} {b cb xb base : Nat} {M C S : Int} {v vx : Value} {L : List Gn}
theorem RPost.nil {W W' : World} {x : Ending} {r : Int} (q : Rl W xb base C S vx L) (hx : x = .returned (.int .i64 r)) (ho : Only Nil W W') : RPost W xb base (.int .i64 r) C S L x W' := ⟨vx, hx, q.kept ho, ho.of_nil _⟩
theorem RPost.eq {W W' : World} {x : Ending} {r : Int} (q : Rl W xb base C S vx L) (hx : x = .returned (.int .i64 r)) (ho : W = W') : RPost W xb base (.int .i64 r) C S L x W' := by subst ho; exact ⟨vx, hx, q, Only.refl _ _⟩
theorem szB_iff (n : Int) : szB n = true ↔ 0 ≤ n ∧ n ≤ 2147483647 := by simp [szB]
theorem both_open (id n : Int) (h : Lg w b cb base C S v L) (hi : Inv M C S L) (hM : 0 ≤ M) :
    Calls Try.prog 11 #[.pointer (some ⟨b, 0, none⟩), .int .i64 id, .int .i64 n] w (Both 22 #[.pointer (some ⟨xb, 0, none⟩), .int .i64 id, .int .i64 n] w b cb xb base M C S v vx L) := by
  have hl := hi.len
  have hMm : M ≤ M + 2147483648 := by omega
  by_cases a1 : id < 1 ∨ 2147483647 < id
  · refine (Open_arg id n w a1).mono ?_
    rintro x w' ⟨rfl, rfl⟩
    exact ⟨2, C, S, v, L, rfl, h, Only.refl _ _, hi.more hMm, fun W q => (ROpen_arg id n W a1).mono fun x w' hh => RPost.eq q hh.1 hh.2⟩
  · have i1 : 1 ≤ id := by omega
    have i2 : id ≤ 2147483647 := by omega
    by_cases a2 : 0 ≤ n ∧ n ≤ 2147483647
    · have sz := (szB_iff n).2 a2
      rcases in_or_out L id with ho | ⟨i, y, hy, e⟩
      · by_cases a3 : 64 ≤ L.length
        · refine (Open_full id n w h (by omega) ho a3 i1 i2 a2).mono ?_
          rintro x w' ⟨rfl, ho'⟩
          exact ⟨16, C, S, v, L, rfl, h.kept ho', ho'.of_nil _, hi.more hMm, fun W q => (ROpen_full id n W q (by omega) ho a3 i1 i2 sz).mono fun x w' hh => RPost.eq q hh.1 hh.2⟩
        · refine (Open_new id n w h ho (by omega) i1 i2 a2).mono ?_
          rintro x w' ⟨r, wb, hp, v', rfl, hL, hO⟩
          refine ⟨0, C, S, v', _, rfl, hL, hO, (hi.ins hM hp ho (by omega) i1 i2 a2).more hMm, fun W q => (ROpen_new id n wb W q ho (by omega) i1 i2 sz).mono ?_⟩
          rintro x w' ⟨s, hs, hR⟩
          obtain rfl := pc_uniq hs hp
          exact hR
      · refine (Open_there i y id n w h (by omega) hi.up hy e i1 i2 a2).mono ?_
        rintro x w' ⟨rfl, ho'⟩
        exact ⟨8, C, S, v, L, rfl, h.kept ho', ho'.of_nil _, hi.more hMm, fun W q => (ROpen_there i y id n W q (by omega) hi.up hy e i1 i2 sz).mono fun x w' hh => RPost.eq q hh.1 hh.2⟩
    · have sz : szB n = false := by
        cases hs : szB n with
        | false => rfl
        | true => exact absurd ((szB_iff n).1 hs) a2
      refine (Open_range id n w i1 i2 a2).mono ?_
      rintro x w' ⟨rfl, rfl⟩
      exact ⟨3, C, S, v, L, rfl, h, Only.refl _ _, hi.more hMm, fun W q => (ROpen_range id n W i1 i2 sz).mono fun x w' hh => RPost.eq q hh.1 hh.2⟩
theorem both_close (id : Int) (h : Lg w b cb base C S v L) (hi : Inv M C S L) :
    Calls Try.prog 12 #[.pointer (some ⟨b, 0, none⟩), .int .i64 id] w (Both 23 #[.pointer (some ⟨xb, 0, none⟩), .int .i64 id] w b cb xb base M C S v vx L) := by
  have hl := hi.len
  have hMm : M ≤ M + 2147483648 := by omega
  rcases in_or_out L id with ho | ⟨i, y, hy, e⟩
  · refine (Close_out id w h (by omega) ho).mono ?_
    rintro x w' ⟨rfl, ho'⟩
    exact ⟨7, C, S, v, L, rfl, h.kept ho', ho'.of_nil _, hi.more hMm, fun W q => (RClose_out id W q (by omega) ho).mono fun x w' hh => RPost.nil q hh.1 hh.2⟩
  · refine (Close_in i y id w h (by omega) hi.up hy e).mono ?_
    rintro x w' ⟨v', rfl, hL, hO⟩
    exact ⟨0, C, S, v', _, rfl, hL, hO, (hi.sub (List.eraseIdx_sublist ..)).more hMm, fun W q => RClose_in i y id W q (by omega) hi.up hy e⟩
theorem both_spend (id k : Int) (h : Lg w b cb base C S v L) (hi : Inv M C S L) (hM : M ≤ 900000000000) :
    Calls Try.prog 16 #[.pointer (some ⟨b, 0, none⟩), .int .i64 id, .int .i64 k] w (Both 26 #[.pointer (some ⟨xb, 0, none⟩), .int .i64 id, .int .i64 k] w b cb xb base M C S v vx L) := by
  have hl := hi.len
  have hMm : M ≤ M + 2147483648 := by omega
  have hs := hi.sum.more (show M ≤ 1000000000000 by omega)
  rcases in_or_out L id with ho | ⟨i, y, hy, e⟩
  · refine (Spend_out id k w h (by omega) ho).mono ?_
    rintro x w' ⟨rfl, ho'⟩
    exact ⟨7, C, S, v, L, rfl, h.kept ho', ho'.of_nil _, hi.more hMm, fun W q => (RSpend_out id k W q (by omega) ho).mono fun x w' hh => RPost.nil q hh.1 hh.2⟩
  · by_cases a1 : k < 0
    · refine (Spend_neg i y id k w h (by omega) hi.up hy e a1).mono ?_
      rintro x w' ⟨rfl, ho'⟩
      exact ⟨2, C, S, v, L, rfl, h.kept ho', ho'.of_nil _, hi.more hMm, fun W q => (RSpend_neg i y id k W q (by omega) hi.up hy e a1).mono fun x w' hh => RPost.nil q hh.1 hh.2⟩
    · have hfr : 0 ≤ frI C y.n := by unfold frI; omega
      by_cases a2 : frI C y.n < k
      · refine (Spend_over i y id k w h (by omega) hi.up hy e (by omega) a2).mono ?_
        rintro x w' ⟨rfl, ho'⟩
        exact ⟨9, C, S, v, L, rfl, h.kept ho', ho'.of_nil _, hi.more hMm, fun W q => (RSpend_over i y id k W q (by omega) hi.up hy e (by omega) a2).mono fun x w' hh => RPost.nil q hh.1 hh.2⟩
      · refine (Spend_in i y id k w h (by omega) hi.up hy e (by omega) (fun _ => by omega) hi.win hs).mono ?_
        rintro x w' ⟨v', rfl, hL, hO⟩
        have hC := hi.win.1
        have hyn := hi.win.2 y (List.mem_of_getElem? hy)
        have hys := hi.sum.2 y (List.mem_of_getElem? hy)
        have hS := hi.sum.1
        have hk2 : k ≤ 2147483647 := by unfold frI at a2; have := hC.2; omega
        have hk3 : winOk (C - k) ∧ winOk (y.n - k) := by
          unfold winOk frI at *
          omega
        refine ⟨0, C - k, S + k, v', _, rfl, hL, hO, hi.setG (y := ⟨y.id, y.s + k, y.n - k, y.b⟩) (C' := C - k) (S' := S + k) hy rfl hMm hk3.1 (by omega) hk3.2 (by dsimp only; omega), fun W q => ?_⟩
        rw [e]
        exact RSpend_in i y id k W q (by omega) hi.up hy e (by omega) (by omega) hi.win hs y.b
theorem both_grow (id k : Int) (hk : i64Ok k) (h : Lg w b cb base C S v L) (hi : Inv M C S L) :
    Calls Try.prog 13 #[.pointer (some ⟨b, 0, none⟩), .int .i64 id, .int .i64 k] w (Both 24 #[.pointer (some ⟨xb, 0, none⟩), .int .i64 id, .int .i64 k] w b cb xb base M C S v vx L) := by
  have hl := hi.len
  have hMm : M ≤ M + 2147483648 := by omega
  by_cases a0 : id = 0
  · subst a0
    refine (Grow_0 k w h hi.win).mono ?_
    rintro x w' ⟨v', rfl, hL, hO⟩
    exact ⟨_, _, S, v', L, rfl, hL, hO, ⟨hi.up, hi.len, ⟨growN_ok hi.win.1, hi.win.2⟩, hi.sum.more hMm, hi.ids⟩, fun W q => RGrow_0 k W q hi.win hk⟩
  · have h0 : (id == 0) = false := by simpa using a0
    rcases in_or_out L id with ho | ⟨i, y, hy, e⟩
    · refine (Grow_out id k w h (by omega) h0 ho).mono ?_
      rintro x w' ⟨rfl, ho'⟩
      exact ⟨7, C, S, v, L, rfl, h.kept ho', ho'.of_nil _, hi.more hMm, fun W q => (RGrow_out id k W q (by omega) h0 ho).mono fun x w' hh => RPost.nil q hh.1 hh.2⟩
    · refine (Grow_in i y id k w h (by omega) hi.up hy e h0 hi.win).mono ?_
      rintro x w' ⟨v', rfl, hL, hO⟩
      have hys := hi.sum.2 y (List.mem_of_getElem? hy)
      refine ⟨_, C, S, v', _, rfl, hL, hO, hi.setG (y := ⟨y.id, y.s, growN y.n k, y.b⟩) hy rfl hMm hi.win.1 (by have := hi.sum.1; omega) (growN_ok (hi.win.2 y (List.mem_of_getElem? hy))) (by dsimp only; omega), fun W q => ?_⟩
      rw [e]
      exact RGrow_in i y id k W q (by omega) hi.up hy e h0 hi.win hk y.b
theorem both_resize (f t : Int) (hf : i64Ok f) (ht : i64Ok t) (h : Lg w b cb base C S v L) (hi : Inv M C S L) :
    Calls Try.prog 15 #[.pointer (some ⟨b, 0, none⟩), .int .i64 f, .int .i64 t] w (Both 25 #[.pointer (some ⟨xb, 0, none⟩), .int .i64 f, .int .i64 t] w b cb xb base M C S v vx L) := by
  have hl := hi.len
  have hMm : M ≤ M + 2147483648 := by omega
  cases hs : (szB f && szB t) with
  | false =>
    refine (Resize_arg f t w hs).mono ?_
    rintro x w' ⟨rfl, ho'⟩
    exact ⟨2, C, S, v, L, rfl, h.kept ho', ho'.of_nil _, hi.more hMm, fun W q => (RResize_arg f t W hs).mono fun x w' hh => RPost.eq q hh.1 hh.2⟩
  | true =>
    obtain ⟨i, hz⟩ := rzTo_ex f t hs L
    refine (Resize_any f t i w h (by omega) hs hi.win hz).mono ?_
    intro x w' hx
    by_cases hil : i < L.length
    · unfold RsPost at hx
      rw [if_pos hil] at hx
      obtain ⟨rfl, ho'⟩ := hx
      refine ⟨10, C, S, v, L, rfl, h.kept ho', ho'.of_nil _, hi.more hMm, fun W q => (RResize_any f t i W q (by omega) hs hi.win hf ht hz).mono ?_⟩
      intro x w' hx
      unfold RzPost at hx
      rw [if_pos hil] at hx
      exact ⟨vx, hx⟩
    · unfold RsPost at hx
      rw [if_neg hil] at hx
      obtain ⟨bs, hb, v', rfl, hL, hO⟩ := hx
      refine ⟨0, C, S, v', _, rfl, hL, hO, (hi.rz hb).more hMm, fun W q => (RResize_any f t i W q (by omega) hs hi.win hf ht hz).mono ?_⟩
      intro x w' hx
      unfold RzPost at hx
      rw [if_neg hil] at hx
      obtain ⟨vx', hx1, hx2, hx3⟩ := hx
      exact ⟨vx', hx1, hx2.same (rzZ_map Gn.ln (fun _ _ _ => rfl) hb), hx3⟩
end
end Go.Proofs.Ytlnemadkggfmbaa
