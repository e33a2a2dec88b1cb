/- Set and Del of both, the table and the document's row: they answer alike. -/
import Derived.Test.YtkidhfcokckomaaDo13b
namespace Go.Proofs.Ytkidhfcokckomaa
open Go.RowKit

theorem Tb.drew {w : World} {b base : Nat} {most : Int} {v1 v2 : Value} {I V : List Int} (h : Tb w b base most v1 v2 I V) : Tb w.drew b base most v1 v2 I V := h.kept (Only.refl Nil w).drew
theorem map_set_fst {R : List (Int × Int)} {r : Nat} {id y v : Int} (h : R[r]? = some (id, y)) : (R.set r (id, v)).map (·.1) = R.map (·.1) := by
  apply List.ext_getElem?
  intro i
  rw [List.getElem?_map, List.getElem?_map]
  by_cases e : i = r
  · subst e
    rw [List.getElem?_set_self (List.getElem?_eq_some_iff.1 h).1, h]
    rfl
  · rw [List.getElem?_set_ne (Ne.symm e)]
theorem Sq.cell2_at {W : World} {B b1 o1 : Nat} {R : List (Int × Int)} (h : Sq encP 2 W B (some ⟨b1, o1, none⟩) R) {r : Nat} {id y : Int} (hy : R[r]? = some (id, y)) :
    W.cell? ⟨b1, o1 + r * 2, none⟩ = some (.int .i64 id) ∧ W.cell? ⟨b1, o1 + r * 2 + 1, none⟩ = some (.int .i64 y) := by
  obtain ⟨b, off, x, e, _, hx, _, hc⟩ := h.at_ (k := r) (List.getElem?_eq_some_iff.1 hy).1
  injection e with e
  injection e with e1 e2
  subst e1 e2
  rw [hy] at hx
  injection hx with hx
  subst hx
  exact Sq.cells2 hc
section
variable {w w' : World} {b base : Nat} {most : Int} {v1 v2 : Value} {A : Option Addr} {c : Nat} {R : List (Int × Int)}
set_option maxRecDepth 100000 in
set_option maxHeartbeats 4000000 in
theorem do_set_out (id v : Int) (w : World) (h : S13 w b base most v1 v2 A c R) (hn : R.length ≤ 1000) (hid : id ∉ R.map (·.1)) :
    Calls Try.prog 8 #[.pointer (some ⟨b, 0, none⟩), .agg #[.slice A R.length c], .int .i64 most, .agg #[.int .i64 3, .int .i64 id, .int .i64 v]] w (DoPost w b base most R) := by
  have hF := Lib.hid (fun W (ho : Only Nil w W) => Find_out id c W ((h.row.sqn (encP_len _)).go ho) (by omega) hid)
  have hP := Lib.hid (fun W (ho : Only Nil w W) => Set_out id v W (h.tb.kept ho) h.ris (by rw [List.length_map]; omega) hid)
  have hfin := Lib.hid h
  have hsz := h.sz
  have hro := h.row
  have hX1 := (((Only.refl Nil w).alloc (.cells #[.slice A R.length c] 30)).alloc (.cells #[.int .i64 3, .int .i64 id, .int .i64 v] 34)).alloc (.cells #[.slice none 0 0] 30)
  have bx0 := Bx.new (A := A) (n := R.length) (c := c) (kd := 3) (id := id) (v := v) w
  have hr0 := hX1.size
  clear h
  generalize hnn : R.length = n at *
  have HN := Lib.hid hnn
  clear hnn
  go_enter Try.func8, Try.ntmps8
  go_wp2_with (first
    | (go_at_call 21; (with_reducible refine (hF.out _ hX1).mono ?_); rintro e w1 ⟨rfl, ho1⟩; have hx1 := hX1.trans ho1; have bx1 := bx0.kept ho1; obtain ⟨a1, a2, a3, a4, a5, a6, a7, a8, a9⟩ := bx1.facts)
    | (go_at_call 20; (with_reducible refine (hP.out _ hx1).mono ?_); rintro e w2 ⟨rfl, ho2⟩; have hx2 := hx1.trans ho2; have bx2 := bx1.kept ho2; obtain ⟨c1, c2, c3, c4, c5, c6, c7, c8, c9⟩ := bx2.facts; have k1 := bx2.res (.slice A n c))
    )
  all_goals exact bodyPost_ret (v := .tuple #[.agg #[.slice A n c], .bool true]) (by simp [results, Try.results8, go_sem, k1]) rfl (DoPost.same hfin.out HN.out hx2 rfl _)
set_option maxRecDepth 100000 in
set_option maxHeartbeats 4000000 in
theorem do_set_in (id v : Int) (w : World) (h : S13 w b base most v1 v2 A c R) (hn : R.length ≤ 1000) (r : Nat) (y : Int) (hy : R[r]? = some (id, y)) :
    Calls Try.prog 8 #[.pointer (some ⟨b, 0, none⟩), .agg #[.slice A R.length c], .int .i64 most, .agg #[.int .i64 3, .int .i64 id, .int .i64 v]] w (DoPost w b base most R) := by
  have hF := Lib.hid (fun W (ho : Only Nil w W) => Find_in id y r c W ((h.row.sqn (encP_len _)).go ho) (by omega) h.ris hy)
  have hP := Lib.hid (fun W (ho : Only Nil w W) => Set_in id v W (h.tb.kept ho) h.ris (by rw [List.length_map]; omega) (mem_of_row hy))
  have hR := Lib.hid (fun W (hs : Sq encP 2 W W.heap.size A R) => Set_row id v c W hs (by omega))
  have HY := Lib.hid hy
  clear hy
  have hfin := Lib.hid h
  have hsz := h.sz
  have hro := h.row
  have hX1 := (((Only.refl Nil w).alloc (.cells #[.slice A R.length c] 30)).alloc (.cells #[.int .i64 3, .int .i64 id, .int .i64 v] 34)).alloc (.cells #[.slice none 0 0] 30)
  have bx0 := Bx.new (A := A) (n := R.length) (c := c) (kd := 3) (id := id) (v := v) w
  have hr0 := hX1.size
  clear h
  generalize hnn : R.length = n at *
  have HN := Lib.hid hnn
  clear hnn
  go_enter Try.func8, Try.ntmps8
  go_wp2_with (first
    | (go_at_call 21; (with_reducible refine (hF.out _ hX1).mono ?_); rintro e w1 ⟨rfl, ho1⟩; have hx1 := hX1.trans ho1; have bx1 := bx0.kept ho1; obtain ⟨a1, a2, a3, a4, a5, a6, a7, a8, a9⟩ := bx1.facts)
    | (go_at_call 20; (with_reducible refine (hP.out _ hx1).mono ?_); rintro e w2 ⟨r', rfl, hr2, ht2, hb2, hT2⟩; have bx2 := bx1.oth hT2; have hrow2 := (hro.kept hx1 (fun _ _ hh => hh)).oth hT2; obtain ⟨c1, c2, c3, c4, c5, c6, c7, c8, c9⟩ := bx2.facts)
    | (go_at_call 23; (with_reducible refine (hR.out _ (hrow2.sqn (encP_len _))).mono ?_); rintro e w3 ⟨k, hk3, A3, cc3, rfl, hs3, ho3⟩; have bx3 := bx2.kept ho3; have ht3 := ht2.kept ho3; obtain ⟨d1, d2, d3, d4, d5, d6, d7, d8, d9⟩ := bx3.facts; have k1 := bx3.res (.slice A3 (ins (wo id R) id v k).length cc3))
    )
  all_goals
    have hB2 := (hx1.below hsz (fun _ _ hh => hh)).trans hb2
    have hsf := hfin.out
    have hri := hsf.ris
    have hy := HY.out
    have er := place hri hy hr2
    rw [er] at ht3
    have hmono := hs3.mono (base' := base) (Nat.le_trans hsz hB2.size)
    have eqR := set_in (v := v) hri hy hk3
    have htt : Tb w3 b base most v1 v2 ((ins (wo id R) id v k).map (·.1)) ((ins (wo id R) id v k).map (·.2)) := by
      rw [eqR, map_set_fst hy, List.map_set]
      exact ht3
    have hB3 := hB2.trans (ho3.below (Nat.le_trans hsz hB2.size) (fun _ _ hh => hh))
    have hT3 := ((Oth.of_nil hx1).trans hT2).trans (Oth.of_nil ho3)
    have hll : (ins (wo id R) id v k).length ≤ R.length + 1 := by rw [eqR, List.length_set]; omega
    exact bodyPost_ret (v := .tuple #[.agg #[.slice A3 (ins (wo id R) id v k).length cc3], .bool true]) (by simp [results, Try.results8, go_sem, k1]) rfl (DoPost.new hsz ⟨htt, hmono, by rw [eqR, map_set_fst hy]; exact hri⟩ hll hB3 hT3 bx3.2.2 _ rfl)
set_option maxRecDepth 100000 in
set_option maxHeartbeats 4000000 in
theorem do_del_out (id v : Int) (w : World) (h : S13 w b base most v1 v2 A c R) (hn : R.length ≤ 1000) (hid : id ∉ R.map (·.1)) :
    Calls Try.prog 8 #[.pointer (some ⟨b, 0, none⟩), .agg #[.slice A R.length c], .int .i64 most, .agg #[.int .i64 4, .int .i64 id, .int .i64 v]] w (DoPost w b base most R) := by
  have hF := Lib.hid (fun W (ho : Only Nil w W) => Find_out id c W ((h.row.sqn (encP_len _)).go ho) (by omega) hid)
  have hP := Lib.hid (fun W (ho : Only Nil w W) => Del_out id W (h.tb.kept ho) h.ris (by rw [List.length_map]; omega) hid)
  have hfin := Lib.hid h
  have hsz := h.sz
  have hro := h.row
  have hX1 := (((Only.refl Nil w).alloc (.cells #[.slice A R.length c] 30)).alloc (.cells #[.int .i64 4, .int .i64 id, .int .i64 v] 34)).alloc (.cells #[.slice none 0 0] 30)
  have bx0 := Bx.new (A := A) (n := R.length) (c := c) (kd := 4) (id := id) (v := v) w
  have hr0 := hX1.size
  clear h
  generalize hnn : R.length = n at *
  have HN := Lib.hid hnn
  clear hnn
  go_enter Try.func8, Try.ntmps8
  go_wp2_with (first
    | (go_at_call 21; (with_reducible refine (hF.out _ hX1).mono ?_); rintro e w1 ⟨rfl, ho1⟩; have hx1 := hX1.trans ho1; have bx1 := bx0.kept ho1; obtain ⟨a1, a2, a3, a4, a5, a6, a7, a8, a9⟩ := bx1.facts)
    | (go_at_call 17; (with_reducible refine (hP.out _ hx1).mono ?_); rintro e w2 ⟨rfl, ho2⟩; have hx2 := hx1.trans ho2; have bx2 := bx1.kept ho2; obtain ⟨c1, c2, c3, c4, c5, c6, c7, c8, c9⟩ := bx2.facts; have k1 := bx2.res (.slice A n c))
    )
  all_goals exact bodyPost_ret (v := .tuple #[.agg #[.slice A n c], .bool true]) (by simp [results, Try.results8, go_sem, k1]) rfl (DoPost.same hfin.out HN.out hx2 rfl _)
theorem s4_of {n0 n b1 o1 r : Nat} {kd id v y : Int} {W : World} (bx : Bx n0 (some ⟨b1, o1, none⟩) n c kd id v W) (hr : Ow encP 2 W base 47 (.slice (some ⟨b1, o1, none⟩) n c) R) (hy : R[r]? = some (id, y)) (u : Value) :
    (W.setCell ⟨n0 + 1 + 1, 0, none⟩ u).cell? ⟨n0, 0, none⟩ = some (.slice (some ⟨b1, o1, none⟩) n c) ∧ (W.setCell ⟨n0 + 1 + 1, 0, none⟩ u).cell? ⟨n0 + 1, 1, none⟩ = some (.int .i64 id) ∧ (W.setCell ⟨n0 + 1 + 1, 0, none⟩ u).cell? ⟨b1, o1 + r * 2 + 1, none⟩ = some (.int .i64 y) :=
  ⟨(bx.1.far (p := ⟨n0 + 1 + 1, 0, none⟩) (by show n0 ≠ n0 + 1 + 1; omega) u).cell 0, (bx.2.1.far (p := ⟨n0 + 1 + 1, 0, none⟩) (by show n0 + 1 ≠ n0 + 1 + 1; omega) u).cell 1, (((hr.set (hr.ne bx.2.2 (by decide)) 0 u).sqn (encP_len _)).cell2_at hy).2⟩
theorem Del_row_in (id y : Int) (r : Nat) (W : World) (h : Tb W b base most v1 v2 (R.map (·.1)) (R.map (·.2))) (hri : rising (R.map (·.1))) (hn : R.length ≤ 1000) (hy : R[r]? = some (id, y)) :
    Calls Try.prog 17 #[.pointer (some ⟨b, 0, none⟩), .int .i64 id] W fun x w' => ∃ v1' v2', x = .returned (.tuple #[.int .i64 y, .bool true]) ∧ Tb w' b base most v1' v2' ((wo id R).map (·.1)) ((wo id R).map (·.2)) ∧ Below base W w' ∧ Oth W w' := by
  refine (Del_in id W h hri (by rw [List.length_map]; omega) (mem_of_row hy)).mono ?_
  rintro x w' ⟨s, z, v1', v2', rfl, h1, h2, h3, h4, h5⟩
  have := place hri hy h1
  subst this
  rw [List.getElem?_map, hy] at h2
  injection h2 with h2
  subst h2
  exact ⟨v1', v2', rfl, by rw [(wo_in hri hy).1, map_erase, map_erase]; exact h3, h4, h5⟩
set_option maxRecDepth 100000 in
set_option maxHeartbeats 4000000 in
theorem do_del_in (id v : Int) (w : World) (h : S13 w b base most v1 v2 A c R) (hn : R.length ≤ 1000) (r : Nat) (y : Int) (hy : R[r]? = some (id, y)) :
    Calls Try.prog 8 #[.pointer (some ⟨b, 0, none⟩), .agg #[.slice A R.length c], .int .i64 most, .agg #[.int .i64 4, .int .i64 id, .int .i64 v]] w (DoPost w b base most R) := by
  obtain ⟨b1, o1, _, rfl, _, _, _, _⟩ := (h.row.sqn (encP_len _)).at_ (k := r) (List.getElem?_eq_some_iff.1 hy).1
  have hF := Lib.hid (fun W (ho : Only Nil w W) => Find_in id y r c W ((h.row.sqn (encP_len _)).go ho) (by omega) h.ris hy)
  have hP := Lib.hid (fun W (ho : Only Nil w W) => Del_row_in id y r W (h.tb.kept ho) h.ris hn hy)
  have hR := Lib.hid (fun W (hs : Sq encP 2 W W.heap.size (some ⟨b1, o1, none⟩) R) => Del_row id c W hs (by omega))
  have HY := Lib.hid hy
  have hrn : (r : Int) < R.length := by have := (List.getElem?_eq_some_iff.1 hy).1; omega
  clear hy
  have hfin := Lib.hid h
  have hsz := h.sz
  have hro := h.row
  have hX1 := (((Only.refl Nil w).alloc (.cells #[.slice (some ⟨b1, o1, none⟩) R.length c] 30)).alloc (.cells #[.int .i64 4, .int .i64 id, .int .i64 v] 34)).alloc (.cells #[.slice none 0 0] 30)
  have bx0 := Bx.new (A := (some ⟨b1, o1, none⟩)) (n := R.length) (c := c) (kd := 4) (id := id) (v := v) w
  have hr0 := hX1.size
  clear h
  generalize hnn : R.length = n at *
  have HN := Lib.hid hnn
  clear hnn
  go_enter Try.func8, Try.ntmps8
  go_wp2_with (first
    | (go_at_call 21; (with_reducible refine (hF.out _ hX1).mono ?_); rintro e w1 ⟨rfl, ho1⟩; have hx1 := hX1.trans ho1; have bx1 := bx0.kept ho1; obtain ⟨a1, a2, a3, a4, a5, a6, a7, a8, a9⟩ := bx1.facts)
    | (go_at_call 17; (with_reducible refine (hP.out _ hx1).mono ?_); rintro e w2 ⟨v1', v2', rfl, ht2, hb2, hT2⟩; have bx2 := bx1.oth hT2; have hrow2 := (hro.kept hx1 (fun _ _ hh => hh)).oth hT2; obtain ⟨c1, c2, c3, c4, c5, c6, c7, c8, c9⟩ := bx2.facts)
    )
  have hcy := (hrow2.sqn (encP_len _)).cell2_at HY.out
  have s0 : w2.drew.cell? ⟨w.heap.size, 0, none⟩ = some (.slice (some ⟨b1, o1, none⟩) n c) ∧ w2.drew.cell? ⟨w.heap.size + 1, 1, none⟩ = some (.int .i64 id) ∧ w2.drew.cell? ⟨b1, o1 + r * 2 + 1, none⟩ = some (.int .i64 y) := ⟨c1, c3, hcy.2⟩
  have hRd := hR.out _ (hrow2.drew.sqn (encP_len _))
  have bx2d : Bx w.heap.size (some ⟨b1, o1, none⟩) n c 4 id v w2.drew := bx2
  have hr2d := hrow2.drew
  go_region_held3 (fun W => W.cell? ⟨w.heap.size, 0, none⟩ = some (.slice (some ⟨b1, o1, none⟩) n c) ∧ W.cell? ⟨w.heap.size + 1, 1, none⟩ = some (.int .i64 id) ∧ W.cell? ⟨b1, o1 + r * 2 + 1, none⟩ = some (.int .i64 y)) (with_reducible (first | exact s0 | exact s3 | exact s4)) (first
    | (go_at_call 13; (with_reducible refine hRd.mono ?_); rintro e w3 ⟨A3, cc3, rfl, hs3, ho3⟩; have bx3 := bx2d.kept ho3; have hr3 := hr2d.kept ho3 (fun _ _ hh => hh); obtain ⟨d1, d2, d3, d4, d5, d6, d7, d8, d9⟩ := bx3.facts; have hcy3 := (hr3.sqn (encP_len _)).cell2_at HY.out; have s3 : w3.cell? ⟨w.heap.size, 0, none⟩ = some (.slice (some ⟨b1, o1, none⟩) n c) ∧ w3.cell? ⟨w.heap.size + 1, 1, none⟩ = some (.int .i64 id) ∧ w3.cell? ⟨b1, o1 + r * 2 + 1, none⟩ = some (.int .i64 y) := ⟨d1, d3, hcy3.2⟩; have s4 := s4_of bx3 hr3 HY.out (.slice A3 (wo id R).length cc3))
    )
  go_wp2
  have hB2 := (hx1.below hsz (fun _ _ hh => hh)).trans hb2
  have hsf := hfin.out
  have hri := hsf.ris
  have ht3 := ht2.drew.kept ho3
  have hmono := hs3.mono (base' := base) (Nat.le_trans hsz hB2.size)
  have hB3 := hB2.drew.trans (ho3.below (Nat.le_trans hsz hB2.size) (fun _ _ hh => hh))
  have hT3 := ((Oth.of_nil hx1).trans hT2).drew.trans (Oth.of_nil ho3)
  have hll : (wo id R).length ≤ R.length + 1 := Nat.le_succ_of_le (wo_le id R)
  have k1 := bx3.res (.slice A3 (wo id R).length cc3)
  exact bodyPost_ret (v := .tuple #[.agg #[.slice A3 (wo id R).length cc3], .bool true]) (by simp [results, Try.results8, go_sem, k1]) rfl (DoPost.new hsz ⟨ht3, hmono, rising_wo hri id⟩ hll hB3 hT3 bx3.2.2 _ rfl)
end
end Go.Proofs.Ytkidhfcokckomaa
