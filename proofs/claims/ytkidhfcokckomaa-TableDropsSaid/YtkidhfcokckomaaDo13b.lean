/- Each call of both, the table and the document's row: they answer alike. -/
import Derived.Test.YtkidhfcokckomaaDo13
namespace Go.Proofs.Ytkidhfcokckomaa
open Go.RowKit

/-- the boxes of a call of both: the row, the act, the answer's row -/
def Bx (n0 : Nat) (A : Option Addr) (n c : Nat) (kd id v : Int) (W : World) : Prop :=
  Blk W n0 30 #[.slice A n c] ∧ Blk W (n0 + 1) 34 #[.int .i64 kd, .int .i64 id, .int .i64 v] ∧ Blk W (n0 + 2) 30 #[.slice none 0 0]
theorem Bx.kept {n0 n c : Nat} {A : Option Addr} {kd id v : Int} {w w' : World} (h : Bx n0 A n c kd id v w) (ho : Only Nil w w') : Bx n0 A n c kd id v w' :=
  ⟨h.1.kept ho (fun hh => hh), h.2.1.kept ho (fun hh => hh), h.2.2.kept ho (fun hh => hh)⟩
theorem Bx.oth {n0 n c : Nat} {A : Option Addr} {kd id v : Int} {w w' : World} (h : Bx n0 A n c kd id v w) (ho : Oth w w') : Bx n0 A n c kd id v w' :=
  ⟨ho _ _ _ h.1 (by decide) (by decide), ho _ _ _ h.2.1 (by decide) (by decide), ho _ _ _ h.2.2 (by decide) (by decide)⟩
theorem Bx.new {n c : Nat} {A : Option Addr} {kd id v : Int} (w : World) : Bx w.heap.size A n c kd id v (((w.alloc (.cells #[.slice A n c] 30)).alloc (.cells #[.int .i64 kd, .int .i64 id, .int .i64 v] 34)).alloc (.cells #[.slice none 0 0] 30)) := by
  refine ⟨((Blk.new _ _ _).alloc _).alloc _, ?_, ?_⟩
  · have := (Blk.new (w.alloc (.cells #[.slice A n c] 30)) 34 #[.int .i64 kd, .int .i64 id, .int .i64 v]).alloc (.cells #[.slice none 0 0] 30)
    simpa using this
  · have := Blk.new ((w.alloc (.cells #[.slice A n c] 30)).alloc (.cells #[.int .i64 kd, .int .i64 id, .int .i64 v] 34)) 30 #[.slice none 0 0]
    simpa using this
theorem Bx.facts {n0 n c : Nat} {A : Option Addr} {kd id v : Int} {W : World} (h : Bx n0 A n c kd id v W) :
    W.cell? ⟨n0, 0, none⟩ = some (.slice A n c) ∧ W.cell? ⟨n0 + 1, 0, none⟩ = some (.int .i64 kd) ∧ W.cell? ⟨n0 + 1, 1, none⟩ = some (.int .i64 id) ∧ W.cell? ⟨n0 + 1, 2, none⟩ = some (.int .i64 v) ∧
    W.cell? ⟨n0 + 2, 0, none⟩ = some (.slice none 0 0) ∧ W.frozen? ⟨n0 + 2, 0, none⟩ = false ∧ n0 < W.heap.size ∧ n0 + 1 < W.heap.size ∧ n0 + 2 < W.heap.size :=
  ⟨h.1.cell 0, h.2.1.cell 0, h.2.1.cell 1, h.2.1.cell 2, h.2.2.cell 0, h.2.2.frozen 0, h.1.lt, h.2.1.lt, h.2.2.lt⟩
theorem Bx.res {n0 n c : Nat} {A : Option Addr} {kd id v : Int} {W : World} (h : Bx n0 A n c kd id v W) (u : Value) : (W.setCell ⟨n0 + 2, 0, none⟩ u).cell? ⟨n0 + 2, 0, none⟩ = some u := (h.2.2.set 0 u).cell 0
theorem Oth.setNew {w0 w : World} (h : Oth w0 w) {g : Nat} (hg : w0.heap.size ≤ g) (i : Nat) (u : Value) : Oth w0 (w.setCell ⟨g, i, none⟩ u) := fun k t cs hb h1 h2 =>
  (h k t cs hb h1 h2).far (p := ⟨g, i, none⟩) (fun e => by have := hb.lt; simp only at e; omega) u
section
variable {w w' : World} {b base : Nat} {most : Int} {v1 v2 : Value} {A : Option Addr} {c : Nat} {R : List (Int × Int)}
theorem S13.box (h : S13 w b base most v1 v2 A c R) {g : Nat} {cs : Array Value} (hB : Blk w g 30 cs) (i : Nat) (u : Value) : S13 (w.setCell ⟨g, i, none⟩ u) b base most v1 v2 A c R := by
  have n1 := h.tb.o1.ne hB (by decide)
  have n2 := h.tb.o2.ne hB (by decide)
  have n3 := h.row.ne hB (by decide)
  have nb : b ≠ g := fun e => by
    have h1 := h.tb.blk
    subst e
    unfold Blk at h1 hB
    rw [h1] at hB
    injection hB with hB
    injection hB with _ h3
    exact absurd h3 (by decide)
  exact ⟨⟨h.tb.blk.far (p := ⟨g, i, none⟩) nb u, h.tb.o1.set n1 i u, h.tb.o2.set n2 i u, h.tb.len, h.tb.sep, h.tb.hb⟩, h.row.set n3 i u, h.ris⟩
/-- the end of a call of both that turned nothing -/
theorem DoPost.same {n : Nat} {W : World} {x : Ending} (h : S13 w b base most v1 v2 A c R) (hN : R.length = n) (ho : Only Nil w W) (hx : x = .returned (.tuple #[.agg #[.slice A n c], .bool true])) (u : Value) :
    DoPost w b base most R x (W.setCell ⟨w.heap.size + 2, 0, none⟩ u) := by
  have ho2 := ho.setNew (c := w.heap.size + 2) (by omega) 0 u
  exact ⟨A, c, v1, v2, R, by rw [hx, hN], h.kept ho2, by omega, ho2.below h.sz (fun _ _ hh => hh), Oth.of_nil ho2⟩
/-- the end of a call of both that turned the table -/
theorem DoPost.new {W : World} {x : Ending} {v1' v2' : Value} {A' : Option Addr} {c' : Nat} {R' : List (Int × Int)} {cs : Array Value} (hsz : base ≤ w.heap.size) (h : S13 W b base most v1' v2' A' c' R') (hl : R'.length ≤ R.length + 1)
    (hb : Below base w W) (ho : Oth w W) (hB : Blk W (w.heap.size + 2) 30 cs) (u : Value) (hx : x = .returned (.tuple #[.agg #[.slice A' R'.length c'], .bool true])) :
    DoPost w b base most R x (W.setCell ⟨w.heap.size + 2, 0, none⟩ u) :=
  ⟨A', c', v1', v2', R', hx, h.box hB 0 u, hl, hb.setCell (p := ⟨w.heap.size + 2, 0, none⟩) (by show base ≤ w.heap.size + 2; omega) u, ho.setNew (by omega) 0 u⟩
set_option maxRecDepth 100000 in
set_option maxHeartbeats 4000000 in
theorem do_put_in (kd id v : Int) (w : World) (h : S13 w b base most v1 v2 A c R) (hn : R.length ≤ 1000) (hk : 0 ≤ kd ∧ kd ≤ 2) (r : Nat) (y : Int) (hy : R[r]? = some (id, y)) :
    Calls Try.prog 8 #[.pointer (some ⟨b, 0, none⟩), .agg #[.slice A R.length c], .int .i64 most, .agg #[.int .i64 kd, .int .i64 id, .int .i64 v]] w (DoPost w b base most R) := by
  have hF := Lib.hid (fun W (ho : Only Nil w W) => Find_in id y r c W ((h.row.sqn (encP_len _)).go ho) (by omega) h.ris hy)
  have hP := Lib.hid (fun W (ho : Only Nil w W) => Put_there id v W (h.tb.kept ho) h.ris (by rw [List.length_map]; omega) (mem_of_row hy))
  obtain ⟨hk0, hk1⟩ := hk
  have hfin := Lib.hid h
  have hsz := h.sz
  have hro := h.row
  have hX1 := (((Only.refl Nil w).alloc (.cells #[.slice A R.length c] 30)).alloc (.cells #[.int .i64 kd, .int .i64 id, .int .i64 v] 34)).alloc (.cells #[.slice none 0 0] 30)
  have bx0 := Bx.new (A := A) (n := R.length) (c := c) (kd := kd) (id := id) (v := v) w
  have hr0 := hX1.size
  clear h
  generalize hnn : R.length = n at *
  have HN := Lib.hid hnn
  clear hnn
  go_enter Try.func8, Try.ntmps8
  go_wp2_with (first
    | (go_at_call 21; (with_reducible refine (hF.out _ hX1).mono ?_); rintro e w1 ⟨rfl, ho1⟩; have hx1 := hX1.trans ho1; have bx1 := bx0.kept ho1; obtain ⟨a1, a2, a3, a4, a5, a6, a7, a8, a9⟩ := bx1.facts)
    | (go_at_call 19; (with_reducible refine (hP.out _ hx1).mono ?_); rintro e w2 ⟨rfl, ho2⟩; have hx2 := hx1.trans ho2; have bx2 := bx1.kept ho2; obtain ⟨c1, c2, c3, c4, c5, c6, c7, c8, c9⟩ := bx2.facts; have k1 := bx2.res (.slice A n c))
    )
  all_goals exact bodyPost_ret (v := .tuple #[.agg #[.slice A n c], .bool true]) (by simp [results, Try.results8, go_sem, k1]) rfl (DoPost.same hfin.out HN.out hx2 rfl _)
set_option maxRecDepth 100000 in
set_option maxHeartbeats 4000000 in
theorem do_put_full (kd id v : Int) (w : World) (h : S13 w b base most v1 v2 A c R) (hn : R.length ≤ 1000) (hk : 0 ≤ kd ∧ kd ≤ 2) (hid : id ∉ R.map (·.1)) (hf : most ≤ R.length) :
    Calls Try.prog 8 #[.pointer (some ⟨b, 0, none⟩), .agg #[.slice A R.length c], .int .i64 most, .agg #[.int .i64 kd, .int .i64 id, .int .i64 v]] w (DoPost w b base most R) := by
  have hF := Lib.hid (fun W (ho : Only Nil w W) => Find_out id c W ((h.row.sqn (encP_len _)).go ho) (by omega) hid)
  have hP := Lib.hid (fun W (ho : Only Nil w W) => Put_full id v W (h.tb.kept ho) h.ris (by rw [List.length_map]; omega) hid (by rw [List.length_map]; exact hf))
  obtain ⟨hk0, hk1⟩ := hk
  have hfin := Lib.hid h
  have hsz := h.sz
  have hro := h.row
  have hX1 := (((Only.refl Nil w).alloc (.cells #[.slice A R.length c] 30)).alloc (.cells #[.int .i64 kd, .int .i64 id, .int .i64 v] 34)).alloc (.cells #[.slice none 0 0] 30)
  have bx0 := Bx.new (A := A) (n := R.length) (c := c) (kd := kd) (id := id) (v := v) w
  have hr0 := hX1.size
  clear h
  generalize hnn : R.length = n at *
  have HN := Lib.hid hnn
  clear hnn
  go_enter Try.func8, Try.ntmps8
  go_wp2_with (first
    | (go_at_call 21; (with_reducible refine (hF.out _ hX1).mono ?_); rintro e w1 ⟨rfl, ho1⟩; have hx1 := hX1.trans ho1; have bx1 := bx0.kept ho1; obtain ⟨a1, a2, a3, a4, a5, a6, a7, a8, a9⟩ := bx1.facts)
    | (go_at_call 19; (with_reducible refine (hP.out _ hx1).mono ?_); rintro e w2 ⟨rfl, ho2⟩; have hx2 := hx1.trans ho2; have bx2 := bx1.kept ho2; obtain ⟨c1, c2, c3, c4, c5, c6, c7, c8, c9⟩ := bx2.facts; have k1 := bx2.res (.slice A n c))
    )
  all_goals exact bodyPost_ret (v := .tuple #[.agg #[.slice A n c], .bool true]) (by simp [results, Try.results8, go_sem, k1]) rfl (DoPost.same hfin.out HN.out hx2 rfl _)
set_option maxRecDepth 100000 in
set_option maxHeartbeats 4000000 in
theorem do_put_new (kd id v : Int) (w : World) (h : S13 w b base most v1 v2 A c R) (hn : R.length ≤ 1000) (hk : 0 ≤ kd ∧ kd ≤ 2) (hid : id ∉ R.map (·.1)) (hf : (R.length : Int) < most) :
    Calls Try.prog 8 #[.pointer (some ⟨b, 0, none⟩), .agg #[.slice A R.length c], .int .i64 most, .agg #[.int .i64 kd, .int .i64 id, .int .i64 v]] w (DoPost w b base most R) := by
  have hF := Lib.hid (fun W (ho : Only Nil w W) => Find_out id c W ((h.row.sqn (encP_len _)).go ho) (by omega) hid)
  have hP := Lib.hid (fun W (ho : Only Nil w W) => Put_new id v W (h.tb.kept ho) h.ris (by rw [List.length_map]; omega) hid (by rw [List.length_map]; exact hf))
  have hR := Lib.hid (fun W (hs : Sq encP 2 W W.heap.size A R) => Put_row id v c W hs (by omega) h.row.len.2.1)
  obtain ⟨hk0, hk1⟩ := hk
  have hfin := Lib.hid h
  have hsz := h.sz
  have hro := h.row
  have hX1 := (((Only.refl Nil w).alloc (.cells #[.slice A R.length c] 30)).alloc (.cells #[.int .i64 kd, .int .i64 id, .int .i64 v] 34)).alloc (.cells #[.slice none 0 0] 30)
  have bx0 := Bx.new (A := A) (n := R.length) (c := c) (kd := kd) (id := id) (v := v) w
  have hr0 := hX1.size
  clear h
  generalize hnn : R.length = n at *
  have HN := Lib.hid hnn
  clear hnn
  go_enter Try.func8, Try.ntmps8
  go_wp2_with (first
    | (go_at_call 21; (with_reducible refine (hF.out _ hX1).mono ?_); rintro e w1 ⟨rfl, ho1⟩; have hx1 := hX1.trans ho1; have bx1 := bx0.kept ho1; obtain ⟨a1, a2, a3, a4, a5, a6, a7, a8, a9⟩ := bx1.facts)
    | (go_at_call 19; (with_reducible refine (hP.out _ hx1).mono ?_); rintro e w2 ⟨r, v1', v2', rfl, hr2, ht2, hb2, hT2⟩; have bx2 := bx1.oth hT2; have hrow2 := (hro.kept hx1 (fun _ _ hh => hh)).oth hT2; obtain ⟨c1, c2, c3, c4, c5, c6, c7, c8, c9⟩ := bx2.facts)
    | (go_at_call 22; (with_reducible refine (hR.out _ (hrow2.sqn (encP_len _))).mono ?_); rintro e w3 ⟨k, hk3, A3, cc3, rfl, hs3, ho3⟩; have bx3 := bx2.kept ho3; have ht3 := ht2.kept ho3; obtain ⟨d1, d2, d3, d4, d5, d6, d7, d8, d9⟩ := bx3.facts; have k1 := bx3.res (.slice A3 (ins R id v k).length cc3))
    )
  all_goals
    have hB2 := (hx1.below hsz (fun _ _ hh => hh)).trans hb2
    have hsf := hfin.out
    have hri := hsf.ris
    obtain rfl := new_at hr2 hk3
    have hmono := hs3.mono (base' := base) (Nat.le_trans hsz hB2.size)
    have htt : Tb w3 b base most v1' v2' ((ins R id v k).map (·.1)) ((ins R id v k).map (·.2)) := by
      rw [map_ins, map_ins]
      exact ht3
    have hB3 := hB2.trans (ho3.below (Nat.le_trans hsz hB2.size) (fun _ _ hh => hh))
    have hT3 := ((Oth.of_nil hx1).trans hT2).trans (Oth.of_nil ho3)
    have hll : (ins R id v k).length ≤ R.length + 1 := by
      have := hk3.1
      unfold ins
      simp
      omega
    exact bodyPost_ret (v := .tuple #[.agg #[.slice A3 (ins R id v k).length cc3], .bool true]) (by simp [results, Try.results8, go_sem, k1]) rfl (DoPost.new hsz ⟨htt, hmono, rising_new hri hk3 hid⟩ hll hB3 hT3 bx3.2.2 _ rfl)
end
end Go.Proofs.Ytkidhfcokckomaa
