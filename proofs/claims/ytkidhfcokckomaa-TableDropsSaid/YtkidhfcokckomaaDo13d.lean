/- At and Get of both, the table and the document's row: they answer alike. -/
import Derived.Test.YtkidhfcokckomaaDo13c
namespace Go.Proofs.Ytkidhfcokckomaa
open Go.RowKit

section
variable {w w' : World} {b base : Nat} {most : Int} {v1 v2 : Value} {A : Option Addr} {c : Nat} {R : List (Int × Int)}
set_option maxRecDepth 100000 in
set_option maxHeartbeats 4000000 in
theorem do_at_out (id v : Int) (w : World) (h : S13 w b base most v1 v2 A c R) (hn : R.length ≤ 1000) (hid : id < 0 ∨ (R.length : Int) ≤ id) :
    Calls Try.prog 8 #[.pointer (some ⟨b, 0, none⟩), .agg #[.slice A R.length c], .int .i64 most, .agg #[.int .i64 6, .int .i64 id, .int .i64 v]] w (DoPost w b base most R) := by
  have hF := Lib.hid (fun W (ho : Only Nil w W) => Find_any id c W ((h.row.sqn (encP_len _)).go ho) (by omega))
  have hP := Lib.hid (fun W (ho : Only Nil w W) => At_out id W (h.tb.kept ho) (by rw [List.length_map]; exact hid))
  have hfin := Lib.hid h
  have hsz := h.sz
  have hro := h.row
  have hX1 := (((Only.refl Nil w).alloc (.cells #[.slice A R.length c] 30)).alloc (.cells #[.int .i64 6, .int .i64 id, .int .i64 v] 34)).alloc (.cells #[.slice none 0 0] 30)
  have bx0 := Bx.new (A := A) (n := R.length) (c := c) (kd := 6) (id := id) (v := v) w
  have hr0 := hX1.size
  clear h
  generalize hnn : R.length = n at *
  have HN := Lib.hid hnn
  clear hnn
  rcases hid with hid | hid
  · go_enter Try.func8, Try.ntmps8
    go_wp2_with (first
      | (go_at_call 21; (with_reducible refine (hF.out _ hX1).mono ?_); rintro e w1 ⟨jj, rfl, hjj, ho1⟩; have hx1 := hX1.trans ho1; have bx1 := bx0.kept ho1; obtain ⟨a1, a2, a3, a4, a5, a6, a7, a8, a9⟩ := bx1.facts)
      | (go_at_call 18; (with_reducible refine (hP.out _ hx1).mono ?_); rintro e w2 ⟨rfl, rfl⟩; have k1 := bx1.res (.slice A n c); have hx2 := hx1)
      )
    all_goals exact bodyPost_ret (v := .tuple #[.agg #[.slice A n c], .bool true]) (by simp [results, Try.results8, go_sem, k1]) rfl (DoPost.same hfin.out HN.out hx2 rfl _)
  · have hid0 : ¬ id < 0 := by omega
    go_enter Try.func8, Try.ntmps8
    go_wp2_with (first
      | (go_at_call 21; (with_reducible refine (hF.out _ hX1).mono ?_); rintro e w1 ⟨jj, rfl, hjj, ho1⟩; have hx1 := hX1.trans ho1; have bx1 := bx0.kept ho1; obtain ⟨a1, a2, a3, a4, a5, a6, a7, a8, a9⟩ := bx1.facts)
      | (go_at_call 18; (with_reducible refine (hP.out _ hx1).mono ?_); rintro e w2 ⟨rfl, rfl⟩; have k1 := bx1.res (.slice A n c); have hx2 := hx1)
      )
    all_goals exact bodyPost_ret (v := .tuple #[.agg #[.slice A n c], .bool true]) (by simp [results, Try.results8, go_sem, k1]) rfl (DoPost.same hfin.out HN.out hx2 rfl _)
theorem At_row_in (i : Nat) (p q : Int) (W : World) (h : Tb W b base most v1 v2 (R.map (·.1)) (R.map (·.2))) (hy : R[i]? = some (p, q)) :
    Calls Try.prog 18 #[.pointer (some ⟨b, 0, none⟩), .int .i64 (i : Nat)] W fun x w' => x = .returned (.tuple #[.int .i64 p, .int .i64 q, .bool true]) ∧ Only Nil W w' := by
  refine (At_in i W h (by rw [List.length_map]; exact (List.getElem?_eq_some_iff.1 hy).1)).mono ?_
  rintro x w' ⟨y, z, rfl, h1, h2, h3⟩
  rw [List.getElem?_map, hy] at h1 h2
  injection h1 with h1
  injection h2 with h2
  subst h1 h2
  exact ⟨rfl, h3⟩
set_option maxRecDepth 100000 in
set_option maxHeartbeats 4000000 in
theorem do_at_in (i : Nat) (v p q : Int) (w : World) (h : S13 w b base most v1 v2 A c R) (hn : R.length ≤ 1000) (hy : R[i]? = some (p, q)) :
    Calls Try.prog 8 #[.pointer (some ⟨b, 0, none⟩), .agg #[.slice A R.length c], .int .i64 most, .agg #[.int .i64 6, .int .i64 (i : Nat), .int .i64 v]] w (DoPost w b base most R) := by
  obtain ⟨b1, o1, _, rfl, _, _, _, _⟩ := (h.row.sqn (encP_len _)).at_ (k := i) (List.getElem?_eq_some_iff.1 hy).1
  have hF := Lib.hid (fun W (ho : Only Nil w W) => Find_any i c W ((h.row.sqn (encP_len _)).go ho) (by omega))
  have hP := Lib.hid (fun W (ho : Only Nil w W) => At_row_in i p q W (h.tb.kept ho) hy)
  have HY := Lib.hid hy
  have hrn : (i : Int) < R.length := by have := (List.getElem?_eq_some_iff.1 hy).1; omega
  have hi0 : (0 : Int) ≤ i := by omega
  clear hy
  obtain ⟨id, hid⟩ : ∃ id : Int, id = (i : Int) := ⟨_, rfl⟩
  rw [← hid]
  have hfin := Lib.hid h
  have hsz := h.sz
  have hro := h.row
  have hX1 := (((Only.refl Nil w).alloc (.cells #[.slice (some ⟨b1, o1, none⟩) R.length c] 30)).alloc (.cells #[.int .i64 6, .int .i64 id, .int .i64 v] 34)).alloc (.cells #[.slice none 0 0] 30)
  have bx0 := Bx.new (A := (some ⟨b1, o1, none⟩)) (n := R.length) (c := c) (kd := 6) (id := id) (v := v) w
  have hr0 := hX1.size
  clear h
  generalize hnn : R.length = n at *
  have HN := Lib.hid hnn
  clear hnn
  subst hid
  go_enter Try.func8, Try.ntmps8
  go_wp2_with (first
    | (go_at_call 21; (with_reducible refine (hF.out _ hX1).mono ?_); rintro e w1 ⟨jj, rfl, hjj, ho1⟩; have hx1 := hX1.trans ho1; have bx1 := bx0.kept ho1; obtain ⟨a1, a2, a3, a4, a5, a6, a7, a8, a9⟩ := bx1.facts)
    | (go_at_call 18; (with_reducible refine (hP.out _ hx1).mono ?_); rintro e w2 ⟨rfl, ho2⟩; have hx2 := hx1.trans ho2; have bx2 := bx1.kept ho2; obtain ⟨c1, c2, c3, c4, c5, c6, c7, c8, c9⟩ := bx2.facts; have k1 := bx2.res (.slice (some ⟨b1, o1, none⟩) n c); obtain ⟨g1, g2⟩ := ((hro.kept hx2 (fun _ _ hh => hh)).sqn (encP_len _)).cell2_at HY.out)
    )
  go_region
  all_goals go_wp2
  exact bodyPost_ret (v := .tuple #[.agg #[.slice (some ⟨b1, o1, none⟩) n c], .bool true]) (by simp [results, Try.results8, go_sem, k1]) rfl (DoPost.same (W := w2.drew) hfin.out HN.out hx2.drew rfl _)
set_option maxRecDepth 100000 in
set_option maxHeartbeats 4000000 in
theorem do_get_out (kd id v : Int) (w : World) (e0 : (kd == 0) = false) (e1 : (kd == 1) = false) (e2 : (kd == 2) = false) (e3 : (kd == 3) = false) (e4 : (kd == 4) = false) (e6 : (kd == 6) = false) (h : S13 w b base most v1 v2 A c R) (hn : R.length ≤ 1000) (hid : id ∉ R.map (·.1)) :
    Calls Try.prog 8 #[.pointer (some ⟨b, 0, none⟩), .agg #[.slice A R.length c], .int .i64 most, .agg #[.int .i64 kd, .int .i64 id, .int .i64 v]] w (DoPost w b base most R) := by
  have hF := Lib.hid (fun W (ho : Only Nil w W) => Find_out id c W ((h.row.sqn (encP_len _)).go ho) (by omega) hid)
  have hP := Lib.hid (fun W (ho : Only Nil w W) => Get_out id W (h.tb.kept ho) h.ris (by rw [List.length_map]; omega) hid)
  have hfin := Lib.hid h
  have hsz := h.sz
  have hro := h.row
  have hX1 := (((Only.refl Nil w).alloc (.cells #[.slice A R.length c] 30)).alloc (.cells #[.int .i64 kd, .int .i64 id, .int .i64 v] 34)).alloc (.cells #[.slice none 0 0] 30)
  have bx0 := Bx.new (A := A) (n := R.length) (c := c) (kd := kd) (id := id) (v := v) w
  have hr0 := hX1.size
  clear h
  generalize hnn : R.length = n at *
  have HN := Lib.hid hnn
  clear hnn
  go_enter Try.func8, Try.ntmps8
  go_wp2_with (first
    | (go_at_call 21; (with_reducible refine (hF.out _ hX1).mono ?_); rintro e w1 ⟨rfl, ho1⟩; have hx1 := hX1.trans ho1; have bx1 := bx0.kept ho1; obtain ⟨a1, a2, a3, a4, a5, a6, a7, a8, a9⟩ := bx1.facts)
    | (go_at_call 16; (with_reducible refine (hP.out _ hx1).mono ?_); rintro e w2 ⟨rfl, ho2⟩; have hx2 := hx1.trans ho2; have bx2 := bx1.kept ho2; obtain ⟨c1, c2, c3, c4, c5, c6, c7, c8, c9⟩ := bx2.facts; have k1 := bx2.res (.slice A n c))
    )
  all_goals exact bodyPost_ret (v := .tuple #[.agg #[.slice A n c], .bool true]) (by simp [results, Try.results8, go_sem, k1]) rfl (DoPost.same hfin.out HN.out hx2 rfl _)
theorem Get_row_in (id y : Int) (r : Nat) (W : World) (h : Tb W b base most v1 v2 (R.map (·.1)) (R.map (·.2))) (hri : rising (R.map (·.1))) (hn : R.length ≤ 1000) (hy : R[r]? = some (id, y)) :
    Calls Try.prog 16 #[.pointer (some ⟨b, 0, none⟩), .int .i64 id] W fun x w' => x = .returned (.tuple #[.int .i64 y, .bool true]) ∧ Only Nil W w' := by
  refine (Get_in id W h hri (by rw [List.length_map]; omega) (mem_of_row hy)).mono ?_
  rintro x w' ⟨s, z, rfl, h1, h2, h3⟩
  have := place hri hy h1
  subst this
  rw [List.getElem?_map, hy] at h2
  injection h2 with h2
  subst h2
  exact ⟨rfl, h3⟩
set_option maxRecDepth 100000 in
set_option maxHeartbeats 4000000 in
theorem do_get_in (kd id v : Int) (w : World) (e0 : (kd == 0) = false) (e1 : (kd == 1) = false) (e2 : (kd == 2) = false) (e3 : (kd == 3) = false) (e4 : (kd == 4) = false) (e6 : (kd == 6) = false) (h : S13 w b base most v1 v2 A c R) (hn : R.length ≤ 1000) (r : Nat) (y : Int) (hy : R[r]? = some (id, y)) :
    Calls Try.prog 8 #[.pointer (some ⟨b, 0, none⟩), .agg #[.slice A R.length c], .int .i64 most, .agg #[.int .i64 kd, .int .i64 id, .int .i64 v]] w (DoPost w b base most R) := by
  obtain ⟨b1, o1, _, rfl, _, _, _, _⟩ := (h.row.sqn (encP_len _)).at_ (k := r) (List.getElem?_eq_some_iff.1 hy).1
  have hF := Lib.hid (fun W (ho : Only Nil w W) => Find_in id y r c W ((h.row.sqn (encP_len _)).go ho) (by omega) h.ris hy)
  have hP := Lib.hid (fun W (ho : Only Nil w W) => Get_row_in id y r W (h.tb.kept ho) h.ris hn hy)
  have HY := Lib.hid hy
  have hrn : (r : Int) < R.length := by have := (List.getElem?_eq_some_iff.1 hy).1; omega
  clear hy
  have hfin := Lib.hid h
  have hsz := h.sz
  have hro := h.row
  have hX1 := (((Only.refl Nil w).alloc (.cells #[.slice (some ⟨b1, o1, none⟩) R.length c] 30)).alloc (.cells #[.int .i64 kd, .int .i64 id, .int .i64 v] 34)).alloc (.cells #[.slice none 0 0] 30)
  have bx0 := Bx.new (A := (some ⟨b1, o1, none⟩)) (n := R.length) (c := c) (kd := kd) (id := id) (v := v) w
  have hr0 := hX1.size
  clear h
  generalize hnn : R.length = n at *
  have HN := Lib.hid hnn
  clear hnn
  go_enter Try.func8, Try.ntmps8
  go_wp2_with (first
    | (go_at_call 21; (with_reducible refine (hF.out _ hX1).mono ?_); rintro e w1 ⟨rfl, ho1⟩; have hx1 := hX1.trans ho1; have bx1 := bx0.kept ho1; obtain ⟨a1, a2, a3, a4, a5, a6, a7, a8, a9⟩ := bx1.facts)
    | (go_at_call 16; (with_reducible refine (hP.out _ hx1).mono ?_); rintro e w2 ⟨rfl, ho2⟩; have hx2 := hx1.trans ho2; have bx2 := bx1.kept ho2; obtain ⟨c1, c2, c3, c4, c5, c6, c7, c8, c9⟩ := bx2.facts; have k1 := bx2.res (.slice (some ⟨b1, o1, none⟩) n c); obtain ⟨g1, g2⟩ := ((hro.kept hx2 (fun _ _ hh => hh)).sqn (encP_len _)).cell2_at HY.out)
    )
  go_region
  go_wp2
  exact bodyPost_ret (v := .tuple #[.agg #[.slice (some ⟨b1, o1, none⟩) n c], .bool true]) (by simp [results, Try.results8, go_sem, k1]) rfl (DoPost.same (W := w2.drew) hfin.out HN.out hx2.drew rfl _)
theorem row_or (R : List (Int × Int)) (id : Int) : id ∉ R.map (·.1) ∨ ∃ (r : Nat) (y : Int), R[r]? = some (id, y) := by
  by_cases h : id ∈ R.map (·.1)
  · obtain ⟨p, hp, rfl⟩ := List.mem_map.1 h
    obtain ⟨r, hr⟩ := List.mem_iff_getElem?.1 hp
    exact .inr ⟨r, p.2, hr⟩
  · exact .inl h
theorem do_any (kd id v : Int) (w : World) (h : S13 w b base most v1 v2 A c R) (hn : R.length ≤ 1000) :
    Calls Try.prog 8 #[.pointer (some ⟨b, 0, none⟩), .agg #[.slice A R.length c], .int .i64 most, .agg #[.int .i64 kd, .int .i64 id, .int .i64 v]] w (DoPost w b base most R) := by
  rcases row_or R id with hid | ⟨r, y, hy⟩
  · by_cases k0 : 0 ≤ kd ∧ kd ≤ 2
    · rcases Int.lt_or_le (R.length : Int) most with hf | hf
      · exact do_put_new kd id v w h hn k0 hid hf
      · exact do_put_full kd id v w h hn k0 hid hf
    · by_cases k3 : kd = 3
      · subst k3; exact do_set_out id v w h hn hid
      · by_cases k4 : kd = 4
        · subst k4; exact do_del_out id v w h hn hid
        · by_cases k6 : kd = 6
          · subst k6
            by_cases hr : id < 0 ∨ (R.length : Int) ≤ id
            · exact do_at_out id v w h hn hr
            · obtain ⟨i, rfl⟩ : ∃ i : Nat, id = i := ⟨id.toNat, by omega⟩
              exact do_at_in i v R[i].1 R[i].2 w h hn (List.getElem?_eq_getElem (by omega))
          · exact do_get_out kd id v w (by simp; omega) (by simp; omega) (by simp; omega) (by simpa using k3) (by simpa using k4) (by simpa using k6) h hn hid
  · by_cases k0 : 0 ≤ kd ∧ kd ≤ 2
    · exact do_put_in kd id v w h hn k0 r y hy
    · by_cases k3 : kd = 3
      · subst k3; exact do_set_in id v w h hn r y hy
      · by_cases k4 : kd = 4
        · subst k4; exact do_del_in id v w h hn r y hy
        · by_cases k6 : kd = 6
          · subst k6
            by_cases hr : id < 0 ∨ (R.length : Int) ≤ id
            · exact do_at_out id v w h hn hr
            · obtain ⟨i, rfl⟩ : ∃ i : Nat, id = i := ⟨id.toNat, by omega⟩
              exact do_at_in i v R[i].1 R[i].2 w h hn (List.getElem?_eq_getElem (by omega))
          · exact do_get_in kd id v w (by simp; omega) (by simp; omega) (by simp; omega) (by simpa using k3) (by simpa using k4) (by simpa using k6) h hn r y hy
end
end Go.Proofs.Ytkidhfcokckomaa
