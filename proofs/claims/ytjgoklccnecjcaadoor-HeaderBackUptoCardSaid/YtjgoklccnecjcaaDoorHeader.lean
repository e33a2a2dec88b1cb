/- What the calls of package header do. -/
import Derived.Test.YtjgoklccnecjcaaDoorRows
import Derived.Test.YtjgoklccnecjcaaDoorLaid
import Derived.Test.YtjgoklccnecjcaaDoorScan2
namespace Go.Proofs.YtjgoklccnecjcaaDoor
open Go.RowKit
def tab_header_needs : Array Value := #[.bool false, .bool true, .int .i64 (-1), .int .i64 1, .bool false, .bool true, .int .i64 (-1), .int .i64 1, .bool false, .bool true, .int .i64 8, .int .i64 0, .bool false, .bool true, .int .i64 8, .int .i64 0, .bool false, .bool true, .int .i64 4, .int .i64 0, .bool true, .bool false, .int .i64 (-2), .int .i64 0, .bool true, .bool false, .int .i64 0, .int .i64 0, .bool true, .bool false, .int .i64 8, .int .i64 0, .bool true, .bool false, .int .i64 8, .int .i64 0, .bool true, .bool false, .int .i64 8, .int .i64 0, .bool true, .bool true, .int .i64 4, .int .i64 0, .bool false, .bool true, .int .i64 4, .int .i64 0]
theorem tab_header_needs_g : Tryd.prog.globalNamed "paternoster/header.needs" = some 0 := by kernel_rfl
theorem tab_header_needs_ty : (Tryd.prog.globals[0]?).map (·.type) = some 65 := by kernel_rfl
theorem tab_header_needs_ok : Ld.ok Tryd.prog (.arr 12 (.agg [.bool, .bool, .int .i64, .int .i64])) 65 = true := by kernel_rfl
theorem tab_header_needs_vals : Ld.vals (.arr 12 (.agg [.bool, .bool, .int .i64, .int .i64])) Rows.laid_paternoster_header_needs = some tab_header_needs.toList := by kernel_rfl
abbrev Nds (w : World) : Prop := Tab w 0 tab_header_needs
def nzB (k : Int) : Bool := decide (5 ≤ k) && decide (k ≤ 10)
def naB (k : Int) : Bool := decide (k ≤ 4) || decide (10 ≤ k)
def nlI (k : Int) : Int := if k = 2 ∨ k = 3 ∨ k = 7 ∨ k = 8 ∨ k = 9 then 8 else if k = 4 ∨ k = 10 ∨ k = 11 then 4 else if k = 6 then 0 else if k = 5 then -2 else -1
def nfI (k : Int) : Int := if k ≤ 1 then 1 else 0
theorem nds_cell {w : World} (h : Nds w) {k : Int} (k0 : 0 ≤ k) (k11 : k ≤ 11) :
    w.cell? ⟨0, k.toNat * 4, none⟩ = some (.bool (nzB k)) ∧ w.cell? ⟨0, k.toNat * 4 + 1, none⟩ = some (.bool (naB k)) ∧
    w.cell? ⟨0, k.toNat * 4 + 2, none⟩ = some (.int .i64 (nlI k)) ∧ w.cell? ⟨0, k.toNat * 4 + 3, none⟩ = some (.int .i64 (nfI k)) := by
  rw [h.cell, h.cell, h.cell, h.cell]
  have hk : k = 0 ∨ k = 1 ∨ k = 2 ∨ k = 3 ∨ k = 4 ∨ k = 5 ∨ k = 6 ∨ k = 7 ∨ k = 8 ∨ k = 9 ∨ k = 10 ∨ k = 11 := by omega
  rcases hk with rfl | rfl | rfl | rfl | rfl | rfl | rfl | rfl | rfl | rfl | rfl | rfl <;> exact ⟨rfl, rfl, rfl, rfl⟩
abbrev ndV (k : Int) : Value := .agg #[.bool (nzB k), .bool (naB k), .int .i64 (nlI k), .int .i64 (nfI k)]
set_option maxHeartbeats 1000000 in
theorem of_in (k : Int) (w : World) (h : Nds w) (k0 : 0 ≤ k) (k11 : k ≤ 11) : Calls Tryd.prog 24 #[.int .i64 k] w fun x w' => x = .returned (.tuple #[ndV k, .bool true]) ∧ Only Nil w w' := by
  obtain ⟨c0, c1, c2, c3⟩ := nds_cell h k0 k11
  have hlt := h.lt
  unfold ndV
  generalize nzB k = z at c0 ⊢
  generalize naB k = a at c1 ⊢
  generalize nlI k = l at c2 ⊢
  generalize nfI k = f at c3 ⊢
  go_enter Tryd.func24, Tryd.ntmps24
  go_wp2
  exact bodyPost_ret (v := .tuple #[.agg #[.bool z, .bool a, .int .i64 l, .int .i64 f], .bool true]) (by simp [results, Tryd.results24, go_sem]) rfl ⟨rfl, (Only.refl _ _).alloc _⟩
theorem of_out (k : Int) (w : World) (hk : k < 0 ∨ 11 < k) : Calls Tryd.prog 24 #[.int .i64 k] w fun x w' => x = .returned (.tuple #[.agg #[.bool false, .bool false, .int .i64 0, .int .i64 0], .bool false]) ∧ Only Nil w w' := by
  by_cases k0 : k < 0
  · clear hk
    go_enter Tryd.func24, Tryd.ntmps24
    go_wp2
    exact bodyPost_ret (v := .tuple #[.agg #[.bool false, .bool false, .int .i64 0, .int .i64 0], .bool false]) (by simp [results, Tryd.results24, go_sem]) rfl ⟨rfl, (Only.refl _ _).alloc _⟩
  · have k11 : 12 ≤ k := by omega
    clear hk
    go_enter Tryd.func24, Tryd.ntmps24
    go_wp2
    exact bodyPost_ret (v := .tuple #[.agg #[.bool false, .bool false, .int .i64 0, .int .i64 0], .bool false]) (by simp [results, Tryd.results24, go_sem]) rfl ⟨rfl, (Only.refl _ _).alloc _⟩
set_option maxHeartbeats 1000000 in
theorem Needs_in (k : Int) (w : World) (h : Nds w) (k0 : 0 ≤ k) (k11 : k ≤ 11) : Calls Tryd.prog 12 #[.int .i64 k] w fun x w' => x = .returned (.tuple #[.bool (nzB k), .bool (naB k), .int .i64 0]) ∧ Only Nil w w' := by
  have ho := fun (W : World) (h : Nds W) => of_in k W h k0 k11
  unfold ndV at ho
  generalize nzB k = z at ho ⊢
  generalize naB k = a at ho ⊢
  generalize nlI k = l at ho
  generalize nfI k = f at ho
  go_enter Tryd.func12, Tryd.ntmps12
  go_wp2_with (first
    | (go_at_call 24; (with_reducible refine (ho _ h).mono ?_); rintro e w1 ⟨rfl, ho1⟩)
    )
  go_quiet (fail)
  go_wp2
  go_ret3
  exact ⟨rfl, (ho1.alloc _).drewN _⟩
theorem Needs_out (k : Int) (w : World) (hk : k < 0 ∨ 11 < k) : Calls Tryd.prog 12 #[.int .i64 k] w fun x w' => x = .returned (.tuple #[.bool false, .bool false, .int .i64 3]) ∧ Only Nil w w' := by
  have ho := fun (W : World) => of_out k W hk
  clear hk
  go_enter Tryd.func12, Tryd.ntmps12
  go_wp2_with (first
    | (go_at_call 24; (with_reducible refine (ho _).mono ?_); rintro e w1 ⟨rfl, ho1⟩)
    )
  go_ret3
  exact ⟨rfl, ho1.alloc _⟩
def lgI (k : Int) : Int := if nlI k < 0 then -1 else nlI k
set_option maxHeartbeats 1000000 in
theorem Long_in (k : Int) (w : World) (h : Nds w) (k0 : 0 ≤ k) (k11 : k ≤ 11) : Calls Tryd.prog 13 #[.int .i64 k] w fun x w' => x = .returned (.tuple #[.int .i64 (lgI k), .int .i64 0]) ∧ Only Nil w w' := by
  have ho := fun (W : World) (h : Nds W) => of_in k W h k0 k11
  unfold ndV at ho
  unfold lgI
  generalize nzB k = z at ho
  generalize naB k = a at ho
  generalize nlI k = l at ho ⊢
  generalize nfI k = f at ho
  by_cases hl : l < 0
  · rw [if_pos hl]
    go_enter Tryd.func13, Tryd.ntmps13
    go_wp2_with (first
      | (go_at_call 24; (with_reducible refine (ho _ h).mono ?_); rintro e w1 ⟨rfl, ho1⟩)
      )
    go_ret2
    exact ⟨rfl, ho1.alloc _⟩
  · rw [if_neg hl]
    go_enter Tryd.func13, Tryd.ntmps13
    go_wp2_with (first
      | (go_at_call 24; (with_reducible refine (ho _ h).mono ?_); rintro e w1 ⟨rfl, ho1⟩)
      )
    go_ret2
    exact ⟨rfl, ho1.alloc _⟩
theorem Long_out (k : Int) (w : World) (hk : k < 0 ∨ 11 < k) : Calls Tryd.prog 13 #[.int .i64 k] w fun x w' => x = .returned (.tuple #[.int .i64 0, .int .i64 3]) ∧ Only Nil w w' := by
  have ho := fun (W : World) => of_out k W hk
  clear hk
  go_enter Tryd.func13, Tryd.ntmps13
  go_wp2_with (first
    | (go_at_call 24; (with_reducible refine (ho _).mono ?_); rintro e w1 ⟨rfl, ho1⟩)
    )
  go_ret2
  exact ⟨rfl, ho1.alloc _⟩

abbrev hdV (l t f s : Int) : Value := .agg #[.int .i64 l, .int .i64 t, .int .i64 f, .int .i64 s]
def LgPost (w : World) (l t f s : Int) (x : Ending) (w' : World) : Prop := ∃ g, x = .returned (.func (.func 32) #[] #[.pointer (some ⟨g, 0, none⟩)]) ∧ w.heap.size ≤ g ∧ Only Nil w w' ∧ Blk w' g 23 #[.int .i64 l, .int .i64 t, .int .i64 f, .int .i64 s]
theorem lengths_any (l t f s : Int) (w : World) : Calls Tryd.prog 28 #[hdV l t f s] w (LgPost w l t f s) := by
  have hmf := mkf Tryd.prog
  go_enter Tryd.func28, Tryd.ntmps28
  go_wp2
  go_ret
  exact ⟨w.heap.size, rfl, Nat.le_refl _, (Only.refl _ _).alloc _, Blk.new _ _ _⟩
theorem lengths1_eq (g : Nat) (l t f s n : Int) (w : World) (hg : Blk w g 23 #[.int .i64 l, .int .i64 t, .int .i64 f, .int .i64 s]) (h1 : (n == -1) = false) (h2 : (n == -2) = false) :
    Calls Tryd.prog 32 #[.int .i64 n, .pointer (some ⟨g, 0, none⟩)] w fun x w' => x = .returned (.bool (l == n)) ∧ w = w' := by
  have c0 : w.cell? ⟨g, 0, none⟩ = some (.int .i64 l) := hg.cell 0
  go_enter Tryd.func32, Tryd.ntmps32
  go_wp2
  go_ret
  exact ⟨rfl, rfl⟩
set_option maxHeartbeats 4000000 in
theorem Fits_8 (w : World) (hT : Nds w) : Calls Tryd.prog 22 #[hdV 8 7 0 0] w fun x w' => x = .returned (.int .i64 0) ∧ Only Nil w w' := by
  have ho0 := (Only.refl Nil w).alloc (.cells #[.int .i64 8, .int .i64 7, .int .i64 0, .int .i64 0] 23)
  have ho := fun (W : World) (h : Nds W) => of_in 7 W h (by decide) (by decide)
  unfold ndV at ho
  rw [show nzB 7 = true from rfl, show naB 7 = false from rfl, show nlI 7 = 8 from rfl, show nfI 7 = 0 from rfl] at ho
  have hb0 : Blk (w.alloc (.cells #[.int .i64 8, .int .i64 7, .int .i64 0, .int .i64 0] 23)) w.heap.size 23 #[.int .i64 8, .int .i64 7, .int .i64 0, .int .i64 0] := Blk.new _ _ _
  have hT0 := hT.kept ho0 (fun hh => hh)
  go_enter Tryd.func22, Tryd.ntmps22
  go_wp2_with (first
    | (go_at_call 24; (with_reducible refine (ho _ hT0).mono ?_); rintro e w1 ⟨rfl, ho1⟩; have hb1 := Blk.kept hb0 ho1 (fun hh => hh); have c0 := hb1.cell 0; have c1 := hb1.cell 1; have c2 := hb1.cell 2; have c3 := hb1.cell 3; have z1 := hb1.lt; have hb2 := Blk.alloc hb1 (.cells #[.bool true, .bool false, .int .i64 8, .int .i64 0] 50); have hn2 := Blk.new w1 50 #[.bool true, .bool false, .int .i64 8, .int .i64 0])
    )
  go_region_with (first
    | (go_at_call 28; (with_reducible refine (lengths_any 8 7 0 0 _).mono ?_); rintro e w3 ⟨g, rfl, hg, ho3, hG⟩; have hn3 := Blk.kept (Blk.drew hn2) ho3 (fun hh => hh); have d2 := hn3.cell 2)
    | (go_at_call 32; (with_reducible refine (lengths1_eq g 8 7 0 0 8 _ hG rfl rfl).mono ?_); rintro e w4 ⟨rfl, rfl⟩)
    )
  all_goals
    go_wp2
    go_ret
    exact ⟨rfl, (((ho0.trans ho1).alloc _).drew).trans ho3⟩
set_option maxHeartbeats 4000000 in
theorem Fits_7 (w : World) (hT : Nds w) : Calls Tryd.prog 22 #[hdV 7 7 0 0] w fun x w' => x = .returned (.int .i64 6) ∧ Only Nil w w' := by
  have ho0 := (Only.refl Nil w).alloc (.cells #[.int .i64 7, .int .i64 7, .int .i64 0, .int .i64 0] 23)
  have ho := fun (W : World) (h : Nds W) => of_in 7 W h (by decide) (by decide)
  unfold ndV at ho
  rw [show nzB 7 = true from rfl, show naB 7 = false from rfl, show nlI 7 = 8 from rfl, show nfI 7 = 0 from rfl] at ho
  have hb0 : Blk (w.alloc (.cells #[.int .i64 7, .int .i64 7, .int .i64 0, .int .i64 0] 23)) w.heap.size 23 #[.int .i64 7, .int .i64 7, .int .i64 0, .int .i64 0] := Blk.new _ _ _
  have hT0 := hT.kept ho0 (fun hh => hh)
  go_enter Tryd.func22, Tryd.ntmps22
  go_wp2_with (first
    | (go_at_call 24; (with_reducible refine (ho _ hT0).mono ?_); rintro e w1 ⟨rfl, ho1⟩; have hb1 := Blk.kept hb0 ho1 (fun hh => hh); have c0 := hb1.cell 0; have c1 := hb1.cell 1; have c2 := hb1.cell 2; have c3 := hb1.cell 3; have z1 := hb1.lt; have hb2 := Blk.alloc hb1 (.cells #[.bool true, .bool false, .int .i64 8, .int .i64 0] 50); have hn2 := Blk.new w1 50 #[.bool true, .bool false, .int .i64 8, .int .i64 0])
    )
  go_region_with (first
    | (go_at_call 28; (with_reducible refine (lengths_any 7 7 0 0 _).mono ?_); rintro e w3 ⟨g, rfl, hg, ho3, hG⟩; have hn3 := Blk.kept (Blk.drew hn2) ho3 (fun hh => hh); have d2 := hn3.cell 2)
    | (go_at_call 32; (with_reducible refine (lengths1_eq g 7 7 0 0 8 _ hG rfl rfl).mono ?_); rintro e w4 ⟨rfl, rfl⟩)
    )
  all_goals
    go_wp2
    go_ret
    exact ⟨rfl, (((ho0.trans ho1).alloc _).drew).trans ho3⟩
end Go.Proofs.YtjgoklccnecjcaaDoor
