/- What a frame's type needs: header.Needs. -/
import Derived.Test.YtgiplefnggnpcaaDoorRows
import Derived.Test.YtgiplefnggnpcaaDoorLaid
namespace Go.Proofs.YtgiplefnggnpcaaDoor
open Go.RowKit
namespace Nd
def tab_header_needs : Array Value := #[.bool false, .bool true, .int .i64 (-1), .int .i64 1, .bool false, .bool true, .int .i64 (-1), .int .i64 1, .bool false, .bool true, .int .i64 8, .int .i64 0, .bool false, .bool true, .int .i64 8, .int .i64 0, .bool false, .bool true, .int .i64 4, .int .i64 0, .bool true, .bool false, .int .i64 (-2), .int .i64 0, .bool true, .bool false, .int .i64 0, .int .i64 0, .bool true, .bool false, .int .i64 8, .int .i64 0, .bool true, .bool false, .int .i64 8, .int .i64 0, .bool true, .bool false, .int .i64 8, .int .i64 0, .bool true, .bool true, .int .i64 4, .int .i64 0, .bool false, .bool true, .int .i64 4, .int .i64 0]
theorem tab_header_needs_g : Tryd.prog.globalNamed "paternoster/header.needs" = some 0 := by kernel_rfl
theorem tab_header_needs_ty : (Tryd.prog.globals[0]?).map (·.type) = some 61 := by kernel_rfl
theorem tab_header_needs_ok : Ld.ok Tryd.prog (.arr 12 (.agg [.bool, .bool, .int .i64, .int .i64])) 61 = true := by kernel_rfl
theorem tab_header_needs_vals : Ld.vals (.arr 12 (.agg [.bool, .bool, .int .i64, .int .i64])) Rows.laid_paternoster_header_needs = some tab_header_needs.toList := by kernel_rfl
abbrev Nds (w : World) : Prop := Tab w 0 tab_header_needs
def nzB (k : Int) : Bool := decide (5 ≤ k) && decide (k ≤ 10)
def naB (k : Int) : Bool := decide (k ≤ 4) || decide (10 ≤ k)
def nlI (k : Int) : Int := if k = 2 ∨ k = 3 ∨ k = 7 ∨ k = 8 ∨ k = 9 then 8 else if k = 4 ∨ k = 10 ∨ k = 11 then 4 else if k = 6 then 0 else if k = 5 then -2 else -1
def nfI (k : Int) : Int := if k ≤ 1 then 1 else 0
theorem nds_cell {w : World} (h : Nds w) {k : Int} (k0 : 0 ≤ k) (k11 : k ≤ 11) :
    w.cell? ⟨0, k.toNat * 4, none⟩ = some (.bool (nzB k)) ∧ w.cell? ⟨0, k.toNat * 4 + 1, none⟩ = some (.bool (naB k)) ∧
    w.cell? ⟨0, k.toNat * 4 + 2, none⟩ = some (.int .i64 (nlI k)) ∧ w.cell? ⟨0, k.toNat * 4 + 3, none⟩ = some (.int .i64 (nfI k)) := by
  rw [h.cell, h.cell, h.cell, h.cell]
  have hk : k = 0 ∨ k = 1 ∨ k = 2 ∨ k = 3 ∨ k = 4 ∨ k = 5 ∨ k = 6 ∨ k = 7 ∨ k = 8 ∨ k = 9 ∨ k = 10 ∨ k = 11 := by omega
  rcases hk with rfl | rfl | rfl | rfl | rfl | rfl | rfl | rfl | rfl | rfl | rfl | rfl <;> exact ⟨rfl, rfl, rfl, rfl⟩
abbrev ndV (k : Int) : Value := .agg #[.bool (nzB k), .bool (naB k), .int .i64 (nlI k), .int .i64 (nfI k)]
set_option maxHeartbeats 1000000 in
theorem of_in (k : Int) (w : World) (h : Nds w) (k0 : 0 ≤ k) (k11 : k ≤ 11) : Calls Tryd.prog 29 #[.int .i64 k] w fun x w' => x = .returned (.tuple #[ndV k, .bool true]) ∧ Only Nil w w' := by
  obtain ⟨c0, c1, c2, c3⟩ := nds_cell h k0 k11
  have hlt := h.lt
  unfold ndV
  generalize nzB k = z at c0 ⊢
  generalize naB k = a at c1 ⊢
  generalize nlI k = l at c2 ⊢
  generalize nfI k = f at c3 ⊢
  go_enter Tryd.func29, Tryd.ntmps29
  go_wp2
  exact bodyPost_ret (v := .tuple #[.agg #[.bool z, .bool a, .int .i64 l, .int .i64 f], .bool true]) (by simp [results, Tryd.results29, go_sem]) rfl ⟨rfl, (Only.refl _ _).alloc _⟩
theorem of_out (k : Int) (w : World) (hk : k < 0 ∨ 11 < k) : Calls Tryd.prog 29 #[.int .i64 k] w fun x w' => x = .returned (.tuple #[.agg #[.bool false, .bool false, .int .i64 0, .int .i64 0], .bool false]) ∧ Only Nil w w' := by
  by_cases k0 : k < 0
  · clear hk
    go_enter Tryd.func29, Tryd.ntmps29
    go_wp2
    exact bodyPost_ret (v := .tuple #[.agg #[.bool false, .bool false, .int .i64 0, .int .i64 0], .bool false]) (by simp [results, Tryd.results29, go_sem]) rfl ⟨rfl, (Only.refl _ _).alloc _⟩
  · have k11 : 12 ≤ k := by omega
    clear hk
    go_enter Tryd.func29, Tryd.ntmps29
    go_wp2
    exact bodyPost_ret (v := .tuple #[.agg #[.bool false, .bool false, .int .i64 0, .int .i64 0], .bool false]) (by simp [results, Tryd.results29, go_sem]) rfl ⟨rfl, (Only.refl _ _).alloc _⟩
set_option maxHeartbeats 1000000 in
theorem Needs_in (k : Int) (w : World) (h : Nds w) (k0 : 0 ≤ k) (k11 : k ≤ 11) : Calls Tryd.prog 25 #[.int .i64 k] w fun x w' => x = .returned (.tuple #[.bool (nzB k), .bool (naB k), .int .i64 0]) ∧ Only Nil w w' := by
  have ho := fun (W : World) (h : Nds W) => of_in k W h k0 k11
  unfold ndV at ho
  generalize nzB k = z at ho ⊢
  generalize naB k = a at ho ⊢
  generalize nlI k = l at ho
  generalize nfI k = f at ho
  go_enter Tryd.func25, Tryd.ntmps25
  go_wp2_with (first
    | (go_at_call 29; (with_reducible refine (ho _ h).mono ?_); rintro e w1 ⟨rfl, ho1⟩)
    )
  go_quiet (fail)
  go_wp2
  go_ret3
  exact ⟨rfl, (ho1.alloc _).drewN _⟩
theorem Needs_out (k : Int) (w : World) (hk : k < 0 ∨ 11 < k) : Calls Tryd.prog 25 #[.int .i64 k] w fun x w' => x = .returned (.tuple #[.bool false, .bool false, .int .i64 3]) ∧ Only Nil w w' := by
  have ho := fun (W : World) => of_out k W hk
  clear hk
  go_enter Tryd.func25, Tryd.ntmps25
  go_wp2_with (first
    | (go_at_call 29; (with_reducible refine (ho _).mono ?_); rintro e w1 ⟨rfl, ho1⟩)
    )
  go_ret3
  exact ⟨rfl, ho1.alloc _⟩
end Nd
end Go.Proofs.YtgiplefnggnpcaaDoor
