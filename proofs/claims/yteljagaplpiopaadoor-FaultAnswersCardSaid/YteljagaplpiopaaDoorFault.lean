/- What a fault's row is. -/
import Derived.Test.YteljagaplpiopaaDoorRows
import Derived.Test.YteljagaplpiopaaDoorLaid
import Derived.Test.YteljagaplpiopaaDoorInts
import Derived.Deep.MidRow
import Derived.Deep.DrawnRows
namespace Go.Proofs.YteljagaplpiopaaDoor
open Go.RowKit
attribute [local go_sem ↓] Go.wp_at_zero Go.wp_at_succ
def tab_fault_rows : Array Value := #[.int .i64 1, .bool true, .int .i64 1, .bool true, .int .i64 1, .bool true, .int .i64 7, .bool false, .int .i64 7, .bool false, .int .i64 1, .bool true, .int .i64 1, .bool false, .int .i64 5, .bool false, .int .i64 3, .bool false, .int .i64 3, .bool true, .int .i64 9, .bool false, .int .i64 1, .bool false, .int .i64 1, .bool true, .int .i64 3, .bool false, .int .i64 3, .bool true, .int .i64 1, .bool true, .int .i64 4, .bool true, .int .i64 3, .bool true, .int .i64 11, .bool true, .int .i64 10, .bool true, .int .i64 12, .bool true]
theorem tab_fault_rows_g : Tryd.prog.globalNamed "paternoster/fault.rows" = some 0 := by kernel_rfl
theorem tab_fault_rows_ty : (Tryd.prog.globals[0]?).map (·.type) = some 57 := by kernel_rfl
theorem tab_fault_rows_ok : Ld.ok Tryd.prog (.arr 21 (.agg [.int .i64, .bool])) 57 = true := by kernel_rfl
theorem tab_fault_rows_vals : Ld.vals (.arr 21 (.agg [.int .i64, .bool])) Rows.laid_paternoster_fault_rows = some tab_fault_rows.toList := by kernel_rfl
def tab_header_needs : Array Value := #[.bool false, .bool true, .int .i64 (-1), .int .i64 1, .bool false, .bool true, .int .i64 (-1), .int .i64 1, .bool false, .bool true, .int .i64 8, .int .i64 0, .bool false, .bool true, .int .i64 8, .int .i64 0, .bool false, .bool true, .int .i64 4, .int .i64 0, .bool true, .bool false, .int .i64 (-2), .int .i64 0, .bool true, .bool false, .int .i64 0, .int .i64 0, .bool true, .bool false, .int .i64 8, .int .i64 0, .bool true, .bool false, .int .i64 8, .int .i64 0, .bool true, .bool false, .int .i64 8, .int .i64 0, .bool true, .bool true, .int .i64 4, .int .i64 0, .bool false, .bool true, .int .i64 4, .int .i64 0]
theorem tab_header_needs_g : Tryd.prog.globalNamed "paternoster/header.needs" = some 1 := by kernel_rfl
theorem tab_header_needs_ty : (Tryd.prog.globals[1]?).map (·.type) = some 62 := by kernel_rfl
theorem tab_header_needs_ok : Ld.ok Tryd.prog (.arr 12 (.agg [.bool, .bool, .int .i64, .int .i64])) 62 = true := by kernel_rfl
theorem tab_header_needs_vals : Ld.vals (.arr 12 (.agg [.bool, .bool, .int .i64, .int .i64])) Rows.laid_paternoster_header_needs = some tab_header_needs.toList := by kernel_rfl
abbrev Rws (w : World) : Prop := Tab w 0 tab_fault_rows
def cdI (k : Int) : Int := if k = 3 ∨ k = 4 then 7 else if k = 7 then 5 else if k = 8 ∨ k = 9 ∨ k = 13 ∨ k = 14 ∨ k = 17 then 3 else if k = 10 then 9 else if k = 16 then 4 else if k = 18 then 11 else if k = 19 then 10 else if k = 20 then 12 else 1
def whB (k : Int) : Bool := !(decide (k = 3) || decide (k = 4) || decide (k = 6) || decide (k = 7) || decide (k = 8) || decide (k = 10) || decide (k = 11) || decide (k = 13))
theorem tab_at {k : Int} (k0 : 0 ≤ k) (k20 : k ≤ 20) : tab_fault_rows[k.toNat * 2]? = some (.int .i64 (cdI k)) ∧ tab_fault_rows[k.toNat * 2 + 1]? = some (.bool (whB k)) := by
  have hk : k = 0 ∨ k = 1 ∨ k = 2 ∨ k = 3 ∨ k = 4 ∨ k = 5 ∨ k = 6 ∨ k = 7 ∨ k = 8 ∨ k = 9 ∨ k = 10 ∨ k = 11 ∨ k = 12 ∨ k = 13 ∨ k = 14 ∨ k = 15 ∨ k = 16 ∨ k = 17 ∨ k = 18 ∨ k = 19 ∨ k = 20 := by omega
  rcases hk with rfl | rfl | rfl | rfl | rfl | rfl | rfl | rfl | rfl | rfl | rfl | rfl | rfl | rfl | rfl | rfl | rfl | rfl | rfl | rfl | rfl <;> exact ⟨rfl, rfl⟩
theorem rows_load {W : World} (h : Rws W) : (Instr.loadAt 57 (.pointer (some ⟨0, 0, none⟩))).run Tryd.prog W = .ok (.agg tab_fault_rows) W := by
  obtain ⟨t, hB⟩ := h
  have := run_loadAt_mid (P := Tryd.prog) W 0 0 57 tab_fault_rows.toList _ (fun j v hv => by rw [Nat.zero_add, hB.cell]; simpa using hv) Tryd.underlying57 rfl (by kernel_rfl)
  simpa using this
def TlPost (w : World) (x : Ending) (w' : World) : Prop := ∃ g, x = .returned (.func (.func 30) #[] #[.pointer (some ⟨g, 0, none⟩)]) ∧ w.heap.size ≤ g ∧ Only Nil w w' ∧ Blk w' g 57 tab_fault_rows
theorem teller_any (w : World) : Calls Tryd.prog 25 #[.agg tab_fault_rows] w (TlPost w) := by
  have hmf := mkf Tryd.prog
  go_enter Tryd.func25, Tryd.ntmps25
  go_wp2
  go_ret
  exact ⟨w.heap.size, rfl, Nat.le_refl _, (Only.refl _ _).alloc _, Blk.new _ _ _⟩
theorem teller1_in (g : Nat) (k : Int) (w : World) (hg : Blk w g 57 tab_fault_rows) (k0 : 0 ≤ k) (k20 : k ≤ 20) : Calls Tryd.prog 30 #[.int .i64 k, .pointer (some ⟨g, 0, none⟩)] w fun x w' => x = .returned (.agg #[.int .i64 (cdI k), .bool (whB k)]) ∧ Only Nil w w' := by
  have c0 : w.cell? ⟨g, k.toNat * 2, none⟩ = some (.int .i64 (cdI k)) := (hg.cell _).trans (tab_at k0 k20).1
  have c1 : w.cell? ⟨g, k.toNat * 2 + 1, none⟩ = some (.bool (whB k)) := (hg.cell _).trans (tab_at k0 k20).2
  have hlt := hg.lt
  generalize cdI k = c at *
  generalize whB k = b at *
  clear hg
  go_enter Tryd.func30, Tryd.ntmps30
  go_wp2
  exact bodyPost_ret (v := .agg #[.int .i64 c, .bool b]) (by simp [results, Tryd.results30, go_sem]) rfl ⟨rfl, ((Only.refl _ _).alloc _)⟩
theorem teller1_out (g : Nat) (k : Int) (w : World) (hk : k < 0 ∨ 20 < k) : Calls Tryd.prog 30 #[.int .i64 k, .pointer (some ⟨g, 0, none⟩)] w fun x w' => x = .returned (.agg #[.int .i64 0, .bool false]) ∧ Only Nil w w' := by
  by_cases h0 : k < 0
  · clear hk
    go_enter Tryd.func30, Tryd.ntmps30
    go_wp2
    exact bodyPost_ret (v := .agg #[.int .i64 0, .bool false]) (by simp [results, Tryd.results30, go_sem]) rfl ⟨rfl, ((Only.refl _ _).alloc _)⟩
  · have h1 : 21 ≤ k := by omega
    clear hk
    go_enter Tryd.func30, Tryd.ntmps30
    go_wp2
    exact bodyPost_ret (v := .agg #[.int .i64 0, .bool false]) (by simp [results, Tryd.results30, go_sem]) rfl ⟨rfl, ((Only.refl _ _).alloc _)⟩
end Go.Proofs.YteljagaplpiopaaDoor
