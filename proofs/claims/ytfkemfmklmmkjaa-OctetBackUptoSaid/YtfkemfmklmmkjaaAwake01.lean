/- What must come at any rate, of octet. -/
import Derived.Test.YtfkemfmklmmkjaaLayT
import Derived.Test.YtfkemfmklmmkjaaScan2
namespace Go.Proofs.Ytfkemfmklmmkjaa
open Go.RowKit

set_option maxHeartbeats 2000000 in
theorem awake_any (w : World) : Calls Try.prog 14 #[] w fun x w' => x = .returned (.bool true) ∧ Only Nil w w' := by
  have hok : ∀ p ∈ [(⟨258, 3, noS⟩ : Pc), ⟨0, 0, ⟨#[97]⟩⟩], p.ok := by
    intro p hp
    simp at hp
    rcases hp with rfl | rfl
    · exact pc_ok (by decide) (by decide) (by decide)
    · exact pc_ok (by decide) (by decide) (by decide)
  have hL := fun (W : World) (A : Option Addr) (cap : Nat) (h : Sq encPc 3 W W.heap.size A [⟨258, 3, noS⟩, ⟨0, 0, ⟨#[97]⟩⟩]) => Lay_known A cap 2 [⟨258, 3, noS⟩, ⟨0, 0, ⟨#[97]⟩⟩] ⟨#[0, 1, 2, 97]⟩ 0 W h hok rfl (by decide) rfl rfl
  have hU : ∀ (b : Nat) (W : World), Sc W b ⟨#[0, 1, 2, 97]⟩ false → Calls Try.prog 9 #[.pointer (some ⟨b, 0, none⟩), .int .i64 3] W (TkPost W b (.int .i64 258) ⟨#[97]⟩ false) := fun b W h => by
    have := SU_in b _ 3 W h (by decide) (by decide) (by decide)
    rw [ext_drop] at this
    exact this
  have hE : ∀ (b : Nat) (W : World), Sc W b noS false → Calls Try.prog 15 #[.pointer (some ⟨b, 0, none⟩)] W fun x w' => x = .returned (.int .i64 0) ∧ W = w' := fun b W h => End_any b noS false W h
  clear hok
  have HL := Lib.hid hL
  have HU := Lib.hid hU
  have HE := Lib.hid hE
  clear hL hU hE
  go_enter Try.func14, Try.ntmps14
  go_wp2_with (first
    | (go_at_call 18; (with_reducible refine (U_any _ _ _).mono ?_); rintro e w1 ⟨rfl, ho1⟩)
    | (go_at_call 20; (with_reducible refine (T_any _ _).mono ?_); rintro e w2 ⟨rfl, ho2⟩; have hP2 := Blk.sq (enc := encPc) (sz := 3) (l := [⟨258, 3, noS⟩, ⟨0, 0, ⟨#[97]⟩⟩]) (Blk.new w2 40 #[.int .i64 258, .int .i64 3, .string noS, .int .i64 0, .int .i64 0, .string ⟨#[97]⟩]) rfl encPc_len)
    | (go_at_call 16; (with_reducible refine (HL.out _ _ _ hP2).mono ?_); rintro e w3 ⟨rfl, ho3⟩; have hx3 := ((ho1.trans ho2).alloc (.cells #[.int .i64 258, .int .i64 3, .string noS, .int .i64 0, .int .i64 0, .string ⟨#[97]⟩] 40)).trans ho3)
    | (go_at_call 7; (with_reducible refine (Over_any _ _).mono ?_); rintro e w4 ⟨b, rfl, hb, ho4, hS4⟩)
    | (go_at_call 9; (with_reducible refine (HU.out b _ hS4).mono ?_); rintro e w5 ⟨rfl, ho5, hS5⟩)
    | (go_at_call 8; (with_reducible refine (Rest_any b _ _ hS5).mono ?_); rintro e w6 ⟨rfl, ho6, hS6⟩)
    | (go_at_call 15; (with_reducible refine (HE.out b _ hS6).mono ?_); rintro e w7 ⟨rfl, rfl⟩)
    )
  go_ret
  refine ⟨rfl, ?_⟩
  have h1 := (hx3.trans ho4)
  exact (h1.trans_new (S' := One b) ho5 (fun i hi hh => by have := hx3.size; unfold One at hh; omega)).trans_new (S' := One b) ho6 (fun i hi hh => by have := hx3.size; unfold One at hh; omega)
end Go.Proofs.Ytfkemfmklmmkjaa
