/- What must come at any rate, of params; and arguments that are settings. -/

import Derived.Test.YtggpkgjkhonheaaParams2
namespace Go.Proofs.Ytggpkgjkhonheaa
open Go.RowKit

set_option maxHeartbeats 2000000 in
theorem awake_any (w : World) : Calls Try.prog 9 #[] w fun x w' => x = .returned (.bool true) ∧ Only Nil w w' := by
  have hd : dpre ⟨64, 8, 4⟩ ⟨64, 9, 4⟩ 3 = [⟨2, 9⟩] := rfl
  have hD := fun (W : World) => Diff_any ⟨64, 8, 4⟩ ⟨64, 9, 4⟩ W
  unfold DiffPost at hD
  rw [hd] at hD
  clear hd
  go_enter Try.func9, Try.ntmps9
  go_wp2_with (first
    | (go_at_call 13; (with_reducible refine (First_any _).mono ?_); rintro e w3 ⟨rfl, ho3⟩; have hO3 := hO.kept ho3 (fun _ _ hh => hh); obtain ⟨b, off, xq, rfl, hb, hx, _, hc⟩ := (hO3.sq (fun _ _ => rfl) rfl).at_ (k := 0) (by simp); simp at hx; subst hx; have f0 := hc 0 (by decide); have f1 := hc 1 (by decide); simp [encP] at f0 f1; clear hc)
    | (go_at_call 13; (with_reducible refine (First_any _).mono ?_); rintro e w1 ⟨rfl, ho1⟩)
    | (go_at_call 11; (with_reducible refine (hD _).mono ?_); rintro e w2 ⟨A, cap, rfl, hO, ho2⟩)
    )
  go_ret
  exact ⟨rfl, (ho1.trans ho2).trans ho3⟩
theorem pr_list {w : World} {a : Option Addr} {len cap : Nat} (h : SlcIs w (.agg [.int .i64, .int .i64]) a len cap) : ∃ l : List Pr, l.length = len ∧ (∀ x ∈ l, okP x) ∧ Sq encP 2 w w.heap.size a l := by
  refine SlcIs.list (e := .agg [.int .i64, .int .i64]) h (by decide) encP okP ?_
  intro cs _ hi
  obtain ⟨x, y, rfl, hx, hy⟩ := Kd.list_ints2 (by unfold Kd.Is at hi; exact hi)
  exact ⟨⟨x, y⟩, rfl, i64Ok_of hx, i64Ok_of hy⟩
end Go.Proofs.Ytggpkgjkhonheaa
