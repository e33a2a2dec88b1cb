/- What Push leaves of the sum, whatever is pushed. -/
import Derived.Test.YtgiplefnggnpcaaDoorActs25
namespace Go.Proofs.YtgiplefnggnpcaaDoor
open Go.RowKit Nd

def PuPost (W : World) (b base : Nat) (v : Value) (L : List El) (f : Frm) (r : Int) (x : Ending) (w' : World) : Prop :=
  ∃ (v' : Value) (L' : List El), x = .returned (.int .i64 r) ∧ Oq w' b base v' L' ∧ L'.length ≤ 64 ∧ Below base W w' ∧ Only (Fp b v) W w' ∧ (r = 0 → 0 ≤ f.n ∧ f.n ≤ 2147483647 ∧ sumN L' = sumN L + f.n) ∧ (¬ r = 0 → sumN L' = sumN L)
section
variable {w : World} {b base : Nat} {v : Value} {L : List El}
theorem Push_all (f : Frm) (A : Option Addr) (cap : Nat) (w : World) (hP : PmIs w (.slice A f.P.length cap) f.P) (hT : Nds w) (h : Oq w b base v L) (hl : L.length ≤ 64) :
    ∃ r : Int, ∀ W, Only Nil w W → Calls Tryd.prog 13 #[.pointer (some ⟨b, 0, none⟩), frmV f (.slice A f.P.length cap)] W (PuPost W b base v L f r) := by
  have same : ∀ (W : World) (r : Int), Only Nil w W → ¬ r = 0 → ∀ x w', x = .returned (.int .i64 r) ∧ Only Nil W w' → PuPost W b base v L f r x w' := fun W r ho hr x w' ⟨hx, ho'⟩ =>
    ⟨v, L, hx, (h.kept ho).kept ho', hl, ho'.below (h.kept ho).sz (fun _ _ hh => hh), ho'.of_nil _, fun e => absurd e hr, fun _ => rfl⟩
  by_cases hf : rightP f
  · have h4 := hf.n4
    simp only [fourB, Bool.and_eq_true, decide_eq_true_eq] at h4
    by_cases h2 : f.t < 2
    · exact ⟨13, fun W ho => (Push_kind f A _ cap W _ (hP.go ho) (Tab.kept hT ho (fun hh => hh)) hf h2).mono (same W 13 ho (by decide))⟩
    have key : ((f.t ≠ 10 ∧ f.t ≠ 11) ∨ ∀ x ∈ L, fits f x.f = false) ∨ ((f.t = 10 ∨ f.t = 11) ∧ ∃ (i : Nat) (x : El), L[i]? = some x ∧ fits f x.f = true ∧ ∀ j y, j < i → L[j]? = some y → fits f y.f = false) := by
      by_cases ht : f.t ≠ 10 ∧ f.t ≠ 11
      · exact .inl (.inl ht)
      · rcases fit_dec f L with h1 | h1
        · exact .inl (.inr h1)
        · exact .inr ⟨by omega, h1⟩
    rcases key with hno | ⟨ht, i, x, hi, hfit, hbf⟩
    · by_cases h64 : L.length = 64
      · exact ⟨9, fun W ho => (Push_full f A _ cap W (hP.go ho) (Tab.kept hT ho (fun hh => hh)) hf (h.kept ho) (by omega) hno h64).mono (same W 9 ho (by decide))⟩
      · refine ⟨0, fun W ho => (Push_add f A _ cap W (hP.go ho) (Tab.kept hT ho (fun hh => hh)) hf (h.kept ho) (by omega) hno (by omega)).mono ?_⟩
        rintro x w' ⟨y, rfl, v', hx, hQ, hO, hG⟩
        exact ⟨v', _, hx, hQ, by simp; omega, (h.kept ho).below hO, hO, fun _ => ⟨h4.1, h4.2, sumN_app _ _⟩, fun e => absurd rfl e⟩
    · refine ⟨0, fun W ho => (Push_join f A _ cap W (hP.go ho) (Tab.kept hT ho (fun hh => hh)) hf (h.kept ho) i x hi hfit hbf ht hl).mono ?_⟩
      rintro x' w' ⟨v', hx, hQ, hO, hG⟩
      exact ⟨v', _, hx, hQ, by simpa using hl, (h.kept ho).below hO, hO, fun _ => ⟨h4.1, h4.2, sumN_set _ _ _ _ hi⟩, fun e => absurd rfl e⟩
  · exact ⟨2, fun W ho => (Push_bad f A _ cap W _ (hP.go ho) (Tab.kept hT ho (fun hh => hh)) hf).mono (same W 2 ho (by decide))⟩
end
end Go.Proofs.YtgiplefnggnpcaaDoor
