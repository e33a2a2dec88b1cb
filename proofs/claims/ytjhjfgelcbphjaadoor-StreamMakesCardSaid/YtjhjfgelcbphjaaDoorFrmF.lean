/- Whether two frames are the same: frame.Same. No condition. -/

import Derived.Test.YtjhjfgelcbphjaaDoorFrm
namespace Go.Proofs.YtjhjfgelcbphjaaDoor
open Go.RowKit

section
variable {w : World} {p q : Value}
set_option maxRecDepth 100000 in
set_option maxHeartbeats 4000000 in
theorem FSame_1 (t s k : Int) (en : Bool) (d : ByteArray) (on wt c l n : Int) (ex : Bool) (P : List Prm) (t' s' k' : Int) (en' : Bool) (d' : ByteArray) (on' wt' c' l' n' : Int) (ex' : Bool) (P' : List Prm) (hp : PmIs w p P) (hq : PmIs w q P')
    (hne : ¬ (t = t' ∧ s = s' ∧ en = en' ∧ d = d' ∧ k = k')) :
    Calls Tryd.prog 37 #[frmV ⟨t, s, en, d, k, on, wt, ex, c, l, n, P⟩ p, frmV ⟨t', s', en', d', k', on', wt', ex', c', l', n', P'⟩ q] w fun x w' => x = .returned (.bool false) ∧ Only Nil w w' := by
  obtain ⟨A, cap, rfl, -⟩ := id hp
  obtain ⟨A', cap', rfl, -⟩ := id hq
  rcases (Classical.em (t = t')).symm with h1 | rfl
  · clear hne
    clear hp hq
    go_enter Tryd.func37, Tryd.ntmps37
    go_wp2
    go_ret
    exact ⟨rfl, ((Only.refl Nil w).alloc _).alloc _⟩
  rcases (Classical.em (s = s')).symm with h1 | rfl
  · clear hne
    clear hp hq
    go_enter Tryd.func37, Tryd.ntmps37
    go_wp2
    go_ret
    exact ⟨rfl, ((Only.refl Nil w).alloc _).alloc _⟩
  rcases (Classical.em (en = en')).symm with h1 | rfl
  · clear hne
    cases en <;> cases en' <;> first | exact absurd rfl h1 | skip
    all_goals
      clear hp hq
      go_enter Tryd.func37, Tryd.ntmps37
      go_wp2
      go_ret
      exact ⟨rfl, ((Only.refl Nil w).alloc _).alloc _⟩
  rcases (Classical.em (d = d')).symm with h1 | rfl
  · clear hne
    have h2 : ¬ d.toList = d'.toList := fun e => h1 (ba_inj e)
    clear h1
    have h3 : (d.toList == d'.toList) = false := by simpa using h2
    clear hp hq
    go_enter Tryd.func37, Tryd.ntmps37
    go_wp2
    go_ret
    exact ⟨rfl, ((Only.refl Nil w).alloc _).alloc _⟩
  have h1 : ¬ k = k' := fun e => hne ⟨rfl, rfl, rfl, rfl, e⟩
  clear hne
  clear hp hq
  go_enter Tryd.func37, Tryd.ntmps37
  go_wp2
  go_ret
  exact ⟨rfl, ((Only.refl Nil w).alloc _).alloc _⟩
set_option maxRecDepth 100000 in
set_option maxHeartbeats 4000000 in
theorem FSame_2 (t s k : Int) (en : Bool) (d : ByteArray) (on wt c l n : Int) (ex : Bool) (P : List Prm) (on' wt' c' l' n' : Int) (ex' : Bool) (P' : List Prm) (hp : PmIs w p P) (hq : PmIs w q P')
    (hne : ¬ (on = on' ∧ wt = wt' ∧ ex = ex' ∧ c = c' ∧ l = l' ∧ n = n' ∧ P.length = P'.length)) :
    Calls Tryd.prog 37 #[frmV ⟨t, s, en, d, k, on, wt, ex, c, l, n, P⟩ p, frmV ⟨t, s, en, d, k, on', wt', ex', c', l', n', P'⟩ q] w fun x w' => x = .returned (.bool false) ∧ Only Nil w w' := by
  obtain ⟨A, cap, rfl, -⟩ := id hp
  obtain ⟨A', cap', rfl, -⟩ := id hq
  rcases (Classical.em (on = on')).symm with h1 | rfl
  · clear hne
    clear hp hq
    go_enter Tryd.func37, Tryd.ntmps37
    go_wp2
    go_ret
    exact ⟨rfl, ((Only.refl Nil w).alloc _).alloc _⟩
  rcases (Classical.em (wt = wt')).symm with h1 | rfl
  · clear hne
    clear hp hq
    go_enter Tryd.func37, Tryd.ntmps37
    go_wp2
    go_ret
    exact ⟨rfl, ((Only.refl Nil w).alloc _).alloc _⟩
  rcases (Classical.em (ex = ex')).symm with h1 | rfl
  · clear hne
    cases ex <;> cases ex' <;> first | exact absurd rfl h1 | skip
    all_goals
      clear hp hq
      go_enter Tryd.func37, Tryd.ntmps37
      go_wp2
      go_ret
      exact ⟨rfl, ((Only.refl Nil w).alloc _).alloc _⟩
  rcases (Classical.em (c = c')).symm with h1 | rfl
  · clear hne
    clear hp hq
    go_enter Tryd.func37, Tryd.ntmps37
    go_wp2
    go_ret
    exact ⟨rfl, ((Only.refl Nil w).alloc _).alloc _⟩
  rcases (Classical.em (l = l')).symm with h1 | rfl
  · clear hne
    clear hp hq
    go_enter Tryd.func37, Tryd.ntmps37
    go_wp2
    go_ret
    exact ⟨rfl, ((Only.refl Nil w).alloc _).alloc _⟩
  rcases (Classical.em (n = n')).symm with h1 | rfl
  · clear hne
    clear hp hq
    go_enter Tryd.func37, Tryd.ntmps37
    go_wp2
    go_ret
    exact ⟨rfl, ((Only.refl Nil w).alloc _).alloc _⟩
  have h1 : ¬ P.length = P'.length := fun e => hne ⟨rfl, rfl, rfl, rfl, rfl, rfl, e⟩
  have h2 : decide ((P.length : Int) = (P'.length : Int)) = false := decide_eq_false (by omega)
  have h3 : ¬ (P.length : Int) = (P'.length : Int) := by omega
  clear hne
  clear hp hq
  go_enter Tryd.func37, Tryd.ntmps37
  go_wp2
  go_ret
  exact ⟨rfl, ((Only.refl Nil w).alloc _).alloc _⟩
end
end Go.Proofs.YtjhjfgelcbphjaaDoor
