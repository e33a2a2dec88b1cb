/- What the calls of the document's own ledger do to it. -/
import Derived.Test.YtlnemadkggfmbaaRef07b
import Derived.Deep.DrawnRows
namespace Go.Proofs.Ytlnemadkggfmbaa
open Go.RowKit
attribute [local go_sem ↓] Go.wp_at_zero Go.wp_at_succ

section
variable {w w' : World} {xb base : Nat} {C S : Int} {v : Value} {L : List Gn}
set_option maxHeartbeats 4000000 in
theorem RSpend_in (i : Nat) (x : Gn) (id k : Int) (w : World) (h : Rl w xb base C S v L) (hl : L.length ≤ 1000) (hr : rise L) (hx : L[i]? = some x) (hid : x.id = id) (hk : 0 ≤ k) (hf : k ≤ frI C x.n) (hg : gOk C L) (hs : sOk 1000000000000 S L) (nb : Nat) :
    Calls Try.prog 26 #[.pointer (some ⟨xb, 0, none⟩), .int .i64 id, .int .i64 k] w (RPost w xb base (.int .i64 0) (C - k) (S + k) (L.set i ⟨id, x.s + k, x.n - k, nb⟩)) := by
  obtain ⟨A, cap, rfl, hcp, hm⟩ := h.own.form
  rw [List.length_map] at h hcp
  have hil := (List.getElem?_eq_some_iff.1 hx).1
  have hP := Lib.hid (fun W (k : Rl W xb base C S (.slice A L.length cap) L) => Find_in i x id W k hl hr hx hid)
  have hF := Lib.hid (fun W (k : Rl W xb base C S (.slice A L.length cap) L) => RFree_in i x id W k hl hr hx hid)
  have HL : Hid ((lns L).length = L.length) := Lib.hid (by simp [lns])
  have HX := Lib.hid hx
  have hSt := Lib.hid (set_ghost A cap xb base i C S L ⟨id, x.s + k, x.n - k, nb⟩ hl hil)
  have hn1 := (hg.2 x (List.mem_of_getElem? hx)).1
  have hn2 := (hg.2 x (List.mem_of_getElem? hx)).2
  have hs1 := (hs.2 x (List.mem_of_getElem? hx)).1
  have hs2 := (hs.2 x (List.mem_of_getElem? hx)).2
  obtain ⟨⟨hS1, hS2⟩, _⟩ := hs
  obtain ⟨⟨hC1, hC2⟩, _⟩ := hg
  have hk2 : k ≤ 2147483647 := by unfold frI at hf; omega
  obtain ⟨g, o, rfl, hgl, e0, e1, e2⟩ := h.row hx
  obtain ⟨c0, c1, c2⟩ := h.facts
  generalize frI C x.n = f at *
  generalize L.length = n at *
  have hii : (i : Int) < n := by omega
  have ew1 : IntKind.i64.wrap (x.n - k) = x.n - k := IntWalk.i64_in _ (by omega)
  have ew2 : IntKind.i64.wrap (x.s + k) = x.s + k := IntWalk.i64_in _ (by omega)
  have ht : f < k → False := fun hh => by omega
  have hhb := h.hb
  have hsz := h.sz
  clear hx hr hid hl HL
  go_enter Try.func26, Try.ntmps26
  go_wp2_with (first
    | (go_at_call 29; (with_reducible refine (hP.out _ h).mono ?_); rintro e w1 ⟨rfl, rfl⟩)
    | (go_at_call 28; (with_reducible refine (hF.out _ h).mono ?_); rintro e w2 ⟨rfl, ho2⟩; have h2 := h.kept ho2; have k2 := h2.facts.2.2; obtain ⟨g', o', hA', hgl', d0, d1, d2⟩ := h2.row HX.out; injection hA' with hA'; injection hA' with hA1 hA2; subst hA1 hA2; have h2d := h2.kept (Only.refl Nil w2).drew)
    )
  go_region_law (first
    | (go_simp; go_at_call 38; (with_reducible refine (hSt.out _ h2d).mono ?_); rintro e w5 ⟨A5, c5, rfl, hO5, ho5⟩; have hr5 := h2d.kept ho5; obtain ⟨k50, k51, k52⟩ := hr5.facts; have f50 := hr5.blk.frozen 0; have f51 := hr5.blk.frozen 1; have f52 := hr5.blk.frozen 2; have hne5 := hO5.ne hr5.blk (by decide))
    )
  all_goals
    go_wp2
    go_ret
    have ho := ((((ho2.drew).trans ho5).of_nil (One xb)).setCell (p := ⟨xb, 2, none⟩) (fun _ => rfl) (.slice A5 n c5)).setCell (p := ⟨xb, 0, none⟩) (fun _ => rfl) (.int .i64 (C - k))
    exact ⟨_, rfl, ⟨((hr5.blk.set 2 _).set 0 _).set 1 _, (((hO5.mono (Nat.le_trans hsz ho2.size)).set hne5 2 _).set hne5 0 _).set hne5 1 _, hhb⟩, ho.setCell (p := ⟨xb, 1, none⟩) (fun _ => rfl) _⟩
end
end Go.Proofs.Ytlnemadkggfmbaa
