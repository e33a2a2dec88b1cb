/- What the calls of the document's own ledger do to it. -/
import Derived.Test.YtlnemadkggfmbaaRef07b
import Derived.Deep.DrawnRows
namespace Go.Proofs.Ytlnemadkggfmbaa
open Go.RowKit
attribute [local go_sem ↓] Go.wp_at_zero Go.wp_at_succ

section
variable {w w' : World} {xb base : Nat} {C S : Int} {v : Value} {L : List Gn}
set_option maxHeartbeats 4000000 in
theorem RGrow_in (i : Nat) (x : Gn) (id k : Int) (w : World) (h : Rl w xb base C S v L) (hl : L.length ≤ 1000) (hr : rise L) (hx : L[i]? = some x) (hid : x.id = id) (h0 : (id == 0) = false) (hg : gOk C L) (hk : i64Ok k) (nb : Nat) :
    Calls Try.prog 24 #[.pointer (some ⟨xb, 0, none⟩), .int .i64 id, .int .i64 k] w (RPost w xb base (.int .i64 (growE x.n k)) C S (L.set i ⟨id, x.s, growN x.n k, nb⟩)) := by
  obtain ⟨A, cap, rfl, hcp, hm⟩ := h.own.form
  rw [List.length_map] at h hcp
  have hil := (List.getElem?_eq_some_iff.1 hx).1
  have hP := Lib.hid (fun W (k : Rl W xb base C S (.slice A L.length cap) L) => Find_in i x id W k hl hr hx hid)
  have hG := Lib.hid (fun W => rgrow_any x.n k W (hg.2 x (List.mem_of_getElem? hx)) hk)
  have hSt := Lib.hid (set_ghost A cap xb base i C S L ⟨id, x.s, growN x.n k, nb⟩ hl hil)
  obtain ⟨g, o, rfl, hgl, d0, d1, d2⟩ := h.row hx
  obtain ⟨c0, c1, c2⟩ := h.facts
  generalize growE x.n k = ee at *
  generalize growN x.n k = m at *
  generalize L.length = n at *
  have hii : (i : Int) < n := by omega
  have hhb := h.hb
  have hsz := h.sz
  have h2d := h.kept (Only.refl Nil w).drew
  clear hx hr hid hl hg hk
  go_enter Try.func24, Try.ntmps24
  go_wp2_with (first
    | (go_at_call 29; (with_reducible refine (hP.out _ h).mono ?_); rintro e w1 ⟨rfl, rfl⟩)
    | (go_at_call 37; (with_reducible refine (hG.out _).mono ?_); rintro e w2 ⟨rfl, rfl⟩)
    )
  go_region_law (first
    | (go_simp; go_at_call 38; (with_reducible refine (hSt.out _ h2d).mono ?_); rintro e w5 ⟨A5, c5, rfl, hO5, ho5⟩; have hr5 := h2d.kept ho5; obtain ⟨k50, k51, k52⟩ := hr5.facts; have f52 := hr5.blk.frozen 2; have hne5 := hO5.ne hr5.blk (by decide))
    )
  all_goals
    go_wp2
    go_ret
    exact ⟨_, rfl, ⟨hr5.blk.set 2 _, (hO5.mono hsz).set hne5 2 _, hhb⟩, ((((Only.refl Nil w).drew).trans ho5).of_nil (One xb)).setCell (p := ⟨xb, 2, none⟩) (fun _ => rfl) (.slice A5 n c5)⟩
end
end Go.Proofs.Ytlnemadkggfmbaa
