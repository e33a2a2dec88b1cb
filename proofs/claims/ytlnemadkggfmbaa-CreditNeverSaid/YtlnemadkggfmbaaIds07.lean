/- The numbers of all streams of a ledger, in a slice of their own. -/
import Derived.Test.YtlnemadkggfmbaaCredit2
namespace Go.Proofs.Ytlnemadkggfmbaa
open Go.RowKit

def IdsOwn (w : World) (l : List Int) (x : Ending) (w' : World) : Prop := ∃ A cap, x = .returned (.slice A l.length cap) ∧ Ow encZ 1 w' w.heap.size 3 (.slice A l.length cap) l ∧ Only Nil w w'
section
variable {w w' : World} {b cb base : Nat} {C S : Int} {v : Value} {L : List Gn}
set_option maxHeartbeats 2000000 in
theorem IDs_own (w : World) (h : Lg w b cb base C S v L) (hl : L.length ≤ 1000) : Calls Try.prog 14 #[.pointer (some ⟨b, 0, none⟩)] w (IdsOwn w (L.map (·.id))) := by
  obtain ⟨A, cap, rfl, hcp, hm⟩ := h.own.form
  obtain ⟨c0, c1, c2⟩ := h.facts
  rw [List.length_map] at c2 h hcp
  have hR := Lib.hid (fun W i (x : Gn) (k : Lg W b cb base C S (.slice A L.length cap) L) (hx : L[i]? = some x) => k.row hx)
  have hfull : Hid ((L.take L.length).map (·.id) = L.map (·.id)) := Lib.hid (by rw [List.take_length])
  generalize hn : L.length = n at *
  have HN := Lib.hid hn
  have hmk := hmake0 n (by omega)
  have hO0 := made_own0 n (by omega) w
  have hB0 := h.blk.alloc (.cells (madeCells #[.int .i64 0] n) 3)
  have d2 := hB0.cell 2
  clear hn
  go_enter Try.func14, Try.ntmps14
  go_wp2
  go_loopw [3, 19] (fun vv ii wr => ∃ (k : Nat) (Av : Option Addr) (cv : Nat), k ≤ n ∧ ii = .int .i64 k ∧ vv = .slice Av k cv ∧ Only Nil w wr ∧ Ow encZ 1 wr w.heap.size 3 (.slice Av k cv) ((L.take k).map (·.id))) (fun _ ii _ => n - (intOf ii).toNat)
  case atStart => exact ⟨0, _, _, Nat.zero_le _, rfl, rfl, (Only.refl _ _).alloc _, hO0⟩
  case round =>
    obtain ⟨k, Av, cv, hk, rfl, rfl, ho, hO⟩ := hrel
    by_cases hlt : k < n
    · obtain ⟨x, hx⟩ : ∃ x, L[k]? = some x := ⟨_, List.getElem?_eq_getElem (by have := HN.out; omega)⟩
      obtain ⟨g, o, rfl, hg, e0, e1, e2⟩ := hR.out _ _ _ (h.kept ho) hx
      have hki : (k : Int) < n := by omega
      have hT := Lib.hid (take_ids hx)
      have hLk : Hid (((L.take k).map (·.id)).length = k) := Lib.hid (by have := HN.out; simp; omega)
      clear hx
      have ho1 := (ho.alloc (.cells #[.int .i64 x.id, .int .i64 x.s, .pointer (some ⟨x.b, 0, none⟩)] 61)).alloc (.cells #[.int .i64 x.id] 3)
      have hO1 := (hO.alloc (.cells #[.int .i64 x.id, .int .i64 x.s, .pointer (some ⟨x.b, 0, none⟩)] 61)).alloc (.cells #[.int .i64 x.id] 3)
      have hN : Blk ((wr.alloc (.cells #[.int .i64 x.id, .int .i64 x.s, .pointer (some ⟨x.b, 0, none⟩)] 61)).alloc (.cells #[.int .i64 x.id] 3)) (wr.heap.size + 1) 3 #[.int .i64 x.id] := by
        have := Blk.new (wr.alloc (.cells #[.int .i64 x.id, .int .i64 x.s, .pointer (some ⟨x.b, 0, none⟩)] 61)) 3 #[.int .i64 x.id]
        simpa using this
      have t1 := Src.one (P := Try.prog) (enc := encZ) (tx := 42) Try.underlying42 x.id 1 rfl hN rfl (encZ_one _)
      go_wp2_with (first
        | (at_builtin
           refine wpList_app2 rfl (.tmp 23) (.tmp 26) _ _ rfl w.heap.size 3 Try.underlying42 int_info rfl _ _ rfl hO1 _ [x.id] rfl t1 (by rw [la2' hLk.out]; omega) (by decide) ho1.size (k + 1) (la2' hLk.out) _ hT.out.symm ?_
           intro A6 c6 w6 hown6 ho6 hg6
           have ho6' := ho1.own_nil hO1 ho6)
        )
      go_roundw
      case rel => exact ⟨k + 1, A6, c6, by omega, by go_num, rfl, ho6', hown6⟩
      case measure => simp [intOf]; omega
    · obtain rfl : k = n := by omega
      rw [hfull.out] at hO
      have hln : Hid ((L.map (·.id)).length = k) := Lib.hid (by have := HN.out; simp; omega)
      go_wp2
      go_ret
      exact ⟨Av, cv, by rw [hln.out]; rfl, by rw [hln.out]; exact hO, ho⟩
end
end Go.Proofs.Ytlnemadkggfmbaa
