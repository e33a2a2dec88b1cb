/- What Set and At do to a table of the call's own. -/
import Derived.Test.YtkidhfcokckomaaTable5
namespace Go.Proofs.Ytkidhfcokckomaa
open Go.RowKit

section
variable {w w' : World} {b base : Nat} {most : Int} {v1 v2 : Value} {I V : List Int}
theorem Set_out (id v : Int) (w : World) (h : Tb w b base most v1 v2 I V) (hs : rising I) (hn : I.length ≤ 2000) (hid : id ∉ I) :
    Calls Try.prog 20 #[.pointer (some ⟨b, 0, none⟩), .int .i64 id, .int .i64 v] w fun x w' => x = .returned (.int .i64 7) ∧ Only Nil w w' := by
  go_enter Try.func20, Try.ntmps20
  go_wp2_with (first
    | (go_at_call 24; (with_reducible refine (finder_any _ _).mono ?_); rintro e w1 ⟨g, rfl, ho1, hg1⟩; have h1 := h.kept ho1)
    | (go_at_call 25; (with_reducible refine (finder1_out g id _ hg1 h1 hs hn hid).mono ?_); rintro e w2 ⟨r, rfl, hr, ho2⟩)
    )
  go_ret
  exact ⟨rfl, ho1.trans ho2⟩
def StPost (w : World) (b base : Nat) (most : Int) (v1 v2 : Value) (I V : List Int) (id v : Int) (x : Ending) (w' : World) : Prop :=
  ∃ r : Nat, x = .returned (.int .i64 0) ∧ I[r]? = some id ∧ Tb w' b base most v1 v2 I (V.set r v) ∧ Below base w w' ∧ Oth w w'
theorem Set_in (id v : Int) (w : World) (h : Tb w b base most v1 v2 I V) (hs : rising I) (hn : I.length ≤ 2000) (hid : id ∈ I) :
    Calls Try.prog 20 #[.pointer (some ⟨b, 0, none⟩), .int .i64 id, .int .i64 v] w (StPost w b base most v1 v2 I V id v) := by
  have hsz : base ≤ w.heap.size := by have := h.hb; have := h.blk.lt; omega
  have hhb := h.hb
  obtain ⟨A, cap, rfl, hc, hm⟩ := h.o2.form
  have hlen := h.len
  generalize hnn : V.length = n at *
  have HN := Lib.hid hnn
  have HL := Lib.hid hlen
  clear hnn
  go_enter Try.func20, Try.ntmps20
  go_wp2_with (first
    | (go_at_call 24; (with_reducible refine (finder_any _ _).mono ?_); rintro e w1 ⟨g, rfl, ho1, hg1⟩; have h1 := h.kept ho1)
    | (go_at_call 25; (with_reducible refine (finder1_in g id _ hg1 h1 hs (by omega) hid).mono ?_); rintro e w2 ⟨r, rfl, hr, ho2⟩; have h2 := h1.kept ho2; have c2' := h2.blk.cell 2; have hrl := (List.getElem?_eq_some_iff.1 hr).1; obtain ⟨bb, off, x, hA, hbb, hx, _, hcs⟩ := (h2.o2.sq (fun _ _ => rfl) rfl).at_ (k := r) (by have := HN.out; have := HL.out; omega); have e1 : w2.cell? ⟨bb, off + r, none⟩ = some (.int .i64 x) := (by simpa [encZ] using hcs 0 (by decide)); subst hA; have hri : (r : Int) < n := (by have := HL.out; omega); have hz := h2.o2.frz r)
    )
  go_ret
  have hrV : r < V.length := by have := HN.out; have := HL.out; omega
  have hp := h2.o2.put1 encZ_len r hrV v (.int .i64 v) rfl
  have hne1 : v1.ownBlock ≠ some bb := fun hh => h2.sep bb hh rfl
  have hneb : bb ≠ b := fun e => by have := h2.o2.ne h2.blk (by decide); exact this (by rw [e]; rfl)
  have hbase := (h2.o2.lt (g := bb) rfl).1
  exact ⟨r, rfl, hr, ⟨h2.blk.far (p := ⟨bb, off + r, none⟩) hneb.symm _, h2.o1.set hne1 _ _, hp, by rw [List.length_set]; exact h2.len, h2.sep, hhb⟩, ((ho1.trans ho2).below hsz (fun _ _ hh => hh)).setCell (p := ⟨bb, off + r, none⟩) hbase _, (Oth.of_nil (ho1.trans ho2)).cell h2.o2 _ _⟩
theorem At_in (i : Nat) (w : World) (h : Tb w b base most v1 v2 I V) (hi : i < I.length) :
    Calls Try.prog 18 #[.pointer (some ⟨b, 0, none⟩), .int .i64 (i : Nat)] w fun x w' => ∃ (y z : Int), x = .returned (.tuple #[.int .i64 y, .int .i64 z, .bool true]) ∧ I[i]? = some y ∧ V[i]? = some z ∧ Only Nil w w' := by
  obtain ⟨A1, cap1, rfl, hc1, hm1⟩ := h.o1.form
  obtain ⟨A2, cap2, rfl, hc2, hm2⟩ := h.o2.form
  have c1 := h.blk.cell 1
  have c2 := h.blk.cell 2
  have hL := Lib.hid (fun W (k : Tb W b base most (.slice A1 I.length cap1) (.slice A2 V.length cap2) I V) => Len_any W k)
  obtain ⟨b1, o1, y, rfl, _, hy, _, h1⟩ := (h.o1.sq (fun _ _ => rfl) rfl).at_ (k := i) hi
  obtain ⟨b2, o2, z, rfl, _, hz, _, h2⟩ := (h.o2.sq (fun _ _ => rfl) rfl).at_ (k := i) (by have := h.len; omega)
  have e1 : w.cell? ⟨b1, o1 + i, none⟩ = some (.int .i64 y) := by simpa [encZ] using h1 0 (by decide)
  have e2 : w.cell? ⟨b2, o2 + i, none⟩ = some (.int .i64 z) := by simpa [encZ] using h2 0 (by decide)
  have hi1 : (i : Int) < I.length := by omega
  have hi2 : (i : Int) < V.length := by have := h.len; omega
  have hi0 : (0 : Int) ≤ i := by omega
  clear h1 h2
  go_enter Try.func18, Try.ntmps18
  go_wp2_with (first
    | (go_at_call 9; (with_reducible refine (hL.out _ h).mono ?_); rintro e w1 ⟨rfl, rfl⟩)
    )
  go_quiet (fail)
  go_wp2
  exact bodyPost_ret (v := .tuple #[.int .i64 y, .int .i64 z, .bool true]) (by simp [results, Try.results18, go_sem]) rfl ⟨y, z, rfl, hy, hz, (Only.refl _ _).drewN _⟩
theorem At_out (i : Int) (w : World) (h : Tb w b base most v1 v2 I V) (hi : i < 0 ∨ (I.length : Int) ≤ i) :
    Calls Try.prog 18 #[.pointer (some ⟨b, 0, none⟩), .int .i64 i] w fun x w' => x = .returned (.tuple #[.int .i64 0, .int .i64 0, .bool false]) ∧ w = w' := by
  have hL := Lib.hid (fun W (k : Tb W b base most v1 v2 I V) => Len_any W k)
  by_cases h0 : i < 0
  · clear hi
    go_enter Try.func18, Try.ntmps18
    go_wp2_with (first
      | (go_at_call 9; (with_reducible refine (hL.out _ h).mono ?_); rintro e w1 ⟨rfl, rfl⟩)
      )
    exact bodyPost_ret (v := .tuple #[.int .i64 0, .int .i64 0, .bool false]) (by simp [results, Try.results18, go_sem]) rfl ⟨rfl, rfl⟩
  · have h1 : (I.length : Int) ≤ i := by omega
    clear hi
    go_enter Try.func18, Try.ntmps18
    go_wp2_with (first
      | (go_at_call 9; (with_reducible refine (hL.out _ h).mono ?_); rintro e w1 ⟨rfl, rfl⟩)
      )
    exact bodyPost_ret (v := .tuple #[.int .i64 0, .int .i64 0, .bool false]) (by simp [results, Try.results18, go_sem]) rfl ⟨rfl, rfl⟩
end
end Go.Proofs.Ytkidhfcokckomaa
