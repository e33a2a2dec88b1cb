/- What Del, Drop and Ends do to a table of the call's own. -/
import Derived.Test.YtkidhfcokckomaaTable6
namespace Go.Proofs.Ytkidhfcokckomaa
open Go.RowKit

theorem cpy_down {α : Type} (I : List α) (r : Nat) (h : r < I.length) : (cpy I r (r + 1) (min (I.length - (r + 1)) (I.length - r))).take (I.length - 1) = I.eraseIdx r := by
  have e : min (I.length - (r + 1)) (I.length - r) = I.length - (r + 1) := by omega
  rw [e]
  unfold cpy
  rw [List.eraseIdx_eq_take_drop_succ, ← List.append_assoc, List.take_append_of_le_length (by simp; omega), List.take_of_length_le (by simp; omega)]
  congr 1
  exact List.take_of_length_le (by simp)
theorem len_down {α : Type} (I : List α) (r : Nat) (h : r < I.length) : (cpy I r (r + 1) (min (I.length - (r + 1)) (I.length - r))).length = I.length :=
  cpy_length _ _ _ _ (by omega) (by omega)
theorem set_take {α : Type} (l : List α) (k : Nat) (z : α) : (l.set k z).take k = l.take k := by
  apply List.ext_getElem?
  intro i
  rw [List.getElem?_take, List.getElem?_take]
  split
  · rw [List.getElem?_set_ne (by omega)]
  · rfl
section
variable {w w' : World} {b base : Nat} {most : Int} {v1 v2 : Value} {I V : List Int}
theorem Del_out (id : Int) (w : World) (h : Tb w b base most v1 v2 I V) (hs : rising I) (hn : I.length ≤ 2000) (hid : id ∉ I) :
    Calls Try.prog 17 #[.pointer (some ⟨b, 0, none⟩), .int .i64 id] w fun x w' => x = .returned (.tuple #[.int .i64 0, .bool false]) ∧ Only Nil w w' := by
  go_enter Try.func17, Try.ntmps17
  go_wp2_with (first
    | (go_at_call 24; (with_reducible refine (finder_any _ _).mono ?_); rintro e w1 ⟨g, rfl, ho1, hg1⟩; have h1 := h.kept ho1)
    | (go_at_call 25; (with_reducible refine (finder1_out g id _ hg1 h1 hs hn hid).mono ?_); rintro e w2 ⟨r, rfl, hr, ho2⟩)
    )
  go_ret2
  exact ⟨rfl, ho1.trans ho2⟩
def DlPost (w : World) (b base : Nat) (most : Int) (I V : List Int) (id : Int) (x : Ending) (w' : World) : Prop :=
  ∃ (r : Nat) (y : Int) (v1' v2' : Value), x = .returned (.tuple #[.int .i64 y, .bool true]) ∧ I[r]? = some id ∧ V[r]? = some y ∧ Tb w' b base most v1' v2' (I.eraseIdx r) (V.eraseIdx r) ∧ Below base w w' ∧ Oth w w'
set_option maxRecDepth 100000 in
set_option maxHeartbeats 4000000 in
theorem Del_in (id : Int) (w : World) (h : Tb w b base most v1 v2 I V) (hs : rising I) (hn : I.length ≤ 2000) (hid : id ∈ I) :
    Calls Try.prog 17 #[.pointer (some ⟨b, 0, none⟩), .int .i64 id] w (DlPost w b base most I V id) := by
  have hsz : base ≤ w.heap.size := by have := h.hb; have := h.blk.lt; omega
  have hhb := h.hb
  obtain ⟨A, cap, rfl, hc, hm⟩ := h.o1.form
  obtain ⟨A2, cap2, rfl, hc2, hm2⟩ := h.o2.form
  have hVI := h.len
  rw [← hVI] at h
  have hcV : I.length ≤ cap2 := by omega
  have HV := Lib.hid hVI
  clear hc2 hVI
  have hpos : 0 < I.length := List.length_pos_of_mem hid
  obtain ⟨g6, o6, _, rfl, _, _, _, _⟩ := (h.o1.sq (fun _ _ => rfl) rfl).at_ (k := 0) hpos
  obtain ⟨g7, o7, _, rfl, _, _, _, _⟩ := (h.o2.sq (fun _ _ => rfl) rfl).at_ (k := 0) (by rw [← HV.out]; exact hpos)
  go_enter Try.func17, Try.ntmps17
  go_wp2_with (first
    | (go_at_call 24; (with_reducible refine (finder_any _ _).mono ?_); rintro e w1 ⟨g, rfl, ho1, hg1⟩; have h1 := h.kept ho1)
    | (go_at_call 25; (with_reducible refine (finder1_in g id _ hg1 h1 hs hn hid).mono ?_); rintro e w2 ⟨r, rfl, hr, ho2⟩; have h2 := h1.kept ho2; have c1 := h2.blk.cell 1; have c2 := h2.blk.cell 2; have hrl := (List.getElem?_eq_some_iff.1 hr).1; obtain ⟨bb, off, y, hA, hbb, hy, _, hcs⟩ := (h2.o2.sq (fun _ _ => rfl) rfl).at_ (k := r) (by have := HV.out; omega); have e1 : w2.cell? ⟨bb, off + r, none⟩ = some (.int .i64 y) := (by simpa [encZ] using hcs 0 (by decide)); injection hA with hA; injection hA with hA1 hA2; subst hA1 hA2; clear hcs; have hri : (r : Int) < I.length := (by omega))
    )
  have hx2 := ho1.trans ho2
  have hB := h2.blk.drew
  have hO1 := h2.o1.drew
  have hO2 := h2.o2.drew
  have hne6 := h2.o1.ne h2.blk (by decide)
  have hne7 := h2.o2.ne h2.blk (by decide)
  have HS := Lib.hid h2.sep
  have hBe := (hx2.below hsz (fun _ _ hh => hh)).drew
  have hT := (Oth.of_nil hx2).drew
  have b1 : w2.drew.cell? ⟨b, 1, none⟩ = some (.slice (some ⟨g6, o6, none⟩) I.length cap) := hB.cell 1
  have ew : IntKind.i64.wrap ((r : Int) + 1) = (r : Int) + 1 := IntWalk.i64_in _ (by omega)
  have er1 : (r : Int) + 1 ≤ (I.length : Int) := by omega
  have er2 : (0 : Int) ≤ (r : Int) + 1 := by omega
  have er3 : (r : Int) ≤ (I.length : Int) := by omega
  clear h1 h2 ho1 ho2 hx2 hg1 h hs
  go_region_held3 (fun w' => w'.cell? ⟨b, 1, none⟩ = some (.slice (some ⟨g6, o6, none⟩) I.length cap)) (with_reducible (first | exact b1 | exact b1n)) (first
    | (refine step_cpy (enc := encZ) (by rfl) (.tmp 39) (.tmp 46) _ _ (by rfl) 3 Try.underlying37 int_size encZ_len encZ_one hO1 _ _ _ _ _ _ (by rfl) (by rfl) r (r + 1) (by omega) (by omega) (by omega) (by omega) (by intro _; rw [if_neg (by omega)]; simp [Addr.add_lit]) (by intro _; rw [if_neg (by omega)]; simp [Addr.add_lit]) ?_; intro w10 h10 h11; have hB10 := Blk.kept hB h11.out hne6; have b1n : w10.cell? ⟨b, 1, none⟩ = some (.slice (some ⟨g6, o6, none⟩) I.length cap) := hB10.cell 1)
    )
  have hO210 := hO2.kept h11.out (fun g hg hh => HS.out g hh hg)
  have hBe10 := hBe.trans (h11.out.below (Nat.le_trans hsz hBe.size) (fun i hi hh => by have := (hO1.lt hh).1; omega))
  have hT10 := hT.own hO1 h11.out
  have b2 : w10.drew.cell? ⟨b, 2, none⟩ = some (.slice (some ⟨g7, o7, none⟩) I.length cap2) := hB10.cell 2
  have hne7' := hne7
  clear b1 b1n hB hO1 hO2 hBe
  go_wp2
  all_goals
    go_region_held3 (fun w' => w'.cell? ⟨b, 2, none⟩ = some (.slice (some ⟨g7, o7, none⟩) I.length cap2)) (with_reducible (first | exact b2 | exact b2n)) (first
      | (refine step_cpy (enc := encZ) (by rfl) (.tmp 53) (.tmp 60) _ _ (by rfl) 3 Try.underlying37 int_size encZ_len encZ_one hO210.drew _ _ _ _ _ _ (by rfl) (by rfl) r (r + 1) (by omega) (by omega) (by omega) (by omega) (by intro _; rw [if_neg (by omega)]; simp [Addr.add_lit]) (by intro _; rw [if_neg (by omega)]; simp [Addr.add_lit]) ?_; intro w11 h12 h13; have hB11 := Blk.kept hB10.drew h13.out hne7'; have b2n : w11.cell? ⟨b, 2, none⟩ = some (.slice (some ⟨g7, o7, none⟩) I.length cap2) := hB11.cell 2)
      )
    have hO111 := h10.out.drew.kept h13.out (fun g hg hh => HS.out g hg hh)
    have hO211 := h12.out
    have hBe11 := hBe10.drew.trans (h13.out.below (Nat.le_trans hsz hBe10.size) (fun i hi hh => by have := (hO210.lt hh).1; omega))
    have hT11 := hT10.drew.own hO210.drew h13.out
    clear h10 h11 h12 h13 b2 b2n hO210
    have hVr : r < V.length := by have := HV.out; omega
    have hI1 := Lib.hid (cpy_down I r hrl)
    have hV1 := Lib.hid (cpy_down V r hVr)
    have lI1 := len_down I r hrl
    have lV1 := Lib.hid (len_down V r hVr)
    rw [← HV.out] at hV1 lV1
    generalize cpy I r (r + 1) (min (I.length - (r + 1)) (I.length - r)) = I1 at hO111 hI1 lI1
    generalize cpy V r (r + 1) (min (I.length - (r + 1)) (I.length - r)) = V1 at hO211 hV1 lV1
    have hvl : V1.length = I.length := lV1.out
    obtain ⟨_, _, x2, e1, _, hx2, _, hc2⟩ := (hO211.sq (fun _ _ => rfl) rfl).at_ (k := I.length - 1) (by omega)
    injection e1 with e1
    injection e1 with e1 e2
    subst e1 e2
    have y2 : w11.cell? ⟨g7, o7 + (I.length - 1), none⟩ = some (.int .i64 x2) := by simpa [encZ] using hc2 0 (by decide)
    have z2 := hO211.frz (I.length - 1)
    have hO212 := hO211.put1 encZ_len (I.length - 1) (by omega) 0 (.int .i64 0) rfl
    have n67 : g6 ≠ g7 := fun e => HS.out g6 rfl (by rw [e]; rfl)
    have n7b : g7 ≠ b := fun e => hne7' (by rw [e]; rfl)
    have hO112 := hO111.set (b := g7) (fun hh => n67 (by injection hh)) (o7 + (I.length - 1)) (.int .i64 0)
    have hB12 := hB11.far (p := ⟨g7, o7 + (I.length - 1), none⟩) n7b.symm (.int .i64 0)
    have m7 := (hO211.lt (g := g7) rfl).1
    have hBe12 := hBe11.setCell (p := ⟨g7, o7 + (I.length - 1), none⟩) m7 (.int .i64 0)
    have k1 : w11.cell? ⟨b, 1, none⟩ = some (.slice (some ⟨g6, o6, none⟩) I.length cap) := hB11.cell 1
    have k2 : w11.cell? ⟨b, 2, none⟩ = some (.slice (some ⟨g7, o7, none⟩) I.length cap2) := hB11.cell 2
    have q1 := hB11.frozen 1
    have q2 := hB11.frozen 2
    have hB13 := (hB12.set 1 (.slice (some ⟨g6, o6, none⟩) (I.length - 1) cap)).set 2 (.slice (some ⟨g7, o7, none⟩) (I.length - 1) cap2)
    have l7 := (hO211.lt (g := g7) rfl).2
    have eli : (I.length : Int) - 1 < (I.length : Int) := by omega
    have eli0 : (0 : Int) ≤ (I.length : Int) - 1 := by omega
    have eli2 : (I.length : Int) - 1 ≤ (cap : Int) := by omega
    have eli3 : (I.length : Int) - 1 ≤ (cap2 : Int) := by omega
    have LI1 := Lib.hid lI1
    have eI := hI1.out
    have eV := hV1.out
    have p1 := hO112.take (fun _ _ => rfl) rfl (k := I.length - 1) (by omega)
    have p2 := hO212.take (fun _ _ => rfl) rfl (k := I.length - 1) (by rw [List.length_set]; omega)
    rw [eI] at p1
    rw [set_take, eV] at p2
    have n6b : (Value.slice (some ⟨g6, o6, none⟩) (I.length - 1) cap).ownBlock ≠ some b := fun hh => hne6 (by simpa [Value.ownBlock] using hh)
    have n7b' : (Value.slice (some ⟨g7, o7, none⟩) (I.length - 1) cap2).ownBlock ≠ some b := fun hh => hne7' (by simpa [Value.ownBlock] using hh)
    have p1' := (p1.set n6b 1 (.slice (some ⟨g6, o6, none⟩) (I.length - 1) cap)).set n6b 2 (.slice (some ⟨g7, o7, none⟩) (I.length - 1) cap2)
    have p2' := (p2.set n7b' 1 (.slice (some ⟨g6, o6, none⟩) (I.length - 1) cap)).set n7b' 2 (.slice (some ⟨g7, o7, none⟩) (I.length - 1) cap2)
    have q4 := (hBe12.setCell (p := ⟨b, 1, none⟩) hhb (.slice (some ⟨g6, o6, none⟩) (I.length - 1) cap)).setCell (p := ⟨b, 2, none⟩) hhb (.slice (some ⟨g7, o7, none⟩) (I.length - 1) cap2)
    have fin := Lib.hid (show Tb _ b base most (.slice (some ⟨g6, o6, none⟩) (I.length - 1) cap) (.slice (some ⟨g7, o7, none⟩) (I.length - 1) cap2) (I.eraseIdx r) (V.eraseIdx r) from ⟨hB13.drew, p1'.drew, p2'.drew, by have := HV.out; rw [List.length_eraseIdx_of_lt hrl, List.length_eraseIdx_of_lt hVr, this], fun g hg hh => HS.out g (by simpa [Value.ownBlock] using hg) (by simpa [Value.ownBlock] using hh), hhb⟩)
    have finq := Lib.hid (And.intro q4.drew (((hT11.cell hO211 (o7 + (I.length - 1)) (.int .i64 0)).set hB12 1 (.slice (some ⟨g6, o6, none⟩) (I.length - 1) cap)).set (hB12.set 1 _) 2 (.slice (some ⟨g7, o7, none⟩) (I.length - 1) cap2)).drew)
    clear hc2 hx2 lI1 hvl eI eV p1 p2 n6b n7b' p1' p2' q4 hB13 hI1 hV1 hO111 hO211 hO112 hO212 hB11 hB12 hBe11 hBe12
    go_wp2
    all_goals go_region
    all_goals
      go_wp2
      go_ret2
      try (have ec : cap = r + 1 := by assumption
           rw [ec] at fin finq)
      try (have ec : cap2 = r + 1 := by assumption
           rw [ec] at fin finq)
      exact ⟨r, y, _, _, rfl, hr, hy, fin.out, finq.out⟩
end
end Go.Proofs.Ytkidhfcokckomaa
