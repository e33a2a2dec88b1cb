/- What Put does to a table that has room. -/
import Derived.Test.YtkidhfcokckomaaTable2
import Derived.Deep.RegionLaw
import Derived.Deep.DeepCutAuto
namespace Go.Proofs.Ytkidhfcokckomaa
open Go.RowKit

theorem cpy_up {α : Type} (I : List α) (z : α) (r : Nat) (h : r ≤ I.length) : cpy (I ++ [z]) (r + 1) r (min (I.length + 1 - r) (I.length + 1 - (r + 1))) = I.take r ++ ((I ++ [z]).drop r).take 1 ++ I.drop r := by
  have e : min (I.length + 1 - r) (I.length + 1 - (r + 1)) = I.length - r := by omega
  rw [e]
  unfold cpy
  have e1 : (I ++ [z]).take (r + 1) = I.take r ++ ((I ++ [z]).drop r).take 1 := by
    rw [List.take_add, List.take_append_of_le_length h]
  have e2 : ((I ++ [z]).drop r).take (I.length - r) = I.drop r := by
    rw [List.drop_append_of_le_length h, List.take_left' (by simp)]
  have e3 : (I ++ [z]).drop (r + 1 + (I.length - r)) = [] := List.drop_of_length_le (by simp; omega)
  rw [e1, e2, e3, List.append_nil]
theorem ins_up {α : Type} (I : List α) (z y : α) (r : Nat) (h : r ≤ I.length) : (cpy (I ++ [z]) (r + 1) r (min (I.length + 1 - r) (I.length + 1 - (r + 1)))).set r y = I.take r ++ y :: I.drop r := by
  rw [cpy_up I z r h]
  obtain ⟨x, hx⟩ : ∃ x, ((I ++ [z]).drop r).take 1 = [x] := List.length_eq_one_iff.1 (by simp; omega)
  rw [hx, List.append_assoc]
  have hl : (I.take r).length = r := by rw [List.length_take]; omega
  rw [List.set_append_right _ _ (by omega), hl, Nat.sub_self]
  rfl
theorem len_up {α : Type} (I : List α) (z : α) (r : Nat) (h : r ≤ I.length) : (cpy (I ++ [z]) (r + 1) r (min (I.length + 1 - r) (I.length + 1 - (r + 1)))).length = I.length + 1 := by
  rw [cpy_length _ _ _ _ (by simp; omega) (by simp; omega)]
  simp
section
variable {w w' : World} {b base : Nat} {most : Int} {v1 v2 : Value} {I V : List Int}
def PtPost (w : World) (b base : Nat) (most : Int) (I V : List Int) (id v : Int) (x : Ending) (w' : World) : Prop :=
  ∃ (r : Nat) (v1' v2' : Value), x = .returned (.int .i64 0) ∧ plc I id r ∧ Tb w' b base most v1' v2' (I.take r ++ id :: I.drop r) (V.take r ++ v :: V.drop r) ∧ Below base w w' ∧ Oth w w'
set_option maxRecDepth 100000 in
set_option maxHeartbeats 4000000 in
theorem Put_new (id v : Int) (w : World) (h : Tb w b base most v1 v2 I V) (hs : rising I) (hn : I.length ≤ 1500) (hid : id ∉ I) (hf : (I.length : Int) < most) :
    Calls Try.prog 19 #[.pointer (some ⟨b, 0, none⟩), .int .i64 id, .int .i64 v] w (PtPost w b base most I V id v) := by
  have hsz : base ≤ w.heap.size := by have := h.hb; have := h.blk.lt; omega
  have hhb := h.hb
  obtain ⟨A, cap, rfl, hc, hm⟩ := h.o1.form
  obtain ⟨A2, cap2, rfl, hc2, hm2⟩ := h.o2.form
  have hd : decide (most ≤ (I.length : Int)) = false := by simpa using hf
  have HV := Lib.hid h.len
  go_enter Try.func19, Try.ntmps19
  go_wp2_with (first
    | (go_at_call 24; (with_reducible refine (finder_any _ _).mono ?_); rintro e w1 ⟨g, rfl, ho1, hg1⟩; have h1 := h.kept ho1)
    | (go_at_call 25; (with_reducible refine (finder1_out g id _ hg1 h1 hs (by omega) hid).mono ?_); rintro e w2 ⟨r, rfl, hr, ho2⟩; have h2 := h1.kept ho2; have c0 := h2.blk.cell 0; have c1 := h2.blk.cell 1)
    )
  go_quiet (fail)
  have h3 := h2.kept ((Only.refl Nil w2).drewN nq)
  have hx3 := (ho1.trans ho2).drewN nq
  have c1 := h3.blk.cell 1
  have hN1 : Blk ((w2.drewN nq).alloc (.cells #[.int .i64 0] 3)) w2.heap.size 3 #[.int .i64 0] := Blk.new _ _ _
  have t1 := Src.one (P := Try.prog) (enc := encZ) (tx := 37) Try.underlying37 (0 : Int) 1 rfl hN1 rfl encZ_one0
  have hO1 := h3.o1.alloc (.cells #[.int .i64 0] 3)
  have hO2 := h3.o2.alloc (.cells #[.int .i64 0] 3)
  have hB1 := h3.blk.alloc (.cells #[.int .i64 0] 3)
  have hne1 := h3.o1.ne h3.blk (by decide)
  have hne2 := h3.o2.ne h3.blk (by decide)
  have hz1 : base ≤ ((w2.drewN nq).alloc (.cells #[.int .i64 0] 3)).heap.size := by have := hx3.size; simp at this ⊢; omega
  have hBe1 := (hx3.alloc (.cells #[.int .i64 0] 3)).below hsz (fun _ _ hh => hh)
  have hT1 := Oth.of_nil (hx3.alloc (.cells #[.int .i64 0] 3))
  go_upto_region 10 with (first
    | (at_builtin
       refine wpList_app rfl (.tmp 36) (.tmp 37) _ _ rfl base 3 Try.underlying37 int_info rfl _ I rfl hO1 _ [(0 : Int)] rfl t1 (by simp; omega) (by decide) hz1 ?_
       intro A6 c6 w6 hown6 ho6 hg6
       have hB6 := hB1.kept ho6 hne1
       have hO26 := hO2.kept ho6 (fun g hg hh => h3.sep g hh hg)
       have d1 := hB6.cell 1
       have d2a := hB6.cell 2
       have q1 := hB6.frozen 1
       have hBe6 := hBe1.trans (ho6.below hz1 (fun i hi hh => by have := (hO1.lt hh).1; omega))
       have hT6 := hT1.own hO1 ho6)
    )
  have hn1 : I.length + [(0 : Int)].length = I.length + 1 := rfl
  rw [hn1] at hown6 hg6
  have hne6 := hown6.ne hB6 (by decide)
  have hB7 := hB6.set 1 (.slice A6 (I.length + 1) c6)
  have hO17 := hown6.set hne6 1 (.slice A6 (I.length + 1) c6)
  have hO27 := hO26.set hne2 1 (.slice A6 (I.length + 1) c6)
  have hBe7 := hBe6.setCell (p := ⟨b, 1, none⟩) h.hb (.slice A6 (I.length + 1) c6)
  have hT7 := hT6.set hB6 1 (.slice A6 (I.length + 1) c6)
  have hz7 : base ≤ ((w6.setCell ⟨b, 1, none⟩ (.slice A6 (I.length + 1) c6)).alloc (.cells #[.int .i64 0] 3)).heap.size := by have := hBe7.size; simp at this ⊢; omega
  have hN2 : Blk ((w6.setCell ⟨b, 1, none⟩ (.slice A6 (I.length + 1) c6)).alloc (.cells #[.int .i64 0] 3)) w6.heap.size 3 #[.int .i64 0] := by
    have h9 := Blk.new (w6.setCell ⟨b, 1, none⟩ (.slice A6 (I.length + 1) c6)) 3 #[.int .i64 0]
    simpa using h9
  have t2 := Src.one (P := Try.prog) (enc := encZ) (tx := 37) Try.underlying37 (0 : Int) 1 rfl hN2 rfl encZ_one0
  have hO2a := hO27.alloc (.cells #[.int .i64 0] 3)
  have hsep6 : ∀ g, (Value.slice A6 (I.length + 1) c6).ownBlock = some g → (Value.slice A2 V.length cap2).ownBlock ≠ some g := fun g hg hh => by
    rcases hg6 g hg with h9 | h9
    · exact h3.sep g h9 hh
    · have := (hO2.lt hh).2
      omega
  have e1 : V.length + [(0 : Int)].length ≤ 1000000000 := by simp; have := HV.out; omega
  go_wp2_with (first
    | (at_builtin
       refine wpList_app rfl (.tmp 45) (.tmp 47) _ _ rfl base 3 Try.underlying37 int_info rfl _ V rfl hO2a _ [(0 : Int)] rfl t2 e1 (by decide) hz7 ?_
       intro A8 c8 w8 hown8 ho8 hg8
       have hB8 := (hB7.alloc (.cells #[.int .i64 0] 3)).kept ho8 hne2
       have d2 := hB8.cell 2
       have q2 := hB8.frozen 2)
    )
  have hO18 := (hO17.alloc (.cells #[.int .i64 0] 3)).kept ho8 (fun g hg hh => hsep6 g hg hh)
  have hBe8 := (hBe7.trans (((Only.refl Nil _).alloc (.cells #[.int .i64 0] 3)).below (Nat.le_trans hsz hBe7.size) (fun _ _ hh => hh))).trans (ho8.below hz7 (fun i hi hh => by have := (hO2a.lt hh).1; omega))
  have hT8 := (hT7.alloc (.cells #[.int .i64 0] 3)).own hO2a ho8
  have hn2 : V.length + [(0 : Int)].length = V.length + 1 := rfl
  rw [hn2] at hown8 hg8
  have hne8 := hown8.ne hB8 (by decide)
  have hB9 := hB8.set 2 (.slice A8 (V.length + 1) c8)
  have hne6' : (Value.slice A6 (I.length + 1) c6).ownBlock ≠ some b := hne6
  have hO19 := hO18.set hne6' 2 (.slice A8 (V.length + 1) c8)
  have hO29 := hown8.set hne8 2 (.slice A8 (V.length + 1) c8)
  have hBe9 := hBe8.setCell (p := ⟨b, 2, none⟩) h.hb (.slice A8 (V.length + 1) c8)
  have hT9 := hT8.set hB8 2 (.slice A8 (V.length + 1) c8)
  have hsep8 : ∀ g, (Value.slice A6 (I.length + 1) c6).ownBlock = some g → (Value.slice A8 (V.length + 1) c8).ownBlock ≠ some g := fun g hg hh => by
    rcases hg8 g hh with h9 | h9
    · exact hsep6 g hg h9
    · have := (hO17.lt hg).2
      simp at h9 this
      omega
  clear d1 d2a q1 d2 q2 hB6 hB7 hB8 hO17 hO27 hO26 hO18 hown6 hown8 t1 t2 hN1 hN2 hO1 hO2 hO2a hB1
  have HS8 := Lib.hid hsep8
  clear hT1 hT6 hT7 hT8 hg6 hg8 hsep6 hsep8 ho6 ho8 hBe6 hBe7 hBe8 hBe1 hz1 hz7 e1 hne6' hn1 hn2
  generalize (w8.setCell ⟨b, 2, none⟩ (.slice A8 (V.length + 1) c8)) = w9 at *
  obtain ⟨g6, o6, x6, rfl, _, _, _, _⟩ := (hO19.sq (fun _ _ => rfl) rfl).at_ (k := 0) (by simp)
  obtain ⟨g7, o7, x7, rfl, _, _, _, _⟩ := (hO29.sq (fun _ _ => rfl) rfl).at_ (k := 0) (by simp)
  have b1 : w9.drew.cell? ⟨b, 1, none⟩ = some (.slice (some ⟨g6, o6, none⟩) (I.length + 1) c6) := hB9.cell 1
  have hrI := hr.1
  have hp : Hid (plc I id r) := Lib.hid hr
  clear hr
  have ew : IntKind.i64.wrap ((r : Int) + 1) = (r : Int) + 1 := IntWalk.i64_in _ (by omega)
  have er : (r : Int) + 1 ≤ ((I.length + 1 : Nat) : Int) := by omega
  have er0 : (r : Int) ≤ ((I.length + 1 : Nat) : Int) := by omega
  have hc6 : I.length + 1 ≤ c6 := by obtain ⟨_, c', hfm, h9, _⟩ := hO19.form; injection hfm with _ _ hfm; subst hfm; simpa using h9
  have er2 : (0 : Int) ≤ (r : Int) + 1 := by omega
  have er3 : (r : Int) + 1 ≤ (I.length : Int) + 1 := by omega
  have er4 : (r : Int) ≤ (I.length : Int) + 1 := by omega
  go_region_held3 (fun w' => w'.cell? ⟨b, 1, none⟩ = some (.slice (some ⟨g6, o6, none⟩) (I.length + 1) c6)) (with_reducible (first | exact b1 | exact b1n)) (first
    | (refine step_cpy (enc := encZ) (by rfl) (.tmp 57) (.tmp 63) _ _ (by rfl) 3 Try.underlying37 int_size encZ_len encZ_one hO19.drew _ _ _ _ _ _ (by rfl) (by rfl) (r + 1) r (by omega) (by omega) (by omega) (by omega) (by intro _; rw [if_neg (by omega)]; simp [Addr.add_lit]) (by intro _; rw [if_neg (by omega)]; simp [Addr.add_lit]) ?_; intro w10 h10 h11; have hB10 := Blk.kept hB9.drew h11.out hne6; have b1n : w10.cell? ⟨b, 1, none⟩ = some (.slice (some ⟨g6, o6, none⟩) (I.length + 1) c6) := hB10.cell 1)
    )
  have hO210 := hO29.drew.kept h11.out (fun g hg hh => HS8.out g hh hg)
  have hBe10 := hBe9.drew.trans (h11.out.below (Nat.le_trans hsz hBe9.size) (fun i hi hh => by have := (hO19.lt hh).1; omega))
  have hT10 := hT9.drew.own hO19.drew h11.out
  have hlV : V.length = I.length := HV.out.symm
  have hc8 : V.length + 1 ≤ c8 := by obtain ⟨_, c', hfm, h9, _⟩ := hO29.form; injection hfm with _ _ hfm; subst hfm; simpa using h9
  have b2 : w10.drew.cell? ⟨b, 2, none⟩ = some (.slice (some ⟨g7, o7, none⟩) (V.length + 1) c8) := hB10.cell 2
  have er5 : (r : Int) + 1 ≤ (V.length : Int) + 1 := by omega
  have er6 : (r : Int) ≤ (V.length : Int) + 1 := by omega
  have er7 : (r : Int) + 1 ≤ ((V.length + 1 : Nat) : Int) := by omega
  have er8 : (r : Int) ≤ ((V.length + 1 : Nat) : Int) := by omega
  have hne8' := hne8
  have hVr : r ≤ V.length := by omega
  have HlV := Lib.hid hlV
  clear hlV b1 b1n hB9 hO19 hO29 hBe9
  go_wp2
  all_goals
    go_region_held3 (fun w' => w'.cell? ⟨b, 2, none⟩ = some (.slice (some ⟨g7, o7, none⟩) (V.length + 1) c8)) (with_reducible (first | exact b2 | exact b2n)) (first
      | (refine step_cpy (enc := encZ) (by rfl) (.tmp 71) (.tmp 77) _ _ (by rfl) 3 Try.underlying37 int_size encZ_len encZ_one hO210.drew _ _ _ _ _ _ (by rfl) (by rfl) (r + 1) r (by omega) (by omega) (by omega) (by omega) (by intro _; rw [if_neg (by omega)]; simp [Addr.add_lit]) (by intro _; rw [if_neg (by omega)]; simp [Addr.add_lit]) ?_; intro w11 h12 h13; have hB11 := Blk.kept hB10.drew h13.out hne8'; have b2n : w11.cell? ⟨b, 2, none⟩ = some (.slice (some ⟨g7, o7, none⟩) (V.length + 1) c8) := hB11.cell 2)
      )
    have hO111 := h10.out.drew.kept h13.out (fun g hg hh => HS8.out g hg hh)
    have hO211 := h12.out
    have hBe11 := hBe10.drew.trans (h13.out.below (Nat.le_trans hsz hBe10.size) (fun i hi hh => by have := (hO210.lt hh).1; omega))
    have hT11 := hT10.drew.own hO210.drew h13.out
    clear h10 h11 h12 h13 b2 b2n hO210
    have hI1 := Lib.hid (ins_up I 0 id r hrI)
    have hV1 := Lib.hid (ins_up V 0 v r hVr)
    have lI1 := len_up I 0 r hrI
    have lV1 := len_up V 0 r hVr
    generalize cpy (I ++ [0]) (r + 1) r (min (I.length + 1 - r) (I.length + 1 - (r + 1))) = I1 at hO111 hI1 lI1
    generalize cpy (V ++ [0]) (r + 1) r (min (V.length + 1 - r) (V.length + 1 - (r + 1))) = V1 at hO211 hV1 lV1
    obtain ⟨_, _, x1, e1, _, hx1, _, hc1⟩ := (hO111.sq (fun _ _ => rfl) rfl).at_ (k := r) (by omega)
    injection e1 with e1
    injection e1 with e1 e2
    subst e1 e2
    obtain ⟨_, _, x2, e1, _, hx2, _, hc2⟩ := (hO211.sq (fun _ _ => rfl) rfl).at_ (k := r) (by omega)
    injection e1 with e1
    injection e1 with e1 e2
    subst e1 e2
    have y1 : w11.cell? ⟨g6, o6 + r, none⟩ = some (.int .i64 x1) := by simpa [encZ] using hc1 0 (by decide)
    have y2 : w11.cell? ⟨g7, o7 + r, none⟩ = some (.int .i64 x2) := by simpa [encZ] using hc2 0 (by decide)
    have z1 := hO111.frz r
    have z2 := hO211.frz r
    have k1 : w11.cell? ⟨b, 1, none⟩ = some (.slice (some ⟨g6, o6, none⟩) (I.length + 1) c6) := hB11.cell 1
    have k2 : w11.cell? ⟨b, 2, none⟩ = some (.slice (some ⟨g7, o7, none⟩) (V.length + 1) c8) := hB11.cell 2
    have n67 : g6 ≠ g7 := fun e => HS8.out g6 rfl (by rw [e]; rfl)
    have n6b : g6 ≠ b := fun e => hne6 (by rw [e]; rfl)
    have n7b : g7 ≠ b := fun e => hne8' (by rw [e]; rfl)
    have l6 := (hO111.lt (g := g6) rfl).2
    have l7 := (hO211.lt (g := g7) rfl).2
    have m6 := (hO111.lt (g := g6) rfl).1
    have m7 := (hO211.lt (g := g7) rfl).1
    have es1 : (r : Int) < (I.length : Int) + 1 := by omega
    have es2 : (r : Int) < (V.length : Int) + 1 := by omega
    clear hc1 hc2 hx1 hx2
    go_wp2
    all_goals go_region
    all_goals
      go_wp2
      go_ret
      have p1 := (hO111.put1 encZ_len r (by omega) id (.int .i64 id) rfl).set (b := g7) (fun hh => n67 (by injection hh)) (o7 + r) (.int .i64 v)
      have p2 := (hO211.set (b := g6) (fun hh => n67 (by injection hh with hh; exact hh.symm)) (o6 + r) (.int .i64 id)).put1 encZ_len r (by omega) v (.int .i64 v) rfl
      rw [hI1.out] at p1
      rw [hV1.out] at p2
      have q3 := (hB11.far (p := ⟨g6, o6 + r, none⟩) n6b.symm (.int .i64 id)).far (p := ⟨g7, o7 + r, none⟩) n7b.symm (.int .i64 v)
      have q4 := (hBe11.setCell (p := ⟨g6, o6 + r, none⟩) m6 (.int .i64 id)).setCell (p := ⟨g7, o7 + r, none⟩) m7 (.int .i64 v)
      have t4 := (hT11.cell hO111 (o6 + r) (.int .i64 id)).cell (hO211.set (b := g6) (fun hh => n67 (by injection hh with hh; exact hh.symm)) (o6 + r) (.int .i64 id)) (o7 + r) (.int .i64 v)
      exact ⟨r, _, _, rfl, hp.out, ⟨q3.drew, p1.drew, p2.drew, by have := HlV.out; simp; omega, fun g hg hh => HS8.out g hg hh, hhb⟩, q4.drew, t4.drew⟩
end
end Go.Proofs.Ytkidhfcokckomaa
