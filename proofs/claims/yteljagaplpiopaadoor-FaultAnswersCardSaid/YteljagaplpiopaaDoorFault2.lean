/- A fault's row, and whether there is one. -/
import Derived.Test.YteljagaplpiopaaDoorFault
namespace Go.Proofs.YteljagaplpiopaaDoor
open Go.RowKit
attribute [local go_sem ↓] Go.wp_at_zero Go.wp_at_succ

def tabL : List Value := tab_fault_rows.toList
theorem tabL_arr : tabL.toArray = tab_fault_rows := by unfold tabL; simp
theorem rangeT {W : World} (h : Rws W) : W.rangeAt 0 0 tabL := fun j v hv => by
  obtain ⟨t, hB⟩ := h
  rw [Nat.zero_add, hB.cell]
  unfold tabL at hv
  simpa using hv
theorem teller_L (w : World) : Calls Tryd.prog 25 #[.agg tabL.toArray] w (TlPost w) := by rw [tabL_arr]; exact teller_any w
abbrev ftV (k s o : Int) : Value := .agg #[.int .i64 k, .int .i64 s, .int .i64 o]
abbrev rwV (c : Int) (b : Bool) : Value := .agg #[.int .i64 c, .bool b]
/-- the boxes of a call -/
structure T3 (n : Nat) (k s o : Int) (W : World) : Prop where
  f : Blk W n 23 #[.int .i64 k, .int .i64 s, .int .i64 o]
  r : Rws W
  z : Blk W (n + 1) 45 #[.int .i64 0, .bool false]
section
variable {n : Nat} {k s o : Int} {W W' w : World}
theorem T3.kept (h : T3 n k s o W) (ho : Only Nil W W') : T3 n k s o W' := ⟨h.f.kept ho (fun hh => hh), h.r.kept ho (fun hh => hh), h.z.kept ho (fun hh => hh)⟩
theorem T3.see (h : T3 n k s o W) : W.cell? ⟨n, 0, none⟩ = some (.int .i64 k) ∧ W.rangeAt 0 0 tabL := ⟨h.f.cell 0, rangeT h.r⟩
theorem T3.lt (h : T3 n k s o W) : n + 1 < W.heap.size := h.z.lt
theorem T3.far (h : T3 n k s o W) (hg : 0 < n) (m : Nat) (hm : n + 1 < m) (u v : Value) : T3 n k s o ((W.setCell ⟨m, 0, none⟩ u).setCell ⟨m, 1, none⟩ v) := by
  have ho := ((Only.refl (One m) W).set1 0 u).set1 1 v
  exact ⟨h.f.kept ho (by unfold One; omega), h.r.kept ho (by unfold One; omega), h.z.kept ho (by unfold One; omega)⟩
theorem T3.new (hR : Rws w) : T3 w.heap.size k s o (((w.alloc (.cells #[.int .i64 k, .int .i64 s, .int .i64 o] 23)).alloc (.cells #[.int .i64 0, .bool false] 45)).drew) :=
  ⟨(Blk.new w 23 #[.int .i64 k, .int .i64 s, .int .i64 o]).alloc _, (hR.alloc _).alloc _, by
    have := Blk.new (w.alloc (.cells #[.int .i64 k, .int .i64 s, .int .i64 o] 23)) 45 #[.int .i64 0, .bool false]
    simpa using this.drew⟩
theorem T3.facts (h : T3 n k s o W) : W.cell? ⟨n, 0, none⟩ = some (.int .i64 k) ∧ W.cell? ⟨n, 2, none⟩ = some (.int .i64 o) ∧ W.cell? ⟨n + 1, 0, none⟩ = some (.int .i64 0) ∧ W.cell? ⟨n + 1, 1, none⟩ = some (.bool false) ∧ W.frozen? ⟨n + 1, 0, none⟩ = false ∧ W.frozen? ⟨n + 1, 1, none⟩ = false ∧ n + 1 < W.heap.size :=
  ⟨h.f.cell 0, h.f.cell 2, h.z.cell 0, h.z.cell 1, h.z.frozen 0, h.z.frozen 1, h.z.lt⟩
end
set_option maxHeartbeats 2000000 in
theorem of_out (k s o : Int) (w : World) (hR : Rws w) (hk : k < 0 ∨ 20 < k) : Calls Tryd.prog 16 #[ftV k s o] w fun x w' => x = .returned (.tuple #[rwV 0 false, .bool false]) ∧ Only Nil w w' := by
  have HT1 := Lib.hid (fun W g (q : Blk W g 57 tab_fault_rows) => teller1_out g k W hk)
  have t0 : T3 w.heap.size k s o (((w.alloc (.cells #[.int .i64 k, .int .i64 s, .int .i64 o] 23)).alloc (.cells #[.int .i64 0, .bool false] 45)).drew) := T3.new hR
  have x0 := (((Only.refl Nil w).alloc (.cells #[.int .i64 k, .int .i64 s, .int .i64 o] 23)).alloc (.cells #[.int .i64 0, .bool false] 45)).drew
  have hu := Tryd.underlying57
  have hsz : (Tryd.prog.info? 57).map (·.size) = some tabL.length := by kernel_rfl
  have b0 := t0.see
  have tA : T3 w.heap.size k s o ((((w.alloc (.cells #[.int .i64 k, .int .i64 s, .int .i64 o] 23)).alloc (.cells #[.int .i64 0, .bool false] 45)).alloc (.cells #[.int .i64 0, .bool false] 45)).drew) := (T3.new (k := k) (s := s) (o := o) hR).kept ((Only.refl Nil _).alloc (.cells #[.int .i64 0, .bool false] 45))
  have bA := tA.see
  have xA := ((((Only.refl Nil w).alloc (.cells #[.int .i64 k, .int .i64 s, .int .i64 o] 23)).alloc (.cells #[.int .i64 0, .bool false] 45)).alloc (.cells #[.int .i64 0, .bool false] 45)).drew
  have zA : Blk ((((w.alloc (.cells #[.int .i64 k, .int .i64 s, .int .i64 o] 23)).alloc (.cells #[.int .i64 0, .bool false] 45)).alloc (.cells #[.int .i64 0, .bool false] 45)).drew) (w.heap.size + 2) 45 #[.int .i64 0, .bool false] := by
    have := Blk.new ((w.alloc (.cells #[.int .i64 k, .int .i64 s, .int .i64 o] 23)).alloc (.cells #[.int .i64 0, .bool false] 45)) 45 #[.int .i64 0, .bool false]
    simpa using this.drew
  clear hk
  go_enter Tryd.func16, Tryd.ntmps16
  go_wp2
  go_region_held3 (fun w' => w'.cell? ⟨w.heap.size, 0, none⟩ = some (.int .i64 k) ∧ w'.rangeAt 0 0 tabL) (with_reducible (first | exact b0 | exact bA | exact b2 | exact b2a | exact b3 | exact b3a | exact b3A | exact b3B | exact b3c)) (first
    | (go_at_call 25; (with_reducible refine (teller_L _).mono ?_); rintro e w2 ⟨g, rfl, hgl, ho2, hg1⟩; have t2 : T3 w.heap.size k s o w2 := (by first | exact t0.kept ho2 | exact tA.kept ho2); have x2 : Only Nil w w2 := (by first | exact x0.trans ho2 | exact xA.trans ho2); have b2 := t2.see; have t2a := t2.kept ((Only.refl Nil w2).alloc (.cells #[.int .i64 0, .bool false] 45)); have b2a := t2a.see; have x2a := x2.alloc (.cells #[.int .i64 0, .bool false] 45); have hg1a := hg1.alloc (.cells #[.int .i64 0, .bool false] 45); (first | (have z2 := Blk.kept zA ho2 (fun hh => hh)) | skip); have z2a := Blk.new w2 45 #[.int .i64 0, .bool false]; have s2 := t2.lt; have s2a : w2.heap.size ≠ w.heap.size := (by omega); have s2b : w2.heap.size ≠ w.heap.size + 1 := (by omega))
    | (go_at_call 30; (with_reducible refine (HT1.out _ _ (by first | exact hg1 | exact hg1a)).mono ?_); rintro e w3 ⟨rfl, ho3⟩; have t3 : T3 w.heap.size k s o w3 := (by first | exact t2.kept ho3 | exact t2a.kept ho3); have x3 : Only Nil w w3 := (by first | exact x2.trans ho3 | exact x2a.trans ho3); have b3 := t3.see; have t3a := t3.kept ((Only.refl Nil w3).alloc (.cells #[.int .i64 0, .bool false] 45)); have b3a := t3a.see; have t3c := t3.kept ((Only.refl Nil w3).alloc (.cells #[.int .i64 0, .bool false] 45)); have b3c := t3c.see; have t3A := t3.far hR.lt (w.heap.size + 2) (by omega) (.int .i64 0) (.bool false); have b3A := t3A.see; have t3B := t3.far hR.lt w2.heap.size s2 (.int .i64 0) (.bool false); have b3B := t3B.see; have f3c : (w3.alloc (.cells #[.int .i64 0, .bool false] 45)).cell? ⟨w.heap.size, 2, none⟩ = some (.int .i64 o) := t3c.f.cell 2; have f3A : ((w3.setCell ⟨w.heap.size + 2, 0, none⟩ (.int .i64 0)).setCell ⟨w.heap.size + 2, 1, none⟩ (.bool false)).cell? ⟨w.heap.size, 2, none⟩ = some (.int .i64 o) := t3A.f.cell 2; have f3B : ((w3.setCell ⟨w2.heap.size, 0, none⟩ (.int .i64 0)).setCell ⟨w2.heap.size, 1, none⟩ (.bool false)).cell? ⟨w.heap.size, 2, none⟩ = some (.int .i64 o) := t3B.f.cell 2; (first | (have z3 := Blk.kept z2a ho3 (fun hh => hh); have y0 := z3.cell 0; have y1 := z3.cell 1; have y2 := z3.frozen 0; have y3 := z3.frozen 1; have y4 := z3.lt) | (have z3 := Blk.kept z2 ho3 (fun hh => hh); have y0 := z3.cell 0; have y1 := z3.cell 1; have y2 := z3.frozen 0; have y3 := z3.frozen 1; have y4 := z3.lt) | skip); obtain ⟨g0, g1, g2, g3, g4, g5, g6⟩ := t3.facts)
    )
  all_goals
    go_wp2
    refine bodyPost_ret (v := .tuple #[.agg #[.int .i64 0, .bool false], .bool false]) (by simp [results, Tryd.results16, go_sem, g2, g3, g6]) rfl ⟨rfl, ?_⟩
    repeat (first | exact x3 | apply Only.alloc | (refine Only.setNew ?_ (by omega) _ _))
def cdF (k o : Int) : Int := if k = 0 ∧ 0 < o ∧ o ≤ 12 then o else cdI k
theorem cdI_pos (k : Int) : (cdI k == 0) = false := by
  unfold cdI
  repeat' split
  all_goals rfl
set_option maxHeartbeats 4000000 in
theorem of_in (k s o : Int) (w : World) (hR : Rws w) (k0 : 0 ≤ k) (k20 : k ≤ 20) : Calls Tryd.prog 16 #[ftV k s o] w fun x w' => x = .returned (.tuple #[rwV (cdF k o) (whB k), .bool true]) ∧ Only Nil w w' := by
  have HT1 := Lib.hid (fun W g (q : Blk W g 57 tab_fault_rows) => teller1_in g k W q k0 k20)
  have hc0 := cdI_pos k
  clear k20
  by_cases hk : k = 0
  · by_cases ho : 0 < o
    · by_cases ho2 : o ≤ 12
      · have e : cdF k o = o := by unfold cdF; rw [if_pos ⟨hk, ho, ho2⟩]
        have hk0 : (k == 0) = true := by simpa using hk
        rw [e]
        clear hk e
        generalize cdI k = cc at *
        generalize whB k = ww at *
        have t0 : T3 w.heap.size k s o (((w.alloc (.cells #[.int .i64 k, .int .i64 s, .int .i64 o] 23)).alloc (.cells #[.int .i64 0, .bool false] 45)).drew) := T3.new hR
        have x0 := (((Only.refl Nil w).alloc (.cells #[.int .i64 k, .int .i64 s, .int .i64 o] 23)).alloc (.cells #[.int .i64 0, .bool false] 45)).drew
        have hu := Tryd.underlying57
        have hsz : (Tryd.prog.info? 57).map (·.size) = some tabL.length := by kernel_rfl
        have b0 := t0.see
        have tA : T3 w.heap.size k s o ((((w.alloc (.cells #[.int .i64 k, .int .i64 s, .int .i64 o] 23)).alloc (.cells #[.int .i64 0, .bool false] 45)).alloc (.cells #[.int .i64 0, .bool false] 45)).drew) := (T3.new (k := k) (s := s) (o := o) hR).kept ((Only.refl Nil _).alloc (.cells #[.int .i64 0, .bool false] 45))
        have bA := tA.see
        have xA := ((((Only.refl Nil w).alloc (.cells #[.int .i64 k, .int .i64 s, .int .i64 o] 23)).alloc (.cells #[.int .i64 0, .bool false] 45)).alloc (.cells #[.int .i64 0, .bool false] 45)).drew
        have zA : Blk ((((w.alloc (.cells #[.int .i64 k, .int .i64 s, .int .i64 o] 23)).alloc (.cells #[.int .i64 0, .bool false] 45)).alloc (.cells #[.int .i64 0, .bool false] 45)).drew) (w.heap.size + 2) 45 #[.int .i64 0, .bool false] := by
          have := Blk.new ((w.alloc (.cells #[.int .i64 k, .int .i64 s, .int .i64 o] 23)).alloc (.cells #[.int .i64 0, .bool false] 45)) 45 #[.int .i64 0, .bool false]
          simpa using this.drew
        go_enter Tryd.func16, Tryd.ntmps16
        go_wp2
        go_region_held3 (fun w' => w'.cell? ⟨w.heap.size, 0, none⟩ = some (.int .i64 k) ∧ w'.rangeAt 0 0 tabL) (with_reducible (first | exact b0 | exact bA | exact b2 | exact b2a | exact b3 | exact b3a | exact b3A | exact b3B | exact b3c)) (first
          | (go_at_call 25; (with_reducible refine (teller_L _).mono ?_); rintro e w2 ⟨g, rfl, hgl, ho2, hg1⟩; have t2 : T3 w.heap.size k s o w2 := (by first | exact t0.kept ho2 | exact tA.kept ho2); have x2 : Only Nil w w2 := (by first | exact x0.trans ho2 | exact xA.trans ho2); have b2 := t2.see; have t2a := t2.kept ((Only.refl Nil w2).alloc (.cells #[.int .i64 0, .bool false] 45)); have b2a := t2a.see; have x2a := x2.alloc (.cells #[.int .i64 0, .bool false] 45); have hg1a := hg1.alloc (.cells #[.int .i64 0, .bool false] 45); (first | (have z2 := Blk.kept zA ho2 (fun hh => hh)) | skip); have z2a := Blk.new w2 45 #[.int .i64 0, .bool false]; have s2 := t2.lt; have s2a : w2.heap.size ≠ w.heap.size := (by omega); have s2b : w2.heap.size ≠ w.heap.size + 1 := (by omega))
          | (go_at_call 30; (with_reducible refine (HT1.out _ _ (by first | exact hg1 | exact hg1a)).mono ?_); rintro e w3 ⟨rfl, ho3⟩; have t3 : T3 w.heap.size k s o w3 := (by first | exact t2.kept ho3 | exact t2a.kept ho3); have x3 : Only Nil w w3 := (by first | exact x2.trans ho3 | exact x2a.trans ho3); have b3 := t3.see; have t3a := t3.kept ((Only.refl Nil w3).alloc (.cells #[.int .i64 0, .bool false] 45)); have b3a := t3a.see; have t3c := t3.kept ((Only.refl Nil w3).alloc (.cells #[.int .i64 cc, .bool ww] 45)); have b3c := t3c.see; have t3A := t3.far hR.lt (w.heap.size + 2) (by omega) (.int .i64 cc) (.bool ww); have b3A := t3A.see; have t3B := t3.far hR.lt w2.heap.size s2 (.int .i64 cc) (.bool ww); have b3B := t3B.see; have f3c : (w3.alloc (.cells #[.int .i64 cc, .bool ww] 45)).cell? ⟨w.heap.size, 2, none⟩ = some (.int .i64 o) := t3c.f.cell 2; have f3A : ((w3.setCell ⟨w.heap.size + 2, 0, none⟩ (.int .i64 cc)).setCell ⟨w.heap.size + 2, 1, none⟩ (.bool ww)).cell? ⟨w.heap.size, 2, none⟩ = some (.int .i64 o) := t3A.f.cell 2; have f3B : ((w3.setCell ⟨w2.heap.size, 0, none⟩ (.int .i64 cc)).setCell ⟨w2.heap.size, 1, none⟩ (.bool ww)).cell? ⟨w.heap.size, 2, none⟩ = some (.int .i64 o) := t3B.f.cell 2; (first | (have z3 := Blk.kept z2a ho3 (fun hh => hh); have y0 := z3.cell 0; have y1 := z3.cell 1; have y2 := z3.frozen 0; have y3 := z3.frozen 1; have y4 := z3.lt) | (have z3 := Blk.kept z2 ho3 (fun hh => hh); have y0 := z3.cell 0; have y1 := z3.cell 1; have y2 := z3.frozen 0; have y3 := z3.frozen 1; have y4 := z3.lt) | skip); obtain ⟨g0, g1, g2, g3, g4, g5, g6⟩ := t3.facts)
          )
        all_goals
          go_wp2
          refine bodyPost_ret (v := .tuple #[.agg #[.int .i64 o, .bool ww], .bool true]) (by simp [results, Tryd.results16, go_sem, g2, g3, g6]) rfl ⟨rfl, ?_⟩
          repeat (first | exact x3 | apply Only.alloc | (refine Only.setNew ?_ (by omega) _ _))
      · have e : cdF k o = cdI k := by unfold cdF; rw [if_neg (by omega)]
        have hk0 : (k == 0) = true := by simpa using hk
        rw [e]
        clear hk e
        generalize cdI k = cc at *
        generalize whB k = ww at *
        have t0 : T3 w.heap.size k s o (((w.alloc (.cells #[.int .i64 k, .int .i64 s, .int .i64 o] 23)).alloc (.cells #[.int .i64 0, .bool false] 45)).drew) := T3.new hR
        have x0 := (((Only.refl Nil w).alloc (.cells #[.int .i64 k, .int .i64 s, .int .i64 o] 23)).alloc (.cells #[.int .i64 0, .bool false] 45)).drew
        have hu := Tryd.underlying57
        have hsz : (Tryd.prog.info? 57).map (·.size) = some tabL.length := by kernel_rfl
        have b0 := t0.see
        have tA : T3 w.heap.size k s o ((((w.alloc (.cells #[.int .i64 k, .int .i64 s, .int .i64 o] 23)).alloc (.cells #[.int .i64 0, .bool false] 45)).alloc (.cells #[.int .i64 0, .bool false] 45)).drew) := (T3.new (k := k) (s := s) (o := o) hR).kept ((Only.refl Nil _).alloc (.cells #[.int .i64 0, .bool false] 45))
        have bA := tA.see
        have xA := ((((Only.refl Nil w).alloc (.cells #[.int .i64 k, .int .i64 s, .int .i64 o] 23)).alloc (.cells #[.int .i64 0, .bool false] 45)).alloc (.cells #[.int .i64 0, .bool false] 45)).drew
        have zA : Blk ((((w.alloc (.cells #[.int .i64 k, .int .i64 s, .int .i64 o] 23)).alloc (.cells #[.int .i64 0, .bool false] 45)).alloc (.cells #[.int .i64 0, .bool false] 45)).drew) (w.heap.size + 2) 45 #[.int .i64 0, .bool false] := by
          have := Blk.new ((w.alloc (.cells #[.int .i64 k, .int .i64 s, .int .i64 o] 23)).alloc (.cells #[.int .i64 0, .bool false] 45)) 45 #[.int .i64 0, .bool false]
          simpa using this.drew
        go_enter Tryd.func16, Tryd.ntmps16
        go_wp2
        go_region_held3 (fun w' => w'.cell? ⟨w.heap.size, 0, none⟩ = some (.int .i64 k) ∧ w'.rangeAt 0 0 tabL) (with_reducible (first | exact b0 | exact bA | exact b2 | exact b2a | exact b3 | exact b3a | exact b3A | exact b3B | exact b3c)) (first
          | (go_at_call 25; (with_reducible refine (teller_L _).mono ?_); rintro e w2 ⟨g, rfl, hgl, ho2, hg1⟩; have t2 : T3 w.heap.size k s o w2 := (by first | exact t0.kept ho2 | exact tA.kept ho2); have x2 : Only Nil w w2 := (by first | exact x0.trans ho2 | exact xA.trans ho2); have b2 := t2.see; have t2a := t2.kept ((Only.refl Nil w2).alloc (.cells #[.int .i64 0, .bool false] 45)); have b2a := t2a.see; have x2a := x2.alloc (.cells #[.int .i64 0, .bool false] 45); have hg1a := hg1.alloc (.cells #[.int .i64 0, .bool false] 45); (first | (have z2 := Blk.kept zA ho2 (fun hh => hh)) | skip); have z2a := Blk.new w2 45 #[.int .i64 0, .bool false]; have s2 := t2.lt; have s2a : w2.heap.size ≠ w.heap.size := (by omega); have s2b : w2.heap.size ≠ w.heap.size + 1 := (by omega))
          | (go_at_call 30; (with_reducible refine (HT1.out _ _ (by first | exact hg1 | exact hg1a)).mono ?_); rintro e w3 ⟨rfl, ho3⟩; have t3 : T3 w.heap.size k s o w3 := (by first | exact t2.kept ho3 | exact t2a.kept ho3); have x3 : Only Nil w w3 := (by first | exact x2.trans ho3 | exact x2a.trans ho3); have b3 := t3.see; have t3a := t3.kept ((Only.refl Nil w3).alloc (.cells #[.int .i64 0, .bool false] 45)); have b3a := t3a.see; have t3c := t3.kept ((Only.refl Nil w3).alloc (.cells #[.int .i64 cc, .bool ww] 45)); have b3c := t3c.see; have t3A := t3.far hR.lt (w.heap.size + 2) (by omega) (.int .i64 cc) (.bool ww); have b3A := t3A.see; have t3B := t3.far hR.lt w2.heap.size s2 (.int .i64 cc) (.bool ww); have b3B := t3B.see; have f3c : (w3.alloc (.cells #[.int .i64 cc, .bool ww] 45)).cell? ⟨w.heap.size, 2, none⟩ = some (.int .i64 o) := t3c.f.cell 2; have f3A : ((w3.setCell ⟨w.heap.size + 2, 0, none⟩ (.int .i64 cc)).setCell ⟨w.heap.size + 2, 1, none⟩ (.bool ww)).cell? ⟨w.heap.size, 2, none⟩ = some (.int .i64 o) := t3A.f.cell 2; have f3B : ((w3.setCell ⟨w2.heap.size, 0, none⟩ (.int .i64 cc)).setCell ⟨w2.heap.size, 1, none⟩ (.bool ww)).cell? ⟨w.heap.size, 2, none⟩ = some (.int .i64 o) := t3B.f.cell 2; (first | (have z3 := Blk.kept z2a ho3 (fun hh => hh); have y0 := z3.cell 0; have y1 := z3.cell 1; have y2 := z3.frozen 0; have y3 := z3.frozen 1; have y4 := z3.lt) | (have z3 := Blk.kept z2 ho3 (fun hh => hh); have y0 := z3.cell 0; have y1 := z3.cell 1; have y2 := z3.frozen 0; have y3 := z3.frozen 1; have y4 := z3.lt) | skip); obtain ⟨g0, g1, g2, g3, g4, g5, g6⟩ := t3.facts)
          )
        all_goals
          go_wp2
          refine bodyPost_ret (v := .tuple #[.agg #[.int .i64 cc, .bool ww], .bool true]) (by simp [results, Tryd.results16, go_sem, g2, g3, g6]) rfl ⟨rfl, ?_⟩
          repeat (first | exact x3 | apply Only.alloc | (refine Only.setNew ?_ (by omega) _ _))
    · have e : cdF k o = cdI k := by unfold cdF; rw [if_neg (by omega)]
      have hk0 : (k == 0) = true := by simpa using hk
      rw [e]
      clear hk e
      generalize cdI k = cc at *
      generalize whB k = ww at *
      have t0 : T3 w.heap.size k s o (((w.alloc (.cells #[.int .i64 k, .int .i64 s, .int .i64 o] 23)).alloc (.cells #[.int .i64 0, .bool false] 45)).drew) := T3.new hR
      have x0 := (((Only.refl Nil w).alloc (.cells #[.int .i64 k, .int .i64 s, .int .i64 o] 23)).alloc (.cells #[.int .i64 0, .bool false] 45)).drew
      have hu := Tryd.underlying57
      have hsz : (Tryd.prog.info? 57).map (·.size) = some tabL.length := by kernel_rfl
      have b0 := t0.see
      have tA : T3 w.heap.size k s o ((((w.alloc (.cells #[.int .i64 k, .int .i64 s, .int .i64 o] 23)).alloc (.cells #[.int .i64 0, .bool false] 45)).alloc (.cells #[.int .i64 0, .bool false] 45)).drew) := (T3.new (k := k) (s := s) (o := o) hR).kept ((Only.refl Nil _).alloc (.cells #[.int .i64 0, .bool false] 45))
      have bA := tA.see
      have xA := ((((Only.refl Nil w).alloc (.cells #[.int .i64 k, .int .i64 s, .int .i64 o] 23)).alloc (.cells #[.int .i64 0, .bool false] 45)).alloc (.cells #[.int .i64 0, .bool false] 45)).drew
      have zA : Blk ((((w.alloc (.cells #[.int .i64 k, .int .i64 s, .int .i64 o] 23)).alloc (.cells #[.int .i64 0, .bool false] 45)).alloc (.cells #[.int .i64 0, .bool false] 45)).drew) (w.heap.size + 2) 45 #[.int .i64 0, .bool false] := by
        have := Blk.new ((w.alloc (.cells #[.int .i64 k, .int .i64 s, .int .i64 o] 23)).alloc (.cells #[.int .i64 0, .bool false] 45)) 45 #[.int .i64 0, .bool false]
        simpa using this.drew
      go_enter Tryd.func16, Tryd.ntmps16
      go_wp2
      go_region_held3 (fun w' => w'.cell? ⟨w.heap.size, 0, none⟩ = some (.int .i64 k) ∧ w'.rangeAt 0 0 tabL) (with_reducible (first | exact b0 | exact bA | exact b2 | exact b2a | exact b3 | exact b3a | exact b3A | exact b3B | exact b3c)) (first
        | (go_at_call 25; (with_reducible refine (teller_L _).mono ?_); rintro e w2 ⟨g, rfl, hgl, ho2, hg1⟩; have t2 : T3 w.heap.size k s o w2 := (by first | exact t0.kept ho2 | exact tA.kept ho2); have x2 : Only Nil w w2 := (by first | exact x0.trans ho2 | exact xA.trans ho2); have b2 := t2.see; have t2a := t2.kept ((Only.refl Nil w2).alloc (.cells #[.int .i64 0, .bool false] 45)); have b2a := t2a.see; have x2a := x2.alloc (.cells #[.int .i64 0, .bool false] 45); have hg1a := hg1.alloc (.cells #[.int .i64 0, .bool false] 45); (first | (have z2 := Blk.kept zA ho2 (fun hh => hh)) | skip); have z2a := Blk.new w2 45 #[.int .i64 0, .bool false]; have s2 := t2.lt; have s2a : w2.heap.size ≠ w.heap.size := (by omega); have s2b : w2.heap.size ≠ w.heap.size + 1 := (by omega))
        | (go_at_call 30; (with_reducible refine (HT1.out _ _ (by first | exact hg1 | exact hg1a)).mono ?_); rintro e w3 ⟨rfl, ho3⟩; have t3 : T3 w.heap.size k s o w3 := (by first | exact t2.kept ho3 | exact t2a.kept ho3); have x3 : Only Nil w w3 := (by first | exact x2.trans ho3 | exact x2a.trans ho3); have b3 := t3.see; have t3a := t3.kept ((Only.refl Nil w3).alloc (.cells #[.int .i64 0, .bool false] 45)); have b3a := t3a.see; have t3c := t3.kept ((Only.refl Nil w3).alloc (.cells #[.int .i64 cc, .bool ww] 45)); have b3c := t3c.see; have t3A := t3.far hR.lt (w.heap.size + 2) (by omega) (.int .i64 cc) (.bool ww); have b3A := t3A.see; have t3B := t3.far hR.lt w2.heap.size s2 (.int .i64 cc) (.bool ww); have b3B := t3B.see; have f3c : (w3.alloc (.cells #[.int .i64 cc, .bool ww] 45)).cell? ⟨w.heap.size, 2, none⟩ = some (.int .i64 o) := t3c.f.cell 2; have f3A : ((w3.setCell ⟨w.heap.size + 2, 0, none⟩ (.int .i64 cc)).setCell ⟨w.heap.size + 2, 1, none⟩ (.bool ww)).cell? ⟨w.heap.size, 2, none⟩ = some (.int .i64 o) := t3A.f.cell 2; have f3B : ((w3.setCell ⟨w2.heap.size, 0, none⟩ (.int .i64 cc)).setCell ⟨w2.heap.size, 1, none⟩ (.bool ww)).cell? ⟨w.heap.size, 2, none⟩ = some (.int .i64 o) := t3B.f.cell 2; (first | (have z3 := Blk.kept z2a ho3 (fun hh => hh); have y0 := z3.cell 0; have y1 := z3.cell 1; have y2 := z3.frozen 0; have y3 := z3.frozen 1; have y4 := z3.lt) | (have z3 := Blk.kept z2 ho3 (fun hh => hh); have y0 := z3.cell 0; have y1 := z3.cell 1; have y2 := z3.frozen 0; have y3 := z3.frozen 1; have y4 := z3.lt) | skip); obtain ⟨g0, g1, g2, g3, g4, g5, g6⟩ := t3.facts)
        )
      all_goals
        go_wp2
        refine bodyPost_ret (v := .tuple #[.agg #[.int .i64 cc, .bool ww], .bool true]) (by simp [results, Tryd.results16, go_sem, g2, g3, g6]) rfl ⟨rfl, ?_⟩
        repeat (first | exact x3 | apply Only.alloc | (refine Only.setNew ?_ (by omega) _ _))
  · have e : cdF k o = cdI k := by unfold cdF; rw [if_neg (by omega)]
    have hk0 : (k == 0) = false := by simpa using hk
    rw [e]
    clear hk e
    generalize cdI k = cc at *
    generalize whB k = ww at *
    have t0 : T3 w.heap.size k s o (((w.alloc (.cells #[.int .i64 k, .int .i64 s, .int .i64 o] 23)).alloc (.cells #[.int .i64 0, .bool false] 45)).drew) := T3.new hR
    have x0 := (((Only.refl Nil w).alloc (.cells #[.int .i64 k, .int .i64 s, .int .i64 o] 23)).alloc (.cells #[.int .i64 0, .bool false] 45)).drew
    have hu := Tryd.underlying57
    have hsz : (Tryd.prog.info? 57).map (·.size) = some tabL.length := by kernel_rfl
    have b0 := t0.see
    have tA : T3 w.heap.size k s o ((((w.alloc (.cells #[.int .i64 k, .int .i64 s, .int .i64 o] 23)).alloc (.cells #[.int .i64 0, .bool false] 45)).alloc (.cells #[.int .i64 0, .bool false] 45)).drew) := (T3.new (k := k) (s := s) (o := o) hR).kept ((Only.refl Nil _).alloc (.cells #[.int .i64 0, .bool false] 45))
    have bA := tA.see
    have xA := ((((Only.refl Nil w).alloc (.cells #[.int .i64 k, .int .i64 s, .int .i64 o] 23)).alloc (.cells #[.int .i64 0, .bool false] 45)).alloc (.cells #[.int .i64 0, .bool false] 45)).drew
    have zA : Blk ((((w.alloc (.cells #[.int .i64 k, .int .i64 s, .int .i64 o] 23)).alloc (.cells #[.int .i64 0, .bool false] 45)).alloc (.cells #[.int .i64 0, .bool false] 45)).drew) (w.heap.size + 2) 45 #[.int .i64 0, .bool false] := by
      have := Blk.new ((w.alloc (.cells #[.int .i64 k, .int .i64 s, .int .i64 o] 23)).alloc (.cells #[.int .i64 0, .bool false] 45)) 45 #[.int .i64 0, .bool false]
      simpa using this.drew
    go_enter Tryd.func16, Tryd.ntmps16
    go_wp2
    go_region_held3 (fun w' => w'.cell? ⟨w.heap.size, 0, none⟩ = some (.int .i64 k) ∧ w'.rangeAt 0 0 tabL) (with_reducible (first | exact b0 | exact bA | exact b2 | exact b2a | exact b3 | exact b3a | exact b3A | exact b3B | exact b3c)) (first
      | (go_at_call 25; (with_reducible refine (teller_L _).mono ?_); rintro e w2 ⟨g, rfl, hgl, ho2, hg1⟩; have t2 : T3 w.heap.size k s o w2 := (by first | exact t0.kept ho2 | exact tA.kept ho2); have x2 : Only Nil w w2 := (by first | exact x0.trans ho2 | exact xA.trans ho2); have b2 := t2.see; have t2a := t2.kept ((Only.refl Nil w2).alloc (.cells #[.int .i64 0, .bool false] 45)); have b2a := t2a.see; have x2a := x2.alloc (.cells #[.int .i64 0, .bool false] 45); have hg1a := hg1.alloc (.cells #[.int .i64 0, .bool false] 45); (first | (have z2 := Blk.kept zA ho2 (fun hh => hh)) | skip); have z2a := Blk.new w2 45 #[.int .i64 0, .bool false]; have s2 := t2.lt; have s2a : w2.heap.size ≠ w.heap.size := (by omega); have s2b : w2.heap.size ≠ w.heap.size + 1 := (by omega))
      | (go_at_call 30; (with_reducible refine (HT1.out _ _ (by first | exact hg1 | exact hg1a)).mono ?_); rintro e w3 ⟨rfl, ho3⟩; have t3 : T3 w.heap.size k s o w3 := (by first | exact t2.kept ho3 | exact t2a.kept ho3); have x3 : Only Nil w w3 := (by first | exact x2.trans ho3 | exact x2a.trans ho3); have b3 := t3.see; have t3a := t3.kept ((Only.refl Nil w3).alloc (.cells #[.int .i64 0, .bool false] 45)); have b3a := t3a.see; have t3c := t3.kept ((Only.refl Nil w3).alloc (.cells #[.int .i64 cc, .bool ww] 45)); have b3c := t3c.see; have t3A := t3.far hR.lt (w.heap.size + 2) (by omega) (.int .i64 cc) (.bool ww); have b3A := t3A.see; have t3B := t3.far hR.lt w2.heap.size s2 (.int .i64 cc) (.bool ww); have b3B := t3B.see; have f3c : (w3.alloc (.cells #[.int .i64 cc, .bool ww] 45)).cell? ⟨w.heap.size, 2, none⟩ = some (.int .i64 o) := t3c.f.cell 2; have f3A : ((w3.setCell ⟨w.heap.size + 2, 0, none⟩ (.int .i64 cc)).setCell ⟨w.heap.size + 2, 1, none⟩ (.bool ww)).cell? ⟨w.heap.size, 2, none⟩ = some (.int .i64 o) := t3A.f.cell 2; have f3B : ((w3.setCell ⟨w2.heap.size, 0, none⟩ (.int .i64 cc)).setCell ⟨w2.heap.size, 1, none⟩ (.bool ww)).cell? ⟨w.heap.size, 2, none⟩ = some (.int .i64 o) := t3B.f.cell 2; (first | (have z3 := Blk.kept z2a ho3 (fun hh => hh); have y0 := z3.cell 0; have y1 := z3.cell 1; have y2 := z3.frozen 0; have y3 := z3.frozen 1; have y4 := z3.lt) | (have z3 := Blk.kept z2 ho3 (fun hh => hh); have y0 := z3.cell 0; have y1 := z3.cell 1; have y2 := z3.frozen 0; have y3 := z3.frozen 1; have y4 := z3.lt) | skip); obtain ⟨g0, g1, g2, g3, g4, g5, g6⟩ := t3.facts)
      )
    all_goals
      go_wp2
      refine bodyPost_ret (v := .tuple #[.agg #[.int .i64 cc, .bool ww], .bool true]) (by simp [results, Tryd.results16, go_sem, g2, g3, g6]) rfl ⟨rfl, ?_⟩
      repeat (first | exact x3 | apply Only.alloc | (refine Only.setNew ?_ (by omega) _ _))
end Go.Proofs.YteljagaplpiopaaDoor
