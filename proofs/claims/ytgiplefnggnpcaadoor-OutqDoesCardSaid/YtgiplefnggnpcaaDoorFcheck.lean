/- Whether a frame may be: what frame.Check calls. -/
import Derived.Test.YtgiplefnggnpcaaDoorFrm
namespace Go.Proofs.YtgiplefnggnpcaaDoor
open Go.RowKit

def fourB (n : Int) : Bool := decide (0 ≤ n) && decide (n ≤ 2147483647)
theorem number_any (n : Int) (w : World) : Calls Tryd.prog 31 #[.int .i64 n] w fun x w' => x = .returned (.bool (fourB n)) ∧ w = w' := by
  unfold fourB
  cases h1 : decide (0 ≤ n) <;> cases h2 : decide (n ≤ 2147483647)
  all_goals
    go_enter Tryd.func31, Tryd.ntmps31
    go_wp2
    go_ret
    exact ⟨rfl, rfl⟩
def depB (on wt : Int) : Bool := fourB on && decide (1 ≤ wt) && decide (wt ≤ 256)
section
variable {w : World} {p : Value} {f : Frm}
set_option maxHeartbeats 2000000 in
theorem depends_any (f : Frm) (p : Value) (w : World) : Calls Tryd.prog 30 #[frmV f p] w fun x w' => x = .returned (.bool (depB f.on f.wt)) ∧ Only Nil w w' := by
  unfold depB
  have hN := Lib.hid (number_any f.on)
  cases h0 : fourB f.on <;> cases h1 : decide (1 ≤ f.wt) <;> cases h2 : decide (f.wt ≤ 256)
  all_goals
    rw [h0] at hN
    clear h0
    go_enter Tryd.func30, Tryd.ntmps30
    go_wp2_with (first
      | (go_at_call 31; (with_reducible refine (hN.out _).mono ?_); rintro e w1 ⟨rfl, rfl⟩)
      )
    go_ret
    exact ⟨rfl, (Only.refl _ _).alloc _⟩
def pmB (x : Prm) : Bool := decide (0 ≤ x.ID) && decide (x.ID ≤ 65535) && fourB x.V
theorem settings_any (f : Frm) (p : Value) (w : World) : Calls Tryd.prog 33 #[frmV f p] w fun x w' => ∃ g, x = .returned (.func (.func 34) #[] #[.pointer (some ⟨g, 0, none⟩)]) ∧ Blk w' g 31 (frC f p) ∧ Only Nil w w' := by
  have hmf := mkf Tryd.prog
  go_enter Tryd.func33, Tryd.ntmps33
  go_wp2
  go_ret
  exact ⟨w.heap.size, rfl, Blk.new _ _ _, (Only.refl _ _).alloc _⟩
set_option maxHeartbeats 2000000 in
theorem settings1_any {g : Nat} {A : Option Addr} {m cap j : Nat} (x : Prm) (w : World) (hg : w.cell? ⟨g, 11, none⟩ = some (.slice A m cap)) (_ : g < w.heap.size) (hS : Sq encPm 2 w w.heap.size A f.P) (hm : f.P.length = m) (hx : f.P[j]? = some x) (_ : m ≤ 9223372036854775807) :
    Calls Tryd.prog 34 #[.int .i64 j, .pointer (some ⟨g, 0, none⟩)] w fun e w' => e = .returned (.bool (pmB x)) ∧ Only Nil w w' := by
  have hjl := (List.getElem?_eq_some_iff.1 hx).1
  obtain ⟨b, off, x', rfl, hb, hx', _, hc⟩ := hS.at_ (k := j) hjl
  obtain rfl : x = x' := Option.some.inj (hx.symm.trans hx')
  have p0 := hc 0 (by decide)
  have p1 := hc 1 (by decide)
  simp [encPm] at p0 p1
  have hlt : (j : Int) < m := by omega
  have hN := Lib.hid (number_any x.V)
  unfold pmB
  cases h0 : fourB x.V <;> cases h1 : decide (0 ≤ x.ID) <;> cases h2 : decide (x.ID ≤ 65535)
  all_goals
    rw [h0] at hN
    clear h0 hx hx' hc hS hm
    go_enter Tryd.func34, Tryd.ntmps34
    go_wp2_with (first
      | (go_at_call 31; (with_reducible refine (hN.out _).mono ?_); rintro e w1 ⟨rfl, rfl⟩)
      )
    go_ret
    exact ⟨rfl, (Only.refl _ _).alloc _⟩
def pmsB (P : List Prm) : Bool := decide (P.length ≤ 8) && P.all pmB
theorem pms_bad {P : List Prm} {j : Nat} {x : Prm} (hx : P[j]? = some x) (h : pmB x = false) : pmsB P = false := by
  unfold pmsB
  rw [Bool.and_eq_false_iff]
  right
  rw [List.all_eq_false]
  exact ⟨x, List.mem_of_getElem? hx, by simp [h]⟩
theorem pms_long {P : List Prm} (h : 8 < P.length) : pmsB P = false := by
  unfold pmsB
  rw [Bool.and_eq_false_iff]
  left
  exact decide_eq_false (by omega)
theorem all_snoc {P : List Prm} {j : Nat} {x : Prm} (h : (P.take j).all pmB = true) (hx : P[j]? = some x) (hp : pmB x = true) : (P.take (j + 1)).all pmB = true := by
  rw [List.take_add_one, hx]
  simp [List.all_append, h, hp]
theorem pms_good {P : List Prm} {j : Nat} (hj : P.length ≤ j) (h8 : P.length ≤ 8) (h : (P.take j).all pmB = true) : pmsB P = true := by
  unfold pmsB
  rw [List.take_of_length_le hj] at h
  simp [h, h8]
set_option maxRecDepth 100000 in
set_option maxHeartbeats 4000000 in
theorem params_any (f : Frm) (p : Value) (w : World) (hp : PmIs w p f.P) : Calls Tryd.prog 32 #[frmV f p] w fun x w' => x = .returned (.bool (pmsB f.P)) ∧ Only Nil w w' := by
  obtain ⟨A, cap, rfl, hl1, hm1, hS1⟩ := hp
  unfold maxLen at hm1
  obtain ⟨r, hr⟩ : ∃ r, r = pmsB f.P := ⟨_, rfl⟩
  rw [← hr]
  obtain ⟨m, hm⟩ : ∃ m, m = f.P.length := ⟨_, rfl⟩
  rw [← hm] at hl1 ⊢
  have HM := Lib.hid hm
  have HS1 := Lib.hid hS1
  have HR := Lib.hid hr
  clear hm hS1 hr
  go_enter Tryd.func32, Tryd.ntmps32
  go_wp2_with (first
    | (go_at_call 33; (with_reducible refine (settings_any f _ _).mono ?_); rintro e w1 ⟨g, rfl, hg, ho1⟩; have hb0 := ((Blk.new w 31 (frC f (.slice A m cap))).kept ho1 (fun hh => hh)); have c11 := hb0.cell 11; have z0 := hb0.lt; have ho2 := Lib.hid (((Only.refl Nil w).alloc (.cells (frC f (.slice A m cap)) 31)).trans ho1); have hg11 := hg.cell 11; have zg := hg.lt; have HG := Lib.hid hg; clear hg hb0 ho1)
    )
  go_loopw [10] (fun ii wr => ∃ j : Nat, j ≤ m ∧ ii = .int .i64 j ∧ j ≤ 8 ∧ Hid ((f.P.take j).all pmB = true) ∧ Only Nil w1 wr) (fun ii _ => m - (intOf ii).toNat)
  case atStart => exact ⟨0, Nat.zero_le _, rfl, by omega, Lib.hid (by simp), Only.refl _ _⟩
  case round =>
    obtain ⟨j, hj, rfl, h8, ha, ho⟩ := hrel
    have hgr := (HG.out.kept ho (fun hh => hh))
    have k11 : wr.cell? ⟨g, 11, none⟩ = some (.slice A m cap) := hgr.cell 11
    have zr := hgr.lt
    have hwr := ho2.out.trans ho
    by_cases hlt : j < m
    · have hlt' : (j : Int) < m := by omega
      obtain ⟨b1, o1, x1, -, -, hx1, -, -⟩ := HS1.out.at_ (k := j) (by have := HM.out; omega)
      have hpx := Lib.hid (settings1_any x1 wr k11 zr (HS1.out.go hwr) HM.out.symm hx1 (by omega))
      have HX := Lib.hid hx1
      clear hx1 k11
      by_cases h7 : j = 8
      · subst h7
        obtain rfl : r = false := HR.out.trans (pms_long (by have := HM.out; omega))
        go_wp2
        go_ret
        exact ⟨rfl, hwr⟩
      · have h7' : ¬ (8 : Int) ≤ j := by omega
        cases hb : pmB x1
        · rw [hb] at hpx
          obtain rfl : r = false := HR.out.trans (pms_bad HX.out hb)
          clear hb
          go_wp2_with (first
            | (go_at_call 34; (with_reducible refine (hpx.out).mono ?_); rintro e w2 ⟨rfl, ho3⟩)
            )
          go_ret
          exact ⟨rfl, hwr.trans ho3⟩
        · rw [hb] at hpx
          have HA := Lib.hid (all_snoc ha.out HX.out hb)
          clear hb
          go_wp2_with (first
            | (go_at_call 34; (with_reducible refine (hpx.out).mono ?_); rintro e w2 ⟨rfl, ho3⟩)
            )
          go_roundw
          case rel => exact ⟨j + 1, by omega, by go_num, by omega, HA, ho.trans ho3⟩
          case measure => simp [intOf]; omega
    · obtain rfl : j = m := by omega
      obtain rfl : r = true := HR.out.trans (pms_good (by rw [HM.out]; exact Nat.le_refl _) (by have := HM.out; omega) ha.out)
      go_wp2
      go_ret
      exact ⟨rfl, hwr⟩
end
end Go.Proofs.YtgiplefnggnpcaaDoor
