/- What each function of package life does to a life that lies in a block of its own. -/
import Derived.Test.YtjhjfgelcbphjaaDoorRows
import Derived.Test.YtjhjfgelcbphjaaDoorLaid
namespace Go.Proofs.YtjhjfgelcbphjaaDoor
open Go.RowKit
def tab_life_follows : Array Value := #[.int .i64 1, .int .i64 (-1), .int .i64 (-1), .int .i64 (-1), .int .i64 (-1), .int .i64 2, .int .i64 3, .int .i64 4, .int .i64 (-1), .int .i64 (-1), .int .i64 4, .int .i64 4, .int .i64 (-1), .int .i64 4, .int .i64 (-1), .int .i64 4, .int .i64 (-1), .int .i64 (-1), .int .i64 (-1), .int .i64 (-1)]
theorem tab_life_follows_g : Tryd.prog.globalNamed "paternoster/life.follows" = some 0 := by kernel_rfl
theorem tab_life_follows_ty : (Tryd.prog.globals[0]?).map (·.type) = some 147 := by kernel_rfl
theorem tab_life_follows_ok : Ld.ok Tryd.prog (.arr 5 (.arr 4 (.int .i64))) 147 = true := by kernel_rfl
theorem tab_life_follows_vals : Ld.vals (.arr 5 (.arr 4 (.int .i64))) Rows.laid_paternoster_life_follows = some tab_life_follows.toList := by kernel_rfl
abbrev Fol (w : World) : Prop := Tab w 0 tab_life_follows
def colF (e : Int) : Int := if e = 0 ∨ e = 1 then 0 else if e = 2 then 1 else if e = 3 then 2 else if e = 4 ∨ e = 5 then 3 else -1
set_option maxHeartbeats 1000000 in
theorem column_any (e : Int) (w : World) : Calls Tryd.prog 89 #[.int .i64 e] w fun x w' => x = .returned (.int .i64 (colF e)) ∧ w = w' := by
  by_cases h0 : e = 0
  · subst h0
    go_enter Tryd.func89, Tryd.ntmps89
    go_wp2
    go_ret
    exact ⟨rfl, rfl⟩
  by_cases h1 : e = 1
  · subst h1
    go_enter Tryd.func89, Tryd.ntmps89
    go_wp2
    go_ret
    exact ⟨rfl, rfl⟩
  by_cases h2 : e = 2
  · subst h2
    go_enter Tryd.func89, Tryd.ntmps89
    go_wp2
    go_ret
    exact ⟨rfl, rfl⟩
  by_cases h3 : e = 3
  · subst h3
    go_enter Tryd.func89, Tryd.ntmps89
    go_wp2
    go_ret
    exact ⟨rfl, rfl⟩
  by_cases h4 : e = 4
  · subst h4
    go_enter Tryd.func89, Tryd.ntmps89
    go_wp2
    go_ret
    exact ⟨rfl, rfl⟩
  by_cases h5 : e = 5
  · subst h5
    go_enter Tryd.func89, Tryd.ntmps89
    go_wp2
    go_ret
    exact ⟨rfl, rfl⟩
  have e1 : colF e = -1 := by unfold colF; omega
  rw [e1]
  go_enter Tryd.func89, Tryd.ntmps89
  go_wp2
  go_ret
  exact ⟨rfl, rfl⟩

def fol (s c : Int) : Int :=
  if s = 0 then (if c = 0 then 1 else -1) else if s = 1 then (if c = 1 then 2 else if c = 2 then 3 else if c = 3 then 4 else -1)
  else if s = 2 then (if c = 2 ∨ c = 3 then 4 else -1) else if s = 3 then (if c = 1 ∨ c = 3 then 4 else -1) else -1
theorem fol_cell {w : World} (h : Fol w) {s c : Int} (s0 : 0 ≤ s) (s4 : s ≤ 4) (c0 : 0 ≤ c) (c3 : c ≤ 3) : w.cell? ⟨0, s.toNat * 4 + c.toNat, none⟩ = some (.int .i64 (fol s c)) := by
  rw [h.cell]
  have hs : s = 0 ∨ s = 1 ∨ s = 2 ∨ s = 3 ∨ s = 4 := by omega
  have hc : c = 0 ∨ c = 1 ∨ c = 2 ∨ c = 3 := by omega
  rcases hs with rfl | rfl | rfl | rfl | rfl <;> rcases hc with rfl | rfl | rfl | rfl <;> rfl

/-- of states and events: the state behind, the error -/
def nxS (s e : Int) : Int := if 0 ≤ s ∧ s ≤ 4 ∧ 0 ≤ colF e ∧ fol s (colF e) ≠ -1 then fol s (colF e) else 0
def nxE (s e : Int) : Int := if 0 ≤ s ∧ s ≤ 4 ∧ 0 ≤ colF e then (if fol s (colF e) = -1 then 11 else 0) else 2
def NextPost (w : World) (s e : Int) (x : Ending) (w' : World) : Prop := x = .returned (.tuple #[.int .i64 (nxS s e), .int .i64 (nxE s e)]) ∧ w = w'

theorem colF_le (e : Int) : colF e ≤ 3 := by unfold colF; omega
theorem colF_cases (e : Int) : 0 ≤ colF e ∨ colF e = -1 := by unfold colF; omega
set_option maxHeartbeats 2000000 in
theorem next_any (s e : Int) (w : World) (h : Fol w) : Calls Tryd.prog 71 #[.int .i64 s, .int .i64 e] w (NextPost w s e) := by
  have hc3 := colF_le e
  by_cases h1 : s < 0
  · have e1 : nxS s e = 0 := by unfold nxS; rw [if_neg (by omega)]
    have e2 : nxE s e = 2 := by unfold nxE; rw [if_neg (by omega)]
    unfold NextPost
    rw [e1, e2]
    go_enter Tryd.func71, Tryd.ntmps71
    go_wp2_with (first
      | (go_at_call 89; (with_reducible refine (column_any _ _).mono ?_); rintro e w1 ⟨rfl, rfl⟩)
      )
    go_ret2
    exact ⟨rfl, rfl⟩
  by_cases h2 : 4 < s
  · have e1 : nxS s e = 0 := by unfold nxS; rw [if_neg (by omega)]
    have e2 : nxE s e = 2 := by unfold nxE; rw [if_neg (by omega)]
    unfold NextPost
    rw [e1, e2]
    go_enter Tryd.func71, Tryd.ntmps71
    go_wp2_with (first
      | (go_at_call 89; (with_reducible refine (column_any _ _).mono ?_); rintro e w1 ⟨rfl, rfl⟩)
      )
    go_ret2
    exact ⟨rfl, rfl⟩
  rcases colF_cases e with hc | hc
  · have hcell := fol_cell h (s := s) (c := colF e) (by omega) (by omega) hc hc3
    have hb : (colF e == -1) = false := by simp; omega
    by_cases hf : fol s (colF e) = -1
    · have e1 : nxS s e = 0 := by unfold nxS; rw [if_neg (fun hh => hh.2.2.2 hf)]
      have e2 : nxE s e = 11 := by unfold nxE; rw [if_pos ⟨by omega, by omega, hc⟩, if_pos hf]
      unfold NextPost
      rw [e1, e2]
      rw [hf] at hcell
      clear hf
      go_enter Tryd.func71, Tryd.ntmps71
      go_wp2_with (first
        | (go_at_call 89; (with_reducible refine (column_any _ _).mono ?_); rintro e w1 ⟨rfl, rfl⟩)
        )
      go_ret2
      exact ⟨rfl, rfl⟩
    · have e1 : nxS s e = fol s (colF e) := by unfold nxS; rw [if_pos ⟨by omega, by omega, hc, hf⟩]
      have e2 : nxE s e = 0 := by unfold nxE; rw [if_pos ⟨by omega, by omega, hc⟩, if_neg hf]
      unfold NextPost
      rw [e1, e2]
      have hf' : (fol s (colF e) == -1) = false := by simpa using hf
      clear hf
      go_enter Tryd.func71, Tryd.ntmps71
      go_wp2_with (first
        | (go_at_call 89; (with_reducible refine (column_any _ _).mono ?_); rintro e w1 ⟨rfl, rfl⟩)
        )
      go_ret2
      exact ⟨rfl, rfl⟩
  · have e1 : nxS s e = 0 := by unfold nxS; rw [if_neg (by omega)]
    have e2 : nxE s e = 2 := by unfold nxE; rw [if_neg (by omega)]
    unfold NextPost
    rw [e1, e2]
    have hb : (colF e == -1) = true := by simp; omega
    have hcol := fun (W : World) => column_any e W
    rw [hc] at hcol
    clear hb hc hc3
    go_enter Tryd.func71, Tryd.ntmps71
    go_wp2_with (first
      | (go_at_call 89; (with_reducible refine (hcol _).mono ?_); rintro e w1 ⟨rfl, rfl⟩)
      )
    go_ret2
    exact ⟨rfl, rfl⟩

abbrev Lf (w : World) (b : Nat) (s : Int) : Prop := Blk w b 91 #[.int .i64 s]
def evS (s e : Int) : Int := if nxE s e = 0 then nxS s e else s
def EvPost (w : World) (b : Nat) (s e : Int) (x : Ending) (w' : World) : Prop := x = .returned (.int .i64 (nxE s e)) ∧ Only (One b) w w' ∧ Lf w' b (evS s e)
set_option maxHeartbeats 1000000 in
theorem Event_any (b : Nat) (s e : Int) (w : World) (h : Fol w) (hL : Lf w b s) : Calls Tryd.prog 41 #[.pointer (some ⟨b, 0, none⟩), .int .i64 e] w (EvPost w b s e) := by
  have c0 : w.cell? ⟨b, 0, none⟩ = some (.int .i64 s) := hL.cell 0
  have f0 : w.frozen? ⟨b, 0, none⟩ = false := hL.frozen 0
  have hn := next_any s e w h
  unfold NextPost at hn
  unfold EvPost evS
  by_cases hE : nxE s e = 0
  · rw [if_pos hE]
    rw [hE] at hn ⊢
    clear hE
    generalize nxS s e = S at hn
    go_enter Tryd.func41, Tryd.ntmps41
    go_wp2_with (first
      | (go_at_call 71; (with_reducible refine (hn).mono ?_); rintro e w1 ⟨rfl, rfl⟩)
      )
    go_ret
    exact ⟨rfl, (Only.refl (One b) w).set1 0 _, hL.set 0 _⟩
  · rw [if_neg hE]
    have hE' : (nxE s e != 0) = true := by simpa using hE
    clear hE
    generalize nxE s e = E at hn hE'
    generalize nxS s e = S at hn
    go_enter Tryd.func41, Tryd.ntmps41
    go_wp2_with (first
      | (go_at_call 71; (with_reducible refine (hn).mono ?_); rintro e w1 ⟨rfl, rfl⟩)
      )
    go_ret
    exact ⟨rfl, Only.refl _ _, hL⟩
theorem Event_at (b : Nat) (s e E S : Int) (w : World) (h : Fol w) (hL : Lf w b s) (hE : nxE s e = E) (hS : evS s e = S) :
    Calls Tryd.prog 41 #[.pointer (some ⟨b, 0, none⟩), .int .i64 e] w fun x w' => x = .returned (.int .i64 E) ∧ Only (One b) w w' ∧ Lf w' b S := by
  have := Event_any b s e w h hL
  unfold EvPost at this
  rw [hE, hS] at this
  exact this
theorem Event_nil (e : Int) (w : World) : Calls Tryd.prog 41 #[.pointer none, .int .i64 e] w fun x w' => x = .returned (.int .i64 1) ∧ w = w' := by
  go_enter Tryd.func41, Tryd.ntmps41
  go_wp2
  go_ret
  exact ⟨rfl, rfl⟩
theorem State_any (b : Nat) (s : Int) (w : World) (hL : Lf w b s) : Calls Tryd.prog 9 #[.pointer (some ⟨b, 0, none⟩)] w fun x w' => x = .returned (.int .i64 s) ∧ w = w' := by
  have c0 : w.cell? ⟨b, 0, none⟩ = some (.int .i64 s) := hL.cell 0
  go_enter Tryd.func9, Tryd.ntmps9
  go_wp2
  go_ret
  exact ⟨rfl, rfl⟩
theorem State_nil (w : World) : Calls Tryd.prog 9 #[.pointer none] w fun x w' => x = .returned (.int .i64 4) ∧ w = w' := by
  go_enter Tryd.func9, Tryd.ntmps9
  go_wp2
  go_ret
  exact ⟨rfl, rfl⟩
def okB (s e : Int) : Bool := nxE s e == 0
set_option maxHeartbeats 1000000 in
theorem MaySend_of (p : Value) (s : Int) (w : World) (h : Fol w) (hs : Calls Tryd.prog 9 #[p] w fun x w' => x = .returned (.int .i64 s) ∧ w = w') :
    Calls Tryd.prog 14 #[p] w fun x w' => x = .returned (.bool (okB s 2)) ∧ Only Nil w w' := by
  have hmf := mkf Tryd.prog
  have hn := fun (W : World) (h : Fol W) => next_any s 2 W h
  unfold NextPost at hn
  unfold okB
  generalize nxE s 2 = E at hn
  generalize nxS s 2 = S at hn
  go_enter Tryd.func14, Tryd.ntmps14
  go_wp2_with (first
    | (go_at_call 9; (with_reducible refine (hs).mono ?_); rintro e w1 ⟨rfl, rfl⟩)
    | (go_at_call 71; (with_reducible refine (hn _ (h.alloc _)).mono ?_); rintro e w2 ⟨rfl, rfl⟩)
    | go_in
    )
  go_ret
  exact ⟨rfl, (Only.refl _ _).alloc _⟩
set_option maxHeartbeats 1000000 in
theorem MayRecv_of (p : Value) (s : Int) (w : World) (h : Fol w) (hs : Calls Tryd.prog 9 #[p] w fun x w' => x = .returned (.int .i64 s) ∧ w = w') :
    Calls Tryd.prog 15 #[p] w fun x w' => x = .returned (.bool (okB s 3)) ∧ Only Nil w w' := by
  have hmf := mkf Tryd.prog
  have hn := fun (W : World) (h : Fol W) => next_any s 3 W h
  unfold NextPost at hn
  unfold okB
  generalize nxE s 3 = E at hn
  generalize nxS s 3 = S at hn
  go_enter Tryd.func15, Tryd.ntmps15
  go_wp2_with (first
    | (go_at_call 9; (with_reducible refine (hs).mono ?_); rintro e w1 ⟨rfl, rfl⟩)
    | (go_at_call 71; (with_reducible refine (hn _ (h.alloc _)).mono ?_); rintro e w2 ⟨rfl, rfl⟩)
    | go_in
    )
  go_ret
  exact ⟨rfl, (Only.refl _ _).alloc _⟩
theorem Done_of (p : Value) (s : Int) (w : World) (hs : Calls Tryd.prog 9 #[p] w fun x w' => x = .returned (.int .i64 s) ∧ w = w') :
    Calls Tryd.prog 62 #[p] w fun x w' => x = .returned (.bool (s == 4)) ∧ w = w' := by
  go_enter Tryd.func62, Tryd.ntmps62
  go_wp2_with (first
    | (go_at_call 9; (with_reducible refine (hs).mono ?_); rintro e w1 ⟨rfl, rfl⟩)
    )
  go_ret
  exact ⟨rfl, rfl⟩
def NewLf (w : World) (x : Ending) (w' : World) : Prop := ∃ b, x = .returned (.pointer (some ⟨b, 0, none⟩)) ∧ w.heap.size ≤ b ∧ Only Nil w w' ∧ Lf w' b 0
theorem New_any (w : World) : Calls Tryd.prog 40 #[] w (NewLf w) := by
  go_enter Tryd.func40, Tryd.ntmps40
  go_wp2
  go_ret
  exact ⟨w.heap.size, rfl, Nat.le_refl _, (Only.refl _ _).alloc _, Blk.new _ _ _⟩
end Go.Proofs.YtjhjfgelcbphjaaDoor
