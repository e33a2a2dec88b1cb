/- A table of the call's own; where a number stands in it. -/
import Derived.Test.YtkidhfcokckomaaRows
import Derived.Test.YtkidhfcokckomaaCopy
namespace Go.Proofs.Ytkidhfcokckomaa
open Go.RowKit

def encZ (n : Int) : List Value := [.int .i64 n]
theorem encZ_len : ∀ n, (encZ n).length = 1 := fun _ => rfl
theorem encZ_one : ∀ n, ∀ u ∈ encZ n, u.oneCell' = true := fun n u hu => by simp [encZ] at hu; subst hu; rfl
theorem encZ_one0 : ∀ u ∈ encZ 0, u.oneCell' = true := encZ_one 0
theorem int_size : (Try.prog.info? 3).map (·.size) = some 1 := by kernel_rfl
theorem int_info : (Try.prog.info? 3).map (fun i => (i.zero, i.size, i.bytes)) = some (some (.int .i64 0), 1, 8) := by kernel_rfl
/-- a table: at most so many, numbers, values -/
structure Tb (w : World) (b base : Nat) (most : Int) (v1 v2 : Value) (I V : List Int) : Prop where
  blk : Blk w b 53 #[.int .i64 most, v1, v2]
  o1 : Ow encZ 1 w base 3 v1 I
  o2 : Ow encZ 1 w base 3 v2 V
  len : I.length = V.length
  sep : ∀ g, v1.ownBlock = some g → v2.ownBlock ≠ some g
  hb : base ≤ b
/-- blocks of other types than a table's stay -/
def Oth (w w' : World) : Prop := ∀ g t cs, Blk w g t cs → 53 ≠ t → 3 ≠ t → Blk w' g t cs
theorem Oth.refl (w : World) : Oth w w := fun _ _ _ h _ _ => h
theorem Oth.of_nil {w w' : World} (ho : Only Nil w w') : Oth w w' := fun _ _ _ h _ _ => h.kept ho (fun hh => hh)
theorem Oth.trans {w w' w'' : World} (h : Oth w w') (k : Oth w' w'') : Oth w w'' := fun g t cs hb h1 h2 => k g t cs (h g t cs hb h1 h2) h1 h2
theorem Oth.drew {w w' : World} (h : Oth w w') : Oth w w'.drew := h
theorem Oth.alloc {w w' : World} (h : Oth w w') (o : Obj) : Oth w (w'.alloc o) := h.trans (Oth.of_nil ((Only.refl Nil _).alloc o))
theorem Oth.own {w0 w w' : World} {base : Nat} {v : Value} {L : List Int} (h : Oth w0 w) (hO : Ow encZ 1 w base 3 v L) (ho : Only (ownB v) w w') : Oth w0 w' := fun g t cs hb h1 h2 => by
  have hb' := h g t cs hb h1 h2
  exact hb'.kept ho (hO.ne hb' h2)
theorem Oth.set {w0 w : World} {b : Nat} {cs : Array Value} (h : Oth w0 w) (hB : Blk w b 53 cs) (i : Nat) (u : Value) : Oth w0 (w.setCell ⟨b, i, none⟩ u) := fun g t cs' hb h1 h2 => by
  have hb' := h g t cs' hb h1 h2
  refine hb'.far (p := ⟨b, i, none⟩) (fun e => ?_) u
  simp only at e
  subst e
  unfold Blk at hb' hB
  rw [hb'] at hB
  injection hB with hB
  injection hB with _ h3
  exact h1 h3.symm
theorem Oth.cell {w0 w : World} {base o n cap g : Nat} {L : List Int} (h : Oth w0 w) (hO : Ow encZ 1 w base 3 (.slice (some ⟨g, o, none⟩) n cap) L) (i : Nat) (u : Value) : Oth w0 (w.setCell ⟨g, i, none⟩ u) :=
  h.own hO ((Only.refl (ownB (.slice (some ⟨g, o, none⟩) n cap)) w).setCell (p := ⟨g, i, none⟩) (fun _ => rfl) u)
section
variable {w w' : World} {b base : Nat} {most : Int} {v1 v2 : Value} {I V : List Int}
theorem Tb.kept (h : Tb w b base most v1 v2 I V) (ho : Only Nil w w') : Tb w' b base most v1 v2 I V :=
  ⟨h.blk.kept ho (fun hh => hh), h.o1.kept ho (fun _ _ hh => hh), h.o2.kept ho (fun _ _ hh => hh), h.len, h.sep, h.hb⟩
theorem New_any (most : Int) (w : World) (h0 : 1 ≤ most) (h1 : most ≤ 1024) : Calls Try.prog 6 #[.int .i64 most] w fun x w' => ∃ b, x = .returned (.tuple #[.pointer (some ⟨b, 0, none⟩), .int .i64 0]) ∧ Only Nil w w' ∧ Tb w' b w.heap.size most (.slice none 0 0) (.slice none 0 0) [] [] := by
  go_enter Try.func6, Try.ntmps6
  go_wp2
  go_ret2
  exact ⟨_, rfl, (Only.refl _ _).alloc _, Blk.new _ _ _, Ow.nil, Ow.nil, rfl, fun g hg => by simp [Value.ownBlock] at hg, Nat.le_refl _⟩
theorem Len_any (w : World) (h : Tb w b base most v1 v2 I V) : Calls Try.prog 9 #[.pointer (some ⟨b, 0, none⟩)] w fun x w' => x = .returned (.int .i64 I.length) ∧ w = w' := by
  obtain ⟨A, cap, rfl, hc, hm⟩ := h.o1.form
  have c1 := h.blk.cell 1
  go_enter Try.func9, Try.ntmps9
  go_wp2
  go_ret
  exact ⟨rfl, rfl⟩
theorem Len_nil (w : World) : Calls Try.prog 9 #[.pointer none] w fun x w' => x = .returned (.int .i64 0) ∧ w = w' := by
  go_enter Try.func9, Try.ntmps9
  go_wp2
  go_ret
  exact ⟨rfl, rfl⟩
def FdPost (p : Option Addr) (w : World) (x : Ending) (w' : World) : Prop := ∃ g, x = .returned (.func (.func 25) #[] #[.pointer (some ⟨g, 0, none⟩)]) ∧ Only Nil w w' ∧ Blk w' g 23 #[.pointer p]
theorem finder_any (p : Option Addr) (w : World) : Calls Try.prog 24 #[.pointer p] w (FdPost p w) := by
  have hmf := mkf Try.prog
  go_enter Try.func24, Try.ntmps24
  go_wp2
  go_ret
  exact ⟨_, rfl, (Only.refl _ _).alloc _, Blk.new _ _ _⟩
theorem finder1_nil (g : Nat) (id : Int) (w : World) (hg : Blk w g 23 #[.pointer none]) : Calls Try.prog 25 #[.int .i64 id, .pointer (some ⟨g, 0, none⟩)] w fun x w' => x = .returned (.tuple #[.int .i64 0, .bool false]) ∧ Only Nil w w' := by
  have c0 := hg.cell 0
  go_enter Try.func25, Try.ntmps25
  go_wp2_with (first
    | (go_at_call 9; (with_reducible refine (Len_nil _).mono ?_); rintro e w1 ⟨rfl, rfl⟩)
    )
  go_loop [5, 6] (fun lo hi => lo = .int .i64 0 ∧ hi = .int .i64 0) (fun _ _ => 0)
  case atStart => exact ⟨rfl, rfl⟩
  case round =>
    obtain ⟨rfl, rfl⟩ := hrel
    go_wp2
    go_quiet ((go_at_call 9; exact Calls.quiet_of_same ((Len_nil _).mono fun _ _ hh => ⟨hh.1, hh.2.symm⟩)))
    go_wp2
    go_ret2
    exact ⟨rfl, (Only.refl _ _).drewN _⟩
/-- the place of a number: all before it are smaller, all from it on are not -/
def plc (I : List Int) (id : Int) (r : Nat) : Prop := r ≤ I.length ∧ (∀ j x, I[j]? = some x → j < r → x < id) ∧ (∀ j x, I[j]? = some x → r ≤ j → id ≤ x)
def rising (I : List Int) : Prop := ∀ (i j : Nat) x y, I[i]? = some x → I[j]? = some y → i < j → x < y
set_option maxHeartbeats 2000000 in
theorem finder1_any (g : Nat) (id : Int) (w : World) (hg : Blk w g 23 #[.pointer (some ⟨b, 0, none⟩)]) (h : Tb w b base most v1 v2 I V) (hs : rising I) (hn : I.length ≤ 2000) :
    Calls Try.prog 25 #[.int .i64 id, .pointer (some ⟨g, 0, none⟩)] w fun x w' => ∃ r, x = .returned (.tuple #[.int .i64 (r : Nat), .bool (I[r]? == some id)]) ∧ plc I id r ∧ Only Nil w w' := by
  obtain ⟨A, cap, rfl, hc, hm⟩ := h.o1.form
  have c0 := hg.cell 0
  have c1 := h.blk.cell 1
  have hsq := h.o1.sq (fun _ _ => rfl) rfl
  have hL := Lib.hid (fun W (k : Tb W b base most (.slice A I.length cap) v2 I V) => Len_any W k)
  generalize hnn : I.length = n at *
  go_enter Try.func25, Try.ntmps25
  go_wp2_with (first
    | (go_at_call 9; (with_reducible refine (hL.out _ h).mono ?_); rintro e w1 ⟨rfl, rfl⟩)
    )
  go_loop [5, 6] (fun lo hi => ∃ a z : Nat, lo = .int .i64 a ∧ hi = .int .i64 z ∧ a ≤ z ∧ z ≤ n ∧ (∀ j x, I[j]? = some x → j < a → x < id) ∧ (∀ j x, I[j]? = some x → z ≤ j → id ≤ x)) (fun lo hi => (intOf hi).toNat - (intOf lo).toNat)
  case atStart => exact ⟨0, n, rfl, rfl, Nat.zero_le _, Nat.le_refl _, fun _ _ _ hh => absurd hh (Nat.not_lt_zero _), fun j x hx hj => by have := (List.getElem?_eq_some_iff.1 hx).1; omega⟩
  case round =>
    obtain ⟨a, z, rfl, rfl, haz, hzn, hlo, hhi⟩ := hrel
    by_cases hlt : a < z
    · obtain ⟨bb, off, x, rfl, hbb, hx, _, hcs⟩ := hsq.at_ (k := (a + z) / 2) (by omega)
      have e1 := hcs 0 (by decide)
      simp [encZ] at e1
      have hw1 : wrap64 ((a : Int) + z) = (a : Int) + z := by simp only [wrap64]; omega
      have hm1 : (0 : Int) ≤ ((a : Int) + z) := by omega
      go_wp2
      · have hlt2 : x < id := by omega
        go_round
        case rel => exact ⟨(a + z) / 2 + 1, z, by go_num, rfl, by omega, by omega, fun j y hy hj => by
          rcases Nat.eq_or_lt_of_le (Nat.le_of_lt_succ hj) with e | e
          · subst e
            rw [hx] at hy
            injection hy with hy
            omega
          · have := hs _ _ _ _ hy hx e
            omega, hhi⟩
        case measure => simp [intOf]; omega
      · have hlt2 : id ≤ x := by omega
        go_round
        case rel => exact ⟨a, (a + z) / 2, rfl, by go_num, by omega, by omega, hlo, fun j y hy hj => by
          rcases Nat.eq_or_lt_of_le hj with e | e
          · subst e
            rw [hx] at hy
            injection hy with hy
            omega
          · have := hs _ _ _ _ hx hy e
            omega⟩
        case measure => simp [intOf]; omega
    · obtain rfl : a = z := by omega
      by_cases han : a < n
      · obtain ⟨bb, off, x, rfl, hbb, hx, _, hcs⟩ := hsq.at_ (k := a) (by omega)
        have e1 := hcs 0 (by decide)
        simp [encZ] at e1
        have hfin : Hid ((I[a]? == some id) = (x == id)) := Lib.hid (by rw [hx]; rfl)
        have hp : Hid (plc I id a) := Lib.hid ⟨by omega, hlo, hhi⟩
        go_wp2
        go_quiet ((go_at_call 9; exact Calls.quiet_of_same ((hL.out _ (h.kept ((Only.refl Nil w).drewN _))).mono fun _ _ hh => ⟨hh.1, hh.2.symm⟩)))
        go_wp2
        go_ret2
        exact ⟨a, by rw [hfin.out]; rfl, hp.out, (Only.refl _ _).drewN _⟩
      · obtain rfl : a = n := by omega
        have hfin : Hid ((I[a]? == some id) = false) := Lib.hid (by rw [List.getElem?_eq_none (by omega)]; rfl)
        have hp : Hid (plc I id a) := Lib.hid ⟨by omega, hlo, hhi⟩
        go_wp2
        go_quiet ((go_at_call 9; exact Calls.quiet_of_same ((hL.out _ (h.kept ((Only.refl Nil w).drewN _))).mono fun _ _ hh => ⟨hh.1, hh.2.symm⟩)))
        go_wp2
        go_ret2
        exact ⟨a, by rw [hfin.out]; rfl, hp.out, (Only.refl _ _).drewN _⟩
end
end Go.Proofs.Ytkidhfcokckomaa
