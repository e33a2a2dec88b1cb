/- Two lists of numbers that are the same. -/
import Derived.Test.YtkidhfcokckomaaTable3
namespace Go.Proofs.Ytkidhfcokckomaa
open Go.RowKit

set_option maxHeartbeats 2000000 in
theorem Ints_same (A B : Option Addr) (ca cb : Nat) (l : List Int) (w : World) (hA : Sq encZ 1 w w.heap.size A l) (hB : Sq encZ 1 w w.heap.size B l) (hlen : l.length ≤ 100000) :
    Calls Try.prog 10 #[.slice A l.length ca, .slice B l.length cb] w fun x w' => x = .returned (.bool true) ∧ Only Nil w w' := by
  generalize hn : l.length = n at *
  go_enter Try.func10, Try.ntmps10
  go_wp2
  go_loopw [5] (fun ii wr => ∃ k : Nat, k ≤ n ∧ ii = .int .i64 k ∧ Only Nil w wr) (fun ii _ => n - (intOf ii).toNat)
  case atStart => exact ⟨0, Nat.zero_le _, rfl, Only.refl _ _⟩
  case round =>
    obtain ⟨k, hk, rfl, ho⟩ := hrel
    by_cases hlt : k < n
    · obtain ⟨b1, o1, x, rfl, hb1, hx, _, h1⟩ := (hA.go ho).at_ (k := k) (by omega)
      obtain ⟨b2, o2, y, rfl, hb2, hy, _, h2⟩ := (hB.go ho).at_ (k := k) (by omega)
      rw [hx] at hy
      injection hy with hy
      subst hy
      have e1 : wr.cell? ⟨b1, o1 + k, none⟩ = some (.int .i64 x) := by simpa [encZ] using h1 0 (by decide)
      have e2 : wr.cell? ⟨b2, o2 + k, none⟩ = some (.int .i64 x) := by simpa [encZ] using h2 0 (by decide)
      have hki : (k : Int) < n := by omega
      clear h1 h2
      go_wp2
      go_quiet (fail)
      go_wp2
      go_roundw
      case rel => exact ⟨k + 1, by omega, by go_num, ho.drewN _⟩
      case measure => simp [intOf]; omega
    · go_wp2
      go_ret
      exact ⟨rfl, ho⟩
theorem made_zero (n : Nat) : (madeCells #[.int .i64 0] n).toList = (List.replicate n (0 : Int)).flatMap encZ := by
  unfold madeCells encZ
  apply List.ext_getElem?
  intro k
  by_cases hk : k < n
  · have := flat_at (enc := encZ) (sz := 1) (fun _ _ => rfl) (l := List.replicate n (0 : Int)) (i := k) (x := 0) (by rw [List.getElem?_replicate]; simp [hk]) (j := 0) (by decide)
    unfold encZ at this
    rw [Nat.mul_one, Nat.add_zero] at this
    rw [this]
    simp [hk, Nat.mod_one]
  · rw [List.getElem?_eq_none (by simp; omega), List.getElem?_eq_none (by rw [flat1 (enc := fun n => [Value.int .i64 n]) (fun _ => rfl)]; simp; omega)]
theorem hmakeN (n : Nat) (hn : n ≤ 4096) (w : World) : (Instr.makeSlice 37 (.int .i64 (n : Int)) (.int .i64 (n : Int))).run Try.prog w = .ok (.slice (some ⟨w.heap.size, 0, none⟩) n n) (w.alloc (.cells (madeCells #[.int .i64 0] n) 3)) := by
  obtain ⟨i, hi, hz, hs, hb⟩ := info_parts int_info
  have := run_make (P := Try.prog) w 37 3 i (.int .i64 0) Try.underlying37 hi hz .i64 .i64 n n (by omega) (by omega) (by rw [hb]; omega) (by omega)
  rw [hs] at this
  simpa [Value.cells] using this
theorem set_fill (I : List Int) (k : Nat) (x : Int) (hx : I[k]? = some x) : (I.take k ++ List.replicate (I.length - k) (0 : Int)).set k x = I.take (k + 1) ++ List.replicate (I.length - (k + 1)) 0 := by
  obtain ⟨hk, hxe⟩ := List.getElem?_eq_some_iff.1 hx
  have hl : (I.take k).length = k := by rw [List.length_take]; omega
  rw [List.set_append_right _ _ (by omega), hl, Nat.sub_self, show I.length - k = I.length - (k + 1) + 1 by omega, List.replicate_succ, List.set_cons_zero, List.take_add_one, hx]
  simp
section
variable {b base : Nat} {most : Int} {v1 v2 : Value} {I V : List Int}
set_option maxHeartbeats 2000000 in
theorem IDs_any (w : World) (h : Tb w b base most v1 v2 I V) (hn0 : I.length ≤ 2000) : Calls Try.prog 11 #[.pointer (some ⟨b, 0, none⟩)] w fun x w' => ∃ A cap, x = .returned (.slice A I.length cap) ∧ Sq encZ 1 w' w'.heap.size A I ∧ Only Nil w w' := by
  obtain ⟨A1, cap, rfl, hc, hm⟩ := h.o1.form
  have hL := Lib.hid (fun W (k : Tb W b base most (.slice A1 I.length cap) v2 I V) => Len_any W k)
  have hlen : Hid (I.length = I.length) := Lib.hid rfl
  generalize hn : I.length = n at *
  have hmk := hmakeN n (by omega)
  have hHN := Lib.hid hn
  clear hn
  go_enter Try.func11, Try.ntmps11
  go_wp2_with (first
    | (go_at_call 9; (with_reducible refine (hL.out _ h).mono ?_); rintro e w1 ⟨rfl, rfl⟩)
    | (go_at_call 9; (with_reducible refine (hL.out _ (h.kept ((Only.refl Nil w).alloc _))).mono ?_); rintro e w1 ⟨rfl, rfl⟩)
    )
  have hO0 : Ow encZ 1 (w.alloc (.cells (madeCells #[.int .i64 0] n) 3)) w.heap.size 3 (.slice (some ⟨w.heap.size, 0, none⟩) n n) (List.replicate n (0 : Int)) := by
    have := Ow.lit (enc := encZ) (sz := 1) (e := 3) (base := w.heap.size) w (List.replicate n (0 : Int)) (made_zero n) (by rw [flat1 encZ_len]; simp) (by simp [maxLen]; omega) (Nat.le_refl _)
    simpa using this
  have hset := Lib.hid (set_fill I)
  rw [hHN.out] at hset
  go_loopw [10] (fun ii wr => ∃ k : Nat, k ≤ n ∧ ii = .int .i64 k ∧ Only Nil w wr ∧ Ow encZ 1 wr w.heap.size 3 (.slice (some ⟨w.heap.size, 0, none⟩) n n) (I.take k ++ List.replicate (n - k) 0)) (fun ii _ => n - (intOf ii).toNat)
  case atStart => exact ⟨0, Nat.zero_le _, rfl, (Only.refl _ _).alloc _, by simpa using hO0⟩
  case round =>
    obtain ⟨k, hk, rfl, ho, hO⟩ := hrel
    by_cases hlt : k < n
    · have hr := h.kept ho
      have c1 := hr.blk.cell 1
      have hIl := hHN.out
      obtain ⟨b1, o1, x, rfl, hb1, hx, _, h1⟩ := (hr.o1.sq (fun _ _ => rfl) rfl).at_ (k := k) (by omega)
      have hLl : (I.take k ++ List.replicate (n - k) (0 : Int)).length = n := by simp; omega
      obtain ⟨_, _, y, e0, _, hy, _, h2⟩ := (hO.sq (fun _ _ => rfl) rfl).at_ (k := k) (by rw [hLl]; exact hlt)
      injection e0 with e0
      injection e0 with e3 e4
      subst e3 e4
      have e1 : wr.cell? ⟨b1, o1 + k, none⟩ = some (.int .i64 x) := by simpa [encZ] using h1 0 (by decide)
      have e2 : wr.cell? ⟨w.heap.size, k, none⟩ = some (.int .i64 y) := by simpa [encZ] using h2 0 (by decide)
      have z2 : wr.frozen? ⟨w.heap.size, k, none⟩ = false := by simpa using hO.frz k
      have hp := hO.put1 encZ_len k (by rw [hLl]; exact hlt) x (.int .i64 x) rfl
      rw [hset.out k x hx, Nat.zero_add] at hp
      have hki : (k : Int) < n := by omega
      clear h1 h2 hy hLl hIl
      go_wp2
      go_roundw
      case rel => exact ⟨k + 1, by omega, by go_num, ho.setNew (Nat.le_refl _) _ _, hp⟩
      case measure => simp [intOf]; omega
    · have hkn : k = n := by omega
      subst hkn
      have hfull : I.take k ++ List.replicate (k - k) (0 : Int) = I := by rw [Nat.sub_self, ← hHN.out, List.take_length]; simp
      rw [hfull] at hO
      have hsq := hO.sq (fun _ _ => rfl) rfl
      go_wp2
      go_ret
      exact ⟨_, _, rfl, hsq, ho⟩
end
end Go.Proofs.Ytkidhfcokckomaa
