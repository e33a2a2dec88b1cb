/- What Drop and Ends do to a table of the call's own. -/
import Derived.Test.YtkidhfcokckomaaL13Does
namespace Go.Proofs.Ytkidhfcokckomaa
open Go.RowKit

/-- a row without these numbers -/
def ds (J : List Int) (R : List (Int × Int)) : List (Int × Int) := R.filter (fun p => !J.contains p.1)
theorem ds_nil (R : List (Int × Int)) : ds [] R = R := by simp [ds]
theorem ds_snoc (J : List Int) (id : Int) (R : List (Int × Int)) : ds (J ++ [id]) R = wo id (ds J R) := by
  unfold ds wo
  rw [List.filter_filter]
  congr 1
  funext p
  by_cases e : p.1 = id <;> simp [List.contains_eq_mem, e]
theorem ds_take {J : List Int} {k : Nat} {x : Int} (hx : J[k]? = some x) (R : List (Int × Int)) : ds (J.take (k + 1)) R = wo x (ds (J.take k) R) := by
  rw [List.take_add_one, hx, Option.toList_some, ds_snoc]
theorem ds_twice (J : List Int) (R : List (Int × Int)) : ds J (ds J R) = ds J R := by
  unfold ds
  rw [List.filter_filter]
  simp
theorem ds_le (J : List Int) (R : List (Int × Int)) : (ds J R).length ≤ R.length := List.length_filter_le _ _
theorem rising_ds {R : List (Int × Int)} (hr : rising (R.map (·.1))) (J : List Int) : rising ((ds J R).map (·.1)) := by
  rw [rising_pw] at hr ⊢
  exact hr.sublist (List.Sublist.map _ List.filter_sublist)
theorem wo_out {R : List (Int × Int)} {id : Int} (h : id ∉ R.map (·.1)) : wo id R = R := by
  unfold wo
  rw [List.filter_eq_self]
  intro p hp
  have : p.1 ≠ id := fun e => h (List.mem_map.2 ⟨p, hp, e⟩)
  simpa using this
theorem wo_len {R : List (Int × Int)} (hr : rising (R.map (·.1))) {r : Nat} {id y : Int} (h : R[r]? = some (id, y)) : (wo id R).length + 1 = R.length := by
  have hl := (List.getElem?_eq_some_iff.1 h).1
  rw [(wo_in hr h).1, List.length_eraseIdx_of_lt hl]
  omega
section
variable {w w' : World} {b base : Nat} {most : Int} {v1 v2 : Value} {R : List (Int × Int)}
def DpPost (w : World) (b base : Nat) (most : Int) (J : List Int) (R : List (Int × Int)) (x : Ending) (w' : World) : Prop :=
  ∃ v1' v2', x = .returned (.int .i64 ((R.length : Int) - (ds J R).length)) ∧ Tb w' b base most v1' v2' ((ds J R).map (·.1)) ((ds J R).map (·.2)) ∧ Below base w w' ∧ Oth w w'
set_option maxHeartbeats 2000000 in
theorem Drop_any (A : Option Addr) (cap : Nat) (J : List Int) (w : World) (hA : Sq encZ 1 w base A J) (hlen : J.length ≤ 100000) (h : Tb w b base most v1 v2 (R.map (·.1)) (R.map (·.2))) (hn : R.length ≤ 1000) (hr : rising (R.map (·.1))) :
    Calls Try.prog 14 #[.pointer (some ⟨b, 0, none⟩), .slice A J.length cap] w (DpPost w b base most J R) := by
  have hsz : base ≤ w.heap.size := by have := h.hb; have := h.blk.lt; omega
  have HR := Lib.hid hr
  generalize hnn : J.length = n at *
  have HN := Lib.hid hnn
  clear hnn
  go_enter Try.func14, Try.ntmps14
  go_wp2
  go_loopw [5, 12] (fun nn ii wr => ∃ (k : Nat) (v1' v2' : Value), k ≤ n ∧ ii = .int .i64 k ∧ nn = .int .i64 ((R.length : Int) - (ds (J.take k) R).length) ∧ Tb wr b base most v1' v2' ((ds (J.take k) R).map (·.1)) ((ds (J.take k) R).map (·.2)) ∧ Below base w wr ∧ Oth w wr) (fun _ ii _ => n - (intOf ii).toNat)
  case atStart => exact ⟨0, v1, v2, Nat.zero_le _, rfl, by rw [List.take_zero, ds_nil]; simp, by rw [List.take_zero, ds_nil]; exact h, Below.refl _ _, Oth.refl _⟩
  case round =>
    obtain ⟨k, v1', v2', hk, rfl, rfl, hT, hBe, hO⟩ := hrel
    by_cases hlt : k < n
    · obtain ⟨b1, o1, x, rfl, hb1, hx, _, h1⟩ := (hA.below hBe).at_ (k := k) (by have := HN.out; omega)
      have e1 : wr.cell? ⟨b1, o1 + k, none⟩ = some (.int .i64 x) := by simpa [encZ] using h1 0 (by decide)
      have hst := Lib.hid (ds_take hx R)
      have hle := ds_le (J.take k) R
      have hri := Lib.hid (rising_ds HR.out (J.take k))
      clear h1 hx
      generalize ds (J.take k) R = Q at hst hle hri hT ⊢
      rcases row_or Q x with hid | ⟨r, y, hy⟩
      · have hD := Lib.hid (Del_out x wr hT hri.out (by rw [List.length_map]; omega) hid)
        have hw := Lib.hid (wo_out hid)
        clear hid
        generalize hql : Q.length = q at *
        have HQ := Lib.hid hql
        clear hql
        go_wp2_with (first
          | (go_at_call 17; (with_reducible refine (hD.out).mono ?_); rintro e w1 ⟨rfl, ho1⟩)
          )
        go_roundw
        case rel => exact ⟨k + 1, v1', v2', by omega, by go_num, by rw [hst.out, hw.out, HQ.out], by rw [hst.out, hw.out]; exact hT.kept ho1, hBe.trans (ho1.below (Nat.le_trans hsz hBe.size) (fun _ _ hh => hh)), hO.trans (Oth.of_nil ho1)⟩
        case measure => simp [intOf]; omega
      · have hD := Lib.hid (Del_row_in x y r wr hT hri.out (by omega) hy)
        have hw := Lib.hid (wo_len hri.out hy)
        clear hy
        generalize hql : Q.length = q at *
        have HQ := Lib.hid hql
        clear hql
        go_wp2_with (first
          | (go_at_call 17; (with_reducible refine (hD.out).mono ?_); rintro e w1 ⟨v1'', v2'', rfl, hT1, hb1, hO1⟩)
          )
        go_roundw
        case rel => exact ⟨k + 1, v1'', v2'', by omega, by go_num, by rw [hst.out]; have := hw.out; have := HQ.out; exact congrArg (Value.int .i64) (by omega), by rw [hst.out]; exact hT1, hBe.trans hb1, hO.trans hO1⟩
        case measure => simp [intOf]; omega
    · have hkn : J.take k = J := List.take_of_length_le (by have := HN.out; omega)
      rw [hkn] at hT ⊢
      clear hkn
      go_wp2
      go_ret
      exact ⟨v1', v2', rfl, hT, hBe, hO⟩
theorem Ends_out (w : World) (h : Tb w b base most v1 v2 (([] : List (Int × Int)).map (·.1)) (([] : List (Int × Int)).map (·.2))) : Calls Try.prog 15 #[.pointer (some ⟨b, 0, none⟩)] w fun x w' => x = .returned (.tuple #[.int .i64 0, .int .i64 0, .bool false]) ∧ Only Nil w w' := by
  have hL := Lib.hid (fun W (k : Tb W b base most v1 v2 (([] : List (Int × Int)).map (·.1)) (([] : List (Int × Int)).map (·.2))) => Len_row W k)
  go_enter Try.func15, Try.ntmps15
  go_wp2_with (first
    | (go_at_call 9; (with_reducible refine (hL.out _ h).mono ?_); rintro e w1 ⟨rfl, rfl⟩)
    )
  exact bodyPost_ret (v := .tuple #[.int .i64 0, .int .i64 0, .bool false]) (by simp [results, Try.results15, go_sem]) rfl ⟨rfl, Only.refl _ _⟩
theorem Ends_in (lo hi : Int × Int) (w : World) (h : Tb w b base most v1 v2 (R.map (·.1)) (R.map (·.2))) (hn : R.length ≤ 1000) (hlo : R[0]? = some lo) (hhi : R[R.length - 1]? = some hi) :
    Calls Try.prog 15 #[.pointer (some ⟨b, 0, none⟩)] w fun x w' => x = .returned (.tuple #[.int .i64 lo.1, .int .i64 hi.1, .bool true]) ∧ Only Nil w w' := by
  obtain ⟨A1, cap1, rfl, hc1, hm1⟩ := h.o1.form
  have hL := Lib.hid (fun W (k : Tb W b base most (.slice A1 (R.map (·.1)).length cap1) v2 (R.map (·.1)) (R.map (·.2))) => Len_row W k)
  have c1 := h.blk.cell 1
  have hpos : 0 < R.length := (List.getElem?_eq_some_iff.1 hlo).1
  obtain ⟨b1, o1, y, rfl, _, hy, _, h1⟩ := (h.o1.sq (fun _ _ => rfl) rfl).at_ (k := 0) (by rw [List.length_map]; exact hpos)
  obtain ⟨_, _, z, e0, _, hz, _, h2⟩ := (h.o1.sq (fun _ _ => rfl) rfl).at_ (k := R.length - 1) (by rw [List.length_map]; omega)
  injection e0 with e0
  injection e0 with e3 e4
  subst e3 e4
  rw [List.getElem?_map, hlo] at hy
  rw [List.getElem?_map, hhi] at hz
  injection hy with hy
  injection hz with hz
  subst hy hz
  have e1 : w.cell? ⟨b1, o1, none⟩ = some (.int .i64 lo.1) := by simpa [encZ] using h1 0 (by decide)
  have e2 : w.cell? ⟨b1, o1 + (R.length - 1), none⟩ = some (.int .i64 hi.1) := by simpa [encZ] using h2 0 (by decide)
  clear h1 h2 hlo hhi
  rw [List.length_map] at c1 hL h
  generalize hq : R.length = q at *
  clear hq
  have hi0 : (0 : Int) < q := by omega
  have hi1 : (q : Int) - 1 < q := by omega
  have hi2 : (0 : Int) ≤ (q : Int) - 1 := by omega
  have ew : IntKind.i64.wrap ((q : Int) - 1) = (q : Int) - 1 := IntWalk.i64_in _ (by omega)
  have hne : ((q : Int) == 0) = false := by simp; omega
  have en : ((q : Int) - 1).toNat = q - 1 := by omega
  go_enter Try.func15, Try.ntmps15
  go_wp2_with (first
    | (go_at_call 9; (with_reducible refine (hL.out _ h).mono ?_); rintro e w1 ⟨rfl, rfl⟩)
    )
  go_quiet (fail)
  go_wp2
  exact bodyPost_ret (v := .tuple #[.int .i64 lo.1, .int .i64 hi.1, .bool true]) (by simp [results, Try.results15, go_sem]) rfl ⟨rfl, (Only.refl _ _).drewN _⟩
end
end Go.Proofs.Ytkidhfcokckomaa
