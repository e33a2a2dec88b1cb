/- The document's own rows of numbers and values: what each call answers. -/
import Derived.Test.YtkidhfcokckomaaTable7
import Derived.Test.YtkidhfcokckomaaApp
namespace Go.Proofs.Ytkidhfcokckomaa
open Go.RowKit

def encP (p : Int × Int) : List Value := [.int .i64 p.1, .int .i64 p.2]
theorem encP_len : ∀ (l : List (Int × Int)), ∀ x ∈ l, (encP x).length = 2 := fun _ _ _ => rfl
theorem encP_one : ∀ (p : Int × Int), ∀ u ∈ encP p, u.oneCell' = true := fun p u hu => by simp [encP] at hu; rcases hu with rfl | rfl <;> rfl
theorem item_info : (Try.prog.info? 47).map (fun i => (i.zero, i.size, i.bytes)) = some (some (.agg #[.int .i64 0, .int .i64 0]), 2, 16) := by kernel_rfl
section
variable {R : List (Int × Int)} {A : Option Addr}
theorem Sq.cells2 {w : World} {b off : Nat} {x : Int × Int} {k : Nat} (h : ∀ j, j < 2 → w.cell? ⟨b, off + k * 2 + j, none⟩ = (encP x)[j]?) :
    w.cell? ⟨b, off + k * 2, none⟩ = some (.int .i64 x.1) ∧ w.cell? ⟨b, off + k * 2 + 1, none⟩ = some (.int .i64 x.2) :=
  ⟨h 0 (by decide), h 1 (by decide)⟩
/-- where a number stands -/
def FdIs (R : List (Int × Int)) (id : Int) (i : Int) : Prop := (i = -1 ∧ ∀ p ∈ R, p.1 ≠ id) ∨ ∃ (r : Nat) (y : Int), i = r ∧ R[r]? = some (id, y)
theorem Find_any (id : Int) (cap : Nat) (w : World) (h : Sq encP 2 w w.heap.size A R) (hn : R.length ≤ 2000) :
    Calls Try.prog 21 #[.agg #[.slice A R.length cap], .int .i64 id] w fun x w' => ∃ i : Int, x = .returned (.int .i64 i) ∧ FdIs R id i ∧ Only Nil w w' := by
  generalize hnn : R.length = n at *
  go_enter Try.func21, Try.ntmps21
  go_wp2
  go_loopw [5] (fun ii wr => ∃ k : Nat, k ≤ n ∧ ii = .int .i64 k ∧ (∀ (j : Nat) p, j < k → R[j]? = some p → p.1 ≠ id) ∧ Only Nil w wr ∧ Blk wr w.heap.size 30 #[.slice A n cap]) (fun ii _ => n - (intOf ii).toNat)
  case atStart => exact ⟨0, Nat.zero_le _, rfl, fun j p hj => absurd hj (Nat.not_lt_zero _), (Only.refl _ _).alloc _, Blk.new _ _ _⟩
  case round =>
    obtain ⟨k, hk, rfl, hno, ho, hB⟩ := hrel
    have c0 := hB.cell 0
    by_cases hlt : k < n
    · obtain ⟨b1, o1, x, rfl, hb1, hx, _, h1⟩ := (h.go ho).at_ (k := k) (by omega)
      have e1 : wr.cell? ⟨b1, o1 + k * 2, none⟩ = some (.int .i64 x.1) := h1 0 (by decide)
      have hki : (k : Int) < n := by omega
      clear h1
      by_cases hx1 : x.1 = id
      · subst hx1
        have hfin : Hid (FdIs R x.1 k) := Lib.hid (.inr ⟨k, x.2, rfl, by rw [hx]⟩)
        clear hno
        go_wp2
        go_ret
        exact ⟨k, rfl, hfin.out, ho⟩
      · have hne := Lib.hid hno
        have hXX := Lib.hid hx
        clear hno hx
        go_wp2
        go_roundw
        case rel => exact ⟨k + 1, by omega, by go_num, fun j p hj hp => by
          rcases Nat.eq_or_lt_of_le (Nat.le_of_lt_succ hj) with e | e
          · subst e
            rw [hXX.out] at hp
            injection hp with hp
            rw [← hp]
            exact hx1
          · exact hne.out j p e hp, ho, hB⟩
        case measure => simp [intOf]; omega
    · have hfin : Hid (FdIs R id (-1)) := Lib.hid (.inl ⟨rfl, fun p hp => by
        obtain ⟨j, hj⟩ := List.mem_iff_getElem?.1 hp
        exact hno j p (by have := (List.getElem?_eq_some_iff.1 hj).1; omega) hj⟩)
      clear hno
      go_wp2
      go_ret
      exact ⟨-1, rfl, hfin.out, ho⟩
def RowPost (w : World) (L : List (Int × Int)) (x : Ending) (w' : World) : Prop := ∃ A c, x = .returned (.agg #[.slice A L.length c]) ∧ Ow encP 2 w' w.heap.size 47 (.slice A L.length c) L ∧ Only Nil w w'
theorem filter_take {R : List (Int × Int)} {k : Nat} {x : Int × Int} (f : Int × Int → Bool) (hx : R[k]? = some x) : (R.take (k + 1)).filter f = (R.take k).filter f ++ (if f x then [x] else []) := by
  rw [List.take_add_one, hx, List.filter_append]
  simp [List.filter_cons]
def wo (id : Int) (R : List (Int × Int)) : List (Int × Int) := R.filter (fun p => p.1 != id)
set_option maxHeartbeats 2000000 in
theorem Del_row (id : Int) (cap : Nat) (w : World) (h : Sq encP 2 w w.heap.size A R) (hn : R.length ≤ 2000) :
    Calls Try.prog 13 #[.agg #[.slice A R.length cap], .int .i64 id] w (RowPost w (wo id R)) := by
  generalize hnn : R.length = n at *
  go_enter Try.func13, Try.ntmps13
  go_wp2
  go_loopw [5, 6] (fun vv ii wr => ∃ (k m : Nat) (A5 : Option Addr) (c5 : Nat), k ≤ n ∧ ii = .int .i64 k ∧ vv = .slice A5 m c5 ∧ Ow encP 2 wr w.heap.size 47 (.slice A5 m c5) (wo id (R.take k)) ∧ Only Nil w wr ∧ Blk wr w.heap.size 30 #[.slice A n cap] ∧ Blk wr (w.heap.size + 1) 30 #[.slice none 0 0]) (fun _ ii _ => n - (intOf ii).toNat)
  case atStart =>
    have h1 := Blk.new (w.alloc (.cells #[.slice A n cap] 30)) 30 #[.slice none 0 0]
    exact ⟨0, 0, none, 0, Nat.zero_le _, rfl, rfl, Ow.nil, ((Only.refl _ _).alloc _).alloc _, (Blk.new _ _ _).alloc _, by simpa using h1⟩
  case round =>
    obtain ⟨k, m, A5, c5, hk, rfl, rfl, hO, ho, hB, hB1⟩ := hrel
    have c0 := hB.cell 0
    obtain ⟨hm, _, _⟩ := hO.len
    by_cases hlt : k < n
    · obtain ⟨b1, o1, x, rfl, hb1, hx, _, h1⟩ := (h.go ho).at_ (k := k) (by omega)
      obtain ⟨e1, e2⟩ := Sq.cells2 h1
      have hki : (k : Int) < n := by omega
      have hml : m ≤ 2000 := by
        have h1 := List.length_filter_le (fun p : Int × Int => p.1 != id) (R.take k)
        have h2 : (R.take k).length ≤ k := List.length_take_le _ _
        unfold wo at hm
        omega
      have hft := filter_take (fun p : Int × Int => p.1 != id) hx
      clear h1
      by_cases hx1 : x.1 = id
      · have hstep : Hid (wo id (R.take (k + 1)) = wo id (R.take k)) := Lib.hid (by unfold wo; rw [hft]; simp [hx1])
        have ht : (x.1 != id) = false := by simp [hx1]
        clear hft hx hm hx1
        go_wp2
        go_roundw
        case rel => exact ⟨k + 1, m, _, _, by omega, by go_num, rfl, by rw [hstep.out]; exact hO, ho, hB, hB1⟩
        case measure => simp [intOf]; omega
      · have hstep : Hid (wo id (R.take k) ++ [x] = wo id (R.take (k + 1))) := Lib.hid (by unfold wo; rw [hft]; simp [hx1])
        have ht : (x.1 != id) = true := by simp [hx1]
        have hN : Blk (wr.alloc (.cells #[.int .i64 x.1, .int .i64 x.2] 47)) wr.heap.size 47 #[.int .i64 x.1, .int .i64 x.2] := Blk.new _ _ _
        have s1 := Src.one (P := Try.prog) (enc := encP) (tx := 28) Try.underlying28 x 1 rfl hN rfl (encP_one x)
        have hO1 := hO.alloc (.cells #[.int .i64 x.1, .int .i64 x.2] 47)
        have ho1 := ho.alloc (.cells #[.int .i64 x.1, .int .i64 x.2] 47)
        have hB' := hB.alloc (.cells #[.int .i64 x.1, .int .i64 x.2] 47)
        have hB1' := hB1.alloc (.cells #[.int .i64 x.1, .int .i64 x.2] 47)
        have hne := hO1.ne hB' (by decide)
        have hne1 := hO1.ne hB1' (by decide)
        have hmh := Lib.hid hm
        clear hft hx hm hx1
        go_wp2_with (first
          | (at_builtin
             refine wpList_app2 rfl (.tmp 22) (.tmp 28) _ _ rfl w.heap.size 47 Try.underlying28 item_info rfl _ _ rfl hO1 _ [x] rfl s1 (by have := hmh.out; simp; omega) (by decide) ho1.size (m + 1) (by have := hmh.out; simp; omega) _ hstep.out ?_
             intro A6 c6 w6 hown6 ho6 hg6
             have hB6 := hB'.kept ho6 hne
             have hB16 := hB1'.kept ho6 hne1
             have hoo := ho1.own_nil hO1 ho6)
          )
        go_roundw
        case rel => exact ⟨k + 1, m + 1, _, _, by omega, by go_num, rfl, hown6, hoo, hB6, hB16⟩
        case measure => simp [intOf]; omega
    · have hkn : R.take k = R := List.take_of_length_le (by omega)
      rw [hkn] at hO hm
      have hne1 := hO.ne hB1 (by decide)
      have k0 := hB1.cell 0
      have f0 := hB1.frozen 0
      have k1 := (hB1.set 0 (.slice A5 m c5)).cell 0
      have hmm := Lib.hid hm
      clear hm hkn
      go_wp2
      exact bodyPost_ret (v := .agg #[.slice A5 m c5]) (by simp [results, Try.results13, go_sem, k1]) rfl ⟨A5, c5, by rw [← hmm.out], by rw [← hmm.out]; exact hO.set hne1 0 (.slice A5 m c5), ho.setNew (by omega) 0 _⟩
theorem la1 {α : Type} {Y : List α} {k : Nat} (h : Y.length = k) : ([] : List α).length + Y.length = k := by simpa using h
theorem la2 {α : Type} {Y : List α} {p : α} {k : Nat} (h : Y.length = k) : Y.length + [p].length = k + 1 := by simp [h]
theorem la3 {α : Type} {Y Z : List α} {p : α} {k n : Nat} (h : Y.length = k) (h3 : Z.length = n - k) (hk : k ≤ n) : (Y ++ [p]).length + Z.length = n + 1 := by simp; omega
theorem la4 {α : Type} {Y Z : List α} {p : α} {k n : Nat} (h : Y.length = k) (h3 : Z.length = n - k) (hk : k ≤ n) : (Y ++ p :: Z).length = n + 1 := by simp; omega
/-- the place of a number in a row, as Put finds it -/
def PtIs (R : List (Int × Int)) (id : Int) (k : Nat) : Prop := k ≤ R.length ∧ (∀ (j : Nat) p, j < k → R[j]? = some p → p.1 < id) ∧ ∀ p, R[k]? = some p → id ≤ p.1
def ins (R : List (Int × Int)) (id v : Int) (k : Nat) : List (Int × Int) := R.take k ++ (id, v) :: R.drop k
def PtRow (w : World) (R : List (Int × Int)) (id v : Int) (x : Ending) (w' : World) : Prop := ∃ k, PtIs R id k ∧ RowPost w (ins R id v k) x w'
set_option maxHeartbeats 4000000 in
theorem Put_row (id v : Int) (cap : Nat) (w : World) (h : Sq encP 2 w w.heap.size A R) (hn : R.length ≤ 2000) (hcap : R.length ≤ cap) :
    Calls Try.prog 22 #[.agg #[.slice A R.length cap], .int .i64 id, .int .i64 v] w (PtRow w R id v) := by
  have HN := Lib.hid (show R.length = R.length from rfl)
  generalize hnn : R.length = n at *
  have HNN := Lib.hid hnn
  clear hnn
  go_enter Try.func22, Try.ntmps22
  go_wp2
  go_loopw [7] (fun ii wr => ∃ (k : Nat), k ≤ n ∧ ii = .int .i64 k ∧ (∀ (j : Nat) p, j < k → R[j]? = some p → p.1 < id) ∧ Only Nil w wr ∧ Blk wr w.heap.size 30 #[.slice A n cap] ∧ Blk wr (w.heap.size + 1) 30 #[.slice none 0 0]) (fun ii _ => n - (intOf ii).toNat)
  case atStart =>
    have h1 := Blk.new (w.alloc (.cells #[.slice A n cap] 30)) 30 #[.slice none 0 0]
    exact ⟨0, Nat.zero_le _, rfl, fun j p hj => absurd hj (Nat.not_lt_zero _), ((Only.refl _ _).alloc _).alloc _, (Blk.new _ _ _).alloc _, by simpa using h1⟩
  case round =>
    obtain ⟨k, hk, rfl, hno, ho, hB, hB1⟩ := hrel
    have c0 := hB.cell 0
    by_cases hgo : k < n ∧ ∃ p, R[k]? = some p ∧ p.1 < id
    · obtain ⟨hlt, p, hp, hpi⟩ := hgo
      obtain ⟨b1, o1, x, rfl, hb1, hx, _, h1⟩ := (h.go ho).at_ (k := k) (by have := HNN.out; omega)
      rw [hp] at hx
      injection hx with hx
      subst hx
      obtain ⟨e1, e2⟩ := Sq.cells2 h1
      have hki : (k : Int) < n := by omega
      have hne := Lib.hid hno
      have hXX := Lib.hid hp
      clear h1 hno hp
      go_wp2
      go_roundw
      case rel => exact ⟨k + 1, by omega, by go_num, fun j q hj hq => by
        rcases Nat.eq_or_lt_of_le (Nat.le_of_lt_succ hj) with e | e
        · subst e
          rw [hXX.out] at hq
          injection hq with hq
          rw [← hq]
          exact hpi
        · exact hne.out j q e hq, ho, hB, hB1⟩
      case measure => simp [intOf]; omega
    · have hpt : Hid (PtIs R id k) := Lib.hid ⟨by have := HNN.out; omega, hno, fun p hp => by
        rcases Int.lt_or_le p.1 id with h1 | h1
        · exact absurd ⟨by have := (List.getElem?_eq_some_iff.1 hp).1; have := HNN.out; omega, p, hp, h1⟩ hgo
        · exact h1⟩
      have hcell : k < n → ∃ b1 o1 x, A = some ⟨b1, o1, none⟩ ∧ wr.cell? ⟨b1, o1 + k * 2, none⟩ = some (.int .i64 x) ∧ id ≤ x := fun hlt => by
        obtain ⟨b1, o1, x, e, hb1, hx, _, h1⟩ := (h.go ho).at_ (k := k) (by have := HNN.out; omega)
        exact ⟨b1, o1, x.1, e, (Sq.cells2 h1).1, hpt.out.2.2 x hx⟩
      have ho1 := ho.alloc (.cells #[] 47)
      have hB_1 := hB.alloc (.cells #[] 47)
      have hB1_1 := hB1.alloc (.cells #[] 47)
      have hown1 := Ow.lit (enc := encP) (sz := 2) (e := 47) (base := w.heap.size) wr (cs := #[]) [] rfl rfl (by decide) ho.size
      have hne1 := hown1.ne hB_1 (by decide)
      have hne2 := hown1.ne hB1_1 (by decide)
      have t1 := Src.sqn (P := Try.prog) (tx := 28) Try.underlying28 cap k ((h.go ho1).take k) (encP_len _) (fun x _ => encP_one x) (by decide) (by rw [List.length_take]; have := HNN.out; omega)
      have hl1 : (R.take k).length = k := by rw [List.length_take]; have := HNN.out; omega
      have hl3 : (R.drop k).length = n - k := by rw [List.length_drop]; have := HNN.out; omega
      have HL1 := Lib.hid hl1
      have HL3 := Lib.hid hl3
      have T3 : Hid (∀ (W : World) (A' : Option Addr), Only Nil w W → (k < n → A' = A.map (·.add (k * 2))) → Src Try.prog 2 28 (.slice A' (n - k) (cap - k)) (R.drop k).length ((R.drop k).flatMap encP) W) :=
        Lib.hid fun W A' hW hA => Src.sqn Try.underlying28 _ _ ((h.go hW).dropped k (fun hl => hA (by have := HNN.out; omega))) (encP_len _) (fun x _ => encP_one x) (by decide) hl3
      have hck : k ≤ cap := by omega
      have zB := hB.lt
      have zB1 := hB1.lt
      have hki0 : (k : Int) ≤ cap := by omega
      have hki1 : (k : Int) ≤ n := by omega
      clear hno hgo hl1 hl3
      by_cases hlt : k < n
      · obtain ⟨b1, o1, x, rfl, e1, hxi⟩ := hcell hlt
        have hki : (k : Int) < n := by omega
        clear hcell
        go_wp2_with (first
          | (at_builtin
             refine wpList_app2 rfl (.tmp 26) (.tmp 30) _ _ rfl w.heap.size 47 Try.underlying28 item_info rfl _ _ rfl hown1 _ (R.take k) rfl t1 (by rw [la1 HL1.out]; omega) (by decide) ho1.size k (la1 HL1.out) (R.take k) rfl ?_
             intro A6 c6 w6 hown6 ho6 hg6
             have hB6 := hB_1.kept ho6 hne1
             have hB16 := hB1_1.kept ho6 hne2
             have zB6 := hB6.lt
             have zB16 := hB16.lt
             have ho6' := ho1.own_nil hown1 ho6
             have hN : Blk (w6.alloc (.cells #[.int .i64 id, .int .i64 v] 47)) w6.heap.size 47 #[.int .i64 id, .int .i64 v] := Blk.new _ _ _
             have s1 := Src.one (P := Try.prog) (enc := encP) (tx := 28) Try.underlying28 (id, v) 1 rfl hN rfl (encP_one _)
             have hown6' := hown6.alloc (.cells #[.int .i64 id, .int .i64 v] 47)
             have hB6' := hB6.alloc (.cells #[.int .i64 id, .int .i64 v] 47)
             have hB16' := hB16.alloc (.cells #[.int .i64 id, .int .i64 v] 47)
             have ho6n := ho6'.alloc (.cells #[.int .i64 id, .int .i64 v] 47)
             have hne61 := hown6'.ne hB6' (by decide)
             have hne62 := hown6'.ne hB16' (by decide))
          | (at_builtin
             refine wpList_app2 rfl (.tmp 32) (.tmp 36) _ _ rfl w.heap.size 47 Try.underlying28 item_info rfl _ _ rfl hown6' _ [(id, v)] rfl s1 (by rw [la2 HL1.out]; omega) (by decide) ho6n.size (k + 1) (la2 HL1.out) (R.take k ++ [(id, v)]) rfl ?_
             intro A7 c7 w7 hown7 ho7 hg7
             have hB7 := hB6'.kept ho7 hne61
             have hB17 := hB16'.kept ho7 hne62
             have ho7' := ho6n.own_nil hown6' ho7
             have c07 := hB7.cell 0
             have hne71 := hown7.ne hB7 (by decide)
             have hne72 := hown7.ne hB17 (by decide))
          | (at_builtin
             refine wpList_app2 rfl (.tmp 38) (.tmp 42) _ _ rfl w.heap.size 47 Try.underlying28 item_info rfl _ _ rfl hown7 _ (R.drop k) rfl (T3.out _ _ ho7' (by intro hh; first | (exfalso; omega) | (rw [if_neg (by omega)]; simp [Addr.add_lit]) | simp [Addr.add_lit])) (by rw [la3 HL1.out HL3.out hk]; omega) (by decide) ho7'.size (n + 1) (la3 HL1.out HL3.out hk) (R.take k ++ (id, v) :: R.drop k) (by simp) ?_
             intro A8 c8 w8 hown8 ho8 hg8
             have hB18 := hB17.kept ho8 hne72
             have ho8' := ho7'.own_nil hown7 ho8
             have k0 := hB18.cell 0
             have f0 := hB18.frozen 0
             have hne8 := hown8.ne hB18 (by decide)
             have k1 := (hB18.set 0 (.slice A8 (n + 1) c8)).cell 0)
          )
        all_goals exact bodyPost_ret (v := .agg #[.slice A8 (n + 1) c8]) (by simp [results, Try.results22, go_sem, k1]) rfl ⟨k, hpt.out, A8, c8, by unfold ins; rw [la4 HL1.out HL3.out hk], by unfold ins; rw [la4 HL1.out HL3.out hk]; exact hown8.set hne8 0 (.slice A8 (n + 1) c8), ho8'.setNew (by omega) 0 _⟩
      · have hki : ¬ (k : Int) < n := by omega
        clear hcell
        go_wp2_with (first
          | (at_builtin
             refine wpList_app2 rfl (.tmp 26) (.tmp 30) _ _ rfl w.heap.size 47 Try.underlying28 item_info rfl _ _ rfl hown1 _ (R.take k) rfl t1 (by rw [la1 HL1.out]; omega) (by decide) ho1.size k (la1 HL1.out) (R.take k) rfl ?_
             intro A6 c6 w6 hown6 ho6 hg6
             have hB6 := hB_1.kept ho6 hne1
             have hB16 := hB1_1.kept ho6 hne2
             have zB6 := hB6.lt
             have zB16 := hB16.lt
             have ho6' := ho1.own_nil hown1 ho6
             have hN : Blk (w6.alloc (.cells #[.int .i64 id, .int .i64 v] 47)) w6.heap.size 47 #[.int .i64 id, .int .i64 v] := Blk.new _ _ _
             have s1 := Src.one (P := Try.prog) (enc := encP) (tx := 28) Try.underlying28 (id, v) 1 rfl hN rfl (encP_one _)
             have hown6' := hown6.alloc (.cells #[.int .i64 id, .int .i64 v] 47)
             have hB6' := hB6.alloc (.cells #[.int .i64 id, .int .i64 v] 47)
             have hB16' := hB16.alloc (.cells #[.int .i64 id, .int .i64 v] 47)
             have ho6n := ho6'.alloc (.cells #[.int .i64 id, .int .i64 v] 47)
             have hne61 := hown6'.ne hB6' (by decide)
             have hne62 := hown6'.ne hB16' (by decide))
          | (at_builtin
             refine wpList_app2 rfl (.tmp 32) (.tmp 36) _ _ rfl w.heap.size 47 Try.underlying28 item_info rfl _ _ rfl hown6' _ [(id, v)] rfl s1 (by rw [la2 HL1.out]; omega) (by decide) ho6n.size (k + 1) (la2 HL1.out) (R.take k ++ [(id, v)]) rfl ?_
             intro A7 c7 w7 hown7 ho7 hg7
             have hB7 := hB6'.kept ho7 hne61
             have hB17 := hB16'.kept ho7 hne62
             have ho7' := ho6n.own_nil hown6' ho7
             have c07 := hB7.cell 0
             have hne71 := hown7.ne hB7 (by decide)
             have hne72 := hown7.ne hB17 (by decide))
          | (at_builtin
             refine wpList_app2 rfl (.tmp 38) (.tmp 42) _ _ rfl w.heap.size 47 Try.underlying28 item_info rfl _ _ rfl hown7 _ (R.drop k) rfl (T3.out _ _ ho7' (by intro hh; first | (exfalso; omega) | (rw [if_neg (by omega)]; simp [Addr.add_lit]) | simp [Addr.add_lit])) (by rw [la3 HL1.out HL3.out hk]; omega) (by decide) ho7'.size (n + 1) (la3 HL1.out HL3.out hk) (R.take k ++ (id, v) :: R.drop k) (by simp) ?_
             intro A8 c8 w8 hown8 ho8 hg8
             have hB18 := hB17.kept ho8 hne72
             have ho8' := ho7'.own_nil hown7 ho8
             have k0 := hB18.cell 0
             have f0 := hB18.frozen 0
             have hne8 := hown8.ne hB18 (by decide)
             have k1 := (hB18.set 0 (.slice A8 (n + 1) c8)).cell 0)
          )
        all_goals exact bodyPost_ret (v := .agg #[.slice A8 (n + 1) c8]) (by simp [results, Try.results22, go_sem, k1]) rfl ⟨k, hpt.out, A8, c8, by unfold ins; rw [la4 HL1.out HL3.out hk], by unfold ins; rw [la4 HL1.out HL3.out hk]; exact hown8.set hne8 0 (.slice A8 (n + 1) c8), ho8'.setNew (by omega) 0 _⟩
theorem IDs_row (cap : Nat) (w : World) (h : Sq encP 2 w w.heap.size A R) (hn : R.length ≤ 2000) :
    Calls Try.prog 12 #[.agg #[.slice A R.length cap]] w fun x w' => ∃ B c, x = .returned (.slice B R.length c) ∧ Sq encZ 1 w' w'.heap.size B (R.map (·.1)) ∧ Only Nil w w' := by
  generalize hnn : R.length = n at *
  have HNN := Lib.hid hnn
  clear hnn
  go_enter Try.func12, Try.ntmps12
  go_wp2
  go_loopw [3, 4] (fun vv ii wr => ∃ (k : Nat) (A5 : Option Addr) (c5 : Nat), k ≤ n ∧ ii = .int .i64 k ∧ vv = .slice A5 k c5 ∧ Ow encZ 1 wr w.heap.size 3 (.slice A5 k c5) ((R.take k).map (·.1)) ∧ Only Nil w wr ∧ Blk wr w.heap.size 30 #[.slice A n cap]) (fun _ ii _ => n - (intOf ii).toNat)
  case atStart => exact ⟨0, none, 0, Nat.zero_le _, rfl, rfl, Ow.nil, (Only.refl _ _).alloc _, Blk.new _ _ _⟩
  case round =>
    obtain ⟨k, A5, c5, hk, rfl, rfl, hO, ho, hB⟩ := hrel
    have c0 := hB.cell 0
    have zB := hB.lt
    by_cases hlt : k < n
    · obtain ⟨b1, o1, x, rfl, hb1, hx, _, h1⟩ := (h.go ho).at_ (k := k) (by have := HNN.out; omega)
      obtain ⟨e1, e2⟩ := Sq.cells2 h1
      have hki : (k : Int) < n := by omega
      have hstep : Hid ((R.take k).map (·.1) ++ [x.1] = (R.take (k + 1)).map (·.1)) := Lib.hid (by rw [List.take_add_one, hx]; simp)
      have hN : Blk (wr.alloc (.cells #[.int .i64 x.1] 3)) wr.heap.size 3 #[.int .i64 x.1] := Blk.new _ _ _
      have s1 := Src.one (P := Try.prog) (enc := encZ) (tx := 37) Try.underlying37 x.1 1 rfl hN rfl (encZ_one x.1)
      have hO1 := hO.alloc (.cells #[.int .i64 x.1] 3)
      have ho1 := ho.alloc (.cells #[.int .i64 x.1] 3)
      have hB' := hB.alloc (.cells #[.int .i64 x.1] 3)
      have hne := hO1.ne hB' (by decide)
      have hl1 : Hid (((R.take k).map (·.1)).length = k) := Lib.hid (by rw [List.length_map, List.length_take]; have := HNN.out; omega)
      clear h1 hx
      go_wp2_with (first
        | (at_builtin
           refine wpList_app2 rfl (.tmp 12) (.tmp 19) _ _ rfl w.heap.size 3 Try.underlying37 int_info rfl _ _ rfl hO1 _ [x.1] rfl s1 (by rw [la2 hl1.out]; omega) (by decide) ho1.size (k + 1) (la2 hl1.out) _ hstep.out ?_
           intro A6 c6 w6 hown6 ho6 hg6
           have hB6 := hB'.kept ho6 hne
           have hoo := ho1.own_nil hO1 ho6)
        )
      go_roundw
      case rel => exact ⟨k + 1, _, _, by omega, by go_num, rfl, hown6, hoo, hB6⟩
      case measure => simp [intOf]; omega
    · obtain rfl : k = n := by omega
      have hkn : R.take k = R := List.take_of_length_le (by have := HNN.out; omega)
      rw [hkn] at hO
      have hs := hO.sqn (fun _ _ => rfl)
      clear hkn
      go_wp2
      go_ret
      exact ⟨A5, c5, rfl, hs, ho⟩
def StRow (w : World) (R : List (Int × Int)) (id v : Int) (x : Ending) (w' : World) : Prop := ∃ k, PtIs (wo id R) id k ∧ RowPost w (ins (wo id R) id v k) x w'
theorem wo_le (id : Int) (R : List (Int × Int)) : (wo id R).length ≤ R.length := List.length_filter_le _ _
set_option maxHeartbeats 1000000 in
theorem Set_row (id v : Int) (cap : Nat) (w : World) (h : Sq encP 2 w w.heap.size A R) (hn : R.length ≤ 2000) :
    Calls Try.prog 23 #[.agg #[.slice A R.length cap], .int .i64 id, .int .i64 v] w (StRow w R id v) := by
  have hD := Lib.hid (fun W (ho : Only Nil w W) => Del_row id cap W (h.go ho) hn)
  have hP := Lib.hid (fun W A' c (hs : Sq encP 2 W W.heap.size A' (wo id R)) (hc : (wo id R).length ≤ c) => Put_row id v c W hs (by have := wo_le id R; omega) hc)
  generalize R.length = n at *
  have hR0 : Blk ((w.alloc (.cells #[.slice A n cap] 30)).alloc (.cells #[.slice none 0 0] 30)) (w.heap.size + 1) 30 #[.slice none 0 0] := by
    have := Blk.new (w.alloc (.cells #[.slice A n cap] 30)) 30 #[.slice none 0 0]
    simpa using this
  go_enter Try.func23, Try.ntmps23
  go_wp2_with (first
    | (go_at_call 13; (with_reducible refine (hD.out _ (((Only.refl _ _).alloc _).alloc _)).mono ?_); rintro e w1 ⟨A1, c1, rfl, hs1, ho1⟩; have hx1 := (((Only.refl Nil w).alloc (.cells #[.slice A n cap] 30)).alloc (.cells #[.slice none 0 0] 30)).trans ho1)
    | (go_at_call 22; (with_reducible refine (hP.out _ _ _ ((hs1.sqn (encP_len _)).go ((Only.refl _ _).alloc _)) hs1.len.2.1).mono ?_); rintro e w2 ⟨k, hk, A2, c2, rfl, hs2, ho2⟩; have hR2 := ((hR0.kept ho1 (fun hh => hh)).alloc _).kept ho2 (fun hh => hh); have k0 := hR2.cell 0; have f0 := hR2.frozen 0; have k1 := (hR2.set 0 (.slice A2 (ins (wo id R) id v k).length c2)).cell 0; have hne2 := hs2.ne hR2 (by decide))
    )
  have hx2 := (hx1.alloc (.cells #[.slice A1 (wo id R).length c1] 30)).trans ho2
  exact bodyPost_ret (v := .agg #[.slice A2 (ins (wo id R) id v k).length c2]) (by simp [results, Try.results23, go_sem, k1]) rfl ⟨k, hk, A2, c2, rfl, (hs2.mono (by have := (((Only.refl Nil w).alloc (.cells #[.slice A n cap] 30)).alloc (.cells #[.slice none 0 0] 30)).trans ho1; have := this.size; simp; omega)).set hne2 0 _, hx2.setNew (by omega) 0 _⟩
end
end Go.Proofs.Ytkidhfcokckomaa
