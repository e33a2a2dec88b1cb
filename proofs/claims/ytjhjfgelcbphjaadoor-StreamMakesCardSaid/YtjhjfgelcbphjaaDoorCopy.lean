/- copy inside a slice that the call has made, or from anywhere into it (elements of one cell). No condition. -/
import Derived.Test.YtjhjfgelcbphjaaDoorSeq
import Derived.Laws.CopyOwn
namespace Go.Proofs.YtjhjfgelcbphjaaDoor
open Go.RowKit

/-- l with m elements from place i on replaced by those from place j on -/
def cpy {α : Type} (l : List α) (i j m : Nat) : List α := l.take i ++ ((l.drop j).take m ++ l.drop (i + m))
theorem cpy_length {α : Type} (l : List α) (i j m : Nat) (h1 : i + m ≤ l.length) (h2 : j + m ≤ l.length) : (cpy l i j m).length = l.length := by simp [cpy]; omega
theorem flat1 {α : Type} {enc : α → List Value} (h1 : ∀ x, (enc x).length = 1) : ∀ (l : List α), (l.flatMap enc).length = l.length
  | [] => rfl
  | x :: l => by rw [List.flatMap_cons, List.length_append, h1, flat1 h1 l, List.length_cons]; omega
theorem one_of {α : Type} {enc : α → List Value} (h1 : ∀ x, (enc x).length = 1) (x : α) : ∃ y, enc x = [y] := List.length_eq_one_iff.1 (h1 x)
theorem flat_take {α : Type} {enc : α → List Value} (h1 : ∀ x, (enc x).length = 1) : ∀ (l : List α) (k : Nat), (l.take k).flatMap enc = (l.flatMap enc).take k
  | [], k => by simp
  | x :: l, 0 => by simp
  | x :: l, k + 1 => by
    obtain ⟨y, hy⟩ := one_of h1 x
    rw [List.take_succ_cons, List.flatMap_cons, List.flatMap_cons, flat_take h1 l k, hy]
    rfl
theorem flat_drop {α : Type} {enc : α → List Value} (h1 : ∀ x, (enc x).length = 1) : ∀ (l : List α) (k : Nat), (l.drop k).flatMap enc = (l.flatMap enc).drop k
  | [], k => by simp
  | x :: l, 0 => by simp
  | x :: l, k + 1 => by
    obtain ⟨y, hy⟩ := one_of h1 x
    rw [List.drop_succ_cons, List.flatMap_cons, flat_drop h1 l k, hy]
    rfl
theorem run_cpy {α : Type} {enc : α → List Value} {P : Program} {w : World} (dT sT ty : TypeId) (elem : TypeId) (hu : P.underlying dT = some (.slice elem)) (hsz : (P.info? elem).map (·.size) = some 1)
    (h1 : ∀ x, (enc x).length = 1) (hc : ∀ x, ∀ u ∈ enc x, u.oneCell' = true) {base : Nat} {A : Option Addr} {n cap : Nat} {l : List α} (hown : Ow enc 1 w base elem (.slice A n cap) l)
    (dp sp : Option Addr) (dLen dCap sLen sCap : Nat) (i j : Nat) (hdl : dLen = n - i) (hsl : sLen = n - j) (hi : i ≤ n) (hj : j ≤ n)
    (hdp : 0 < dLen → dp = A.map (·.add i)) (hsp : 0 < sLen → sp = A.map (·.add j)) :
    ∃ w', (Builtin.copy_ #[dT, sT] ty #[.slice dp dLen dCap, .slice sp sLen sCap]).run P w = .ok (goInt (min (n - j) (n - i) : Nat)) w' ∧ Ow enc 1 w' base elem (.slice A n cap) (cpy l i j (min (n - j) (n - i))) ∧ Only (ownB (.slice A n cap)) w w' := by
  have hln : n = l.length := by obtain ⟨A', c', e, _⟩ := hown.form; injection e
  by_cases hm : min (n - j) (n - i) = 0
  · have hrun := run_copy_none (P := P) w dT sT ty elem dp sp dLen dCap sLen sCap hu hsz (by rw [hdl, hsl]; exact hm)
    exact ⟨w, by rw [hm]; exact hrun, by rw [hm]; simpa [cpy] using hown, Only.refl _ _⟩
  · have hlen := hown.1
    rcases hown.2 with ⟨e, rfl⟩ | ⟨g, off, cap', cur, e, hb, hh, hl, hx, hfit, hcur⟩
    · simp at hln
      omega
    · injection e with e1 e2 e3
      subst e1 e3
      have hd' := hdp (by omega)
      have hs' := hsp (by omega)
      simp only [Option.map_some, Addr.add_lit] at hd' hs'
      subst hd' hs'
      generalize hmm : min (n - j) (n - i) = m at *
      have hf : (l.flatMap enc).length = l.length := flat1 h1 l
      have hcs : (((l.drop j).take m).flatMap enc).length = m := by rw [flat1 h1]; simp; omega
      have hat : ∀ k, k < n → cur[off + k]? = (l.flatMap enc)[k]? := fun k hk => hcur k (by omega)
      have hcl : cur.toList.length = cur.size := by simp
      have ha : ((l.flatMap enc).take i).length = i := by rw [List.length_take, hf]; omega
      have hb' : (cur.toList.take (off + i)).length = off + i := by rw [List.length_take, hcl]; omega
      have hrun := run_copy_row (P := P) w dT sT ty elem g (off + i) dLen dCap ⟨g, off + j, none⟩ sLen sCap cur elem (((l.drop j).take m).flatMap enc) hu hsz hh (by rw [hcs, hdl, hsl]; exact hmm.symm) (by
        intro k u hk
        rw [Addr.add_lit]
        have hk2 := (List.getElem?_eq_some_iff.1 hk).1
        rw [flat_take h1, flat_drop h1] at hk
        rw [List.getElem?_take_of_lt (by omega), List.getElem?_drop] at hk
        have := hh.cell (off + j + k)
        rw [this, Nat.add_assoc, hat _ (by omega)]
        exact hk) (by rw [hcs]; omega) (by
        intro u hu
        obtain ⟨x, _, hx⟩ := List.mem_flatMap.1 hu
        exact hc x u hx)
      rw [hcs, List.append_assoc] at hrun
      · have _t : True := trivial
        have hB : Blk (w.setRow g (cur.toList.take (off + i) ++ (((l.drop j).take m).flatMap enc ++ cur.toList.drop (off + i + m))).toArray) g elem (cur.toList.take (off + i) ++ (((l.drop j).take m).flatMap enc ++ cur.toList.drop (off + i + m))).toArray := setRow_heap w g cur _ elem _ hh
        refine ⟨_, hrun, ⟨?_, .inr ⟨g, off, cap, _, (by rw [cpy_length l i j m (by omega) (by omega), hln]), hb, hB, (by rw [cpy_length l i j m (by omega) (by omega)]; omega), hx, ?_, ?_⟩⟩, ?_⟩
        · rw [flat1 h1]; simp
        · simp [hcs]
          omega
        · intro k hk
          rw [cpy_length l i j m (by omega) (by omega)] at hk
          have e2 : (cpy l i j m).flatMap enc = (l.flatMap enc).take i ++ (((l.drop j).take m).flatMap enc ++ (l.flatMap enc).drop (i + m)) := by
            unfold cpy
            rw [List.flatMap_append, List.flatMap_append, flat_take h1, flat_drop h1]
          rw [e2, List.getElem?_toArray]
          by_cases k1 : k < i
          · rw [List.getElem?_append_left (by rw [hb']; omega), List.getElem?_append_left (by rw [ha]; omega), List.getElem?_take_of_lt (by omega), List.getElem?_take_of_lt (by omega), Array.getElem?_toList]
            exact hat k (by omega)
          · by_cases k2 : k < i + m
            · have L1 : (cur.toList.take (off + i) ++ (((l.drop j).take m).flatMap enc ++ cur.toList.drop (off + i + m)))[off + k]? = (((l.drop j).take m).flatMap enc)[off + k - (off + i)]? := by
                rw [List.getElem?_append_right (by rw [hb']; omega), hb', List.getElem?_append_left (by rw [hcs]; omega)]
              have R1 : ((l.flatMap enc).take i ++ (((l.drop j).take m).flatMap enc ++ (l.flatMap enc).drop (i + m)))[k]? = (((l.drop j).take m).flatMap enc)[k - i]? := by
                rw [List.getElem?_append_right (by rw [ha]; omega), ha, List.getElem?_append_left (by rw [hcs]; omega)]
              rw [L1, R1, show off + k - (off + i) = k - i by omega]
            · have L1 : (cur.toList.take (off + i) ++ (((l.drop j).take m).flatMap enc ++ cur.toList.drop (off + i + m)))[off + k]? = (cur.toList.drop (off + i + m))[off + k - (off + i) - m]? := by
                rw [List.getElem?_append_right (by rw [hb']; omega), hb', List.getElem?_append_right (by rw [hcs]; omega), hcs]
              have R1 : ((l.flatMap enc).take i ++ (((l.drop j).take m).flatMap enc ++ (l.flatMap enc).drop (i + m)))[k]? = ((l.flatMap enc).drop (i + m))[k - i - m]? := by
                rw [List.getElem?_append_right (by rw [ha]; omega), ha, List.getElem?_append_right (by rw [hcs]; omega), hcs]
              rw [L1, R1, List.getElem?_drop, List.getElem?_drop, Array.getElem?_toList, show off + i + m + (off + k - (off + i) - m) = off + k by omega, show i + m + (k - i - m) = k by omega]
              exact hat k (by omega)
        · refine ⟨rfl, rfl, rfl, by simp [World.setRow], fun k _ hk => setRow_other w g k _ (fun e => hk ?_)⟩
          subst e
          rfl
section
variable {α : Type} {enc : α → List Value} {P : Program} {w : World} {ops : Array Oper} {rest : List Oper} {o : Oper} {a : Act} {K : Act → World → Prop} {Q : Exit → Act → World → Prop} {E : Prop}
theorem wp_cpy (d s : Operand) (dT sT : TypeId)
    (ho : o.op = .call { callee := .builtin .copy, args := #[d, s], argTypes := #[dT, sT] }) (elem : TypeId) (hu : P.underlying dT = some (.slice elem)) (hsz : (P.info? elem).map (·.size) = some 1)
    (h1 : ∀ x, (enc x).length = 1) (hc : ∀ x, ∀ u ∈ enc x, u.oneCell' = true) {base : Nat} {A : Option Addr} {n cap : Nat} {l : List α} (hown : Ow enc 1 w base elem (.slice A n cap) l)
    (dp sp : Option Addr) (dLen dCap sLen sCap : Nat) (hd : a.eval d = .slice dp dLen dCap) (hs : a.eval s = .slice sp sLen sCap) (i j : Nat) (hdl : dLen = n - i) (hsl : sLen = n - j) (hi : i ≤ n) (hj : j ≤ n)
    (hdp : 0 < dLen → dp = A.map (·.add i)) (hsp : 0 < sLen → sp = A.map (·.add j))
    (h : ∀ w', Hid (Ow enc 1 w' base elem (.slice A n cap) (cpy l i j (min (n - j) (n - i)))) → Hid (Only (ownB (.slice A n cap)) w w') → K (a.put o.dst (goInt (min (n - j) (n - i) : Nat))) w') : o.wp P a w K Q := by
  obtain ⟨w', hr, h2, h3⟩ := run_cpy (P := P) (w := w) dT sT o.type elem hu hsz h1 hc hown dp sp dLen dCap sLen sCap i j hdl hsl hi hj hdp hsp
  unfold Oper.wp execOp
  simp only [ho, resolve, invoke, builtin, Sem.run_bind, Sem.run_pure, Result.andThen_ok, List.map_toArray, List.map_cons, List.map_nil, hd, hs, hr]
  exact h w' (Lib.hid h2) (Lib.hid h3)
theorem wpList_cpy (hgd : o.guard = none) (d s : Operand) (dT sT : TypeId)
    (ho : o.op = .call { callee := .builtin .copy, args := #[d, s], argTypes := #[dT, sT] }) (elem : TypeId) (hu : P.underlying dT = some (.slice elem)) (hsz : (P.info? elem).map (·.size) = some 1)
    (h1 : ∀ x, (enc x).length = 1) (hc : ∀ x, ∀ u ∈ enc x, u.oneCell' = true) {base : Nat} {A : Option Addr} {n cap : Nat} {l : List α} (hown : Ow enc 1 w base elem (.slice A n cap) l)
    (dp sp : Option Addr) (dLen dCap sLen sCap : Nat) (hd : a.eval d = .slice dp dLen dCap) (hs : a.eval s = .slice sp sLen sCap) (i j : Nat) (hdl : dLen = n - i) (hsl : sLen = n - j) (hi : i ≤ n) (hj : j ≤ n)
    (hdp : 0 < dLen → dp = A.map (·.add i)) (hsp : 0 < sLen → sp = A.map (·.add j))
    (h : ∀ w', Hid (Ow enc 1 w' base elem (.slice A n cap) (cpy l i j (min (n - j) (n - i)))) → Hid (Only (ownB (.slice A n cap)) w w') → wpList P ops Q rest (a.put o.dst (goInt (min (n - j) (n - i) : Nat))) w') : wpList P ops Q (o :: rest) a w :=
  wpList_plain hgd fun _ hK => wp_cpy d s dT sT ho elem hu hsz h1 hc hown dp sp dLen dCap sLen sCap hd hs i j hdl hsl hi hj hdp hsp fun w' h2 h3 => hK _ _ (h w' h2 h3)
/-- the same at a step of a region that draws its order -/
theorem step_cpy (hgd : o.guard = none) (d s : Operand) (dT sT : TypeId)
    (ho : o.op = .call { callee := .builtin .copy, args := #[d, s], argTypes := #[dT, sT] }) (elem : TypeId) (hu : P.underlying dT = some (.slice elem)) (hsz : (P.info? elem).map (·.size) = some 1)
    (h1 : ∀ x, (enc x).length = 1) (hc : ∀ x, ∀ u ∈ enc x, u.oneCell' = true) {base : Nat} {A : Option Addr} {n cap : Nat} {l : List α} (hown : Ow enc 1 w base elem (.slice A n cap) l)
    (dp sp : Option Addr) (dLen dCap sLen sCap : Nat) (hd : a.eval d = .slice dp dLen dCap) (hs : a.eval s = .slice sp sLen sCap) (i j : Nat) (hdl : dLen = n - i) (hsl : sLen = n - j) (hi : i ≤ n) (hj : j ≤ n)
    (hdp : 0 < dLen → dp = A.map (·.add i)) (hsp : 0 < sLen → sp = A.map (·.add j))
    (h : ∀ w', Hid (Ow enc 1 w' base elem (.slice A n cap) (cpy l i j (min (n - j) (n - i)))) → Hid (Only (ownB (.slice A n cap)) w w') → K (a.put o.dst (goInt (min (n - j) (n - i) : Nat))) w') :
    if Region.wanted o (yielded ops a.tmps) = true then Oper.wp P o a w K Q else E := by
  have hw : Region.wanted o (yielded ops a.tmps) = true := by simp [Region.wanted, hgd]
  rw [if_pos hw]
  exact wp_cpy d s dT sT ho elem hu hsz h1 hc hown dp sp dLen dCap sLen sCap hd hs i j hdl hsl hi hj hdp hsp h
end
/-- one element of an owned slice: it lies there, it may be written, and written it is another list -/
theorem Ow.frz {α : Type} {enc : α → List Value} {w : World} {base : Nat} {e : TypeId} {g o n cap : Nat} {l : List α} (h : Ow enc 1 w base e (.slice (some ⟨g, o, none⟩) n cap) l) (i : Nat) : w.frozen? ⟨g, o + i, none⟩ = false := by
  rcases h.2 with ⟨e1, _⟩ | ⟨g', off, cap', cur, e1, hb, hh, _⟩
  · injection e1 with e1
    cases e1
  · injection e1 with e1
    injection e1 with e1
    injection e1 with e1 e2
    subst e1 e2
    exact hh.frozen (o + i)
theorem Ow.put1 {α : Type} {enc : α → List Value} {w : World} {base : Nat} {e : TypeId} {g o n cap : Nat} {l : List α} (h1 : ∀ x, (enc x).length = 1) (h : Ow enc 1 w base e (.slice (some ⟨g, o, none⟩) n cap) l) (i : Nat) (hi : i < l.length) (y : α) (u : Value) (hy : enc y = [u]) :
    Ow enc 1 (w.setCell ⟨g, o + i, none⟩ u) base e (.slice (some ⟨g, o, none⟩) n cap) (l.set i y) := by
  rcases h.2 with ⟨e1, _⟩ | ⟨g', off, cap', cur, e1, hb, hh, hl, hm, hf, hc⟩
  · injection e1 with e1
    cases e1
  · injection e1 with e1 e3 e4
    injection e1 with e1
    injection e1 with e1 e2
    subst e1 e2 e4
    have hB := hh.set (o + i) u
    refine ⟨by rw [flat1 h1]; simp, .inr ⟨g, o, cap, _, by rw [e3, List.length_set], hb, hB, by rw [List.length_set]; exact hl, hm, by rw [Array.size_setIfInBounds]; exact hf, fun j hj => ?_⟩⟩
    rw [List.length_set, Nat.mul_one] at hj
    have at1 : ∀ (L : List α) (k : Nat) (hk : k < L.length), (L.flatMap enc)[k]? = (enc L[k])[0]? := fun L k hk => by
      have := flat_at (enc := enc) (sz := 1) (fun x _ => h1 x) (List.getElem?_eq_getElem hk) (j := 0) (by decide)
      simpa using this
    by_cases hji : j = i
    · subst hji
      rw [Array.getElem?_setIfInBounds_self_of_lt (by omega), at1 _ _ (by rw [List.length_set]; omega), List.getElem_set_self, hy]
      rfl
    · rw [Array.getElem?_setIfInBounds_ne (by omega), hc j (by omega), at1 _ _ (by omega), at1 _ _ (by rw [List.length_set]; omega), List.getElem_set_ne (Ne.symm hji)]
end Go.Proofs.YtjhjfgelcbphjaaDoor
