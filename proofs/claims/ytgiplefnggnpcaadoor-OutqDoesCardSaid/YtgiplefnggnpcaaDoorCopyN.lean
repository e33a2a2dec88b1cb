/- copy inside a slice that the call has made, and one cell of an element written (elements of several cells). No condition. -/
import Derived.Test.YtgiplefnggnpcaaDoorCopy
namespace Go.Proofs.YtgiplefnggnpcaaDoor
open Go.RowKit

section
variable {α : Type} {enc : α → List Value} {sz : Nat}
theorem flat_lenN (h1 : ∀ x, (enc x).length = sz) (l : List α) : (l.flatMap enc).length = l.length * sz := flat_len fun x _ => h1 x
theorem flat_takeN (h1 : ∀ x, (enc x).length = sz) : ∀ (l : List α) (k : Nat), (l.take k).flatMap enc = (l.flatMap enc).take (k * sz)
  | [], k => by simp
  | x :: l, 0 => by simp
  | x :: l, k + 1 => by
    rw [List.take_succ_cons, List.flatMap_cons, List.flatMap_cons, flat_takeN h1 l k, List.take_append, h1, Nat.add_mul, Nat.one_mul, List.take_of_length_le (l := enc x) (by rw [h1]; omega), Nat.add_sub_cancel]
theorem flat_dropN (h1 : ∀ x, (enc x).length = sz) : ∀ (l : List α) (k : Nat), (l.drop k).flatMap enc = (l.flatMap enc).drop (k * sz)
  | [], k => by simp
  | x :: l, 0 => by simp
  | x :: l, k + 1 => by
    rw [List.drop_succ_cons, List.flatMap_cons, flat_dropN h1 l k, List.drop_append, h1, Nat.add_mul, Nat.one_mul, List.drop_of_length_le (l := enc x) (by rw [h1]; omega), Nat.add_sub_cancel, List.nil_append]
end
theorem run_copy_noneN {P : Program} (w : World) (dT sT ty elem : TypeId) (d a : Option Addr) (dLen dCap sLen sCap sz : Nat) (hu : P.underlying dT = some (.slice elem)) (hs : (P.info? elem).map (·.size) = some sz) (hn : Nat.min sLen dLen = 0) :
    (Builtin.copy_ #[dT, sT] ty #[.slice d dLen dCap, .slice a sLen sCap]).run P w = .ok (goInt 0) w := by
  cases hq : P.info? elem with
  | none => simp [hq] at hs
  | some i =>
    have hl : ∀ (x : Addr), (loadCells x 0).run P w = .ok #[] w := fun x => by simpa using run_loadCells_list (P := P) w x [] (by simp)
    cases d <;> cases a <;> simp [Builtin.copy_, run_underlying hu, Builtin.lenOf, Builtin.firstCells, sizeOf, typeInfo, hq, hn, storeCells, hl]
theorem run_copy_rowN {P : Program} (w : World) (dT sT ty elem : TypeId) (g o dLen dCap : Nat) (a : Addr) (sLen sCap : Nat) (cur : Array Value) (t : TypeId) (cs : List Value) (sz m : Nat)
    (hu : P.underlying dT = some (.slice elem)) (hs : (P.info? elem).map (·.size) = some sz)
    (hg : w.heap[g]? = some (.cells cur t (0, 0))) (hm : m = Nat.min sLen dLen) (hn : cs.length = m * sz)
    (hsrc : ∀ j v, cs[j]? = some v → w.cell? (a.add j) = some v) (hfit : o + cs.length ≤ cur.size) (h1 : ∀ v ∈ cs, v.oneCell' = true) :
    (Builtin.copy_ #[dT, sT] ty #[.slice (some ⟨g, o, none⟩) dLen dCap, .slice (some a) sLen sCap]).run P w =
      .ok (goInt m) (w.setRow g (cur.toList.take o ++ cs ++ cur.toList.drop (o + cs.length)).toArray) := by
  have hl := run_loadCells_list (P := P) w a cs hsrc
  have hst := run_storeCells_at P g o t cs 0 cur w hg (by simpa using hfit) h1
  rw [hn] at hl
  cases hq : P.info? elem with
  | none => simp [hq] at hs
  | some i =>
    have hi : i.size = sz := by simpa [hq] using hs
    simp [Builtin.copy_, run_underlying hu, Builtin.lenOf, Builtin.firstCells, sizeOf, typeInfo, hq, hi, ← hm, hl, hst]
theorem run_cpyN {α : Type} {enc : α → List Value} {sz : Nat} {P : Program} {w : World} (dT sT ty : TypeId) (elem : TypeId) (hu : P.underlying dT = some (.slice elem)) (hsz : (P.info? elem).map (·.size) = some sz)
    (h1 : ∀ x, (enc x).length = sz) (hc : ∀ x, ∀ u ∈ enc x, u.oneCell' = true) {base : Nat} {A : Option Addr} {n cap : Nat} {l : List α} (hown : Ow enc sz w base elem (.slice A n cap) l)
    (dp sp : Option Addr) (dLen dCap sLen sCap : Nat) (i j : Nat) (hdl : dLen = n - i) (hsl : sLen = n - j) (hi : i ≤ n) (hj : j ≤ n)
    (hdp : 0 < dLen → dp = A.map (·.add (i * sz))) (hsp : 0 < sLen → sp = A.map (·.add (j * sz))) :
    ∃ w', (Builtin.copy_ #[dT, sT] ty #[.slice dp dLen dCap, .slice sp sLen sCap]).run P w = .ok (goInt (min (n - j) (n - i) : Nat)) w' ∧ Ow enc sz w' base elem (.slice A n cap) (cpy l i j (min (n - j) (n - i))) ∧ Only (ownB (.slice A n cap)) w w' := by
  have hln : n = l.length := by obtain ⟨A', c', e, _⟩ := hown.form; injection e
  by_cases hm : min (n - j) (n - i) = 0
  · have hrun := run_copy_noneN (P := P) w dT sT ty elem dp sp dLen dCap sLen sCap sz hu hsz (by rw [hdl, hsl]; exact hm)
    exact ⟨w, by rw [hm]; exact hrun, by rw [hm]; simpa [cpy] using hown, Only.refl _ _⟩
  · have hlen := hown.1
    rcases hown.2 with ⟨e, rfl⟩ | ⟨g, off, cap', cur, e, hb, hh, hl, hx, hfit, hcur⟩
    · simp at hln
      omega
    · injection e with e1 e2 e3
      subst e1 e3
      have hd' := hdp (by omega)
      have hs' := hsp (by omega)
      simp only [Option.map_some, Addr.add_lit] at hd' hs'
      subst hd' hs'
      generalize hmm : min (n - j) (n - i) = m at *
      have hcs : (((l.drop j).take m).flatMap enc).length = m * sz := by rw [flat_lenN h1]; congr 1; simp; omega
      have hf : (l.flatMap enc).length = l.length * sz := flat_lenN h1 l
      have q1 : (i + m) * sz ≤ l.length * sz := Nat.mul_le_mul_right _ (by omega)
      have q2 : (j + m) * sz ≤ l.length * sz := Nat.mul_le_mul_right _ (by omega)
      have q3 : l.length * sz ≤ cap * sz := Nat.mul_le_mul_right _ hl
      rw [Nat.add_mul] at q1 q2
      have e2 : (cpy l i j m).flatMap enc = (l.flatMap enc).take (i * sz) ++ (((l.drop j).take m).flatMap enc ++ (l.flatMap enc).drop (i * sz + m * sz)) := by
        unfold cpy
        rw [List.flatMap_append, List.flatMap_append, flat_takeN h1, flat_dropN h1 l (i + m), Nat.add_mul]
      have hcpl : (cpy l i j m).length = l.length := cpy_length l i j m (by omega) (by omega)
      have hcf : ((cpy l i j m).flatMap enc).length = (cpy l i j m).length * sz := flat_lenN h1 _
      have hsf : ∀ k u, (((l.drop j).take m).flatMap enc)[k]? = some u → k < m * sz ∧ (l.flatMap enc)[j * sz + k]? = some u := by
        intro k u hk
        have hk2 := (List.getElem?_eq_some_iff.1 hk).1
        rw [hcs] at hk2
        rw [flat_takeN h1, flat_dropN h1, List.getElem?_take_of_lt hk2, List.getElem?_drop] at hk
        exact ⟨hk2, hk⟩
      generalize ((l.drop j).take m).flatMap enc = CS at *
      generalize cpy l i j m = CP at *
      generalize hI : i * sz = I at *
      generalize hJ : j * sz = J at *
      generalize hM : m * sz = M at *
      generalize hN : l.length * sz = N at *
      generalize hC : cap * sz = C at *
      have hat : ∀ k, k < N → cur[off + k]? = (l.flatMap enc)[k]? := fun k hk => hcur k hk
      have hone : ∀ u ∈ CS, u.oneCell' = true := fun u hu => by
        obtain ⟨k, hk⟩ := List.mem_iff_getElem?.1 hu
        have := List.mem_of_getElem? (hsf k u hk).2
        obtain ⟨x, _, hx⟩ := List.mem_flatMap.1 this
        exact hc x u hx
      generalize l.flatMap enc = F at *
      have hcl : cur.toList.length = cur.size := by simp
      have ha : (F.take I).length = I := by rw [List.length_take, hf]; omega
      have hb' : (cur.toList.take (off + I)).length = off + I := by rw [List.length_take, hcl]; omega
      have hrun := run_copy_rowN (P := P) w dT sT ty elem g (off + I) dLen dCap ⟨g, off + J, none⟩ sLen sCap cur elem CS sz m hu hsz hh (by rw [hdl, hsl]; exact hmm.symm) (by rw [hcs, hM]) (by
        intro k u hk
        obtain ⟨hk2, hk3⟩ := hsf k u hk
        rw [Addr.add_lit]
        have := hh.cell (off + J + k)
        rw [this, Nat.add_assoc, hat _ (by omega)]
        exact hk3) (by rw [hcs]; omega) hone
      rw [hcs, List.append_assoc] at hrun
      have hB : Blk (w.setRow g (cur.toList.take (off + I) ++ (CS ++ cur.toList.drop (off + I + M))).toArray) g elem (cur.toList.take (off + I) ++ (CS ++ cur.toList.drop (off + I + M))).toArray := setRow_heap w g cur _ elem _ hh
      refine ⟨_, hrun, ⟨by rw [hcf], .inr ⟨g, off, cap, _, (by rw [hcpl, hln]), hb, hB, (by rw [hcpl]; exact hl), hx, ?_, ?_⟩⟩, ?_⟩
      · simp [hcs]
        omega
      · intro k hk
        rw [hcpl, hN] at hk
        rw [e2, List.getElem?_toArray]
        by_cases k1 : k < I
        · rw [List.getElem?_append_left (by rw [hb']; omega), List.getElem?_append_left (by rw [ha]; omega), List.getElem?_take_of_lt (by omega), List.getElem?_take_of_lt (by omega), Array.getElem?_toList]
          exact hat k (by omega)
        · by_cases k2 : k < I + M
          · have L1 : (cur.toList.take (off + I) ++ (CS ++ cur.toList.drop (off + I + M)))[off + k]? = CS[off + k - (off + I)]? := by
              rw [List.getElem?_append_right (by rw [hb']; omega), hb', List.getElem?_append_left (by rw [hcs]; omega)]
            have R1 : (F.take I ++ (CS ++ F.drop (I + M)))[k]? = CS[k - I]? := by
              rw [List.getElem?_append_right (by rw [ha]; omega), ha, List.getElem?_append_left (by rw [hcs]; omega)]
            rw [L1, R1, show off + k - (off + I) = k - I by omega]
          · have L1 : (cur.toList.take (off + I) ++ (CS ++ cur.toList.drop (off + I + M)))[off + k]? = (cur.toList.drop (off + I + M))[off + k - (off + I) - M]? := by
              rw [List.getElem?_append_right (by rw [hb']; omega), hb', List.getElem?_append_right (by rw [hcs]; omega), hcs]
            have R1 : (F.take I ++ (CS ++ F.drop (I + M)))[k]? = (F.drop (I + M))[k - I - M]? := by
              rw [List.getElem?_append_right (by rw [ha]; omega), ha, List.getElem?_append_right (by rw [hcs]; omega), hcs]
            rw [L1, R1, List.getElem?_drop, List.getElem?_drop, Array.getElem?_toList, show off + I + M + (off + k - (off + I) - M) = off + k by omega, show I + M + (k - I - M) = k by omega]
            exact hat k (by omega)
      · refine ⟨rfl, rfl, rfl, by simp [World.setRow], fun k _ hk => setRow_other w g k _ (fun e => hk ?_)⟩
        subst e
        rfl
section
variable {α : Type} {enc : α → List Value} {sz : Nat} {P : Program} {w : World} {ops : Array Oper} {rest : List Oper} {o : Oper} {a : Act} {K : Act → World → Prop} {Q : Exit → Act → World → Prop} {E : Prop}
theorem wp_cpyN (d s : Operand) (dT sT : TypeId)
    (ho : o.op = .call { callee := .builtin .copy, args := #[d, s], argTypes := #[dT, sT] }) (elem : TypeId) (hu : P.underlying dT = some (.slice elem)) (hsz : (P.info? elem).map (·.size) = some sz)
    (h1 : ∀ x, (enc x).length = sz) (hc : ∀ x, ∀ u ∈ enc x, u.oneCell' = true) {base : Nat} {A : Option Addr} {n cap : Nat} {l : List α} (hown : Ow enc sz w base elem (.slice A n cap) l)
    (dp sp : Option Addr) (dLen dCap sLen sCap : Nat) (hd : a.eval d = .slice dp dLen dCap) (hs : a.eval s = .slice sp sLen sCap) (i j : Nat) (hdl : dLen = n - i) (hsl : sLen = n - j) (hi : i ≤ n) (hj : j ≤ n)
    (hdp : 0 < dLen → dp = A.map (·.add (i * sz))) (hsp : 0 < sLen → sp = A.map (·.add (j * sz)))
    (h : ∀ w', Hid (Ow enc sz w' base elem (.slice A n cap) (cpy l i j (min (n - j) (n - i)))) → Hid (Only (ownB (.slice A n cap)) w w') → K (a.put o.dst (goInt (min (n - j) (n - i) : Nat))) w') : o.wp P a w K Q := by
  obtain ⟨w', hr, h2, h3⟩ := run_cpyN (P := P) (w := w) dT sT o.type elem hu hsz h1 hc hown dp sp dLen dCap sLen sCap i j hdl hsl hi hj hdp hsp
  unfold Oper.wp execOp
  simp only [ho, resolve, invoke, builtin, Sem.run_bind, Sem.run_pure, Result.andThen_ok, List.map_toArray, List.map_cons, List.map_nil, hd, hs, hr]
  exact h w' (Lib.hid h2) (Lib.hid h3)
theorem wpList_cpyN (hgd : o.guard = none) (d s : Operand) (dT sT : TypeId)
    (ho : o.op = .call { callee := .builtin .copy, args := #[d, s], argTypes := #[dT, sT] }) (elem : TypeId) (hu : P.underlying dT = some (.slice elem)) (hsz : (P.info? elem).map (·.size) = some sz)
    (h1 : ∀ x, (enc x).length = sz) (hc : ∀ x, ∀ u ∈ enc x, u.oneCell' = true) {base : Nat} {A : Option Addr} {n cap : Nat} {l : List α} (hown : Ow enc sz w base elem (.slice A n cap) l)
    (dp sp : Option Addr) (dLen dCap sLen sCap : Nat) (hd : a.eval d = .slice dp dLen dCap) (hs : a.eval s = .slice sp sLen sCap) (i j : Nat) (hdl : dLen = n - i) (hsl : sLen = n - j) (hi : i ≤ n) (hj : j ≤ n)
    (hdp : 0 < dLen → dp = A.map (·.add (i * sz))) (hsp : 0 < sLen → sp = A.map (·.add (j * sz)))
    (h : ∀ w', Hid (Ow enc sz w' base elem (.slice A n cap) (cpy l i j (min (n - j) (n - i)))) → Hid (Only (ownB (.slice A n cap)) w w') → wpList P ops Q rest (a.put o.dst (goInt (min (n - j) (n - i) : Nat))) w') : wpList P ops Q (o :: rest) a w :=
  wpList_plain hgd fun _ hK => wp_cpyN d s dT sT ho elem hu hsz h1 hc hown dp sp dLen dCap sLen sCap hd hs i j hdl hsl hi hj hdp hsp fun w' h2 h3 => hK _ _ (h w' h2 h3)
theorem step_cpyN (hgd : o.guard = none) (d s : Operand) (dT sT : TypeId)
    (ho : o.op = .call { callee := .builtin .copy, args := #[d, s], argTypes := #[dT, sT] }) (elem : TypeId) (hu : P.underlying dT = some (.slice elem)) (hsz : (P.info? elem).map (·.size) = some sz)
    (h1 : ∀ x, (enc x).length = sz) (hc : ∀ x, ∀ u ∈ enc x, u.oneCell' = true) {base : Nat} {A : Option Addr} {n cap : Nat} {l : List α} (hown : Ow enc sz w base elem (.slice A n cap) l)
    (dp sp : Option Addr) (dLen dCap sLen sCap : Nat) (hd : a.eval d = .slice dp dLen dCap) (hs : a.eval s = .slice sp sLen sCap) (i j : Nat) (hdl : dLen = n - i) (hsl : sLen = n - j) (hi : i ≤ n) (hj : j ≤ n)
    (hdp : 0 < dLen → dp = A.map (·.add (i * sz))) (hsp : 0 < sLen → sp = A.map (·.add (j * sz)))
    (h : ∀ w', Hid (Ow enc sz w' base elem (.slice A n cap) (cpy l i j (min (n - j) (n - i)))) → Hid (Only (ownB (.slice A n cap)) w w') → K (a.put o.dst (goInt (min (n - j) (n - i) : Nat))) w') :
    if Region.wanted o (yielded ops a.tmps) = true then Oper.wp P o a w K Q else E := by
  have hw : Region.wanted o (yielded ops a.tmps) = true := by simp [Region.wanted, hgd]
  rw [if_pos hw]
  exact wp_cpyN d s dT sT ho elem hu hsz h1 hc hown dp sp dLen dCap sLen sCap hd hs i j hdl hsl hi hj hdp hsp h
end
section
variable {α : Type} {enc : α → List Value} {sz : Nat}
/-- a cell of an owned slice: it may be written -/
theorem Ow.frzN {w : World} {base : Nat} {e : TypeId} {g o n cap : Nat} {l : List α} (h : Ow enc sz w base e (.slice (some ⟨g, o, none⟩) n cap) l) (i : Nat) : w.frozen? ⟨g, i, none⟩ = false := by
  rcases h.2 with ⟨e1, _⟩ | ⟨g', off, cap', cur, e1, hb, hh, _⟩
  · injection e1 with e1
    cases e1
  · injection e1 with e1
    injection e1 with e1
    injection e1 with e1 e2
    subst e1 e2
    exact hh.frozen i
/-- one cell of an element is written -/
theorem Ow.putC {w : World} {base : Nat} {e : TypeId} {g o n cap : Nat} {l : List α} (h1 : ∀ x, (enc x).length = sz) (h : Ow enc sz w base e (.slice (some ⟨g, o, none⟩) n cap) l) (i j : Nat) {x : α} (hx : l[i]? = some x) (hj : j < sz) (y : α) (u : Value) (hy : enc y = (enc x).set j u) :
    Ow enc sz (w.setCell ⟨g, o + i * sz + j, none⟩ u) base e (.slice (some ⟨g, o, none⟩) n cap) (l.set i y) := by
  have hi := (List.getElem?_eq_some_iff.1 hx).1
  rcases h.2 with ⟨e1, _⟩ | ⟨g', off, cap', cur, e1, hb, hh, hl, hm, hf, hc⟩
  · injection e1 with e1
    cases e1
  · injection e1 with e1 e3 e4
    injection e1 with e1
    injection e1 with e1 e2
    subst e1 e2 e4
    have hB := hh.set (o + i * sz + j) u
    have q1 : (i + 1) * sz ≤ l.length * sz := Nat.mul_le_mul_right _ hi
    have q3 : l.length * sz ≤ cap * sz := Nat.mul_le_mul_right _ hl
    rw [Nat.add_mul, Nat.one_mul] at q1
    refine ⟨flat_lenN h1 _, .inr ⟨g, o, cap, _, by rw [e3, List.length_set], hb, hB, by rw [List.length_set]; exact hl, hm, by rw [Array.size_setIfInBounds]; exact hf, fun k hk => ?_⟩⟩
    rw [List.length_set] at hk
    have hpos : 0 < sz := by omega
    have hq : k / sz < l.length := Nat.div_lt_of_lt_mul (by rw [Nat.mul_comm]; exact hk)
    have hr : k % sz < sz := Nat.mod_lt _ hpos
    have hdm : k / sz * sz + k % sz = k := by rw [Nat.mul_comm]; exact Nat.div_add_mod k sz
    have a1 := flat_at (enc := enc) (sz := sz) (fun x _ => h1 x) (List.getElem?_eq_getElem hq) hr
    have a2 := flat_at (enc := enc) (sz := sz) (l := l.set i y) (fun x _ => h1 x) (List.getElem?_eq_getElem (i := k / sz) (by rw [List.length_set]; exact hq)) hr
    rw [hdm] at a1 a2
    rw [a2]
    by_cases hki : k / sz = i
    · rw [hki] at hdm
      have hxi : l[k / sz] = x := by
        have h5 : l[k / sz]? = some x := by rw [hki]; exact hx
        rw [List.getElem?_eq_getElem hq] at h5
        injection h5
      simp only [hki, List.getElem_set_self]
      rw [hy]
      by_cases hkj : k % sz = j
      · have e5 : o + k = o + i * sz + j := by omega
        rw [e5, Array.getElem?_setIfInBounds_self_of_lt (by omega), hkj, List.getElem?_set_self (by rw [h1]; exact hj)]
      · rw [Array.getElem?_setIfInBounds_ne (by omega), hc k hk, a1, List.getElem?_set_ne (Ne.symm hkj), hxi]
    · have hne : o + i * sz + j ≠ o + k := by
        intro e5
        have e6 : i * sz + j = k := by omega
        apply hki
        rw [← e6, Nat.add_comm, Nat.add_mul_div_right _ _ hpos, Nat.div_eq_of_lt hj, Nat.zero_add]
      rw [Array.getElem?_setIfInBounds_ne hne, hc k hk, a1, List.getElem_set_ne (Ne.symm hki)]
end
end Go.Proofs.YtgiplefnggnpcaaDoor
