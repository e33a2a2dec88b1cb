/- copy from a string into a row of bytes that the call has made. No condition. -/
import Derived.Test.YtjhjfgelcbphjaaDoorCopy
import Derived.Test.YtjhjfgelcbphjaaDoorBytes
import Derived.Lib.BufferWrite
namespace Go.Proofs.YtjhjfgelcbphjaaDoor
open Go.RowKit

theorem run_cpyS' {P : Program} {w : World} (dT sT ty : TypeId) (elem : TypeId) (hu : P.underlying dT = some (.slice elem)) (hsz : (P.info? elem).map (·.size) = some 1)
    {base : Nat} {A : Option Addr} {n cap : Nat} {l : List UInt8} (hown : Ow encB 1 w base elem (.slice A n cap) l)
    (dp : Option Addr) (dLen dCap : Nat) (i : Nat) (S : ByteArray) (hdl : dLen ≤ n - i) (hi : i ≤ n) (hS : S.size ≤ dLen) (hdp : 0 < dLen → dp = A.map (·.add i)) :
    ∃ w', (Builtin.copy_ #[dT, sT] ty #[.slice dp dLen dCap, .string S]).run P w = .ok (goInt S.size) w' ∧ Ow encB 1 w' base elem (.slice A n cap) (l.take i ++ (S.data.toList ++ l.drop (i + S.size))) ∧ Only (ownB (.slice A n cap)) w w' := by
  have hln : n = l.length := by obtain ⟨A', c', e, _⟩ := hown.form; injection e
  have hSl : S.data.toList.length = S.size := by simp
  by_cases h0 : S.size = 0
  · have hrun := Lib.run_copy_empty_string (P := P) w dT sT ty elem dp dLen dCap S hu (by rw [hsz]; rfl) h0
    have hnil : S.data.toList = [] := List.eq_nil_of_length_eq_zero (by omega)
    exact ⟨w, by rw [h0]; exact hrun, by rw [hnil, h0, List.nil_append, Nat.add_zero, List.take_append_drop]; exact hown, Only.refl _ _⟩
  · rcases hown.2 with ⟨e, rfl⟩ | ⟨g, off, cap', cur, e, hb, hh, hl, hx, hfit, hcur⟩
    · simp at hln
      omega
    · injection e with e1 e2 e3
      subst e1 e3
      have hd' := hdp (by omega)
      simp only [Option.map_some, Addr.add_lit] at hd'
      subst hd'
      have hrun := Lib.run_copy_row_string (P := P) w dT sT ty elem g (off + i) dLen dCap S cur elem hu hsz hh hS (by omega)
      rw [show Lib.byteCells S.data.toList = S.data.toList.flatMap encB from (encB_flat _).symm, List.append_assoc] at hrun
      have h1 : ∀ x, (encB x).length = 1 := fun _ => rfl
      have hf : (l.flatMap encB).length = l.length := flat1 h1 l
      have hcs : (S.data.toList.flatMap encB).length = S.size := by rw [flat1 h1, hSl]
      have hat : ∀ k, k < n → cur[off + k]? = (l.flatMap encB)[k]? := fun k hk => hcur k (by omega)
      have ha : ((l.flatMap encB).take i).length = i := by rw [List.length_take, hf]; omega
      have hb' : (cur.toList.take (off + i)).length = off + i := by rw [List.length_take, Array.length_toList]; omega
      have hB : Blk (w.setRow g (cur.toList.take (off + i) ++ (S.data.toList.flatMap encB ++ cur.toList.drop (off + i + S.size))).toArray) g elem (cur.toList.take (off + i) ++ (S.data.toList.flatMap encB ++ cur.toList.drop (off + i + S.size))).toArray := setRow_heap w g cur _ elem _ hh
      have hll : (l.take i ++ (S.data.toList ++ l.drop (i + S.size))).length = l.length := by simp; omega
      refine ⟨_, hrun, ⟨?_, .inr ⟨g, off, cap, _, by rw [hll, hln], hb, hB, by omega, hx, ?_, ?_⟩⟩, ?_⟩
      · rw [flat1 h1]; simp
      · simp [hcs]
        omega
      · intro k hk
        rw [hll] at hk
        have e2 : (l.take i ++ (S.data.toList ++ l.drop (i + S.size))).flatMap encB = (l.flatMap encB).take i ++ (S.data.toList.flatMap encB ++ (l.flatMap encB).drop (i + S.size)) := by
          rw [List.flatMap_append, List.flatMap_append, flat_take h1, flat_drop h1]
        rw [e2, List.getElem?_toArray]
        by_cases k1 : k < i
        · rw [List.getElem?_append_left (by rw [hb']; omega), List.getElem?_append_left (by rw [ha]; omega), List.getElem?_take_of_lt (by omega), List.getElem?_take_of_lt (by omega), Array.getElem?_toList]
          exact hat k (by omega)
        · by_cases k2 : k < i + S.size
          · have L1 : (cur.toList.take (off + i) ++ (S.data.toList.flatMap encB ++ cur.toList.drop (off + i + S.size)))[off + k]? = (S.data.toList.flatMap encB)[off + k - (off + i)]? := by
              rw [List.getElem?_append_right (by rw [hb']; omega), hb', List.getElem?_append_left (by rw [hcs]; omega)]
            have R1 : ((l.flatMap encB).take i ++ (S.data.toList.flatMap encB ++ (l.flatMap encB).drop (i + S.size)))[k]? = (S.data.toList.flatMap encB)[k - i]? := by
              rw [List.getElem?_append_right (by rw [ha]; omega), ha, List.getElem?_append_left (by rw [hcs]; omega)]
            rw [L1, R1, show off + k - (off + i) = k - i by omega]
          · have L1 : (cur.toList.take (off + i) ++ (S.data.toList.flatMap encB ++ cur.toList.drop (off + i + S.size)))[off + k]? = (cur.toList.drop (off + i + S.size))[off + k - (off + i) - S.size]? := by
              rw [List.getElem?_append_right (by rw [hb']; omega), hb', List.getElem?_append_right (by rw [hcs]; omega), hcs]
            have R1 : ((l.flatMap encB).take i ++ (S.data.toList.flatMap encB ++ (l.flatMap encB).drop (i + S.size)))[k]? = ((l.flatMap encB).drop (i + S.size))[k - i - S.size]? := by
              rw [List.getElem?_append_right (by rw [ha]; omega), ha, List.getElem?_append_right (by rw [hcs]; omega), hcs]
            rw [L1, R1, List.getElem?_drop, List.getElem?_drop, Array.getElem?_toList, show off + i + S.size + (off + k - (off + i) - S.size) = off + k by omega, show i + S.size + (k - i - S.size) = k by omega]
            exact hat k (by omega)
      · refine ⟨rfl, rfl, rfl, by simp [World.setRow], fun k _ hk => setRow_other w g k _ (fun e => hk ?_)⟩
        subst e
        rfl
theorem run_cpyS {P : Program} {w : World} (dT sT ty : TypeId) (elem : TypeId) (hu : P.underlying dT = some (.slice elem)) (hsz : (P.info? elem).map (·.size) = some 1)
    {base : Nat} {A : Option Addr} {n cap : Nat} {l : List UInt8} (hown : Ow encB 1 w base elem (.slice A n cap) l)
    (dp : Option Addr) (dLen dCap : Nat) (i : Nat) (S : ByteArray) (hdl : dLen = n - i) (hi : i ≤ n) (hS : S.size ≤ dLen) (hdp : 0 < dLen → dp = A.map (·.add i)) :
    ∃ w', (Builtin.copy_ #[dT, sT] ty #[.slice dp dLen dCap, .string S]).run P w = .ok (goInt S.size) w' ∧ Ow encB 1 w' base elem (.slice A n cap) (l.take i ++ (S.data.toList ++ l.drop (i + S.size))) ∧ Only (ownB (.slice A n cap)) w w' :=
  run_cpyS' dT sT ty elem hu hsz hown dp dLen dCap i S (Nat.le_of_eq hdl) hi hS hdp
section
variable {P : Program} {w : World} {ops : Array Oper} {rest : List Oper} {o : Oper} {a : Act} {K : Act → World → Prop} {Q : Exit → Act → World → Prop} {E : Prop}
theorem wp_cpyS (d s : Operand) (dT sT : TypeId)
    (ho : o.op = .call { callee := .builtin .copy, args := #[d, s], argTypes := #[dT, sT] }) (elem : TypeId) (hu : P.underlying dT = some (.slice elem)) (hsz : (P.info? elem).map (·.size) = some 1)
    {base : Nat} {A : Option Addr} {n cap : Nat} {l : List UInt8} (hown : Ow encB 1 w base elem (.slice A n cap) l)
    (dp : Option Addr) (dLen dCap : Nat) (S : ByteArray) (hd : a.eval d = .slice dp dLen dCap) (hs : a.eval s = .string S) (i : Nat) (hdl : dLen = n - i) (hi : i ≤ n) (hS : S.size ≤ dLen)
    (hdp : 0 < dLen → dp = A.map (·.add i)) (L : List UInt8) (hL : l.take i ++ (S.data.toList ++ l.drop (i + S.size)) = L)
    (h : ∀ w', Hid (Ow encB 1 w' base elem (.slice A n cap) L) → Hid (Only (ownB (.slice A n cap)) w w') → K (a.put o.dst (goInt S.size)) w') : o.wp P a w K Q := by
  obtain ⟨w', hr, h2, h3⟩ := run_cpyS (P := P) (w := w) dT sT o.type elem hu hsz hown dp dLen dCap i S hdl hi hS hdp
  subst hL
  unfold Oper.wp execOp
  simp only [ho, resolve, invoke, builtin, Sem.run_bind, Sem.run_pure, Result.andThen_ok, List.map_toArray, List.map_cons, List.map_nil, hd, hs, hr]
  exact h w' (Lib.hid h2) (Lib.hid h3)
/-- at a step of a region that draws its order -/
theorem step_cpyS (hgd : o.guard = none) (d s : Operand) (dT sT : TypeId)
    (ho : o.op = .call { callee := .builtin .copy, args := #[d, s], argTypes := #[dT, sT] }) (elem : TypeId) (hu : P.underlying dT = some (.slice elem)) (hsz : (P.info? elem).map (·.size) = some 1)
    {base : Nat} {A : Option Addr} {n cap : Nat} {l : List UInt8} (hown : Ow encB 1 w base elem (.slice A n cap) l)
    (dp : Option Addr) (dLen dCap : Nat) (S : ByteArray) (hd : a.eval d = .slice dp dLen dCap) (hs : a.eval s = .string S) (i : Nat) (hdl : dLen = n - i) (hi : i ≤ n) (hS : S.size ≤ dLen)
    (hdp : 0 < dLen → dp = A.map (·.add i)) (L : List UInt8) (hL : l.take i ++ (S.data.toList ++ l.drop (i + S.size)) = L)
    (h : ∀ w', Hid (Ow encB 1 w' base elem (.slice A n cap) L) → Hid (Only (ownB (.slice A n cap)) w w') → K (a.put o.dst (goInt S.size)) w') :
    if Region.wanted o (yielded ops a.tmps) = true then Oper.wp P o a w K Q else E := by
  have hw : Region.wanted o (yielded ops a.tmps) = true := by simp [Region.wanted, hgd]
  rw [if_pos hw]
  exact wp_cpyS d s dT sT ho elem hu hsz hown dp dLen dCap S hd hs i hdl hi hS hdp L hL h
end
end Go.Proofs.YtjhjfgelcbphjaaDoor
