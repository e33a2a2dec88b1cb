/- Rings of bytes: how they lie; what is cut out of one. -/
import Derived.Test.YtjhjfgelcbphjaaDoorRows
import Derived.Test.YtjhjfgelcbphjaaDoorCopyS
import Derived.Test.YtjhjfgelcbphjaaDoorCopyF
namespace Go.Proofs.YtjhjfgelcbphjaaDoor
open Go.RowKit

theorem u8_info : (Tryd.prog.info? 5).map (fun i => (i.zero, i.size, i.bytes)) = some (some (.int .u8 0), 1, 1) := by kernel_rfl
theorem u8_size : (Tryd.prog.info? 5).map (·.size) = some 1 := by kernel_rfl
theorem made_zeroB (n : Nat) : (madeCells #[.int .u8 0] n).toList = (List.replicate n (0 : UInt8)).flatMap encB := by
  unfold madeCells
  apply List.ext_getElem?
  intro k
  by_cases hk : k < n
  · have := flat_at (enc := encB) (sz := 1) (fun _ _ => rfl) (l := List.replicate n (0 : UInt8)) (i := k) (x := 0) (by rw [List.getElem?_replicate]; simp [hk]) (j := 0) (by decide)
    rw [Nat.mul_one, Nat.add_zero] at this
    rw [this]
    simp [hk, Nat.mod_one, encB]
  · rw [List.getElem?_eq_none (by simp; omega), List.getElem?_eq_none (by rw [flat1 (enc := encB) (fun _ => rfl)]; simp; omega)]
theorem hmakeB (n : Nat) (hn : n ≤ 100000) (w : World) : (Instr.makeSlice 131 (.int .i64 (n : Int)) (.int .i64 (n : Int))).run Tryd.prog w = .ok (.slice (some ⟨w.heap.size, 0, none⟩) n n) (w.alloc (.cells (madeCells #[.int .u8 0] n) 5)) := by
  obtain ⟨i, hi, hz, hs, hb⟩ := info_parts u8_info
  have := run_make (P := Tryd.prog) w 131 5 i (.int .u8 0) Tryd.underlying131 hi hz .i64 .i64 n n (by omega) (by omega) (by rw [hb]; omega) (by omega)
  rw [hs] at this
  simpa [Value.cells] using this
theorem made_own (n : Nat) (hn : n ≤ 100000) (w : World) : Ow encB 1 (w.alloc (.cells (madeCells #[.int .u8 0] n) 5)) w.heap.size 5 (.slice (some ⟨w.heap.size, 0, none⟩) n n) (List.replicate n 0) := by
  have := Ow.lit (enc := encB) (sz := 1) (e := 5) (base := w.heap.size) w (List.replicate n (0 : UInt8)) (made_zeroB n) (by rw [flat1 (enc := encB) (fun _ => rfl)]; simp) (by simp [maxLen]; omega) (Nat.le_refl _)
  simpa using this
theorem run_copy_long {P : Program} (w : World) (dT sT ty : TypeId) (elem : TypeId) (hu : P.underlying dT = some (.slice elem)) (hsz : (P.info? elem).map (·.size) = some 1) (d : Option Addr) (dLen dCap : Nat) (s : ByteArray) (h : dLen ≤ s.size) :
    (Builtin.copy_ #[dT, sT] ty #[.slice d dLen dCap, .string s]).run P w = (Builtin.copy_ #[dT, sT] ty #[.slice d dLen dCap, .string (s.extract 0 dLen)]).run P w := by
  have e1 : (s.extract 0 dLen).size = dLen := by rw [ByteArray.size_extract]; omega
  have e2 : (s.extract 0 dLen).data.toList = s.data.toList.take dLen := by simp
  have m1 : Nat.min s.size dLen = dLen := Nat.min_eq_right h
  have m2 : Nat.min dLen dLen = dLen := Nat.min_self _
  cases hq : P.info? elem with
  | none => simp [hq] at hsz
  | some i =>
    cases d <;> simp [Builtin.copy_, run_underlying hu, Builtin.lenOf, Builtin.firstCells, sizeOf, typeInfo, hq, m1, m2, e1]
theorem run_cpyL {P : Program} {w : World} (dT sT ty : TypeId) (elem : TypeId) (hu : P.underlying dT = some (.slice elem)) (hsz : (P.info? elem).map (·.size) = some 1)
    {base : Nat} {A : Option Addr} {n cap : Nat} {l : List UInt8} (hown : Ow encB 1 w base elem (.slice A n cap) l)
    (dp : Option Addr) (dLen dCap : Nat) (i : Nat) (S : ByteArray) (hi : i + dLen ≤ n) (hS : dLen ≤ S.size) (hdp : 0 < dLen → dp = A.map (·.add i)) :
    ∃ w', (Builtin.copy_ #[dT, sT] ty #[.slice dp dLen dCap, .string S]).run P w = .ok (goInt dLen) w' ∧ Ow encB 1 w' base elem (.slice A n cap) (l.take i ++ (S.data.toList.take dLen ++ l.drop (i + dLen))) ∧ Only (ownB (.slice A n cap)) w w' := by
  have e1 : (S.extract 0 dLen).size = dLen := by rw [ByteArray.size_extract]; omega
  have e2 : (S.extract 0 dLen).data.toList = S.data.toList.take dLen := by simp
  obtain ⟨w', hr, h2, h3⟩ := run_cpyS' (P := P) (w := w) dT sT ty elem hu hsz hown dp dLen dCap i (S.extract 0 dLen) (by omega) (by omega) (by omega) hdp
  rw [← run_copy_long w dT sT ty elem hu hsz dp dLen dCap S hS, e1] at hr
  rw [e1, e2] at h2
  exact ⟨w', hr, h2, h3⟩
theorem wpList_cpyL {P : Program} {w : World} {ops : Array Oper} {rest : List Oper} {o : Oper} {a : Act} {Q : Exit → Act → World → Prop} (hgd : o.guard = none) (d s : Operand) (dT sT : TypeId)
    (ho : o.op = .call { callee := .builtin .copy, args := #[d, s], argTypes := #[dT, sT] }) (elem : TypeId) (hu : P.underlying dT = some (.slice elem)) (hsz : (P.info? elem).map (·.size) = some 1)
    {base : Nat} {A : Option Addr} {n cap : Nat} {l : List UInt8} (hown : Ow encB 1 w base elem (.slice A n cap) l)
    (dp : Option Addr) (dLen dCap : Nat) (S : ByteArray) (hd : a.eval d = .slice dp dLen dCap) (hs : a.eval s = .string S) (i : Nat) (hi : i + dLen ≤ n) (hS : dLen ≤ S.size)
    (hdp : 0 < dLen → dp = A.map (·.add i))
    (h : ∀ w', Hid (Ow encB 1 w' base elem (.slice A n cap) (l.take i ++ (S.data.toList.take dLen ++ l.drop (i + dLen)))) → Hid (Only (ownB (.slice A n cap)) w w') → wpList P ops Q rest (a.put o.dst (goInt dLen)) w') : wpList P ops Q (o :: rest) a w := by
  obtain ⟨w', hr, h2, h3⟩ := run_cpyL (P := P) (w := w) dT sT o.type elem hu hsz hown dp dLen dCap i S hi hS hdp
  refine wpList_plain hgd fun _ hK => ?_
  unfold Oper.wp execOp
  simp only [ho, resolve, invoke, builtin, Sem.run_bind, Sem.run_pure, Result.andThen_ok, List.map_toArray, List.map_cons, List.map_nil, hd, hs, hr]
  exact hK _ _ (h w' (Lib.hid h2) (Lib.hid h3))

/-- a ring of capacity c, at block r; its bytes lie at block g; L are there, the first one at place F -/
structure Rg (w : World) (r g base c F : Nat) (row L : List UInt8) : Prop where
  blk : Blk w r 133 #[.slice (some ⟨g, 0, none⟩) c c, .int .i64 F, .int .i64 L.length]
  own : Ow encB 1 w base 5 (.slice (some ⟨g, 0, none⟩) c c) row
  hb : base ≤ r
  len : row.length = c
  le : L.length ≤ c
  fst : F < c ∨ (c = 0 ∧ F = 0)
  big : c ≤ 65536
  at_ : ∀ j, j < L.length → (if F + j < c then row[F + j]? else row[F + j - c]?) = L[j]?
section
variable {w w' : World} {r g base c F : Nat} {row L : List UInt8}
theorem Rg.ne (h : Rg w r g base c F row L) : r ≠ g := fun e => by
  have := h.own.ne h.blk (by decide)
  subst e
  exact this rfl
theorem Rg.facts (h : Rg w r g base c F row L) : w.cell? ⟨r, 0, none⟩ = some (.slice (some ⟨g, 0, none⟩) c c) ∧ w.cell? ⟨r, 1, none⟩ = some (.int .i64 F) ∧ w.cell? ⟨r, 2, none⟩ = some (.int .i64 L.length) := ⟨h.blk.cell 0, h.blk.cell 1, h.blk.cell 2⟩
theorem Rg.kept {S : Nat → Prop} (h : Rg w r g base c F row L) (ho : Only S w w') (h1 : ¬ S r) (h2 : ¬ S g) : Rg w' r g base c F row L :=
  ⟨h.blk.kept ho h1, h.own.kept ho (fun k hk => by simp [Value.ownBlock] at hk; subst hk; exact h2), h.hb, h.len, h.le, h.fst, h.big, h.at_⟩
theorem Rg.go (h : Rg w r g base c F row L) (ho : Only Nil w w') : Rg w' r g base c F row L := h.kept ho (fun h => h) (fun h => h)
theorem Rg.gb (h : Rg w r g base c F row L) : base ≤ g ∧ g < w.heap.size := h.own.lt rfl
theorem New_out (n : Int) (w : World) (h : n < 0 ∨ 65536 < n) : Calls Tryd.prog 66 #[.int .i64 n] w fun x w' => x = .returned (.tuple #[.pointer none, .int .i64 3]) ∧ w = w' := by
  rcases h with h | h
  · go_enter Tryd.func66, Tryd.ntmps66
    go_wp2
    go_ret2
    exact ⟨rfl, rfl⟩
  · have h0 : ¬ n < 0 := by omega
    go_enter Tryd.func66, Tryd.ntmps66
    go_wp2
    go_ret2
    exact ⟨rfl, rfl⟩
set_option maxRecDepth 100000 in
theorem New_in (c : Nat) (w : World) (h : c ≤ 65536) : Calls Tryd.prog 66 #[.int .i64 c] w fun x w' => ∃ r g row, x = .returned (.tuple #[.pointer (some ⟨r, 0, none⟩), .int .i64 0]) ∧ Rg w' r g w.heap.size c 0 row [] ∧ Only Nil w w' := by
  have hm := hmakeB c (by omega) w
  have hO := Lib.hid (made_own c (by omega) w)
  have hci : (c : Int) ≤ 65536 := by omega
  go_enter Tryd.func66, Tryd.ntmps66
  go_wp2
  go_ret2
  have hb := Blk.new (w.alloc (.cells (madeCells #[.int .u8 0] c) 5)) 133 #[.slice (some ⟨w.heap.size, 0, none⟩) c c, .int .i64 0, .int .i64 0]
  exact ⟨_, w.heap.size, _, rfl, ⟨by simpa using hb, hO.out.alloc _, by simp, by simp, Nat.zero_le _, by omega, h, fun j hj => absurd hj (Nat.not_lt_zero _)⟩, ((Only.refl _ _).alloc _).alloc _⟩
theorem Len_nil (w : World) : Calls Tryd.prog 51 #[.pointer none] w fun x w' => x = .returned (.int .i64 0) ∧ w = w' := by
  go_enter Tryd.func51, Tryd.ntmps51
  go_wp2
  go_ret
  exact ⟨rfl, rfl⟩
theorem Len_any (w : World) (h : Rg w r g base c F row L) : Calls Tryd.prog 51 #[.pointer (some ⟨r, 0, none⟩)] w fun x w' => x = .returned (.int .i64 L.length) ∧ w = w' := by
  obtain ⟨c0, c1, c2⟩ := h.facts
  have z := h.blk.lt
  go_enter Tryd.func51, Tryd.ntmps51
  go_wp2
  go_ret
  exact ⟨rfl, rfl⟩
theorem Cap_nil (w : World) : Calls Tryd.prog 107 #[.pointer none] w fun x w' => x = .returned (.int .i64 0) ∧ w = w' := by
  go_enter Tryd.func107, Tryd.ntmps107
  go_wp2
  go_ret
  exact ⟨rfl, rfl⟩
theorem Cap_any (w : World) (h : Rg w r g base c F row L) : Calls Tryd.prog 107 #[.pointer (some ⟨r, 0, none⟩)] w fun x w' => x = .returned (.int .i64 c) ∧ w = w' := by
  obtain ⟨c0, c1, c2⟩ := h.facts
  have z := h.blk.lt
  have hb := h.big
  go_enter Tryd.func107, Tryd.ntmps107
  go_wp2
  go_ret
  exact ⟨rfl, rfl⟩
theorem Room_nil (w : World) : Calls Tryd.prog 95 #[.pointer none] w fun x w' => x = .returned (.int .i64 0) ∧ w = w' := by
  go_enter Tryd.func95, Tryd.ntmps95
  go_wp2_with (first
    | (go_at_call 107; (with_reducible refine (Cap_nil _).mono ?_); rintro e w1 ⟨rfl, rfl⟩)
    | (go_at_call 51; (with_reducible refine (Len_nil _).mono ?_); rintro e w2 ⟨rfl, rfl⟩)
    )
  go_ret
  exact ⟨rfl, rfl⟩
theorem Room_any (w : World) (h : Rg w r g base c F row L) : Calls Tryd.prog 95 #[.pointer (some ⟨r, 0, none⟩)] w fun x w' => x = .returned (.int .i64 ((c : Int) - L.length)) ∧ w = w' := by
  have hb := h.big
  have hl := h.le
  have hC := Lib.hid (Cap_any w h)
  have hL := Lib.hid (Len_any w h)
  go_enter Tryd.func95, Tryd.ntmps95
  go_wp2_with (first
    | (go_at_call 107; (with_reducible refine (hC.out).mono ?_); rintro e w1 ⟨rfl, rfl⟩)
    | (go_at_call 51; (with_reducible refine (hL.out).mono ?_); rintro e w2 ⟨rfl, rfl⟩)
    )
  go_ret
  exact ⟨rfl, rfl⟩
/-- what is cut out: places A to B, and the first R ones -/
def Cuts (c F i n A B R : Nat) : Prop := (F + i + n ≤ c ∧ A = F + i ∧ B = F + i + n ∧ R = 0) ∨ (F + i < c ∧ c < F + i + n ∧ A = F + i ∧ B = c ∧ R + c = F + i + n) ∨ (c ≤ F + i ∧ A + c = F + i ∧ B = A + n ∧ R = 0)
theorem parts_any (i n A B R : Nat) (w : World) (h : Rg w r g base c F row L) (hn : 0 < n) (hi : i + n ≤ c) (hc : Cuts c F i n A B R) :
    Calls Tryd.prog 96 #[.pointer (some ⟨r, 0, none⟩), .int .i64 i, .int .i64 n] w fun x w' => x = .returned (.tuple #[.slice (some ⟨g, A, none⟩) (B - A) (B - A), .slice (some ⟨g, 0, none⟩) R R]) ∧ Only Nil w w' := by
  obtain ⟨c0, c1, c2⟩ := h.facts
  have z := h.blk.lt
  have hb := h.big
  have hf : F < c := by have := h.fst; omega
  clear h
  rcases hc with ⟨h1, rfl, rfl, rfl⟩ | ⟨h1, h2, rfl, rfl, h3⟩ | ⟨h1, h2, rfl, rfl⟩
  · have e1 : (F : Int) + i < c := by omega
    go_enter Tryd.func96, Tryd.ntmps96
    go_wp2
    go_region
    go_wp2
    go_ret2
    have e5 : n - (F + i + n - (F + i)) = 0 := by omega
    exact ⟨congrArg (fun z => Ending.returned (.tuple #[.slice (some ⟨g, F + i, none⟩) (F + i + n - (F + i)) (F + i + n - (F + i)), .slice (some ⟨g, 0, none⟩) z z])) e5, (Only.refl _ _).drew⟩
  · have e1 : (F : Int) + i < B := by omega
    have e2 : (B : Int) < (F : Int) + i + n := by omega
    have e3 : (n : Int) - ((B : Int) - ((F : Int) + i)) = R := by omega
    have e4 : R ≤ B := by omega
    clear h3 h2
    go_enter Tryd.func96, Tryd.ntmps96
    go_wp2
    go_region
    go_wp2
    go_ret2
    exact ⟨rfl, (Only.refl _ _).drew⟩
  · have e1 : (c : Int) ≤ (F : Int) + i := by omega
    have e3 : (F : Int) + i - c = A := by omega
    have e4 : A + n < c := by omega
    clear h1 h2
    go_enter Tryd.func96, Tryd.ntmps96
    go_wp2
    go_region
    go_wp2
    go_ret2
    have e5 : n - (A + n - A) = 0 := by omega
    exact ⟨congrArg (fun z => Ending.returned (.tuple #[.slice (some ⟨g, A, none⟩) (A + n - A) (A + n - A), .slice (some ⟨g, 0, none⟩) z z])) e5, (Only.refl _ _).drew⟩
end
end Go.Proofs.YtjhjfgelcbphjaaDoor
