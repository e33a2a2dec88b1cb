/- What an argument of plain data holds, said of cells, by the shape of its type. No condition. -/
import Derived.Test.YtjhjfgelcbphjaaDoorKit
import Derived.Deep.Slices
import Derived.Deep.Fields
import Derived.ChangeSame
namespace Go.Proofs.YtjhjfgelcbphjaaDoor
open Go.RowKit Go.ChangeShapes Go.WideShapes Go.Deep

inductive Kd where
  | int (k : IntKind)
  | bool
  | str
  | slc (e : Kd)
  | agg (fs : List Kd)

mutual
def Kd.cells : Kd → Nat
  | .int _ => 1
  | .bool => 1
  | .str => 1
  | .slc _ => 1
  | .agg fs => Kd.cellsL fs
def Kd.cellsL : List Kd → Nat
  | [] => 0
  | k :: ks => Kd.cells k + Kd.cellsL ks
end

mutual
def Kd.ok (P : Program) : Kd → TypeId → Bool
  | .int k, t => match P.underlying t with | some (.int k') => k' == k | _ => false
  | .bool, t => match P.underlying t with | some .bool => true | _ => false
  | .str, t => match P.underlying t with | some .string => true | _ => false
  | .slc e, t => match P.underlying t with | some (.slice te) => Kd.ok P e te && P.cellsOf te == Kd.cells e | _ => false
  | .agg ks, t => match P.underlying t with | some (.struct fs) => Kd.okL P ks fs.toList 0 && P.cellsOf t == Kd.cellsL ks | _ => false
def Kd.okL (P : Program) : List Kd → List Field → Nat → Bool
  | [], [], _ => true
  | k :: ks, f :: fs, off => f.offset == off && P.cellsOf f.type == Kd.cells k && Kd.ok P k f.type && Kd.okL P ks fs (off + Kd.cells k)
  | _, _, _ => false
end

mutual
/-- these cells hold a value of the shape -/
def Kd.Is (w : World) : Kd → List Value → Prop
  | .int k, cs => ∃ z, cs = [.int k z] ∧ (Lit.int k z).wf = true
  | .bool, cs => ∃ b, cs = [.bool b]
  | .str, cs => ∃ s : ByteArray, cs = [.string s] ∧ s.size ≤ maxLen
  | .slc e, cs => ∃ a len cap, cs = [.slice a len cap] ∧ len ≤ cap ∧ cap ≤ maxLen ∧ (a = none → cap = 0) ∧
      ∀ x, a = some x → ∀ i, i < len → ∃ cs' : List Value, cs'.length = Kd.cells e ∧ (∀ j, j < Kd.cells e → w.cell? (x.add (i * Kd.cells e + j)) = cs'[j]?) ∧ Kd.Is w e cs'
  | .agg fs, cs => Kd.IsL w fs cs
def Kd.IsL (w : World) : List Kd → List Value → Prop
  | [], cs => cs = []
  | k :: ks, cs => ∃ c1 c2, cs = c1 ++ c2 ∧ c1.length = Kd.cells k ∧ Kd.Is w k c1 ∧ Kd.IsL w ks c2
end

/-- a value of the shape -/
def Kd.Fit (w : World) : Kd → Value → Prop
  | .agg fs, v => ∃ cs : List Value, v = .agg cs.toArray ∧ Kd.IsL w fs cs
  | k, v => Kd.Is w k [v]

section
variable {H : Type} {enc : TypeId × Value → H} {P : Program} {w : World} {base : Nat} {spare : Nat → Bool} {held : Bool}

mutual
theorem Kd.of_trod (k : Kd) (t : TypeId) (cs : List Value) (x : DataW H × List MemPlace) (fuel : Nat) (hk : k.ok P t = true)
    (h : DataW.trod enc P w base spare held fuel t cs = some x) : k.Is w cs := by
  match k with
  | .int k =>
    unfold Kd.ok at hk
    split at hk
    · rename_i k' ht
      obtain ⟨n, hc, _, hw⟩ := DataW.trod_int ht h
      have hkk : k' = k := by simpa using hk
      subst hkk
      exact ⟨n, hc, hw⟩
    · cases hk
  | .bool =>
    unfold Kd.ok at hk
    split at hk
    · rename_i ht
      obtain ⟨n, hc, _⟩ := DataW.trod_bool ht h
      exact ⟨n, hc⟩
    · cases hk
  | .str =>
    unfold Kd.ok at hk
    split at hk
    · rename_i ht
      obtain ⟨n, hc, _, hm⟩ := DataW.trod_string ht h
      exact ⟨n, hc, hm⟩
    · cases hk
  | .slc e =>
    unfold Kd.ok at hk
    split at hk
    · rename_i te ht
      simp only [Bool.and_eq_true, beq_iff_eq] at hk
      unfold Kd.Is
      rcases open_slice ht h with ⟨hcs, _⟩ | ⟨a, len, cap, m, n, D, Pl, hcs, _, hl, hm, hmm, _, hi⟩
      · exact ⟨none, 0, 0, hcs, Nat.le_refl _, Nat.zero_le _, fun _ => rfl, (fun x hx => by cases hx)⟩
      · refine ⟨some a, len, cap, hcs, hl, hm, (fun hx => by cases hx), fun x hx i hil => ?_⟩
        injection hx with hx
        subst hx
        have him : i < m := by
          rw [hmm]
          split <;> omega
        obtain ⟨cs', hc, ht'⟩ := hi i him
        obtain ⟨_, hlen, hat⟩ := World.cells?_some hc
        rw [hk.2] at hlen hat
        refine ⟨cs', hlen, fun j hj => ?_, Kd.of_trod e te cs' _ n hk.1 ht'⟩
        have := hat j hj
        rw [Go.Deep.add_add] at this
        exact this
    · cases hk
  | .agg ks =>
    unfold Kd.ok at hk
    split at hk
    · rename_i fs ht
      simp only [Bool.and_eq_true, beq_iff_eq] at hk
      obtain ⟨xs, n, _, _, hlen, hxl, hf⟩ := DataW.trod_struct ht h
      unfold Kd.Is
      have := Kd.of_trodL ks fs.toList 0 cs n hk.1 (by rw [hlen, hk.2, Nat.zero_add]) (fun f hfm => by
        obtain ⟨i, hi, hfi⟩ := List.getElem_of_mem hfm
        have h1 : fs[i]? = some f := by
          rw [← hfi]
          simp at hi
          simp [hi]
        have h2 := hf i f h1
        have h3 : i < xs.length := by
          rw [hxl]
          simpa using hi
        rw [List.getElem?_eq_getElem h3] at h2
        exact ⟨_, h2⟩)
      simpa using this
    · cases hk
theorem Kd.of_trodL (ks : List Kd) (fs : List Field) (off : Nat) (cs : List Value) (n : Nat) (hk : Kd.okL P ks fs off = true) (hlen : cs.length = off + Kd.cellsL ks)
    (hf : ∀ f ∈ fs, ∃ y, DataW.trod enc P w base spare held n f.type ((cs.drop f.offset).take (P.cellsOf f.type)) = some y) : Kd.IsL w ks (cs.drop off) := by
  match ks, fs with
  | [], [] =>
    unfold Kd.IsL
    apply List.drop_eq_nil_of_le
    rw [hlen]
    simp [Kd.cellsL]
  | [], f :: fs => simp [Kd.okL] at hk
  | k :: ks, [] => simp [Kd.okL] at hk
  | k :: ks, f :: fs =>
    unfold Kd.okL at hk
    simp only [Bool.and_eq_true, beq_iff_eq] at hk
    obtain ⟨⟨⟨h1, h2⟩, h3⟩, h4⟩ := hk
    unfold Kd.cellsL at hlen
    unfold Kd.IsL
    refine ⟨(cs.drop off).take k.cells, cs.drop (off + k.cells), ?_, ?_, ?_, ?_⟩
    · rw [← List.drop_drop, List.take_append_drop]
    · rw [List.length_take, List.length_drop]
      omega
    · obtain ⟨y, hy⟩ := hf f (List.mem_cons_self ..)
      rw [h1, h2] at hy
      exact Kd.of_trod k f.type _ y n h3 hy
    · exact Kd.of_trodL ks fs (off + k.cells) cs n h4 (by omega) (fun f' hf' => hf f' (List.mem_cons_of_mem _ hf'))
end

theorem Kd.fit {r : Reach} {b0 : Nat} {t : TypeId} {v : Value} {d : DataW H} {p : List MemPlace} (k : Kd) (hk : k.ok P t = true) (hv : Value.okWide P w r b0 t v)
    (h : DataW.Trod enc P w base spare held t v d p) : k.Fit w v := by
  obtain ⟨fuel, hf⟩ := h
  have hi := Kd.of_trod k t _ _ fuel hk hf
  match k with
  | .int k =>
    unfold Kd.ok at hk
    split at hk
    · rename_i k' ht
      obtain ⟨n, rfl⟩ := okWide_int ht hv
      exact hi
    · cases hk
  | .bool =>
    unfold Kd.ok at hk
    split at hk
    · rename_i ht
      obtain ⟨n, rfl⟩ := okWide_bool ht hv
      exact hi
    · cases hk
  | .str =>
    unfold Kd.ok at hk
    split at hk
    · rename_i ht
      obtain ⟨n, rfl⟩ := okWide_string ht hv
      exact hi
    · cases hk
  | .slc e =>
    unfold Kd.ok at hk
    split at hk
    · rename_i te ht
      obtain ⟨a, l, c, rfl⟩ := okWide_slice ht hv
      exact hi
    · cases hk
  | .agg ks =>
    unfold Kd.ok at hk
    split at hk
    · rename_i fs ht
      obtain ⟨cs, rfl, _⟩ := okWide_struct ht hv
      unfold Kd.Is at hi
      exact ⟨cs.toList, by simp, by simpa [Value.cells] using hi⟩
    · cases hk
end

section
variable {w : World}
/-- one cell of its own, at the head of a list of shapes -/
theorem Kd.headL {k : Kd} {ks : List Kd} {cs : List Value} (h1 : k.cells = 1) (h : Kd.IsL w (k :: ks) cs) : ∃ v c2, cs = v :: c2 ∧ Kd.Is w k [v] ∧ Kd.IsL w ks c2 := by
  unfold Kd.IsL at h
  obtain ⟨c1, c2, rfl, hl, hi, hr⟩ := h
  rw [h1] at hl
  match c1, hl with
  | [v], _ => exact ⟨v, c2, rfl, hi, hr⟩
theorem Kd.int_is {k : IntKind} {v : Value} (h : Kd.Is w (.int k) [v]) : ∃ z, v = .int k z ∧ (Lit.int k z).wf = true := by
  obtain ⟨z, hz, hw⟩ := h
  injection hz with hz
  exact ⟨z, hz, hw⟩
theorem Kd.bool_is {v : Value} (h : Kd.Is w .bool [v]) : ∃ b, v = .bool b := by
  obtain ⟨z, hz⟩ := h
  injection hz with hz
  exact ⟨z, hz⟩
theorem Kd.str_is {v : Value} (h : Kd.Is w .str [v]) : ∃ s : ByteArray, v = .string s ∧ s.size ≤ maxLen := by
  obtain ⟨z, hz, hw⟩ := h
  injection hz with hz
  exact ⟨z, hz, hw⟩
theorem Kd.end_ {cs : List Value} (h : Kd.IsL w [] cs) : cs = [] := by
  unfold Kd.IsL at h
  exact h
theorem Kd.int_fit {k : IntKind} {v : Value} (h : Kd.Fit w (.int k) v) : ∃ z, v = .int k z ∧ (Lit.int k z).wf = true := Kd.int_is (w := w) h
theorem Kd.bool_fit {v : Value} (h : Kd.Fit w .bool v) : ∃ b, v = .bool b := Kd.bool_is (w := w) h
theorem Kd.str_fit {v : Value} (h : Kd.Fit w .str v) : ∃ s : ByteArray, v = .string s ∧ s.size ≤ maxLen := Kd.str_is (w := w) h
theorem Kd.list_ints3 {k0 k1 k2 : IntKind} {cs : List Value} (h : Kd.IsL w [.int k0, .int k1, .int k2] cs) :
    ∃ a b c, cs = [.int k0 a, .int k1 b, .int k2 c] ∧ (Lit.int k0 a).wf = true ∧ (Lit.int k1 b).wf = true ∧ (Lit.int k2 c).wf = true := by
  obtain ⟨v0, c0, rfl, i0, h0⟩ := Kd.headL rfl h
  obtain ⟨v1, c1, rfl, i1, h1⟩ := Kd.headL rfl h0
  obtain ⟨v2, c2, rfl, i2, h2⟩ := Kd.headL rfl h1
  obtain ⟨a, rfl, wa⟩ := Kd.int_is i0
  obtain ⟨b, rfl, wb⟩ := Kd.int_is i1
  obtain ⟨c, rfl, wc⟩ := Kd.int_is i2
  obtain rfl := Kd.end_ h2
  exact ⟨a, b, c, rfl, wa, wb, wc⟩
theorem Kd.list_ints2 {k0 k1 : IntKind} {cs : List Value} (h : Kd.IsL w [.int k0, .int k1] cs) :
    ∃ a b, cs = [.int k0 a, .int k1 b] ∧ (Lit.int k0 a).wf = true ∧ (Lit.int k1 b).wf = true := by
  obtain ⟨v0, c0, rfl, i0, h0⟩ := Kd.headL rfl h
  obtain ⟨v1, c1, rfl, i1, h1⟩ := Kd.headL rfl h0
  obtain ⟨a, rfl, wa⟩ := Kd.int_is i0
  obtain ⟨b, rfl, wb⟩ := Kd.int_is i1
  obtain rfl := Kd.end_ h1
  exact ⟨a, b, rfl, wa, wb⟩
theorem Kd.ints3 {k0 k1 k2 : IntKind} {v : Value} (h : Kd.Fit w (.agg [.int k0, .int k1, .int k2]) v) :
    ∃ a b c, v = .agg #[.int k0 a, .int k1 b, .int k2 c] ∧ (Lit.int k0 a).wf = true ∧ (Lit.int k1 b).wf = true ∧ (Lit.int k2 c).wf = true := by
  obtain ⟨cs, rfl, hc⟩ := h
  obtain ⟨a, b, c, rfl, wa, wb, wc⟩ := Kd.list_ints3 hc
  exact ⟨a, b, c, rfl, wa, wb, wc⟩
theorem Kd.ints2 {k0 k1 : IntKind} {v : Value} (h : Kd.Fit w (.agg [.int k0, .int k1]) v) :
    ∃ a b, v = .agg #[.int k0 a, .int k1 b] ∧ (Lit.int k0 a).wf = true ∧ (Lit.int k1 b).wf = true := by
  obtain ⟨cs, rfl, hc⟩ := h
  obtain ⟨a, b, rfl, wa, wb⟩ := Kd.list_ints2 hc
  exact ⟨a, b, rfl, wa, wb⟩
/-- a slice that came in: element i, a list of cells -/
def SlcIs (w : World) (e : Kd) (a : Option Addr) (len cap : Nat) : Prop :=
  len ≤ cap ∧ cap ≤ maxLen ∧ (a = none → cap = 0) ∧
    ∀ x, a = some x → ∀ i, i < len → ∃ cs' : List Value, cs'.length = Kd.cells e ∧ (∀ j, j < Kd.cells e → w.cell? (x.add (i * Kd.cells e + j)) = cs'[j]?) ∧ Kd.Is w e cs'
theorem Kd.slc_is {e : Kd} {v : Value} (h : Kd.Is w (.slc e) [v]) : ∃ a len cap, v = .slice a len cap ∧ SlcIs w e a len cap := by
  unfold Kd.Is at h
  obtain ⟨a, len, cap, hc, h⟩ := h
  injection hc with hc
  exact ⟨a, len, cap, hc, h⟩

def i64Ok (k : Int) : Prop := -9223372036854775808 ≤ k ∧ k ≤ 9223372036854775807
theorem i64Ok_of {k : Int} (h : (Lit.int .i64 k).wf = true) : i64Ok k := by
  simpa [Lit.wf, IntKind.min, IntKind.max, IntKind.signed, IntKind.bits, i64Ok] using h
theorem u32_of {n : Int} (hn : (Lit.int .u32 n).wf = true) : 0 ≤ n ∧ n ≤ 4294967295 := by
  simpa [Lit.wf, IntKind.min, IntKind.max, IntKind.signed, IntKind.bits] using hn
theorem u8_of {n : Int} (hn : (Lit.int .u8 n).wf = true) : 0 ≤ n ∧ n ≤ 255 := by
  simpa [Lit.wf, IntKind.min, IntKind.max, IntKind.signed, IntKind.bits] using hn
theorem Kd.slc_fit {e : Kd} {v : Value} (h : Kd.Fit w (.slc e) v) : ∃ a len cap, v = .slice a len cap ∧ SlcIs w e a len cap := Kd.slc_is (w := w) h

/-- element i of such a slice: its cells at a plain address -/
theorem SlcIs.at {e : Kd} {a : Option Addr} {len cap : Nat} (h : SlcIs w e a len cap) (he : 0 < Kd.cells e) {i : Nat} (hi : i < len) :
    ∃ b off, a = some ⟨b, off, none⟩ ∧ b < w.heap.size ∧ ∃ cs' : List Value, cs'.length = Kd.cells e ∧ (∀ j, j < Kd.cells e → w.cell? ⟨b, off + i * Kd.cells e + j, none⟩ = cs'[j]?) ∧ Kd.Is w e cs' := by
  obtain ⟨hl, hm, hn, hx⟩ := h
  match a with
  | none =>
    have := hn rfl
    omega
  | some x =>
    obtain ⟨cs', hlen, hc, hi'⟩ := hx x rfl i hi
    have h0 := hc 0 he
    rw [List.getElem?_eq_getElem (by omega)] at h0
    obtain ⟨b, off, spot⟩ := x
    have hlt := block_lt_of_cell h0
    have hs0 : spot = none := by
      have hs := World.cell?_spot h0
      have h00 := hx _ rfl 0 (by omega)
      obtain ⟨cs0, hlen0, hc0, _⟩ := h00
      have := hc0 0 he
      rw [List.getElem?_eq_getElem (by omega)] at this
      simpa [Addr.add] using World.cell?_spot this
    subst hs0
    have hadd : ∀ k, (⟨b, off, none⟩ : Addr).add k = ⟨b, off + k, none⟩ := by
      intro k
      unfold Addr.add
      split
      · rename_i hk
        subst hk
        rfl
      · rfl
    refine ⟨b, off, rfl, ?_, cs', hlen, fun j hj => ?_, hi'⟩
    · rw [hadd] at hlt
      exact hlt
    · rw [Nat.add_assoc, ← hadd]
      exact hc j hj
end
end Go.Proofs.YtjhjfgelcbphjaaDoor
