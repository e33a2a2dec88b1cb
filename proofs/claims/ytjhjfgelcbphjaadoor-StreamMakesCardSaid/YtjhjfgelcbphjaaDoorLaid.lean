/- What a package-level variable of plain data holds, cell for cell, if it reads as a given datum. No condition. -/
import Derived.Test.YtjhjfgelcbphjaaDoorKit
import Derived.Test.YtjhjfgelcbphjaaDoorArgs
import Derived.Lib.LaidTab
import Derived.OpenShut
namespace Go.Proofs.YtjhjfgelcbphjaaDoor
open Go.RowKit Go.ChangeShapes Go.WideShapes

inductive Ld where
  | int (k : IntKind)
  | bool
  | str
  | agg (fs : List Ld)
  | arr (n : Nat) (e : Ld)

mutual
def Ld.cells : Ld → Nat
  | .int _ => 1
  | .bool => 1
  | .str => 1
  | .agg fs => Ld.cellsL fs
  | .arr n e => n * Ld.cells e
def Ld.cellsL : List Ld → Nat
  | [] => 0
  | k :: ks => Ld.cells k + Ld.cellsL ks
end

mutual
def Ld.ok (P : Program) : Ld → TypeId → Bool
  | .int k, t => match P.underlying t with | some (.int k') => k' == k | _ => false
  | .bool, t => match P.underlying t with | some .bool => true | _ => false
  | .str, t => match P.underlying t with | some .string => true | _ => false
  | .agg ks, t => match P.underlying t with | some (.struct fs) => Ld.okL P ks fs.toList 0 && P.cellsOf t == Ld.cellsL ks | _ => false
  | .arr n e, t => match P.underlying t with | some (.array n' te) => n' == n && Ld.ok P e te && P.cellsOf te == Ld.cells e && P.cellsOf t == n * Ld.cells e | _ => false
def Ld.okL (P : Program) : List Ld → List Field → Nat → Bool
  | [], [], _ => true
  | k :: ks, f :: fs, off => f.offset == off && P.cellsOf f.type == Ld.cells k && Ld.ok P k f.type && Ld.okL P ks fs (off + Ld.cells k)
  | _, _, _ => false
end

def valsAll (f : DataW Unit → Option (List Value)) : List (DataW Unit) → Option (List Value)
  | [] => some []
  | d :: ds => match f d, valsAll f ds with | some a, some b => some (a ++ b) | _, _ => none
mutual
/-- the cells of a datum of the shape -/
def Ld.vals : Ld → DataW Unit → Option (List Value)
  | .int k, d => match d with | .lit (.int k' z) => if k' = k then some [.int k z] else none | _ => none
  | .bool, d => match d with | .lit (.bool b) => some [.bool b] | _ => none
  | .str, d => match d with | .lit (.string bs) => some [.string ⟨bs.toArray⟩] | _ => none
  | .agg ks, d => match d with | .agg ds => Ld.valsL ks ds | _ => none
  | .arr n e, d => match d with | .agg ds => if ds.length = n then valsAll (Ld.vals e) ds else none | _ => none
def Ld.valsL : List Ld → List (DataW Unit) → Option (List Value)
  | [], ds => match ds with | [] => some [] | _ => none
  | k :: ks, ds => match ds with | d :: ds => (match Ld.vals k d, Ld.valsL ks ds with | some a, some b => some (a ++ b) | _, _ => none) | _ => none
end

section
variable {P : Program} {w : World} {base : Nat} {spare : Nat → Bool} {held : Bool}

theorem Ld.of_trodA (e : Ld) (te : TypeId) (m : Nat)
    (ih : ∀ (cs : List Value) (d : DataW Unit) (p : List MemPlace) (vs : List Value), DataW.trod (fun _ => ()) P w base spare held m te cs = some (d, p) → e.vals d = some vs → cs.length = e.cells → cs = vs) :
    ∀ (n : Nat) (cs : List Value) (xs : List (DataW Unit × List MemPlace)) (vs : List Value), cs.length = n * e.cells → xs.length = n →
      (∀ i, i < n → DataW.trod (fun _ => ()) P w base spare held m te ((cs.drop (i * e.cells)).take e.cells) = xs[i]?) → valsAll e.vals (xs.map (·.1)) = some vs → cs = vs := by
  intro n
  induction n with
  | zero =>
    intro cs xs vs hl hx _ hv
    have : xs = [] := List.eq_nil_of_length_eq_zero hx
    subst this
    simp [valsAll] at hv
    subst hv
    exact List.eq_nil_of_length_eq_zero (by omega)
  | succ n ihn =>
    intro cs xs vs hl hx hf hv
    match xs, hx with
    | x :: xs, hx =>
      simp only [List.map_cons, valsAll] at hv
      split at hv
      · rename_i a b ha hb
        injection hv with hv
        subst hv
        have h0 := hf 0 (by omega)
        simp only [Nat.zero_mul, List.drop_zero, List.getElem?_cons_zero] at h0
        have hlen : cs.length = e.cells + n * e.cells := by rw [hl, Nat.succ_mul, Nat.add_comm]
        have e1 := ih _ x.1 x.2 a h0 ha (by rw [List.length_take, hlen]; omega)
        have e2 := ihn (cs.drop e.cells) xs b (by rw [List.length_drop, hlen]; omega) (by simpa using hx) (fun i hi => by
          have := hf (i + 1) (by omega)
          rw [List.drop_drop]
          rw [show e.cells + i * e.cells = (i + 1) * e.cells by rw [Nat.succ_mul, Nat.add_comm]]
          simpa using this) hb
        rw [← e1, ← e2, List.take_append_drop]
      · cases hv

mutual
theorem Ld.of_trod (k : Ld) (t : TypeId) (cs : List Value) (d : DataW Unit) (p : List MemPlace) (fuel : Nat) (vs : List Value) (hk : k.ok P t = true)
    (h : DataW.trod (fun _ => ()) P w base spare held fuel t cs = some (d, p)) (hv : k.vals d = some vs) : cs = vs := by
  match k with
  | .int k =>
    unfold Ld.ok at hk
    split at hk
    · rename_i k' ht
      obtain ⟨n, hc, hx, hw⟩ := DataW.trod_int ht h
      have hkk : k' = k := by simpa using hk
      subst hkk
      simp only [Prod.mk.injEq] at hx
      rw [hx.1] at hv
      simp [Ld.vals] at hv
      rw [hc, hv]
    · cases hk
  | .bool =>
    unfold Ld.ok at hk
    split at hk
    · rename_i ht
      obtain ⟨n, hc, hx⟩ := DataW.trod_bool ht h
      simp only [Prod.mk.injEq] at hx
      rw [hx.1] at hv
      simp [Ld.vals] at hv
      rw [hc, hv]
    · cases hk
  | .str =>
    unfold Ld.ok at hk
    split at hk
    · rename_i ht
      obtain ⟨s, hc, hx, _⟩ := DataW.trod_string ht h
      simp only [Prod.mk.injEq] at hx
      rw [hx.1] at hv
      simp [Ld.vals] at hv
      rw [hc, hv]
    · cases hk
  | .agg ks =>
    unfold Ld.ok at hk
    split at hk
    · rename_i fs ht
      simp only [Bool.and_eq_true, beq_iff_eq] at hk
      obtain ⟨xs, n, _, hx, hlen, hxl, hf⟩ := DataW.trod_struct ht h
      simp only [Prod.mk.injEq] at hx
      rw [hx.1] at hv
      simp only [Ld.vals] at hv
      have := Ld.of_trodL ks fs.toList 0 cs xs n vs hk.1 (by rw [hlen, hk.2, Nat.zero_add]) (by rw [hxl]; simp) (fun i f hfi => hf i f (by simpa using hfi)) hv
      simpa using this
    · cases hk
  | .arr n e =>
    unfold Ld.ok at hk
    split at hk
    · rename_i n' te ht
      simp only [Bool.and_eq_true, beq_iff_eq] at hk
      obtain ⟨⟨⟨h1, h2⟩, h3⟩, h4⟩ := hk
      subst h1
      obtain ⟨xs, m, _, hx, hlen, hxl, hf⟩ := DataW.trod_array ht h
      simp only [Prod.mk.injEq] at hx
      rw [hx.1] at hv
      simp only [Ld.vals, List.length_map, hxl, if_true] at hv
      rw [h3] at hf
      exact Ld.of_trodA e te m (fun cs' d' p' vs' ht' hv' _ => Ld.of_trod e te cs' d' p' m vs' h2 ht' hv') n' cs xs vs (by rw [hlen, h4]) hxl hf hv
    · cases hk
theorem Ld.of_trodL (ks : List Ld) (fs : List Field) (off : Nat) (cs : List Value) (xs : List (DataW Unit × List MemPlace)) (n : Nat) (vs : List Value) (hk : Ld.okL P ks fs off = true) (hlen : cs.length = off + Ld.cellsL ks)
    (hxl : xs.length = fs.length) (hf : ∀ (i : Nat) (f : Field), fs[i]? = some f → DataW.trod (fun _ => ()) P w base spare held n f.type ((cs.drop f.offset).take (P.cellsOf f.type)) = xs[i]?) (hv : Ld.valsL ks (xs.map (·.1)) = some vs) : cs.drop off = vs := by
  match ks, fs with
  | [], [] =>
    have : xs = [] := List.eq_nil_of_length_eq_zero (by simpa using hxl)
    subst this
    simp [Ld.valsL] at hv
    subst hv
    apply List.drop_eq_nil_of_le
    rw [hlen]
    simp [Ld.cellsL]
  | [], f :: fs => simp [Ld.okL] at hk
  | k :: ks, [] => simp [Ld.okL] at hk
  | k :: ks, f :: fs =>
    unfold Ld.okL at hk
    simp only [Bool.and_eq_true, beq_iff_eq] at hk
    obtain ⟨⟨⟨h1, h2⟩, h3⟩, h4⟩ := hk
    unfold Ld.cellsL at hlen
    match xs, hxl with
    | x :: xs, hxl =>
      simp only [List.map_cons, Ld.valsL] at hv
      split at hv
      · rename_i a b ha hb
        injection hv with hv
        subst hv
        have h0 := hf 0 f rfl
        rw [h1, h2] at h0
        simp only [List.getElem?_cons_zero] at h0
        have e1 := Ld.of_trod k f.type _ x.1 x.2 n a h3 h0 ha
        have e2 := Ld.of_trodL ks fs (off + k.cells) cs xs n b h4 (by omega) (by simpa using hxl) (fun i f' hf' => by simpa using hf (i + 1) f' (by simpa using hf')) hb
        rw [← e1, ← e2, ← List.drop_drop, List.take_append_drop]
      · cases hv
end

/-- the variable's block is just these cells -/
def Tab (w : World) (g : Nat) (cs : Array Value) : Prop := ∃ t, Blk w g t cs

theorem Tab.of_var {n : String} {g : Nat} {t : TypeId} {k : Ld} {d : DataW Unit} {vs : List Value} {rest : List (String × DataW Unit)} (hg : P.globalNamed n = some g) (hty : (P.globals[g]?).map (·.type) = some t)
    (hk : k.ok P t = true) (hv : k.vals d = some vs) (hpos : 0 < vs.length) (h : laidMet P ((n, d) :: rest) w) : Tab w g vs.toArray ∧ laidMet P rest w := by
  obtain ⟨ps, ⟨g', t', cs, fuel, p, q, hg', ht', hvar, hd, hq, hps⟩, hnd, hz⟩ := h
  obtain rfl := Option.some.inj (hg.symm.trans hg')
  obtain rfl := Option.some.inj (hty.symm.trans ht')
  have hcs := Ld.of_trod k t cs.toList d p fuel vs hk hd hv
  subst hps
  refine ⟨?_, q, hq, ?_, fun b off hin => hz b off (List.mem_append_right _ hin)⟩
  · have hrow : MemPlace.cell g 0 ∈ MemPlace.row ⟨g, 0, none⟩ cs.size := by
      have : 0 < cs.size := by
        rw [← Array.length_toList, hcs]
        exact hpos
      simp [MemPlace.row]
      exact this
    obtain ⟨c, t2, hh⟩ := (hz g 0 (List.mem_append_left _ (List.mem_append_left _ hrow))).1
    refine ⟨t2, ?_⟩
    have hcc : c = cs := by
      simp only [World.var?, hg, Option.bind_some, hh] at hvar
      exact Option.some.inj hvar
    unfold Blk
    rw [hh, hcc, ← hcs]
  · rw [List.append_assoc] at hnd
    exact (List.nodup_append.1 (List.nodup_append.1 hnd).2.1).2.1
theorem Tab.kept {w' : World} {g : Nat} {cs : Array Value} {S : Nat → Prop} (h : Tab w g cs) (ho : Only S w w') (hg : ¬ S g) : Tab w' g cs := by
  obtain ⟨t, h⟩ := h
  exact ⟨t, h.kept ho hg⟩
theorem Tab.alloc {g : Nat} {cs : Array Value} (h : Tab w g cs) (o : Obj) : Tab (w.alloc o) g cs := by
  obtain ⟨t, h⟩ := h
  exact ⟨t, h.alloc o⟩
theorem Tab.drew {g : Nat} {cs : Array Value} (h : Tab w g cs) : Tab w.drew g cs := h
theorem Tab.below {w' : World} {g B : Nat} {cs : Array Value} (h : Tab w g cs) (hb : Below B w w') (hg : g < B) : Tab w' g cs := by
  obtain ⟨t, h⟩ := h
  exact ⟨t, h.below hb hg⟩
theorem Tab.lt {g : Nat} {cs : Array Value} (h : Tab w g cs) : g < w.heap.size := by
  obtain ⟨t, h⟩ := h
  exact h.lt
theorem Tab.cell {g : Nat} {cs : Array Value} (h : Tab w g cs) (i : Nat) : w.cell? ⟨g, i, none⟩ = cs[i]? := by
  obtain ⟨t, h⟩ := h
  exact h.cell i
end
end Go.Proofs.YtjhjfgelcbphjaaDoor
