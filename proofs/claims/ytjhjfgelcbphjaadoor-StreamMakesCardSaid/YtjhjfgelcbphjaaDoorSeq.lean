/- Lists that lie behind slices: read, owned by the call, appended to. No condition. -/
import Derived.Test.YtjhjfgelcbphjaaDoorKit
import Derived.Test.YtjhjfgelcbphjaaDoorArgs
import Derived.Deep.AppendLies
import Derived.Deep.Upon
import Derived.OwnWalk
namespace Go.Proofs.YtjhjfgelcbphjaaDoor
open Go.RowKit

/-- the elements of a list lie behind a slice's address, below a block -/
def Sq {α : Type} (enc : α → List Value) (sz : Nat) (w : World) (B : Nat) (A : Option Addr) (l : List α) : Prop :=
  0 < l.length → ∃ b off, A = some ⟨b, off, none⟩ ∧ b < B ∧ ∀ (i : Nat) (x : α), l[i]? = some x → ∀ j, j < sz → w.cell? ⟨b, off + i * sz + j, none⟩ = (enc x)[j]?

section
variable {α : Type} {enc : α → List Value} {sz : Nat} {w w' : World} {B B' : Nat} {A : Option Addr} {l : List α}
theorem Sq.nil : Sq enc sz w B A [] := fun h => absurd h (Nat.lt_irrefl _)
theorem Sq.keep (h : Sq enc sz w B A l) (hk : ∀ b i, b < B → w'.cell? ⟨b, i, none⟩ = w.cell? ⟨b, i, none⟩) : Sq enc sz w' B A l := fun hl => by
  obtain ⟨b, off, e, hb, hc⟩ := h hl
  exact ⟨b, off, e, hb, fun i x hx j hj => (hk b _ hb).trans (hc i x hx j hj)⟩
theorem Sq.below (h : Sq enc sz w B A l) (hb : Below B w w') : Sq enc sz w' B A l := h.keep fun b i hlt => hb.cell (p := ⟨b, i, none⟩) hlt
theorem Sq.more (h : Sq enc sz w B A l) (hB : B ≤ B') : Sq enc sz w B' A l := fun hl => by
  obtain ⟨b, off, e, hb, hc⟩ := h hl
  exact ⟨b, off, e, by omega, hc⟩
theorem Sq.kept {S : Nat → Prop} (h : Sq enc sz w B A l) (ho : Only S w w') (hB : B ≤ w.heap.size) (hS : ∀ i, i < B → ¬ S i) : Sq enc sz w' B A l :=
  h.below (ho.below hB hS)
theorem Sq.go (h : Sq enc sz w w.heap.size A l) (ho : Only Nil w w') : Sq enc sz w' w'.heap.size A l := (h.kept ho (Nat.le_refl _) (fun _ _ hh => hh)).more ho.size
theorem Sq.take (h : Sq enc sz w B A l) (k : Nat) : Sq enc sz w B A (l.take k) := fun hl => by
  obtain ⟨b, off, e, hb, hc⟩ := h (by simp at hl; omega)
  refine ⟨b, off, e, hb, fun i x hx j hj => hc i x ?_ j hj⟩
  rw [List.getElem?_take] at hx
  split at hx
  · exact hx
  · cases hx
theorem Sq.at_ (h : Sq enc sz w B A l) {k : Nat} (hk : k < l.length) : ∃ b off x, A = some ⟨b, off, none⟩ ∧ b < B ∧ l[k]? = some x ∧ l.drop k = x :: l.drop (k + 1) ∧ ∀ j, j < sz → w.cell? ⟨b, off + k * sz + j, none⟩ = (enc x)[j]? := by
  obtain ⟨b, off, e, hb, hc⟩ := h (by omega)
  exact ⟨b, off, l[k], e, hb, List.getElem?_eq_getElem hk, List.drop_eq_getElem_cons hk, hc k _ (List.getElem?_eq_getElem hk)⟩

theorem SlcIs.list {e : Kd} {a : Option Addr} {len cap : Nat} (h : SlcIs w e a len cap) (he : 0 < Kd.cells e) (enc : α → List Value) (ok : α → Prop)
    (hd : ∀ cs, cs.length = Kd.cells e → Kd.Is w e cs → ∃ x, cs = enc x ∧ ok x) : ∃ l : List α, l.length = len ∧ (∀ x ∈ l, ok x) ∧ Sq enc (Kd.cells e) w w.heap.size a l := by
  rcases Nat.eq_zero_or_pos len with h0 | h0
  · exact ⟨[], by simp [h0], by simp, Sq.nil⟩
  · obtain ⟨b, off, rfl, hb, _⟩ := h.at he h0
    have key : ∀ i, i < len → ∃ x, ok x ∧ ∀ j, j < Kd.cells e → w.cell? ⟨b, off + i * Kd.cells e + j, none⟩ = (enc x)[j]? := by
      intro i hi
      obtain ⟨b', off', e1, _, cs, hl, hc, his⟩ := h.at he hi
      injection e1 with e1
      injection e1 with e2 e3
      subst e2 e3
      obtain ⟨x, rfl, hx⟩ := hd cs hl his
      exact ⟨x, hx, hc⟩
    have all : ∀ n, n ≤ len → ∃ l : List α, l.length = n ∧ (∀ x ∈ l, ok x) ∧ ∀ (i : Nat) (x : α), l[i]? = some x → ∀ j, j < Kd.cells e → w.cell? ⟨b, off + i * Kd.cells e + j, none⟩ = (enc x)[j]? := by
      intro n
      induction n with
      | zero => exact fun _ => ⟨[], rfl, by simp, fun i x hx => by simp at hx⟩
      | succ n ih =>
        intro hn
        obtain ⟨l, hl, ho, hc⟩ := ih (by omega)
        obtain ⟨x, hx, hxc⟩ := key n (by omega)
        refine ⟨l ++ [x], by simp [hl], fun y hy => ?_, fun i y hy j hj => ?_⟩
        · rcases List.mem_append.1 hy with hy | hy
          · exact ho y hy
          · simp at hy
            subst hy
            exact hx
        · rcases Nat.lt_or_ge i n with hi | hi
          · rw [List.getElem?_append_left (by omega)] at hy
            exact hc i y hy j hj
          · rw [List.getElem?_append_right (by omega), hl] at hy
            have : i = n := by
              rcases Nat.eq_or_lt_of_le hi with h1 | h1
              · exact h1.symm
              · rw [List.getElem?_eq_none (by simp; omega)] at hy
                cases hy
            subst this
            simp at hy
            subst hy
            exact hxc j hj
    obtain ⟨l, hl, ho, hc⟩ := all len (Nat.le_refl _)
    exact ⟨l, hl, ho, fun _ => ⟨b, off, rfl, hb, hc⟩⟩
end

/-! ### slices that the call has made -/
def putL : Array Value → Nat → List Value → Array Value
  | cur, _, [] => cur
  | cur, o, v :: r => putL (cur.setIfInBounds o v) (o + 1) r
theorem putL_size : ∀ (vs : List Value) (cur : Array Value) (o : Nat), (putL cur o vs).size = cur.size
  | [], _, _ => rfl
  | v :: r, cur, o => by rw [putL, putL_size r]; simp
theorem putL_out : ∀ (vs : List Value) (cur : Array Value) (o k : Nat), (k < o ∨ o + vs.length ≤ k) → (putL cur o vs)[k]? = cur[k]?
  | [], _, _, _, _ => rfl
  | v :: r, cur, o, k, h => by
    simp only [List.length_cons] at h
    rw [putL, putL_out r _ _ _ (by omega), Array.getElem?_setIfInBounds_ne (by omega)]
theorem putL_in : ∀ (vs : List Value) (cur : Array Value) (o j : Nat), o + vs.length ≤ cur.size → j < vs.length → (putL cur o vs)[o + j]? = vs[j]?
  | [], _, _, _, _, h => absurd h (Nat.not_lt_zero _)
  | v :: r, cur, o, j, h, hj => by
    simp only [List.length_cons] at h hj
    cases j with
    | zero =>
      rw [putL, putL_out r _ _ _ (by omega), Nat.add_zero, Array.getElem?_setIfInBounds_self_of_lt (by omega)]
      rfl
    | succ j =>
      rw [putL, show o + (j + 1) = o + 1 + j by omega, putL_in r _ (o + 1) j (by simp; omega) (by omega)]
      rfl
theorem Blk.setCells {g : Nat} {t : TypeId} : ∀ (vs : List Value) (w : World) (cur : Array Value) (o : Nat), Blk w g t cur → Blk (w.setCells g o vs) g t (putL cur o vs)
  | [], _, _, _, h => h
  | v :: r, _, _, o, h => Blk.setCells r _ _ (o + 1) (h.set o v)
theorem Only.setCells {S : Nat → Prop} {w0 : World} {g : Nat} : ∀ (vs : List Value) (w : World) (o : Nat), Only S w0 w → (g < w0.heap.size → S g) → Only S w0 (w.setCells g o vs)
  | [], _, _, h, _ => h
  | v :: r, _, o, h, hs => Only.setCells r _ (o + 1) (h.setCell (p := ⟨g, o, none⟩) hs v) hs

/-- a slice that the call has made, of these elements -/
def Ow {α : Type} (enc : α → List Value) (sz : Nat) (w : World) (base : Nat) (e : TypeId) (v : Value) (l : List α) : Prop :=
  (l.flatMap enc).length = l.length * sz ∧ ((v = .slice none 0 0 ∧ l = []) ∨
    ∃ g off cap cur, v = .slice (some ⟨g, off, none⟩) l.length cap ∧ base ≤ g ∧ Blk w g e cur ∧ l.length ≤ cap ∧ cap ≤ maxLen ∧ off + cap * sz ≤ cur.size ∧ ∀ j, j < l.length * sz → cur[off + j]? = (l.flatMap enc)[j]?)
def ownB (v : Value) : Nat → Prop := fun k => v.ownBlock = some k
section
variable {α : Type} {enc : α → List Value} {sz : Nat} {w w' : World} {B B' : Nat} {A : Option Addr} {l : List α} {base : Nat} {e : TypeId} {v : Value}
theorem Ow.nil : Ow enc sz w base e (.slice none 0 0) ([] : List α) := ⟨by simp, .inl ⟨rfl, rfl⟩⟩
theorem Ow.form (h : Ow enc sz w base e v l) : ∃ A cap, v = .slice A l.length cap ∧ l.length ≤ cap ∧ cap ≤ maxLen := by
  rcases h.2 with ⟨rfl, rfl⟩ | ⟨g, off, cap, cur, rfl, _, _, hl, hm, _⟩
  · exact ⟨none, 0, rfl, Nat.le_refl _, by simp [maxLen]⟩
  · exact ⟨_, cap, rfl, hl, hm⟩
theorem Ow.lt (h : Ow enc sz w base e v l) {g : Nat} (hg : v.ownBlock = some g) : base ≤ g ∧ g < w.heap.size := by
  rcases h.2 with ⟨rfl, _⟩ | ⟨g', off, cap, cur, rfl, hb, hh, _⟩
  · simp [Value.ownBlock] at hg
  · simp [Value.ownBlock] at hg
    subst hg
    exact ⟨hb, hh.lt⟩
theorem Ow.kept {S : Nat → Prop} (h : Ow enc sz w base e v l) (ho : Only S w w') (hs : ∀ g, v.ownBlock = some g → ¬ S g) : Ow enc sz w' base e v l := by
  refine ⟨h.1, ?_⟩
  rcases h.2 with h0 | ⟨g, off, cap, cur, rfl, hb, hh, hr⟩
  · exact .inl h0
  · exact .inr ⟨g, off, cap, cur, rfl, hb, hh.kept ho (hs g rfl), hr⟩
theorem Ow.alloc (h : Ow enc sz w base e v l) (o : Obj) : Ow enc sz (w.alloc o) base e v l := h.kept ((Only.refl Nil w).alloc o) (fun _ _ hh => hh)
theorem Ow.drew (h : Ow enc sz w base e v l) : Ow enc sz w.drew base e v l := h
theorem Ow.set (h : Ow enc sz w base e v l) {b : Nat} (hb : v.ownBlock ≠ some b) (i : Nat) (u : Value) : Ow enc sz (w.setCell ⟨b, i, none⟩ u) base e v l :=
  h.kept (S := One b) ((Only.refl (One b) w).set1 i u) (fun g hg hh => hb (by unfold One at hh; rw [hg, hh]))
theorem Ow.mono {base' : Nat} (h : Ow enc sz w base e v l) (hb : base' ≤ base) : Ow enc sz w base' e v l := by
  refine ⟨h.1, ?_⟩
  rcases h.2 with h0 | ⟨g, off, cap, cur, hv, hg, hr⟩
  · exact .inl h0
  · exact .inr ⟨g, off, cap, cur, hv, by omega, hr⟩
/-- it lies in another block than one of another type -/
theorem Ow.ne (h : Ow enc sz w base e v l) {b : Nat} {t : TypeId} {cs : Array Value} (hb : Blk w b t cs) (ht : e ≠ t) : v.ownBlock ≠ some b := by
  rcases h.2 with ⟨rfl, _⟩ | ⟨g, off, cap, cur, rfl, _, hh, _⟩
  · simp [Value.ownBlock]
  · intro hg
    simp [Value.ownBlock] at hg
    subst hg
    unfold Blk at hh hb
    rw [hh] at hb
    injection hb with hb
    injection hb with _ h2
    exact ht h2
theorem flat_len {l : List α} (hsz : ∀ x ∈ l, (enc x).length = sz) : (l.flatMap enc).length = l.length * sz := by
  induction l with
  | nil => simp
  | cons x l ih =>
    simp only [List.flatMap_cons, List.length_append, List.length_cons]
    rw [hsz x (by simp), ih (fun y hy => hsz y (by simp [hy])), Nat.add_mul]
    omega
theorem flat_at {l : List α} (hsz : ∀ x ∈ l, (enc x).length = sz) {i : Nat} {x : α} (hx : l[i]? = some x) {j : Nat} (hj : j < sz) : (l.flatMap enc)[i * sz + j]? = (enc x)[j]? := by
  induction l generalizing i with
  | nil => simp at hx
  | cons y l ih =>
    have hy := hsz y (by simp)
    cases i with
    | zero =>
      simp at hx
      subst hx
      rw [List.flatMap_cons, Nat.zero_mul, Nat.zero_add, List.getElem?_append_left (by omega)]
    | succ i =>
      rw [List.flatMap_cons, Nat.add_mul, List.getElem?_append_right (by omega)]
      rw [show i * sz + 1 * sz + j - (enc y).length = i * sz + j by omega]
      exact ih (fun z hz => hsz z (by simp [hz])) (by simpa using hx)
theorem Ow.sq (h : Ow enc sz w base e v l) (hsz : ∀ x ∈ l, (enc x).length = sz) {A : Option Addr} {n cap : Nat} (hv : v = .slice A n cap) : Sq enc sz w w.heap.size A l := fun hl => by
  obtain ⟨h1, h2⟩ := h
  rcases h2 with ⟨_, rfl⟩ | ⟨g, off, cap', cur, hv', hb, hh, hl', hm, hs, ht⟩
  · simp at hl
  · rw [hv] at hv'
    injection hv' with hA hn hc
    subst hA hn hc
    refine ⟨g, off, rfl, hh.lt, fun i x hx j hj => ?_⟩
    have hil : i < l.length := by
      rcases Nat.lt_or_ge i l.length with h1 | h1
      · exact h1
      · rw [List.getElem?_eq_none h1] at hx
        cases hx
    have : i * sz + j < l.length * sz := by
      have := Nat.mul_le_mul_right sz (show i + 1 ≤ l.length by omega)
      rw [Nat.add_mul] at this
      omega
    rw [hh.cell, ← flat_at hsz hx hj, Nat.add_assoc, ht _ this]
theorem Only.of_grown {row : Option Nat} (h : w.grownBy w' row) : Only (fun k => row = some k) w w' :=
  ⟨h.os, h.tape, h.output, h.size, fun k hk hn => h.block k hk (fun hh => hn hh.symm)⟩
/-- a new row of this capacity -/
theorem Ow.made (w : World) (cur : Array Value) (cap : Nat) (hm : cap ≤ maxLen) (hs : cur.size = cap * sz) (hb : base ≤ w.heap.size) :
    Ow enc sz (w.alloc (.cells cur e)) base e (.slice (some ⟨w.heap.size, 0, none⟩) 0 cap) ([] : List α) :=
  ⟨by simp, .inr ⟨w.heap.size, 0, cap, cur, rfl, hb, Blk.new _ _ _, Nat.zero_le _, hm, by omega, fun j hj => by simp at hj⟩⟩
/-- a new row of just these elements -/
theorem Ow.lit (w : World) {cs : Array Value} (l : List α) (hcs : cs.toList = l.flatMap enc) (hl : (l.flatMap enc).length = l.length * sz) (hm : l.length ≤ maxLen) (hb : base ≤ w.heap.size) :
    Ow enc sz (w.alloc (.cells cs e)) base e (.slice (some ⟨w.heap.size, 0, none⟩) l.length l.length) l :=
  ⟨hl, .inr ⟨w.heap.size, 0, l.length, cs, rfl, hb, Blk.new _ _ _, Nat.le_refl _, hm, by rw [← Array.length_toList, hcs, hl]; omega, fun j _ => by rw [Nat.zero_add, ← Array.getElem?_toList, hcs]⟩⟩
/-- the first elements are cut off; or only the first ones are kept -/
theorem Ow.drop (h : Ow enc sz w base e v l) (hsz : ∀ x ∈ l, (enc x).length = sz) {A : Option Addr} {n cap : Nat} (hv : v = .slice A n cap) {k : Nat} (hk : k ≤ l.length) :
    Ow enc sz w base e (.slice (if cap = k then A else A.map (·.add (k * sz))) (n - k) (cap - k)) (l.drop k) := by
  refine ⟨flat_len fun x hx => hsz x (List.mem_of_mem_drop hx), ?_⟩
  rcases h.2 with ⟨hv', rfl⟩ | ⟨g, off, cap', cur, hv', hb, hh, hl', hm, hs, ht⟩
  · rw [hv] at hv'
    injection hv' with hA hn hc
    subst hA hn hc
    exact .inl ⟨by simp, by simp⟩
  · rw [hv] at hv'
    injection hv' with hA hn hc
    subst hA hn hc
    have hadd : (⟨g, off, none⟩ : Addr).add (k * sz) = ⟨g, off + k * sz, none⟩ := by
      unfold Addr.add
      split
      · rename_i h0
        rw [h0]
        rfl
      · rfl
    have key : ∀ j, j < (l.drop k).length * sz → cur[off + k * sz + j]? = ((l.drop k).flatMap enc)[j]? := by
      intro j hj
      rw [List.length_drop, Nat.sub_mul] at hj
      rw [Nat.add_assoc, ht _ (by omega)]
      have e1 : l.flatMap enc = (l.take k).flatMap enc ++ (l.drop k).flatMap enc := by rw [← List.flatMap_append, List.take_append_drop]
      have e2 : ((l.take k).flatMap enc).length = k * sz := by
        rw [flat_len (fun x hx => hsz x (List.mem_of_mem_take hx)), List.length_take]
        congr 1
        omega
      rw [e1, List.getElem?_append_right (by omega), e2]
      congr 1
      omega
    have hmul : k * sz + (cap - k) * sz = cap * sz := by rw [← Nat.add_mul]; congr 1; omega
    by_cases hck : cap = k
    · rw [if_pos hck]
      refine .inr ⟨g, off, cap - k, cur, by simp, hb, hh, by simp; omega, by omega, by omega, fun j hj => ?_⟩
      rw [List.length_drop] at hj
      have : l.length - k = 0 := by omega
      rw [this] at hj
      omega
    · rw [if_neg hck]
      exact .inr ⟨g, off + k * sz, cap - k, cur, by simp [hadd], hb, hh, by simp; omega, by omega, by omega, key⟩
theorem Ow.take (h : Ow enc sz w base e v l) (hsz : ∀ x ∈ l, (enc x).length = sz) {A : Option Addr} {n cap : Nat} (hv : v = .slice A n cap) {k : Nat} (hk : k ≤ l.length) :
    Ow enc sz w base e (.slice A k cap) (l.take k) := by
  refine ⟨flat_len fun x hx => hsz x (List.mem_of_mem_take hx), ?_⟩
  rcases h.2 with ⟨hv', rfl⟩ | ⟨g, off, cap', cur, hv', hb, hh, hl', hm, hs, ht⟩
  · rw [hv] at hv'
    injection hv' with hA hn hc
    subst hA hn hc
    simp at hk
    subst hk
    exact .inl ⟨by simp, by simp⟩
  · rw [hv] at hv'
    injection hv' with hA hn hc
    subst hA hn hc
    refine .inr ⟨g, off, cap, cur, by simp; omega, hb, hh, by simp; omega, hm, hs, fun j hj => ?_⟩
    rw [List.length_take] at hj
    have hj' : j < k * sz := Nat.lt_of_lt_of_le hj (Nat.mul_le_mul_right _ (by omega))
    have hkl := Nat.mul_le_mul_right sz hk
    rw [ht _ (by omega)]
    have e1 : l.flatMap enc = (l.take k).flatMap enc ++ (l.drop k).flatMap enc := by rw [← List.flatMap_append, List.take_append_drop]
    have e2 : ((l.take k).flatMap enc).length = k * sz := by
      rw [flat_len (fun x hx => hsz x (List.mem_of_mem_take hx)), List.length_take]
      congr 1
      omega
    rw [e1, List.getElem?_append_left (by omega)]
end

/-- more elements behind those of a slice that the call has made, out of whatever source -/
theorem run_app {α : Type} {enc : α → List Value} {sz : Nat} {P : Program} {w : World} (t tx ty : TypeId) (base : Nat) (e : TypeId) (ht : P.underlying t = some (.slice e)) {z : Value} {bytes : Nat}
    (hi : (P.info? e).map (fun i => (i.zero, i.size, i.bytes)) = some (some z, sz, bytes)) (hzs : z.cells.size = sz)
    (v : Value) (l : List α) (hown : Ow enc sz w base e v l) (x : Value) (ys : List α) (hsrc : Src P sz tx x ys.length (ys.flatMap enc) w) (h63 : l.length + ys.length ≤ maxLen) (hbytes : (l.length + ys.length) * bytes ≤ 140737488355328) (hbase : base ≤ w.heap.size) :
    ∃ A' cap' w', (Builtin.append_ #[t, tx] ty #[v, x]).run P w = .ok (.slice A' (l.length + ys.length) cap') w' ∧ Ow enc sz w' base e (.slice A' (l.length + ys.length) cap') (l ++ ys) ∧ Only (ownB v) w w' ∧
      (∀ g, (Value.slice A' (l.length + ys.length) cap').ownBlock = some g → v.ownBlock = some g ∨ g = w.heap.size) := by
  obtain ⟨i, hi0, hz, hs1, hb1⟩ := info_parts hi
  subst hs1 hb1
  have hfl := hown.1
  have hyl := hsrc.newsLen
  have hlen : ((l ++ ys).flatMap enc).length = (l ++ ys).length * i.size := by rw [List.flatMap_append, List.length_append, hfl, hyl, List.length_append, Nat.add_mul]
  have hsmall : l.length + ys.length ≤ 9223372036854775807 := by simp only [maxLen] at h63; omega
  have grow : ∀ (bs : Option Addr) (sc : Nat), v = .slice bs l.length sc → sc < l.length + ys.length →
      (Builtin.firstCells i.size l.length (.slice bs l.length sc)).run P w.drew = .ok (l.flatMap enc).toArray w.drew →
      ∃ A' cap' w', (Builtin.append_ #[t, tx] ty #[v, x]).run P w = .ok (.slice A' (l.length + ys.length) cap') w' ∧ Ow enc i.size w' base e (.slice A' (l.length + ys.length) cap') (l ++ ys) ∧ Only (ownB v) w w' ∧
        (∀ g, (Value.slice A' (l.length + ys.length) cap').ownBlock = some g → v.ownBlock = some g ∨ g = w.heap.size) := by
    rintro bs sc rfl hg hold
    have hrun := run_append_grow_src (P := P) w t tx ty e i z ht hi0 hz bs l.length sc (l.flatMap enc) hold x ys.length (ys.flatMap enc) hsrc hg (by omega) (growslice_fits hg hbytes)
    have hge := grownCap_ge w (l.length + ys.length) sc e
    have hcm := grownCap_le_maxLen w (l.length + ys.length) sc e h63
    have hL : ((l.flatMap enc) ++ (ys.flatMap enc)).length = (l.length + ys.length) * i.size := by rw [List.length_append, hfl, hyl, Nat.add_mul]
    refine ⟨_, _, _, hrun, ⟨hlen, .inr ⟨w.heap.size, 0, _, _, by rw [List.length_append], hbase, Blk.new _ _ _, by rw [List.length_append]; exact hge, hcm, ?_, fun j hj => ?_⟩⟩, ?_, ?_⟩
    · rw [Array.size_append, List.size_toArray, hL, size_zeroCells, hzs, ← Nat.add_mul, Nat.zero_add]
      exact Nat.le_of_eq (congrArg (· * i.size) (by omega))
    · rw [List.length_append] at hj
      rw [Nat.zero_add, Array.getElem?_append_left (by simp only [List.size_toArray]; rw [hL]; exact hj), List.getElem?_toArray, List.flatMap_append]
    · exact (Only.refl _ _).drew.alloc _
    · intro g hg'
      simp [Value.ownBlock] at hg'
      exact .inr hg'.symm
  rcases hown.2 with ⟨rfl, rfl⟩ | ⟨g, off, cap, cur, rfl, hb, hh, hl, hm, hs, hc⟩
  · by_cases h0 : ys.length = 0
    · have : ys = [] := List.eq_nil_of_length_eq_zero h0
      subst this
      refine ⟨none, 0, w, ?_, by simpa using hown, Only.refl _ _, fun g hg => by simp [Value.ownBlock] at hg⟩
      have := run_append_nothing (P := P) w t tx ty e i ht hi0 none 0 0 (Nat.le_refl _) x (by simpa using hsrc)
      simpa using this
    · exact grow none 0 rfl (by simp; omega) (by simpa using run_firstCells_none w.drew i.size 0 0 0)
  · by_cases hfit : l.length + ys.length ≤ cap
    · have hmul : (l.length + ys.length) * i.size ≤ cap * i.size := Nat.mul_le_mul_right _ hfit
      rw [Nat.add_mul] at hmul
      have hrun := run_append_room_src (P := P) w t tx ty e i ht hi0 g off l.length cap x ys.length (ys.flatMap enc) hsrc hfit
        (fun j hj => by rw [hh.cell, Array.getElem?_eq_getElem (by omega)]; rfl) (fun j hj => hh.frozen _)
      refine ⟨_, _, _, hrun, ⟨hlen, .inr ⟨g, off, cap, _, by rw [List.length_append], hb, Blk.setCells _ _ _ _ hh, by rw [List.length_append]; exact hfit, hm, by rw [putL_size]; exact hs, fun j hj => ?_⟩⟩, ?_, ?_⟩
      · rw [List.length_append, Nat.add_mul] at hj
        rw [List.flatMap_append]
        by_cases hjl : j < l.length * i.size
        · rw [putL_out _ _ _ _ (.inl (by omega)), hc j hjl, List.getElem?_append_left (by omega)]
        · rw [List.getElem?_append_right (by omega), hfl, show off + j = off + l.length * i.size + (j - l.length * i.size) by omega, putL_in _ _ _ _ (by omega) (by omega)]
      · exact Only.setCells _ _ _ (Only.refl _ _) (fun _ => rfl)
      · intro g' hg'
        exact .inl hg'
    · refine grow _ cap rfl (by omega) ?_
      refine run_firstCells_some w.drew i.size l.length ⟨g, off, none⟩ l.length cap (l.flatMap enc) hfl (fun j u hu => ?_)
      rw [Addr.add_lit]
      have hj := (List.getElem?_eq_some_iff.1 hu).1
      have := hh.drew.cell (off + j)
      rw [this, hc j (by omega)]
      exact hu

theorem wp_app {α : Type} {enc : α → List Value} {sz : Nat} {P : Program} {w : World} {o : Oper} {a : Act} {K : Act → World → Prop} {Q : Exit → Act → World → Prop} (s x : Operand) (t tx : TypeId)
    (ho : o.op = .call { callee := .builtin .append, args := #[s, x], argTypes := #[t, tx] }) (base : Nat) (e : TypeId) (ht : P.underlying t = some (.slice e)) {z : Value} {bytes : Nat}
    (hi : (P.info? e).map (fun i => (i.zero, i.size, i.bytes)) = some (some z, sz, bytes)) (hzs : z.cells.size = sz)
    (v : Value) (l : List α) (hs : a.eval s = v) (hown : Ow enc sz w base e v l) (xv : Value) (ys : List α) (hx : a.eval x = xv) (hsrc : Src P sz tx xv ys.length (ys.flatMap enc) w) (h63 : l.length + ys.length ≤ 1000000000) (hby : bytes ≤ 1000) (hbase : base ≤ w.heap.size)
    (h : ∀ A' cap' w', Ow enc sz w' base e (.slice A' (l.length + ys.length) cap') (l ++ ys) → Only (ownB v) w w' →
      (∀ g, (Value.slice A' (l.length + ys.length) cap').ownBlock = some g → v.ownBlock = some g ∨ g = w.heap.size) → K (a.put o.dst (.slice A' (l.length + ys.length) cap')) w') : o.wp P a w K Q := by
  have hb : (l.length + ys.length) * bytes ≤ 1000000000 * 1000 := Nat.mul_le_mul h63 hby
  obtain ⟨A', cap', w', hr, h2, h3, h4⟩ := run_app (P := P) (w := w) t tx o.type base e ht hi hzs v l hown xv ys hsrc (by simp only [maxLen]; omega) (by omega) hbase
  unfold Oper.wp execOp
  simp only [ho, resolve, invoke, builtin, Sem.run_bind, Sem.run_pure, Result.andThen_ok, List.map_toArray, List.map_cons, List.map_nil, hs, hx, hr]
  exact h A' cap' w' h2 h3 h4
theorem wpList_app {α : Type} {enc : α → List Value} {sz : Nat} {P : Program} {w : World} {ops : Array Oper} {rest : List Oper} {o : Oper} {a : Act} {Q : Exit → Act → World → Prop} (hgd : o.guard = none) (s x : Operand) (t tx : TypeId)
    (ho : o.op = .call { callee := .builtin .append, args := #[s, x], argTypes := #[t, tx] }) (base : Nat) (e : TypeId) (ht : P.underlying t = some (.slice e)) {z : Value} {bytes : Nat}
    (hi : (P.info? e).map (fun i => (i.zero, i.size, i.bytes)) = some (some z, sz, bytes)) (hzs : z.cells.size = sz)
    (v : Value) (l : List α) (hs : a.eval s = v) (hown : Ow enc sz w base e v l) (xv : Value) (ys : List α) (hx : a.eval x = xv) (hsrc : Src P sz tx xv ys.length (ys.flatMap enc) w) (h63 : l.length + ys.length ≤ 1000000000) (hby : bytes ≤ 1000) (hbase : base ≤ w.heap.size)
    (h : ∀ A' cap' w', Ow enc sz w' base e (.slice A' (l.length + ys.length) cap') (l ++ ys) → Only (ownB v) w w' →
      (∀ g, (Value.slice A' (l.length + ys.length) cap').ownBlock = some g → v.ownBlock = some g ∨ g = w.heap.size) → wpList P ops Q rest (a.put o.dst (.slice A' (l.length + ys.length) cap')) w') : wpList P ops Q (o :: rest) a w :=
  wpList_plain hgd fun _ hK => wp_app s x t tx ho base e ht hi hzs v l hs hown xv ys hx hsrc h63 hby hbase fun A' cap' w' h2 h3 h4 => hK _ _ (h A' cap' w' h2 h3 h4)

/-- the same at a step of a region that draws its order -/
theorem step_app {α : Type} {enc : α → List Value} {sz : Nat} {P : Program} {w : World} {ops : Array Oper} {o : Oper} {a : Act} {K : Act → World → Prop} {Q : Exit → Act → World → Prop} {E : Prop} (hgd : o.guard = none) (s x : Operand) (t tx : TypeId)
    (ho : o.op = .call { callee := .builtin .append, args := #[s, x], argTypes := #[t, tx] }) (base : Nat) (e : TypeId) (ht : P.underlying t = some (.slice e)) {z : Value} {bytes : Nat}
    (hi : (P.info? e).map (fun i => (i.zero, i.size, i.bytes)) = some (some z, sz, bytes)) (hzs : z.cells.size = sz)
    (v : Value) (l : List α) (hs : a.eval s = v) (hown : Ow enc sz w base e v l) (xv : Value) (ys : List α) (hx : a.eval x = xv) (hsrc : Src P sz tx xv ys.length (ys.flatMap enc) w) (h63 : l.length + ys.length ≤ 1000000000) (hby : bytes ≤ 1000) (hbase : base ≤ w.heap.size)
    (h : ∀ A' cap' w', Ow enc sz w' base e (.slice A' (l.length + ys.length) cap') (l ++ ys) → Only (ownB v) w w' →
      (∀ g, (Value.slice A' (l.length + ys.length) cap').ownBlock = some g → v.ownBlock = some g ∨ g = w.heap.size) → K (a.put o.dst (.slice A' (l.length + ys.length) cap')) w') :
    if Region.wanted o (yielded ops a.tmps) = true then Oper.wp P o a w K Q else E := by
  have hw : Region.wanted o (yielded ops a.tmps) = true := by simp [Region.wanted, hgd]
  rw [if_pos hw]
  exact wp_app s x t tx ho base e ht hi hzs v l hs hown xv ys hx hsrc h63 hby hbase h

/-- what a new block of one element yields, behind another slice -/
theorem Src.one {α : Type} {enc : α → List Value} {sz : Nat} {P : Program} {w : World} {tx e' : TypeId} (hk : P.underlying tx = some (.slice e')) (y : α) {B : Nat} (c : Nat) (hl : (enc y).length = sz) {cs : Array Value} {t' : TypeId}
    (hB : Blk w B t' cs) (hcs : cs.toList = enc y) (h1 : ∀ u ∈ enc y, u.oneCell' = true) : Src P sz tx (.slice (some ⟨B, 0, none⟩) 1 c) [y].length ([y].flatMap enc) w := by
  refine Src.ofSlice w hk ⟨B, 0, none⟩ 1 c _ (by simp [hl]) (fun j u hu => World.news_of_block (w := w) (B := B) (cs := cs) hB j u ?_) (by simpa using h1)
  rw [hcs]
  simpa using hu
/-- what a slice yields whose elements are known -/
theorem Src.sq {α : Type} {enc : α → List Value} {sz : Nat} {P : Program} {w : World} {tx e' : TypeId} (hk : P.underlying tx = some (.slice e')) {B : Nat} {A : Option Addr} {l : List α} (c : Nat) (h : Sq enc sz w B A l) (hsz : ∀ x ∈ l, (enc x).length = sz)
    (hA : A = none → l = []) (h1 : ∀ x ∈ l, ∀ u ∈ enc x, u.oneCell' = true) (hpos : 0 < sz) : Src P sz tx (.slice A l.length c) l.length (l.flatMap enc) w := by
  have h1' : ∀ u ∈ l.flatMap enc, u.oneCell' = true := fun u hu => by
    obtain ⟨x, hx, hu⟩ := List.mem_flatMap.1 hu
    exact h1 x hx u hu
  match A with
  | none =>
    have := hA rfl
    subst this
    exact Src.ofNil w hk c
  | some a =>
    refine Src.ofSlice w hk a l.length c _ (flat_len hsz) (fun j u hu => ?_) h1'
    have hj := (List.getElem?_eq_some_iff.1 hu).1
    rw [flat_len hsz] at hj
    have hl : 0 < l.length := by
      rcases Nat.eq_zero_or_pos l.length with h0 | h0
      · rw [h0] at hj
        omega
      · exact h0
    obtain ⟨b, off, e, hb, hc⟩ := h hl
    injection e with e
    subst e
    have hq : j / sz < l.length := Nat.div_lt_of_lt_mul (by rw [Nat.mul_comm]; exact hj)
    have hr : j % sz < sz := Nat.mod_lt _ hpos
    have hdm : j / sz * sz + j % sz = j := by rw [Nat.mul_comm]; exact Nat.div_add_mod j sz
    have h2 := hc (j / sz) _ (List.getElem?_eq_getElem hq) (j % sz) hr
    have h3 := flat_at hsz (List.getElem?_eq_getElem hq) hr
    rw [hdm] at h3
    rw [Addr.add_lit, ← hu, h3, ← h2, Nat.add_assoc, hdm]
end Go.Proofs.YtjhjfgelcbphjaaDoor
