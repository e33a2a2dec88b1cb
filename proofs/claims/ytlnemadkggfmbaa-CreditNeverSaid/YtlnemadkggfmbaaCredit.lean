/- A ledger of the call's own: what lies where; where a stream stands in it. -/
import Derived.Test.YtlnemadkggfmbaaWindow
import Derived.Test.YtlnemadkggfmbaaInts
import Derived.Test.YtlnemadkggfmbaaCopyN
namespace Go.Proofs.Ytlnemadkggfmbaa
open Go.RowKit

/-- a stream's number, what was spent, its window's size and block -/
structure Gn where
  id : Int
  s : Int
  n : Int
  b : Nat
structure Ac where
  id : Int
  s : Int
  p : Option Addr
def encA (x : Ac) : List Value := [.int .i64 x.id, .int .i64 x.s, .pointer x.p]
theorem encA_len : ∀ x, (encA x).length = 3 := fun _ => rfl
theorem encA_one : ∀ x, ∀ u ∈ encA x, u.oneCell' = true := fun x u hu => by simp [encA] at hu; rcases hu with rfl | rfl | rfl <;> rfl
theorem acc_info : (Try.prog.info? 61).map (fun i => (i.zero, i.size, i.bytes)) = some (some (.agg #[.int .i64 0, .int .i64 0, .pointer none]), 3, 24) := by kernel_rfl
theorem acc_size : (Try.prog.info? 61).map (·.size) = some 3 := by kernel_rfl
def Gn.ac (g : Gn) : Ac := ⟨g.id, g.s, some ⟨g.b, 0, none⟩⟩
abbrev acs (L : List Gn) : List Ac := L.map Gn.ac
/-- what is a ledger's -/
structure Lg (w : World) (b cb base : Nat) (C S : Int) (v : Value) (L : List Gn) : Prop where
  blk : Blk w b 54 #[.pointer (some ⟨cb, 0, none⟩), .int .i64 S, v]
  conn : Win w cb C
  own : Ow encA 3 w base 61 v (acs L)
  wins : ∀ x ∈ L, Win w x.b x.n
  nd : (cb :: L.map (·.b)).Nodup
  hb : base ≤ b
  hc : base ≤ cb
  hw : ∀ x ∈ L, base ≤ x.b
/-- its blocks -/
def Ft (b cb : Nat) (v : Value) (L : List Gn) : Nat → Prop := fun k => k = b ∨ k = cb ∨ v.ownBlock = some k ∨ ∃ x ∈ L, x.b = k
def myT (t : TypeId) : Prop := t = 54 ∨ t = 61 ∨ t = 68
/-- blocks of other types stay -/
def Oth (w w' : World) : Prop := ∀ g t cs, Blk w g t cs → ¬ myT t → Blk w' g t cs
theorem Oth.refl (w : World) : Oth w w := fun _ _ _ h _ => h
theorem Oth.trans {w w' w'' : World} (h : Oth w w') (k : Oth w' w'') : Oth w w'' := fun g t cs hb h1 => k g t cs (h g t cs hb h1) h1
theorem Oth.of_nil {w w' : World} (ho : Only Nil w w') : Oth w w' := fun _ _ _ h _ => h.kept ho (fun hh => hh)
theorem Blk.inj {w : World} {g : Nat} {t t' : TypeId} {cs cs' : Array Value} (h : Blk w g t cs) (h' : Blk w g t' cs') : t = t' ∧ cs = cs' := by
  unfold Blk at h h'
  rw [h] at h'
  injection h' with h'
  injection h' with h1 h2
  exact ⟨h2, h1⟩
theorem Ow.blkOf {α : Type} {enc : α → List Value} {sz : Nat} {w : World} {base : Nat} {e : TypeId} {v : Value} {l : List α} (h : Ow enc sz w base e v l) {g : Nat} (hg : v.ownBlock = some g) : ∃ cs, Blk w g e cs := by
  rcases h.2 with ⟨rfl, _⟩ | ⟨g', off, cap, cur, rfl, _, hh, _⟩
  · simp [Value.ownBlock] at hg
  · simp [Value.ownBlock] at hg
    subst hg
    exact ⟨_, hh⟩
section
variable {w w' : World} {b cb base : Nat} {C S : Int} {v : Value} {L : List Gn}
theorem Lg.my (h : Lg w b cb base C S v L) {k : Nat} (hk : Ft b cb v L k) : base ≤ k ∧ ∃ t cs, Blk w k t cs ∧ myT t := by
  rcases hk with rfl | rfl | hk | ⟨x, hx, rfl⟩
  · exact ⟨h.hb, _, _, h.blk, .inl rfl⟩
  · exact ⟨h.hc, _, _, h.conn, .inr (.inr rfl)⟩
  · obtain ⟨cs, hc⟩ := h.own.blkOf hk
    exact ⟨(h.own.lt hk).1, _, _, hc, .inr (.inl rfl)⟩
  · exact ⟨h.hw x hx, _, _, h.wins x hx, .inr (.inr rfl)⟩
theorem Lg.oth (h : Lg w b cb base C S v L) (ho : Only (Ft b cb v L) w w') : Oth w w' := fun g t cs hb ht => hb.kept ho fun hh => by
  obtain ⟨_, t', cs', hB, hm⟩ := h.my hh
  rw [(hb.inj hB).1] at ht
  exact ht hm
theorem Lg.sz (h : Lg w b cb base C S v L) : base ≤ w.heap.size := by have := h.hb; have := h.blk.lt; omega
theorem Lg.bel (h : Lg w b cb base C S v L) (ho : Only (Ft b cb v L) w w') : Below base w w' := ho.below h.sz fun i hi hh => by have := (h.my hh).1; omega
theorem Lg.keptS {Z : Nat → Prop} (h : Lg w b cb base C S v L) (ho : Only Z w w') (hz : ∀ k, Z k → ∀ t cs, Blk w k t cs → ¬ myT t) : Lg w' b cb base C S v L := by
  have hn : ∀ k, Ft b cb v L k → ¬ Z k := fun k hk hh => by
    obtain ⟨_, t, cs, hB, hm⟩ := h.my hk
    exact hz k hh t cs hB hm
  exact ⟨h.blk.kept ho (hn b (.inl rfl)), h.conn.kept ho (hn cb (.inr (.inl rfl))), h.own.kept ho (fun g hg => hn g (.inr (.inr (.inl hg)))), fun x hx => (h.wins x hx).kept ho (hn x.b (.inr (.inr (.inr ⟨x, hx, rfl⟩)))), h.nd, h.hb, h.hc, h.hw⟩
theorem Lg.kept (h : Lg w b cb base C S v L) (ho : Only Nil w w') : Lg w' b cb base C S v L := h.keptS ho fun _ hh => hh.elim
theorem Lg.facts (h : Lg w b cb base C S v L) : w.cell? ⟨b, 0, none⟩ = some (.pointer (some ⟨cb, 0, none⟩)) ∧ w.cell? ⟨b, 1, none⟩ = some (.int .i64 S) ∧ w.cell? ⟨b, 2, none⟩ = some v :=
  ⟨h.blk.cell 0, h.blk.cell 1, h.blk.cell 2⟩
theorem acs_at {L : List Gn} {i : Nat} {x : Gn} (hx : L[i]? = some x) : (acs L)[i]? = some x.ac := by simp [acs, hx]
/-- the three cells of the i-th stream -/
theorem Lg.row {A : Option Addr} {n cap : Nat} (h : Lg w b cb base C S (.slice A n cap) L) {i : Nat} {x : Gn} (hx : L[i]? = some x) : ∃ g o, A = some ⟨g, o, none⟩ ∧ g < w.heap.size ∧
    w.cell? ⟨g, o + i * 3, none⟩ = some (.int .i64 x.id) ∧ w.cell? ⟨g, o + i * 3 + 1, none⟩ = some (.int .i64 x.s) ∧ w.cell? ⟨g, o + i * 3 + 2, none⟩ = some (.pointer (some ⟨x.b, 0, none⟩)) := by
  obtain ⟨g, o, y, rfl, hg, hy, _, hc⟩ := (h.own.sq (fun x _ => encA_len x) rfl).at_ (k := i) (by have := (List.getElem?_eq_some_iff.1 hx).1; simpa using this)
  rw [acs_at hx] at hy
  injection hy with hy
  subst hy
  exact ⟨g, o, rfl, hg, hc 0 (by decide), hc 1 (by decide), hc 2 (by decide)⟩
theorem Lg.win (h : Lg w b cb base C S v L) {i : Nat} {x : Gn} (hx : L[i]? = some x) : Win w x.b x.n := h.wins x (List.mem_of_getElem? hx)
def NewL (w : World) (n : Int) (x : Ending) (w' : World) : Prop := ∃ b cb, x = .returned (.tuple #[.pointer (some ⟨b, 0, none⟩), .int .i64 0]) ∧ Lg w' b cb w.heap.size n 0 (.slice none 0 0) [] ∧ Only Nil w w'
theorem New_any (n : Int) (w : World) (hn : 0 ≤ n ∧ n ≤ 2147483647) : Calls Try.prog 6 #[.int .i64 n] w (NewL w n) := by
  go_enter Try.func6, Try.ntmps6
  go_wp2_with (first
    | (go_at_call 20; (with_reducible refine (new_any _ _ hn).mono ?_); rintro e w1 ⟨cb, rfl, hcb, ho1, hW1⟩)
    )
  go_ret2
  have := ho1.size
  exact ⟨_, cb, rfl, ⟨Blk.new _ _ _, hW1.alloc _, Ow.nil, by simp, by simp, ho1.size, hcb, by simp⟩, ho1.alloc _⟩
theorem New_bad (n : Int) (w : World) (hn : ¬ (0 ≤ n ∧ n ≤ 2147483647)) : Calls Try.prog 6 #[.int .i64 n] w fun x w' => x = .returned (.tuple #[.pointer none, .int .i64 3]) ∧ w = w' := by
  go_enter Try.func6, Try.ntmps6
  go_wp2_with (first
    | (go_at_call 20; (with_reducible refine (new_bad _ _ hn).mono ?_); rintro e w1 ⟨rfl, rfl⟩)
    )
  go_ret2
  exact ⟨rfl, rfl⟩
/-- where a number stands, or would stand -/
def Pc (L : List Gn) (id : Int) (r : Nat) : Prop := r ≤ L.length ∧ (∀ (j : Nat) x, L[j]? = some x → j < r → x.id < id) ∧ ∀ x, L[r]? = some x → id ≤ x.id
def pcB (L : List Gn) (id : Int) (r : Nat) : Bool := (L[r]?.map (·.id)) == some id
def PcPost (w : World) (L : List Gn) (id : Int) (x : Ending) (w' : World) : Prop := ∃ r : Nat, x = .returned (.tuple #[.int .i64 r, .bool (pcB L id r)]) ∧ Pc L id r ∧ Only Nil w w'
set_option maxHeartbeats 2000000 in
theorem place_any (id : Int) (w : World) (h : Lg w b cb base C S v L) (hl : L.length ≤ 1000) : Calls Try.prog 30 #[.pointer (some ⟨b, 0, none⟩), .int .i64 id] w (PcPost w L id) := by
  obtain ⟨A, cap, rfl, hcp, hm⟩ := h.own.form
  obtain ⟨c0, c1, c2⟩ := h.facts
  rw [List.length_map] at c2 h hcp
  generalize hn : L.length = n at *
  go_enter Try.func30, Try.ntmps30
  go_wp2
  go_loopw [13] (fun ii wr => ∃ k : Nat, k ≤ n ∧ ii = .int .i64 k ∧ (∀ (j : Nat) x, L[j]? = some x → j < k → x.id < id) ∧ Only Nil w wr) (fun ii _ => n - (intOf ii).toNat)
  case atStart => exact ⟨0, Nat.zero_le _, rfl, fun j x _ hj => absurd hj (Nat.not_lt_zero _), Only.refl _ _⟩
  case round =>
    obtain ⟨k, hk, rfl, hlo, ho⟩ := hrel
    by_cases hlt : k < n
    · obtain ⟨x, hx⟩ : ∃ x, L[k]? = some x := ⟨_, List.getElem?_eq_getElem (by omega)⟩
      obtain ⟨g, o, rfl, hg, e0, e1, e2⟩ := (h.kept ho).row hx
      have hki : (k : Int) < n := by omega
      by_cases hge : id ≤ x.id
      · have hfin : Hid (pcB L id k = (x.id == id)) := Lib.hid (by simp [pcB, hx])
        have hp : Hid (Pc L id k) := Lib.hid ⟨by omega, hlo, fun y hy => by rw [hx] at hy; injection hy with hy; subst hy; exact hge⟩
        clear hlo hx hn
        go_wp2
        go_quiet (fail)
        go_wp2
        go_ret2
        exact ⟨k, by rw [hfin.out]; rfl, hp.out, (ho.alloc _).drewN _⟩
      · have hlt' : x.id < id := by omega
        have hnew : Hid (∀ (j : Nat) y, L[j]? = some y → j < k + 1 → y.id < id) := Lib.hid fun j y hy hj => by
          rcases Nat.eq_or_lt_of_le (Nat.le_of_lt_succ hj) with e | e
          · subst e
            rw [hx] at hy
            injection hy with hy
            subst hy
            exact hlt'
          · exact hlo j y hy e
        clear hlo hx hn
        go_wp2
        go_roundw
        case rel => exact ⟨k + 1, by omega, by go_num, hnew.out, ho.alloc _⟩
        case measure => simp [intOf]; omega
    · obtain rfl : k = n := by omega
      have hx : L[k]? = none := List.getElem?_eq_none (by omega)
      have hfin : Hid (pcB L id k = false) := Lib.hid (by simp [pcB, hx])
      have hp : Hid (Pc L id k) := Lib.hid ⟨by omega, hlo, fun y hy => by rw [hx] at hy; cases hy⟩
      clear hlo hx hn
      obtain ⟨c0, c1, c2⟩ := (h.kept ho).facts
      go_wp2
      go_ret2
      exact ⟨k, by rw [hfin.out]; rfl, hp.out, ho⟩
end
end Go.Proofs.Ytlnemadkggfmbaa
