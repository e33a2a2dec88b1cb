/- A map of numbers by numbers that the call has made. No condition. -/
import Derived.Test.YtlnemadkggfmbaaInts
import Derived.Maps.Own
import Derived.Maps.OwnOps
import Derived.Maps.Views
namespace Go.Proofs.Ytlnemadkggfmbaa
open Go.RowKit Go.Maps

theorem zkey : Keyed Try.prog 3 := int_keyed Try.underlying3
theorem zzero (w : World) : (zeroValue 3).run Try.prog w = .ok (.int .i64 0) w := by kernel_rfl
theorem i64_wf {k : Int} (h : i64Ok k) : (Lit.int .i64 k).wf = true := by
  simpa [Lit.wf, IntKind.min, IntKind.max, IntKind.signed, IntKind.bits, i64Ok] using h
/-- block b is a map of at most n entries that tells these numbers -/
def MapZ (w : World) (b n : Nat) (F : Int → Int) : Prop :=
  ∃ D : DataW Unit, w.ownsMap Try.prog 3 (plainElem Try.prog 3) b n D ∧ IsMap D ∧ ∀ z, i64Ok z → D.atKey (.int .i64 z) (.lit (.int .i64 0)) = .lit (.int .i64 (F z))
def upd (F : Int → Int) (k y : Int) : Int → Int := fun z => if z = k then y else F z
section
variable {w w' : World} {b n : Nat} {F : Int → Int}
theorem MapZ.made (w : World) : MapZ (w.alloc (.map #[] 0)) w.heap.size 0 (fun _ => 0) := ⟨.map [], World.ownsMap_made _ _ _ _, isMap_empty, fun _ _ => rfl⟩
theorem Only.grown {S : Nat → Prop} (ho : Only S w w') (hn : ¬ S b) (hb : b < w.heap.size) : w'.heap[b]? = w.heap[b]? := ho.block b hb hn
theorem MapZ.kept {S : Nat → Prop} (h : MapZ w b n F) (ho : Only S w w') (hn : ¬ S b) : MapZ w' b n F := by
  obtain ⟨D, hD, hi, ha⟩ := h
  obtain ⟨es, clock, hb, F', hs, e⟩ := hD
  exact ⟨D, ⟨es, clock, (ho.block b (Array.getElem?_eq_some_iff.1 hb).1 hn).trans hb, F', hs, e⟩, hi, ha⟩
theorem MapZ.lt (h : MapZ w b n F) : b < w.heap.size := by
  obtain ⟨D, hD, _⟩ := h
  exact hD.lt
theorem MapZ.more (h : MapZ w b n F) {m : Nat} (hm : n ≤ m) : MapZ w b m F := by
  obtain ⟨D, hD, hi, ha⟩ := h
  exact ⟨D, hD.mono hm, hi, ha⟩
/-- it is no block of cells -/
theorem MapZ.no (h : MapZ w b n F) {t : TypeId} {cs : Array Value} (hb : Blk w b t cs) : False := by
  obtain ⟨D, ⟨es, clock, hm, _⟩, _⟩ := h
  unfold Blk at hb
  rw [hb] at hm
  injection hm with hm
  cases hm
theorem MapZ.get (h : MapZ w b n F) {k : Int} (hk : i64Ok k) : (Instr.lookup 39 (.map (some b)) (.int .i64 k) false).run Try.prog w = .ok (.int .i64 (F k)) w := by
  obtain ⟨D, hD, _, ha⟩ := h
  obtain ⟨c, hr, hc, _⟩ := hD.lookup_int zkey Try.underlying39 Try.underlying3 (zzero _) (keyOf_int_mk Try.underlying3 (i64_wf hk))
  rw [ha k hk] at hc
  injection hc with hc
  injection hc with _ hc
  rw [hr, ← hc]
theorem MapZ.put (h : MapZ w b n F) (hn : n ≤ 1000000) {k y : Int} (hk : i64Ok k) (hy : i64Ok y) :
    ∃ w', (Instr.mapUpdate 39 (.map (some b)) (.int .i64 k) (.int .i64 y)).run Try.prog w = .ok () w' ∧ MapZ w' b (n + 1) (upd F k y) ∧ Only (One b) w w' := by
  obtain ⟨D, hD, hi, ha⟩ := h
  obtain ⟨w', hr, hD', hg⟩ := hD.update zkey Try.underlying39 (by unfold maxLen; omega) (keyOf_int_mk Try.underlying3 (i64_wf hk)) (plainElem_int Try.underlying3 (i64_wf hy))
  refine ⟨w', hr, ⟨_, hD', hi.put _ _, fun z hz => ?_⟩, (Only.of_grown hg).weaken fun i _ hh => by injection hh with hh; exact hh.symm⟩
  unfold upd
  by_cases e : z = k
  · subst e
    rw [if_pos rfl, atKey_put_same hi (by simp [WideAt.IsKeyLit])]
  · rw [if_neg e, atKey_put_other (fun hh => e (by injection hh)), ha z hz]
end
end Go.Proofs.Ytlnemadkggfmbaa
