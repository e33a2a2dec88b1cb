/- What each function of package link does to a link of the call's own. -/
import Derived.Test.YtkkbjdbfelaedaaRows
import Derived.Test.YtkkbjdbfelaedaaBytes
namespace Go.Proofs.Ytkkbjdbfelaedaa
open Go.RowKit

theorem u8_info : (Try.prog.info? 5).map (fun i => (i.zero, i.size, i.bytes)) = some (some (.int .u8 0), 1, 1) := by kernel_rfl
theorem Ow.drewN {α : Type} {enc : α → List Value} {sz : Nat} {w : World} {base : Nat} {e : TypeId} {v : Value} {l : List α} (h : Ow enc sz w base e v l) (n : Nat) : Ow enc sz (w.drewN n) base e v l := h
structure Lk (w : World) (b base : Nat) (v : Value) (L : List UInt8) (lim came took : Int) : Prop where
  blk : Blk w b 42 #[v, .int .i64 lim, .int .i64 came, .int .i64 took]
  own : Ow encB 1 w base 5 v L
  hb : base ≤ b
theorem Lk.sz {w : World} {b base : Nat} {v : Value} {L : List UInt8} {lim came took : Int} (h : Lk w b base v L lim came took) : base ≤ w.heap.size := by have := h.hb; have := h.blk.lt; omega
theorem Lk.kept {w w' : World} {b base : Nat} {v : Value} {L : List UInt8} {lim came took : Int} (h : Lk w b base v L lim came took) (ho : Only Nil w w') : Lk w' b base v L lim came took :=
  ⟨h.blk.kept ho (fun hh => hh), h.own.kept ho (fun _ _ hh => hh), h.hb⟩
theorem Lk.facts {w : World} {b base : Nat} {v : Value} {L : List UInt8} {lim came took : Int} (h : Lk w b base v L lim came took) :
    w.cell? ⟨b, 0, none⟩ = some v ∧ w.cell? ⟨b, 1, none⟩ = some (.int .i64 lim) ∧ w.cell? ⟨b, 2, none⟩ = some (.int .i64 came) ∧ w.cell? ⟨b, 3, none⟩ = some (.int .i64 took) := ⟨h.blk.cell 0, h.blk.cell 1, h.blk.cell 2, h.blk.cell 3⟩
/-- blocks of another type than a link's, or bytes, are as they were -/
def Oth (w w' : World) : Prop := ∀ g t cs, Blk w g t cs → 42 ≠ t → 5 ≠ t → Blk w' g t cs
theorem Oth.of_nil {w w' : World} (ho : Only Nil w w') : Oth w w' := fun _ _ _ h _ _ => h.kept ho (fun hh => hh)
theorem Oth.trans {w w' w'' : World} (h : Oth w w') (k : Oth w' w'') : Oth w w'' := fun g t cs hb h1 h2 => k g t cs (h g t cs hb h1 h2) h1 h2
theorem Oth.own {w0 w w' : World} {base : Nat} {v : Value} {L : List UInt8} (h : Oth w0 w) (hO : Ow encB 1 w base 5 v L) (ho : Only (ownB v) w w') : Oth w0 w' := fun g t cs hb h1 h2 => by
  have h3 := h g t cs hb h1 h2
  exact h3.kept ho (fun hh => (hO.ne h3 h2) hh)
theorem Blk.type {w : World} {b : Nat} {t t' : TypeId} {cs cs' : Array Value} (h : Blk w b t cs) (h' : Blk w b t' cs') : t = t' := by
  unfold Blk at h h'
  rw [h] at h'
  injection h' with h'
  injection h'
theorem Oth.set {w0 w : World} {b : Nat} {cs : Array Value} (h : Oth w0 w) (hB : Blk w b 42 cs) (i : Nat) (u : Value) : Oth w0 (w.setCell ⟨b, i, none⟩ u) := fun g t cs' hb h1 h2 => by
  have h3 := h g t cs' hb h1 h2
  exact h3.far (p := ⟨b, i, none⟩) (by rintro rfl; exact h1 (hB.type h3)) u
def LkPost (w : World) (b base : Nat) (r : Value) (L : List UInt8) (lim came took : Int) (x : Ending) (w' : World) : Prop := ∃ v, x = .returned r ∧ Lk w' b base v L lim came took ∧ Below base w w' ∧ Oth w w'

theorem New_any (lim : Int) (w : World) (h0 : 0 ≤ lim) (h1 : lim ≤ 1048576) (base : Nat) (hbase : base ≤ w.heap.size) :
    Calls Try.prog 6 #[.int .i64 lim] w fun x w' => ∃ b, x = .returned (.tuple #[.pointer (some ⟨b, 0, none⟩), .int .i64 0]) ∧ Only Nil w w' ∧ Lk w' b base (.slice none 0 0) [] lim 0 0 := by
  go_enter Try.func6, Try.ntmps6
  go_wp2
  go_ret2
  exact ⟨w.heap.size, rfl, (Only.refl _ _).alloc _, Blk.new _ _ _, Ow.nil, hbase⟩
theorem New_out (lim : Int) (w : World) (h : lim < 0 ∨ 1048576 < lim) : Calls Try.prog 6 #[.int .i64 lim] w fun x w' => x = .returned (.tuple #[.pointer none, .int .i64 3]) ∧ w = w' := by
  by_cases h0 : lim < 0
  · clear h
    go_enter Try.func6, Try.ntmps6
    go_wp2
    go_ret2
    exact ⟨rfl, rfl⟩
  · have h1 : 1048576 < lim := by omega
    clear h
    go_enter Try.func6, Try.ntmps6
    go_wp2
    go_ret2
    exact ⟨rfl, rfl⟩
section
variable {w : World} {b base : Nat} {v : Value} {L : List UInt8} {lim came took : Int}
theorem Len_any (w : World) (h : Lk w b base v L lim came took) : Calls Try.prog 14 #[.pointer (some ⟨b, 0, none⟩)] w fun x w' => x = .returned (.int .i64 L.length) ∧ w = w' := by
  obtain ⟨A, cap, rfl, hc, hm⟩ := h.own.form
  obtain ⟨c0, c1, c2, c3⟩ := h.facts
  go_enter Try.func14, Try.ntmps14
  go_wp2
  go_ret
  exact ⟨rfl, rfl⟩
theorem Len_nil (w : World) : Calls Try.prog 14 #[.pointer none] w fun x w' => x = .returned (.int .i64 0) ∧ w = w' := by
  go_enter Try.func14, Try.ntmps14
  go_wp2
  go_ret
  exact ⟨rfl, rfl⟩
theorem Total_any (w : World) (h : Lk w b base v L lim came took) : Calls Try.prog 13 #[.pointer (some ⟨b, 0, none⟩)] w fun x w' => x = .returned (.tuple #[.int .i64 came, .int .i64 took]) ∧ Only Nil w w' := by
  obtain ⟨c0, c1, c2, c3⟩ := h.facts
  go_enter Try.func13, Try.ntmps13
  go_wp2
  go_quiet (fail)
  go_wp2
  go_ret2
  exact ⟨rfl, (Only.refl _ _).drewN _⟩
theorem Total_nil (w : World) : Calls Try.prog 13 #[.pointer none] w fun x w' => x = .returned (.tuple #[.int .i64 0, .int .i64 0]) ∧ w = w' := by
  go_enter Try.func13, Try.ntmps13
  go_wp2
  go_ret2
  exact ⟨rfl, rfl⟩
theorem Push_nil (S : ByteArray) (w : World) : Calls Try.prog 11 #[.pointer none, .string S] w fun x w' => x = .returned (.int .i64 1) ∧ w = w' := by
  go_enter Try.func11, Try.ntmps11
  go_wp2
  go_ret
  exact ⟨rfl, rfl⟩
theorem Ahead_nil (S : ByteArray) (w : World) : Calls Try.prog 10 #[.pointer none, .string S] w fun x w' => x = .returned (.int .i64 1) ∧ w = w' := by
  go_enter Try.func10, Try.ntmps10
  go_wp2
  go_ret
  exact ⟨rfl, rfl⟩
set_option maxHeartbeats 1000000 in
theorem Push_full (S : ByteArray) (w : World) (h : Lk w b base v L lim came took) (hl : L.length ≤ 1048576) (h0 : 0 ≤ lim) (h1 : lim ≤ 1048576) (hf : lim < (L.length : Int) + S.size) :
    Calls Try.prog 11 #[.pointer (some ⟨b, 0, none⟩), .string S] w (LkPost w b base (.int .i64 9) L lim came took) := by
  obtain ⟨A, cap, rfl, hc, hm⟩ := h.own.form
  obtain ⟨c0, c1, c2, c3⟩ := h.facts
  have hf' : decide (lim - (L.length : Int) < (S.size : Int)) = true := by simp; omega
  go_enter Try.func11, Try.ntmps11
  go_wp2
  go_quiet (fail)
  go_wp2
  go_ret
  exact ⟨_, rfl, ⟨Blk.drewN h.blk _, Ow.drewN h.own _, h.hb⟩, ((Only.refl Nil w).drewN _).below h.sz (fun _ _ hh => hh), Oth.of_nil ((Only.refl Nil w).drewN _)⟩
set_option maxHeartbeats 1000000 in
theorem Ahead_full (S : ByteArray) (w : World) (h : Lk w b base v L lim came took) (hl : L.length ≤ 1048576) (h0 : 0 ≤ lim) (h1 : lim ≤ 1048576) (hf : lim < (L.length : Int) + S.size) :
    Calls Try.prog 10 #[.pointer (some ⟨b, 0, none⟩), .string S] w (LkPost w b base (.int .i64 9) L lim came took) := by
  obtain ⟨A, cap, rfl, hc, hm⟩ := h.own.form
  obtain ⟨c0, c1, c2, c3⟩ := h.facts
  have hf' : decide (lim - (L.length : Int) < (S.size : Int)) = true := by simp; omega
  go_enter Try.func10, Try.ntmps10
  go_wp2
  go_quiet (fail)
  go_wp2
  go_ret
  exact ⟨_, rfl, ⟨Blk.drewN h.blk _, Ow.drewN h.own _, h.hb⟩, ((Only.refl Nil w).drewN _).below h.sz (fun _ _ hh => hh), Oth.of_nil ((Only.refl Nil w).drewN _)⟩
set_option maxHeartbeats 2000000 in
theorem Push_ok (S : ByteArray) (w : World) (h : Lk w b base v L lim came took) (h0 : 0 ≤ lim) (h1 : lim ≤ 1048576) (hf : (L.length : Int) + S.size ≤ lim) (k0 : 0 ≤ came) (k1 : came ≤ 10000000) :
    Calls Try.prog 11 #[.pointer (some ⟨b, 0, none⟩), .string S] w (LkPost w b base (.int .i64 0) (L ++ S.data.toList) lim (came + S.size) took) := by
  have hsz := h.sz
  have hSl : S.data.toList.length = S.size := by simp
  obtain ⟨A, cap, rfl, hc, hm⟩ := h.own.form
  obtain ⟨c0, c1, c2, c3⟩ := h.facts
  have hO := h.own
  have hB := h.blk
  have hf' : decide (lim - (L.length : Int) < (S.size : Int)) = false := by simp; omega
  go_enter Try.func11, Try.ntmps11
  go_wp2
  go_quiet (fail)
  go_wp2_with (first
    | (at_builtin
       refine wpList_app rfl (.tmp 26) (.tmp 27) _ _ rfl base 5 Try.underlying40 u8_info rfl _ L rfl (Ow.drewN hO _) _ S.data.toList rfl (Src.str Try.underlying9 S) (by omega) (by decide) (by simpa using hsz) ?_
       intro A6 c6 w6 hown6 ho6 hg6
       have hne : (Value.slice A L.length cap).ownBlock ≠ some b := hO.ne hB (by decide)
       have hB6 := (Blk.drewN hB _).kept ho6 hne
       have d0 := hB6.cell 0
       have d2 := hB6.cell 2
       have g0 := hB6.frozen 0
       have g2 := hB6.frozen 2
       have hT6 := (Oth.of_nil ((Only.refl Nil w).drewN _)).own (Ow.drewN hO _) ho6
       have hBe := (((Only.refl Nil w).drewN _).below hsz (fun _ _ hh => hh)).trans (ho6.below (by simpa using hsz) (fun i hi hh => by have := (hO.lt hh).1; omega)))
    )
  go_ret
  have hne6 : (Value.slice A6 (L.length + S.data.toList.length) c6).ownBlock ≠ some b := hown6.ne hB6 (by decide)
  exact ⟨_, rfl, ⟨Blk.set (Blk.set hB6 0 _) 2 _, (hown6.set hne6 0 _).set hne6 2 _, h.hb⟩, (hBe.setCell (p := ⟨b, 0, none⟩) h.hb _).setCell (p := ⟨b, 2, none⟩) h.hb _, (hT6.set hB6 0 _).set (hB6.set 0 _) 2 _⟩
end
end Go.Proofs.Ytkkbjdbfelaedaa
