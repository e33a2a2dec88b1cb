/- A call of both queues, the program's and the document's: they answer alike. -/
import Derived.Test.YtfffaifbfojnpaaQueue5
namespace Go.Proofs.Ytfffaifbfojnpaa
open Go.RowKit

theorem Blk.fp {T : TypeId} {w w' : World} {b base : Nat} {cp st : Int} {v : Value} {L : List ByteArray} {a t d : Int} {g : Nat} {ty : TypeId} {cs : Array Value} (hB : Blk w g ty cs) (h : Qs T w b base cp st v L a t d) (h1 : ty ≠ T) (h2 : 9 ≠ ty) (ho : Only (Fp b v) w w') : Blk w' g ty cs := by
  refine hB.kept ho ?_
  rintro (e | e)
  · subst e
    have h3 := h.blk
    unfold Blk at hB h3
    rw [hB] at h3
    injection h3 with h3
    injection h3 with _ h4
    exact h1 h4
  · exact (h.own.ne hB h2) e
/-- both queues -/
structure Two (w : World) (bq bx base : Nat) (cp st : Int) (vq vx : Value) (L : List ByteArray) (a t d : Int) : Prop where
  q : Qs 50 w bq base cp st vq L a t d
  x : Qs 31 w bx base cp st vx L a t d
  sep : ∀ g, vq.ownBlock = some g → vx.ownBlock ≠ some g
def Fp2 (bq bx : Nat) (vq vx : Value) : Nat → Prop := fun k => Fp bq vq k ∨ Fp bx vx k
section
variable {w w0 w1 w2 w' : World} {bq bx base : Nat} {cp st : Int} {vq vx vq' vx' : Value} {L L' : List ByteArray} {a t d a' t' d' : Int}
theorem Two.kept (h : Two w bq bx base cp st vq vx L a t d) (ho : Only Nil w w') : Two w' bq bx base cp st vq vx L a t d := ⟨h.q.kept ho, h.x.kept ho, h.sep⟩
theorem Two.ne (h : Two w bq bx base cp st vq vx L a t d) : bq ≠ bx := fun e => by
  have h1 := h.q.blk
  have h2 := h.x.blk
  subst e
  unfold Blk at h1 h2
  rw [h1] at h2
  injection h2 with h2
  injection h2 with _ h4
  exact absurd h4 (by decide)
theorem Two.x1 (h : Two w bq bx base cp st vq vx L a t d) (ho : Only (Fp bq vq) w w1) : Qs 31 w1 bx base cp st vx L a t d := h.q.apart (by decide) (by decide) h.x h.ne.symm h.sep ho
theorem Two.done (h : Two w bq bx base cp st vq vx L a t d) (hq : Qs 50 w1 bq base cp st vq' L' a' t' d') (ho1 : Only (Fp bq vq) w w1) (hg1 : ∀ g, vq'.ownBlock = some g → vq.ownBlock = some g ∨ w.heap.size ≤ g)
    (hx : Qs 31 w2 bx base cp st vx' L' a' t' d') (ho2 : Only (Fp bx vx) w1 w2) (hg2 : ∀ g, vx'.ownBlock = some g → vx.ownBlock = some g ∨ w1.heap.size ≤ g) : Two w2 bq bx base cp st vq' vx' L' a' t' d' := by
  have s1 : ∀ g, vx.ownBlock = some g → vq'.ownBlock ≠ some g := fun g hg hh => by
    rcases hg1 g hh with e | e
    · exact h.sep g e hg
    · have := (h.x.own.lt hg).2
      omega
  refine ⟨(h.x1 ho1).apart (by decide) (by decide) hq h.ne s1 ho2, hx, fun g hg hh => ?_⟩
  rcases hg2 g hh with e | e
  · exact s1 g e hg
  · have := (hq.own.lt hg).2
    omega
theorem Two.frame (_h : Two w bq bx base cp st vq vx L a t d) (hno : Only Nil w0 w) (ho1 : Only (Fp bq vq) w w1) (ho2 : Only (Fp bx vx) w1 w2) : Only (Fp2 bq bx vq vx) w0 w2 :=
  ((hno.of_nil _).trans (ho1.weaken fun _ _ hh => .inl hh)).trans (ho2.weaken fun _ _ hh => .inr hh)
def Grown (w0 : World) (vq vx vq' vx' : Value) : Prop := (∀ g, vq'.ownBlock = some g → vq.ownBlock = some g ∨ w0.heap.size ≤ g) ∧ ∀ g, vx'.ownBlock = some g → vx.ownBlock = some g ∨ w0.heap.size ≤ g
theorem Two.grown (_h : Two w bq bx base cp st vq vx L a t d) (hno : Only Nil w0 w) (ho1 : Only (Fp bq vq) w w1) (hg1 : ∀ g, vq'.ownBlock = some g → vq.ownBlock = some g ∨ w.heap.size ≤ g) (hg2 : ∀ g, vx'.ownBlock = some g → vx.ownBlock = some g ∨ w1.heap.size ≤ g) : Grown w0 vq vx vq' vx' :=
  ⟨fun g hg => (hg1 g hg).imp id (fun e => Nat.le_trans hno.size e), fun g hg => (hg2 g hg).imp id (fun e => Nat.le_trans hno.size (Nat.le_trans ho1.size e))⟩
def DoPost (w : World) (bq bx base : Nat) (cp st : Int) (vq vx : Value) (x : Ending) (w' : World) (P : List ByteArray → Int → Int → Int → Prop) : Prop :=
  ∃ vq' vx' L' a' t' d', x = .returned (.bool true) ∧ Two w' bq bx base cp st vq' vx' L' a' t' d' ∧ Only (Fp2 bq bx vq vx) w w' ∧ Grown w vq vx vq' vx' ∧ P L' a' t' d'
set_option maxHeartbeats 4000000 in
theorem do_put (kd : Int) (S : ByteArray) (w : World) (r : Int) (h : Two w bq bx base cp st vq vx L a t d) (e4 : (kd == 4) = false) (e5 : (kd == 5) = false) (e6 : (kd == 6) = false) (e7 : (kd == 7) = false)
    (hP : ∀ W, Qs 50 W bq base cp st vq L a t d → Calls Try.prog 15 #[.pointer (some ⟨bq, 0, none⟩), .string S] W (QPost 50 W bq base cp st vq (.int .i64 r) L' a' t' d'))
    (hR : ∀ W, Qs 31 W bx base cp st vx L a t d → Calls Try.prog 21 #[.pointer (some ⟨bx, 0, none⟩), .string S] W (QPost 31 W bx base cp st vx (.int .i64 r) L' a' t' d')) :
    Calls Try.prog 8 #[.pointer (some ⟨bq, 0, none⟩), .pointer (some ⟨bx, 0, none⟩), .agg #[.int .i64 kd, .string S]] w fun x w' => DoPost w bq bx base cp st vq vx x w' (fun L'' a'' t'' d'' => L'' = L' ∧ a'' = a' ∧ t'' = t' ∧ d'' = d') := by
  have HP := Lib.hid hP
  have HR := Lib.hid hR
  clear hP hR
  have hno := (Only.refl Nil w).alloc (.cells #[.int .i64 kd, .string S] 33)
  have hA0 : Blk (w.alloc (.cells #[.int .i64 kd, .string S] 33)) w.heap.size 33 #[.int .i64 kd, .string S] := Blk.new _ _ _
  have h0 := h.kept hno
  have hd := h0.kept ((Only.refl Nil _).drew)
  have hAd := hA0.drew
  have s0 : (w.alloc (.cells #[.int .i64 kd, .string S] 33)).drew.cell? ⟨w.heap.size, 1, none⟩ = some (.string S) := hA0.cell 1
  go_enter Try.func8, Try.ntmps8
  go_wp2
  go_region_held3 (fun W => W.cell? ⟨w.heap.size, 1, none⟩ = some (.string S)) (with_reducible (first | exact s0 | exact s1 | exact s2)) (first
    | (go_at_call 15; (with_reducible refine (HP.out _ hd.q).mono ?_); rintro e w1 ⟨vq', rfl, hq1, ho1, hg1⟩; have hx1 := hd.x1 ho1; have hA1 := hAd.fp hd.q (by decide) (by decide) ho1; have s1 : w1.cell? ⟨w.heap.size, 1, none⟩ = some (.string S) := hA1.cell 1)
    | (go_at_call 21; (with_reducible refine (HR.out _ hx1).mono ?_); rintro e w2 ⟨vx', rfl, hx2, ho2, hg2⟩; have s2 : w2.cell? ⟨w.heap.size, 1, none⟩ = some (.string S) := (hA1.fp hx1 (by decide) (by decide) ho2).cell 1)
    )
  go_wp2
  go_ret
  have hnd := hno.drew
  exact ⟨vq', vx', L', a', t', d', rfl, hd.done hq1 ho1 hg1 hx2 ho2 hg2, hd.frame hnd ho1 ho2, hd.grown hnd ho1 hg1 hg2, rfl, rfl, rfl, rfl⟩
def Same (L : List ByteArray) (a t d : Int) (L'' : List ByteArray) (a'' t'' d'' : Int) : Prop := L'' = L ∧ a'' = a ∧ t'' = t ∧ d'' = d
theorem DoPost.same {x : Ending} (h : Two w bq bx base cp st vq vx L a t d) (hno : Only Nil w w1) (hx : x = .returned (.bool true)) : DoPost w bq bx base cp st vq vx x w1 (Same L a t d) :=
  ⟨vq, vx, L, a, t, d, hx, h.kept hno, hno.of_nil _, ⟨fun _ hg => .inl hg, fun _ hg => .inl hg⟩, rfl, rfl, rfl, rfl⟩
set_option maxHeartbeats 2000000 in
theorem do_take_out (kd : Int) (S : ByteArray) (w : World) (hk : kd = 4 ∨ kd = 5) (h : Two w bq bx base cp st vq vx [] a t d) :
    Calls Try.prog 8 #[.pointer (some ⟨bq, 0, none⟩), .pointer (some ⟨bx, 0, none⟩), .agg #[.int .i64 kd, .string S]] w fun x w' => DoPost w bq bx base cp st vq vx x w' (Same [] a t d) := by
  have hP := Lib.hid (fun W (k : Qs 50 W bq base cp st vq [] a t d) => Take_out W k)
  have hR := Lib.hid (fun W (k : Qs 31 W bx base cp st vx [] a t d) => RTake_out W k)
  rcases hk with rfl | rfl
  · have hno := (Only.refl Nil w).alloc (.cells #[.int .i64 4, .string S] 33)
    have h0 := h.kept hno
    go_enter Try.func8, Try.ntmps8
    go_wp2_with (first
      | (go_at_call 14; (with_reducible refine (hP.out _ h0.q).mono ?_); rintro e w1 ⟨rfl, rfl⟩)
      | (go_at_call 19; (with_reducible refine (hR.out _ h0.x).mono ?_); rintro e w2 ⟨rfl, rfl⟩)
      )
    go_ret
    exact DoPost.same h hno rfl
  · have hno := (Only.refl Nil w).alloc (.cells #[.int .i64 5, .string S] 33)
    have h0 := h.kept hno
    go_enter Try.func8, Try.ntmps8
    go_wp2_with (first
      | (go_at_call 14; (with_reducible refine (hP.out _ h0.q).mono ?_); rintro e w1 ⟨rfl, rfl⟩)
      | (go_at_call 19; (with_reducible refine (hR.out _ h0.x).mono ?_); rintro e w2 ⟨rfl, rfl⟩)
      )
    go_ret
    exact DoPost.same h hno rfl
set_option maxHeartbeats 2000000 in
theorem do_take_in (kd : Int) (S x : ByteArray) (w : World) (hk : kd = 4 ∨ kd = 5) (h : Two w bq bx base cp st vq vx (x :: L) a t d) (hl : L.length ≤ 1000) (t0 : 0 ≤ t) (t1 : t ≤ 1000000) :
    Calls Try.prog 8 #[.pointer (some ⟨bq, 0, none⟩), .pointer (some ⟨bx, 0, none⟩), .agg #[.int .i64 kd, .string S]] w fun x w' => DoPost w bq bx base cp st vq vx x w' (Same L a (t + 1) d) := by
  have hP := Lib.hid (fun W (k : Qs 50 W bq base cp st vq (x :: L) a t d) => Take_in x L W k hl t0 t1)
  have hR := Lib.hid (fun W (k : Qs 31 W bx base cp st vx (x :: L) a t d) => RTake_in x L W k hl t0 t1)
  have hno := (Only.refl Nil w).alloc (.cells #[.int .i64 kd, .string S] 33)
  have hA0 : Blk (w.alloc (.cells #[.int .i64 kd, .string S] 33)) w.heap.size 33 #[.int .i64 kd, .string S] := Blk.new _ _ _
  have h0 := h.kept hno
  rcases hk with rfl | rfl
  ·
    go_enter Try.func8, Try.ntmps8
    go_wp2_with (first
      | (go_at_call 14; (with_reducible refine (hP.out _ h0.q).mono ?_); rintro e w1 ⟨vq', rfl, hq1, ho1, hg1⟩; have hx1 := h0.x1 ho1; have hA1 := hA0.fp h0.q (by decide) (by decide) ho1; have ca := hA1.cell 0; have cb := hA1.cell 1; have zA := hA1.lt)
      | (go_at_call 19; (with_reducible refine (hR.out _ hx1).mono ?_); rintro e w2 ⟨vx', rfl, hx2, ho2, hg2⟩)
      )
    go_ret
    exact ⟨vq', vx', L, a, t + 1, d, rfl, h0.done hq1 ho1 hg1 hx2 ho2 hg2, h0.frame hno ho1 ho2, h0.grown hno ho1 hg1 hg2, rfl, rfl, rfl, rfl⟩
  ·
    go_enter Try.func8, Try.ntmps8
    go_wp2_with (first
      | (go_at_call 14; (with_reducible refine (hP.out _ h0.q).mono ?_); rintro e w1 ⟨vq', rfl, hq1, ho1, hg1⟩; have hx1 := h0.x1 ho1; have hA1 := hA0.fp h0.q (by decide) (by decide) ho1; have ca := hA1.cell 0; have cb := hA1.cell 1; have zA := hA1.lt)
      | (go_at_call 19; (with_reducible refine (hR.out _ hx1).mono ?_); rintro e w2 ⟨vx', rfl, hx2, ho2, hg2⟩)
      )
    go_ret
    exact ⟨vq', vx', L, a, t + 1, d, rfl, h0.done hq1 ho1 hg1 hx2 ho2 hg2, h0.frame hno ho1 ho2, h0.grown hno ho1 hg1 hg2, rfl, rfl, rfl, rfl⟩
theorem do_first_out (S : ByteArray) (w : World) (h : Two w bq bx base cp st vq vx [] a t d) :
    Calls Try.prog 8 #[.pointer (some ⟨bq, 0, none⟩), .pointer (some ⟨bx, 0, none⟩), .agg #[.int .i64 6, .string S]] w fun x w' => DoPost w bq bx base cp st vq vx x w' (Same [] a t d) := by
  have hP := Lib.hid (fun W (k : Qs 50 W bq base cp st vq [] a t d) => First_out W k)
  have hno := (Only.refl Nil w).alloc (.cells #[.int .i64 6, .string S] 33)
  have h0 := h.kept hno
  obtain ⟨A, cap, rfl, hc, hm⟩ := h.x.own.form
  obtain ⟨c0, c1, c2, c3, c4, c5⟩ := h.x.facts
  have zb := h.x.blk.lt
  go_enter Try.func8, Try.ntmps8
  go_wp2_with (first
    | (go_at_call 17; (with_reducible refine (hP.out _ h0.q).mono ?_); rintro e w1 ⟨rfl, rfl⟩)
    )
  go_ret
  exact DoPost.same h hno rfl
theorem do_first_in (S y : ByteArray) (w : World) (h : Two w bq bx base cp st vq vx (y :: L) a t d) :
    Calls Try.prog 8 #[.pointer (some ⟨bq, 0, none⟩), .pointer (some ⟨bx, 0, none⟩), .agg #[.int .i64 6, .string S]] w fun x w' => DoPost w bq bx base cp st vq vx x w' (Same (y :: L) a t d) := by
  have hP := Lib.hid (fun W (k : Qs 50 W bq base cp st vq (y :: L) a t d) => First_in y L W k)
  have hno := (Only.refl Nil w).alloc (.cells #[.int .i64 6, .string S] 33)
  have h0 := h.kept hno
  have hO := h.x.own
  have hh := Lib.hid h
  obtain ⟨A, cap, rfl, hc, hm⟩ := h.x.own.form
  obtain ⟨g, o, x', rfl, hgl, hx', _, _⟩ := (hO.sq (fun _ _ => rfl) rfl).at_ (k := 0) (by simp)
  obtain ⟨c0, c1, c2, c3, c4, c5⟩ := h.x.facts
  have p0 : w.cell? ⟨g, o, none⟩ = some (.string y) := (hO.sq (fun _ _ => rfl) rfl).cell1 (k := 0) rfl
  rw [List.length_cons] at c2
  have zb := h.x.blk.lt
  have hne : ((L.length : Int) + 1 == 0) = false := by simp; omega
  clear hx' hc hO
  go_enter Try.func8, Try.ntmps8
  go_wp2_with (first
    | (go_at_call 17; (with_reducible refine (hP.out _ h0.q).mono ?_); rintro e w1 ⟨rfl, rfl⟩)
    )
  go_ret
  exact DoPost.same h hno rfl
theorem do_clear_skip (S : ByteArray) (w : World) (h : Two w bq bx base cp st vq vx L a t d) (hS : S.size ≤ 300) (hm : (S.size : Int) % 4 ≠ 0) :
    Calls Try.prog 8 #[.pointer (some ⟨bq, 0, none⟩), .pointer (some ⟨bx, 0, none⟩), .agg #[.int .i64 7, .string S]] w fun x w' => DoPost w bq bx base cp st vq vx x w' (Same L a t d) := by
  have hno := (Only.refl Nil w).alloc (.cells #[.int .i64 7, .string S] 33)
  have h0 := h.kept hno
  have hne : ((S.size : Int) % 4 != 0) = true := by simpa using hm
  clear hm
  go_enter Try.func8, Try.ntmps8
  go_wp2
  go_ret
  exact DoPost.same h hno rfl
theorem do_clear_out (S : ByteArray) (w : World) (h : Two w bq bx base cp st vq vx [] a t d) (hS : S.size ≤ 300) (hm : (S.size : Int) % 4 = 0) (d0 : 0 ≤ d) (d1 : d ≤ 1000000) :
    Calls Try.prog 8 #[.pointer (some ⟨bq, 0, none⟩), .pointer (some ⟨bx, 0, none⟩), .agg #[.int .i64 7, .string S]] w fun x w' => DoPost w bq bx base cp st vq vx x w' (Same [] a t d) := by
  have hP := Lib.hid (fun W (k : Qs 50 W bq base cp st vq [] a t d) => Clear_out W k)
  have hR := Lib.hid (fun W (k : Qs 31 W bx base cp st vx [] a t d) => (by have := RClear_any W k (by decide) d0 d1; rw [show d + (([] : List ByteArray).length : Int) = d by simp] at this; exact this : Calls Try.prog 20 #[.pointer (some ⟨bx, 0, none⟩)] W (QPost 31 W bx base cp st vx (.int .i64 (0 : Int)) [] a t d)))
  have hno := (Only.refl Nil w).alloc (.cells #[.int .i64 7, .string S] 33)
  have h0 := h.kept hno
  have hne : ((S.size : Int) % 4 != 0) = false := by simpa using hm
  clear hm
  go_enter Try.func8, Try.ntmps8
  go_wp2_with (first
    | (go_at_call 18; (with_reducible refine (hP.out _ h0.q).mono ?_); rintro e w1 ⟨rfl, rfl⟩)
    | (go_at_call 20; (with_reducible refine (hR.out _ h0.x).mono ?_); rintro e w2 ⟨vx', rfl, hx2, ho2, hg2⟩)
    )
  go_ret
  exact ⟨vq, vx', [], a, t, d, rfl, h0.done h0.q (Only.refl _ _) (fun _ hg => .inl hg) hx2 ho2 hg2, h0.frame hno (Only.refl _ _) ho2, h0.grown hno (Only.refl _ _) (fun _ hg => .inl hg) hg2, rfl, rfl, rfl, rfl⟩
theorem do_clear_in (S : ByteArray) (w : World) (h : Two w bq bx base cp st vq vx L a t d) (hS : S.size ≤ 300) (hm : (S.size : Int) % 4 = 0) (hp : 0 < L.length) (hl : L.length ≤ 1000) (d0 : 0 ≤ d) (d1 : d ≤ 1000000) :
    Calls Try.prog 8 #[.pointer (some ⟨bq, 0, none⟩), .pointer (some ⟨bx, 0, none⟩), .agg #[.int .i64 7, .string S]] w fun x w' => DoPost w bq bx base cp st vq vx x w' (Same [] a t (d + L.length)) := by
  have hP := Lib.hid (fun W (k : Qs 50 W bq base cp st vq L a t d) => Clear_in W k hp hl d0 d1)
  have hR := Lib.hid (fun W (k : Qs 31 W bx base cp st vx L a t d) => RClear_any W k hl d0 d1)
  have hno := (Only.refl Nil w).alloc (.cells #[.int .i64 7, .string S] 33)
  have h0 := h.kept hno
  have hne : ((S.size : Int) % 4 != 0) = false := by simpa using hm
  clear hm
  go_enter Try.func8, Try.ntmps8
  go_wp2_with (first
    | (go_at_call 18; (with_reducible refine (hP.out _ h0.q).mono ?_); rintro e w1 ⟨vq', rfl, hq1, ho1, hg1⟩; have hx1 := h0.x1 ho1)
    | (go_at_call 20; (with_reducible refine (hR.out _ hx1).mono ?_); rintro e w2 ⟨vx', rfl, hx2, ho2, hg2⟩)
    )
  go_ret
  exact ⟨vq', vx', [], a, t, d + L.length, rfl, h0.done hq1 ho1 hg1 hx2 ho2 hg2, h0.frame hno ho1 ho2, h0.grown hno ho1 hg1 hg2, rfl, rfl, rfl, rfl⟩
/-- what stays true of the counts -/
def Inv (cp : Int) (n : Int) (L : List ByteArray) (a t d : Int) : Prop := a = t + d + L.length ∧ (L.length : Int) ≤ cp ∧ 0 ≤ a ∧ 0 ≤ t ∧ 0 ≤ d ∧ a ≤ n
theorem DoPost.inv {x : Ending} {n : Int} {L' : List ByteArray} {a' t' d' : Int} (h : DoPost w bq bx base cp st vq vx x w' (Same L' a' t' d')) (hi : Inv cp n L' a' t' d') : DoPost w bq bx base cp st vq vx x w' (Inv cp n) := by
  obtain ⟨vq', vx', L'', a'', t'', d'', h1, h2, h3, h4, rfl, rfl, rfl, rfl⟩ := h
  exact ⟨vq', vx', _, _, _, _, h1, h2, h3, h4, hi⟩
theorem do_any (kd : Int) (S : ByteArray) (w : World) (n : Int) (h : Two w bq bx base cp st vq vx L a t d) (hi : Inv cp n L a t d) (hn : n ≤ 1000) (hS : S.size ≤ 300) (c0 : 0 ≤ cp) (c1 : cp ≤ 64) :
    Calls Try.prog 8 #[.pointer (some ⟨bq, 0, none⟩), .pointer (some ⟨bx, 0, none⟩), .agg #[.int .i64 kd, .string S]] w fun x w' => DoPost w bq bx base cp st vq vx x w' (Inv cp (n + 1)) := by
  obtain ⟨i1, i2, i3, i4, i5, i6⟩ := hi
  by_cases k45 : kd = 4 ∨ kd = 5
  · cases L with
    | nil => exact (do_take_out kd S w k45 h).mono fun e w' hh => hh.inv ⟨i1, i2, i3, i4, i5, by omega⟩
    | cons x L =>
      rw [List.length_cons] at i1 i2
      exact (do_take_in kd S x w k45 h (by omega) i4 (by omega)).mono fun e w' hh => hh.inv ⟨by omega, by omega, i3, by omega, i5, by omega⟩
  · by_cases k6 : kd = 6
    · subst k6
      cases L with
      | nil => exact (do_first_out S w h).mono fun e w' hh => hh.inv ⟨i1, i2, i3, i4, i5, by omega⟩
      | cons x L => exact (do_first_in S x w h).mono fun e w' hh => hh.inv ⟨i1, i2, i3, i4, i5, by omega⟩
    · by_cases k7 : kd = 7
      · subst k7
        by_cases hm : (S.size : Int) % 4 = 0
        · by_cases hp : 0 < L.length
          · exact (do_clear_in S w h hS hm hp (by omega) i5 (by omega)).mono fun e w' hh => hh.inv ⟨by simp; omega, by simpa using c0, i3, i4, by omega, by omega⟩
          · obtain rfl : L = [] := List.eq_nil_of_length_eq_zero (by omega)
            exact (do_clear_out S w h hS hm i5 (by omega)).mono fun e w' hh => hh.inv ⟨i1, i2, i3, i4, i5, by omega⟩
        · exact (do_clear_skip S w h hS hm).mono fun e w' hh => hh.inv ⟨i1, i2, i3, i4, i5, by omega⟩
      · have e4 : (kd == 4) = false := by simp; omega
        have e5 : (kd == 5) = false := by simp; omega
        have e6 : (kd == 6) = false := by simp; omega
        have e7 : (kd == 7) = false := by simp; omega
        by_cases p1 : (L.length : Int) < cp
        · exact (do_put kd S w 1 h e4 e5 e6 e7 (fun W k => Put_kept S W k (by omega) p1 i3 (by omega)) (fun W k => RPut_kept S W k (by omega) p1 i3 (by omega))).mono fun e w' hh => hh.inv ⟨by simp; omega, by simp; omega, by omega, i4, i5, by omega⟩
        · by_cases p2 : st = 0
          · exact (do_put kd S w 0 h e4 e5 e6 e7 (fun W k => Put_refused S W k (by omega) p2) (fun W k => RPut_refused S W k (by omega) p2)).mono fun e w' hh => hh.inv ⟨i1, i2, i3, i4, i5, by omega⟩
          · by_cases p3 : st = 1 ∨ cp = 0
            · exact (do_put kd S w 2 h e4 e5 e6 e7 (fun W k => Put_dropped S W k (by omega) p2 p3 i3 (by omega) i5 (by omega)) (fun W k => RPut_dropped S W k (by omega) p2 p3 i3 (by omega) i5 (by omega))).mono fun e w' hh => hh.inv ⟨by omega, i2, by omega, i4, by omega, by omega⟩
            · cases L with
              | nil => simp at p1; omega
              | cons x L =>
                have hl1 : L.length ≤ 1000 := by rw [List.length_cons] at i2; omega
                exact (do_put kd S w 3 h e4 e5 e6 e7 (fun W k => Put_pushed S x L W k hl1 (by omega) p2 p3 i3 (by omega) i5 (by omega)) (fun W k => RPut_pushed S x L W k hl1 (by omega) p2 p3 i3 (by omega) i5 (by omega))).mono fun e w' hh => hh.inv ⟨by simp at i1 ⊢; omega, by simp at i2 ⊢; omega, by omega, i4, by omega, by omega⟩
end
end Go.Proofs.Ytfffaifbfojnpaa
