/- A call of both senders, the program's and the document's: they answer alike. -/
import Derived.Test.YtlinmpcllmijaaaLaw22
import Derived.Deep.RegionLaw
namespace Go.Proofs.Ytlinmpcllmijaaa
open Go.RowKit

/-- both senders -/
structure Tw (w : World) (b bx base : Nat) (F : Nat → Prop) (v : Value) (kd cp st : Int) (B : List UInt8) (L : List ByteArray) (wn : Int) (en ou : Bool) (A S D : Int) : Prop where
  p : PT w b base F kd cp st B L wn en ou A S D
  r : RT w bx base v kd cp st B L wn en ou A S D
  s1 : ¬ F bx
  s2 : ∀ g, v.ownBlock = some g → ¬ F g
def F2 (F : Nat → Prop) (bx : Nat) : Nat → Prop := fun k => F k ∨ k = bx
def DoT (w : World) (b bx base : Nat) (F : Nat → Prop) (kd cp st : Int) (m : Int) (x : Ending) (w' : World) : Prop :=
  ∃ F' v' B' L' wn' en' ou' A' S' D', x = .returned (.bool true) ∧ Tw w' b bx base F' v' kd cp st B' L' wn' en' ou' A' S' D' ∧ TI kd m cp B' L' wn' en' ou' A' S' D' ∧ Only (F2 F bx) w w'
section
variable {w w1 w2 w' : World} {b bx base : Nat} {F F1 : Nat → Prop} {v v2 : Value} {kd cp st : Int} {B B' : List UInt8} {L L' : List ByteArray} {wn A S D m wn' A' S' D' : Int} {en ou en' ou' : Bool}
theorem Tw.kept (h : Tw w b bx base F v kd cp st B L wn en ou A S D) (ho : Only Nil w w') : Tw w' b bx base F v kd cp st B L wn en ou A S D := ⟨h.p.kept ho, h.r.kept ho, h.s1, h.s2⟩
theorem Tw.below (h : Tw w b bx base F v kd cp st B L wn en ou A S D) (ho : Only (F2 F bx) w w') : Below base w w' := ho.below h.p.sz (fun i hi hh => by
  rcases hh with hh | hh
  · have := h.p.fp i hh; omega
  · have := h.r.hb; omega)
theorem Tw.r1 (h : Tw w b bx base F v kd cp st B L wn en ou A S D) (ho : Only F w w1) : RT w1 bx base v kd cp st B L wn en ou A S D := h.r.off ho h.s1 h.s2
/-- both are done -/
theorem Tw.done (h : Tw w b bx base F v kd cp st B L wn en ou A S D) (hp : PT w1 b base F1 kd cp st B' L' wn' en' ou' A' S' D') (_ho1 : Only F w w1) (hg1 : Grew w F F1)
    (hr : RT w2 bx base v2 kd cp st B' L' wn' en' ou' A' S' D') (ho2 : Only (One bx) w1 w2) (hg2 : ∀ g, v2.ownBlock = some g → v.ownBlock = some g ∨ w1.heap.size ≤ g) : Tw w2 b bx base F1 v2 kd cp st B' L' wn' en' ou' A' S' D' := by
  have hx1 : ¬ F1 bx := fun hh => by
    rcases hg1 _ hh with e | e
    · exact h.s1 e
    · have := h.r.blk.lt; omega
  refine ⟨hp.off ho2 (fun k hk e => hx1 (by unfold One at e; rw [← e]; exact hk)), hr, hx1, fun g hg hh => ?_⟩
  rcases hg2 g hg with e | e
  · rcases hg1 _ hh with e2 | e2
    · exact h.s2 g e e2
    · have := (h.r.own.lt e).2; omega
  · have := (hp.fp _ hh).2; omega
theorem Tw.frame {w0 : World} (_h : Tw w b bx base F v kd cp st B L wn en ou A S D) (hn : Only Nil w0 w) (ho1 : Only F w w1) (ho2 : Only (One bx) w1 w2) : Only (F2 F bx) w0 w2 :=
  ((hn.of_nil _).trans (ho1.weaken fun _ _ hh => .inl hh)).trans (ho2.weaken fun _ _ hh => .inr hh)
theorem Tw.act {t : TypeId} {cs : Array Value} {k : Nat} (h : Tw w b bx base F v kd cp st B L wn en ou A S D) (hB : Blk w k t cs) (h1 : t ≠ 56) (h2 : t ≠ 71) (h3 : t ≠ 5) (h4 : t ≠ 73) (h5 : t ≠ 75) (h6 : t ≠ 9) (ho : Only F w w1) : Blk w1 k t cs := hB.kept ho (h.p.ne hB h1 h2 h3 h4 h5 h6)
theorem radd_any (n k : Int) (w : World) (h0 : 0 ≤ n) (h1 : n ≤ 2147483647) (hk : 1 ≤ k) : Calls Try.prog 30 #[.int .i64 n, .int .i64 2147483647, .int .i64 k] w fun e w' => e = .returned (.int .i64 (Dem.addK n 2147483647 k)) ∧ w = w' := by
  by_cases h2 : k ≤ 2147483647 - n
  · have e1 : Dem.addK n 2147483647 k = k := by unfold Dem.addK; omega
    rw [e1]
    go_enter Try.func30, Try.ntmps30
    go_wp2
    go_ret
    exact ⟨rfl, rfl⟩
  · have e1 : Dem.addK n 2147483647 k = 2147483647 - n := by unfold Dem.addK; omega
    rw [e1]
    go_enter Try.func30, Try.ntmps30
    go_wp2
    go_ret
    exact ⟨rfl, rfl⟩
set_option maxHeartbeats 4000000 in
theorem do_take (ak n : Int) (Y : ByteArray) (w : World) (h : Tw w b bx base F v kd cp st B L wn en ou A S D) (hi : TI kd m cp B L wn en ou A S D) (hm : m ≤ 1000000) (hk : kd = 1 ∨ kd = 2) (hcp : cp ≤ 4096) (hl : kd = 2 → L.length ≤ 1000) (ha : ak = 3 ∨ ak = 4) :
    Calls Try.prog 10 #[.pointer (some ⟨b, 0, none⟩), .pointer (some ⟨bx, 0, none⟩), .agg #[.int .i64 ak, .int .i64 n, .string Y]] w (DoT w b bx base F kd cp st m) := by
  obtain ⟨X', o, is, B', L', wn', ou', S', htk⟩ := TkR.ex (kd := kd) n hk hi
  have hno := Lib.hid ((Only.refl Nil w).alloc (.cells #[.int .i64 ak, .int .i64 n, .string Y] 36))
  have hA0 := Lib.hid (Blk.new w 36 #[.int .i64 ak, .int .i64 n, .string Y])
  have h0 := Lib.hid (h.kept hno.out)
  have HAct := Lib.hid (fun W (ho : Only F (w.alloc (.cells #[.int .i64 ak, .int .i64 n, .string Y] 36)) W) => h0.out.act hA0.out (by decide) (by decide) (by decide) (by decide) (by decide) (by decide) ho)
  have HI := Lib.hid hi
  have HP := Lib.hid (PT.Take h0.out.p htk (hi.c hm) hl hi.w1)
  have HRf := Lib.hid (fun W (hr : RT W bx base v kd cp st B L wn en ou A S D) => hr.Take hi hm hk hcp hl htk)
  have HI2 := Lib.hid (hi.take htk)
  clear htk h hi hk hcp hl
  rcases ha with rfl | rfl
  ·
    go_enter Try.func10, Try.ntmps10
    go_wp2_with (first
      | (go_at_call 20; (with_reducible refine (HP.out).mono ?_); rintro e w1 ⟨F1, rfl, hp1, ho1, hg1⟩; have HR1 := Lib.hid (h0.out.r1 ho1); have ha1 := HAct.out _ ho1; have a1 := ha1.cell 1; have a2 := ha1.cell 2; have za := ha1.lt; have HP1 := Lib.hid hp1; have HO1 := Lib.hid ho1; have HG1 := Lib.hid hg1; clear hp1 ho1 hg1 ha1)
      | (go_at_call 29; (with_reducible refine (HRf.out _ HR1.out).mono ?_); rintro e w2 ⟨v2, rfl, hr2, ho2, hg2⟩)
      )
    go_ret
    exact ⟨F1, v2, _, _, _, _, _, _, _, _, rfl, h0.out.done HP1.out HO1.out HG1.out hr2 ho2 hg2, HI2.out, h0.out.frame hno.out HO1.out ho2⟩
  ·
    go_enter Try.func10, Try.ntmps10
    go_wp2_with (first
      | (go_at_call 20; (with_reducible refine (HP.out).mono ?_); rintro e w1 ⟨F1, rfl, hp1, ho1, hg1⟩; have HR1 := Lib.hid (h0.out.r1 ho1); have ha1 := HAct.out _ ho1; have a1 := ha1.cell 1; have a2 := ha1.cell 2; have za := ha1.lt; have HP1 := Lib.hid hp1; have HO1 := Lib.hid ho1; have HG1 := Lib.hid hg1; clear hp1 ho1 hg1 ha1)
      | (go_at_call 29; (with_reducible refine (HRf.out _ HR1.out).mono ?_); rintro e w2 ⟨v2, rfl, hr2, ho2, hg2⟩)
      )
    go_ret
    exact ⟨F1, v2, _, _, _, _, _, _, _, _, rfl, h0.out.done HP1.out HO1.out HG1.out hr2 ho2 hg2, HI2.out, h0.out.frame hno.out HO1.out ho2⟩
set_option maxHeartbeats 4000000 in
theorem do_offer (ak n : Int) (Y : ByteArray) (w : World) (h : Tw w b bx base F v kd cp st B L wn en ou A S D) (hi : TI kd m cp B L wn en ou A S D) (hm : m ≤ 1000000) (hk : kd = 1 ∨ kd = 2) (hc0 : 0 ≤ cp) (hcp : cp ≤ 4096) (hl : kd = 2 → L.length ≤ 1000) (hY : Y.size ≤ 600)
    (e3 : (ak == 3) = false) (e4 : (ak == 4) = false) (e5 : (ak == 5) = false) (e6 : (ak == 6) = false) (e7 : (ak == 7) = false) (e8 : (ak == 8) = false) :
    Calls Try.prog 10 #[.pointer (some ⟨b, 0, none⟩), .pointer (some ⟨bx, 0, none⟩), .agg #[.int .i64 ak, .int .i64 n, .string Y]] w (DoT w b bx base F kd cp st (m + 600)) := by
  obtain ⟨r, e, B', L', A', D', hof⟩ := OfR.ex (B := B) (L := L) (A := A) (D := D) (st := st) (en := en) Y hk hc0
  have hno := Lib.hid ((Only.refl Nil w).alloc (.cells #[.int .i64 ak, .int .i64 n, .string Y] 36))
  have hA0 := Lib.hid (Blk.new w 36 #[.int .i64 ak, .int .i64 n, .string Y])
  have h0 := Lib.hid (h.kept hno.out)
  have HAct := Lib.hid (fun W (ho : Only F (w.alloc (.cells #[.int .i64 ak, .int .i64 n, .string Y] 36)) W) => h0.out.act hA0.out (by decide) (by decide) (by decide) (by decide) (by decide) (by decide) ho)
  have HI := Lib.hid hi
  have HP := Lib.hid (PT.Offer Y h0.out.p hof (hi.c hm) hl)
  have HRf := Lib.hid (fun W (hr : RT W bx base v kd cp st B L wn en ou A S D) => hr.Offer Y hi hm hof hY hc0 hcp hl)
  have HI2 := Lib.hid (hi.offer hof hc0 hY)
  clear hof h hi hk hcp hl hY hc0
  go_enter Try.func10, Try.ntmps10
  go_wp2_with (first
    | (go_at_call 23; (with_reducible refine (HP.out).mono ?_); rintro e w1 ⟨F1, rfl, hp1, ho1, hg1⟩; have HR1 := Lib.hid (h0.out.r1 ho1); have ha1 := HAct.out _ ho1; have a1 := ha1.cell 1; have a2 := ha1.cell 2; have za := ha1.lt; have HP1 := Lib.hid hp1; have HO1 := Lib.hid ho1; have HG1 := Lib.hid hg1; clear hp1 ho1 hg1 ha1)
    | (go_at_call 32; (with_reducible refine (HRf.out _ HR1.out).mono ?_); rintro e w2 ⟨v2, rfl, hr2, ho2, hg2⟩)
    )
  go_ret
  exact ⟨F1, v2, _, _, _, _, _, _, _, _, rfl, h0.out.done HP1.out HO1.out HG1.out hr2 ho2 hg2, HI2.out, h0.out.frame hno.out HO1.out ho2⟩
set_option maxHeartbeats 4000000 in
theorem do_clear (n : Int) (Y : ByteArray) (w : World) (h : Tw w b bx base F v kd cp st B L wn en ou A S D) (hi : TI kd m cp B L wn en ou A S D) (hm : m ≤ 1000000) (hk : kd = 1 ∨ kd = 2) (hc0 : 0 ≤ cp) (hl : kd = 2 → L.length ≤ 1000) (hn : (n.tmod 5 != 0) = false) :
    Calls Try.prog 10 #[.pointer (some ⟨b, 0, none⟩), .pointer (some ⟨bx, 0, none⟩), .agg #[.int .i64 8, .int .i64 n, .string Y]] w (DoT w b bx base F kd cp st m) := by
  obtain ⟨ak, hak⟩ : ∃ ak : Int, ak = 8 := ⟨_, rfl⟩
  rw [← hak]
  have hno := Lib.hid ((Only.refl Nil w).alloc (.cells #[.int .i64 ak, .int .i64 n, .string Y] 36))
  have hA0 := Lib.hid (Blk.new w 36 #[.int .i64 ak, .int .i64 n, .string Y])
  have h0 := Lib.hid (h.kept hno.out)
  have HAct := Lib.hid (fun W (ho : Only F (w.alloc (.cells #[.int .i64 ak, .int .i64 n, .string Y] 36)) W) => h0.out.act hA0.out (by decide) (by decide) (by decide) (by decide) (by decide) (by decide) ho)
  have HI := Lib.hid hi
  subst hak
  have HP := Lib.hid (PT.Clear h0.out.p (hi.c hm) hl)
  have HRf := Lib.hid (fun W (hr : RT W bx base v kd cp st B L wn en ou A S D) => hr.Clear hk hi.k1 hi.k2 (hi.c hm))
  have HI2 := Lib.hid (hi.clear hc0)
  clear h hi hk hl hc0
  go_enter Try.func10, Try.ntmps10
  go_wp2_with (first
    | (go_at_call 25; (with_reducible refine (HP.out).mono ?_); rintro e w1 ⟨F1, rfl, hp1, ho1, hg1⟩; have HR1 := Lib.hid (h0.out.r1 ho1); have ha1 := HAct.out _ ho1; have a1 := ha1.cell 1; have a2 := ha1.cell 2; have za := ha1.lt; have HP1 := Lib.hid hp1; have HO1 := Lib.hid ho1; have HG1 := Lib.hid hg1; clear hp1 ho1 hg1 ha1)
    | (go_at_call 31; (with_reducible refine (HRf.out _ HR1.out).mono ?_); rintro e w2 ⟨v2, rfl, hr2, ho2, hg2⟩)
    )
  go_ret
  exact ⟨F1, v2, _, _, _, _, _, _, _, _, rfl, h0.out.done HP1.out HO1.out HG1.out hr2 ho2 hg2, HI2.out, h0.out.frame hno.out HO1.out ho2⟩
theorem DoT.same {x : Ending} (h : Tw w b bx base F v kd cp st B L wn en ou A S D) (hi : TI kd m cp B L wn en ou A S D) (ho : Only Nil w w') (hx : x = .returned (.bool true)) : DoT w b bx base F kd cp st m x w' :=
  ⟨F, v, B, L, wn, en, ou, A, S, D, hx, h.kept ho, hi, ho.of_nil _⟩
theorem do_skip (ak n : Int) (Y : ByteArray) (w : World) (h : Tw w b bx base F v kd cp st B L wn en ou A S D) (hi : TI kd m cp B L wn en ou A S D) (ha : (ak = 7 ∧ (n.tmod 3 != 0) = true) ∨ (ak = 8 ∧ (n.tmod 5 != 0) = true)) :
    Calls Try.prog 10 #[.pointer (some ⟨b, 0, none⟩), .pointer (some ⟨bx, 0, none⟩), .agg #[.int .i64 ak, .int .i64 n, .string Y]] w (DoT w b bx base F kd cp st m) := by
  have hno := Lib.hid ((Only.refl Nil w).alloc (.cells #[.int .i64 ak, .int .i64 n, .string Y] 36))
  have hA0 := Lib.hid (Blk.new w 36 #[.int .i64 ak, .int .i64 n, .string Y])
  have h0 := Lib.hid (h.kept hno.out)
  have HAct := Lib.hid (fun W (ho : Only F (w.alloc (.cells #[.int .i64 ak, .int .i64 n, .string Y] 36)) W) => h0.out.act hA0.out (by decide) (by decide) (by decide) (by decide) (by decide) (by decide) ho)
  have HI := Lib.hid hi
  clear h hi
  rcases ha with ⟨rfl, hn⟩ | ⟨rfl, hn⟩
  · go_enter Try.func10, Try.ntmps10
    go_wp2
    go_ret
    exact DoT.same h0.out HI.out (Only.refl _ _) rfl |> fun ⟨F', v', B', L', wn', en', ou', A', S', D', h1, h2, h3, h4⟩ => ⟨F', v', B', L', wn', en', ou', A', S', D', h1, h2, h3, (hno.out.of_nil _).trans h4⟩
  · go_enter Try.func10, Try.ntmps10
    go_wp2
    go_ret
    exact DoT.same h0.out HI.out (Only.refl _ _) rfl |> fun ⟨F', v', B', L', wn', en', ou', A', S', D', h1, h2, h3, h4⟩ => ⟨F', v', B', L', wn', en', ou', A', S', D', h1, h2, h3, (hno.out.of_nil _).trans h4⟩
set_option maxHeartbeats 4000000 in
theorem do_end (n : Int) (Y : ByteArray) (w : World) (h : Tw w b bx base F v kd cp st B L wn en ou A S D) (hi : TI kd m cp B L wn en ou A S D) (hn : (n.tmod 3 != 0) = false) :
    Calls Try.prog 10 #[.pointer (some ⟨b, 0, none⟩), .pointer (some ⟨bx, 0, none⟩), .agg #[.int .i64 7, .int .i64 n, .string Y]] w (DoT w b bx base F kd cp st m) := by
  obtain ⟨ak, hak⟩ : ∃ ak : Int, ak = 7 := ⟨_, rfl⟩
  rw [← hak]
  have hno := Lib.hid ((Only.refl Nil w).alloc (.cells #[.int .i64 ak, .int .i64 n, .string Y] 36))
  have hA0 := Lib.hid (Blk.new w 36 #[.int .i64 ak, .int .i64 n, .string Y])
  have h0 := Lib.hid (h.kept hno.out)
  have HAct := Lib.hid (fun W (ho : Only F (w.alloc (.cells #[.int .i64 ak, .int .i64 n, .string Y] 36)) W) => h0.out.act hA0.out (by decide) (by decide) (by decide) (by decide) (by decide) (by decide) ho)
  have HI := Lib.hid hi
  subst hak
  have HI2 := Lib.hid hi.end_
  cases en with
  | true =>
    have HP := Lib.hid (PT.End1 h0.out.p)
    clear h hi
    go_enter Try.func10, Try.ntmps10
    go_wp2_with (first
      | (go_at_call 22; (with_reducible refine (HP.out).mono ?_); rintro e w1 ⟨F1, rfl, hp1, ho1, hg1⟩; have HR1 := Lib.hid (h0.out.r1 ho1); obtain ⟨g0, g1, g2, g3, g4, g5, g6, g7, g8, g9, g10, zb1⟩ := HR1.out.facts; obtain ⟨f3, f4, f5, f6, f7, f8, f9, f10⟩ := HR1.out.thaw; have HP1 := Lib.hid hp1; have HO1 := Lib.hid ho1; have HG1 := Lib.hid hg1; clear hp1 ho1 hg1)
      )
    go_ret
    exact ⟨F1, v, _, _, _, _, _, _, _, _, rfl, h0.out.done HP1.out HO1.out HG1.out HR1.out (Only.refl _ _) (fun _ hg => .inl hg), HI2.out, h0.out.frame hno.out HO1.out (Only.refl _ _)⟩
  | false =>
    have HP := Lib.hid (PT.End0 h0.out.p)
    clear h hi
    go_enter Try.func10, Try.ntmps10
    go_wp2_with (first
      | (go_at_call 22; (with_reducible refine (HP.out).mono ?_); rintro e w1 ⟨F1, rfl, hp1, ho1, hg1⟩; have HR1 := Lib.hid (h0.out.r1 ho1); obtain ⟨g0, g1, g2, g3, g4, g5, g6, g7, g8, g9, g10, zb1⟩ := HR1.out.facts; obtain ⟨f3, f4, f5, f6, f7, f8, f9, f10⟩ := HR1.out.thaw; have HP1 := Lib.hid hp1; have HO1 := Lib.hid ho1; have HG1 := Lib.hid hg1; clear hp1 ho1 hg1)
      )
    go_ret
    have hr2 : RT (w1.setCell ⟨bx, 6, none⟩ (.bool true)) bx base v kd cp st B L wn true ou A S D := HR1.out.put 6 _ rfl
    have ho2 := (Only.refl (One bx) w1).r1 6 (.bool true)
    exact ⟨F1, v, _, _, _, _, _, _, _, _, rfl, h0.out.done HP1.out HO1.out HG1.out hr2 ho2 (fun _ hg => .inl hg), HI2.out, h0.out.frame hno.out HO1.out ho2⟩
set_option maxHeartbeats 8000000 in
theorem do_want (ak n : Int) (Y : ByteArray) (w : World) (h : Tw w b bx base F v kd cp st B L wn en ou A S D) (hi : TI kd m cp B L wn en ou A S D) (hk : kd = 1 ∨ kd = 2) (ha : ak = 5 ∨ ak = 6) :
    Calls Try.prog 10 #[.pointer (some ⟨b, 0, none⟩), .pointer (some ⟨bx, 0, none⟩), .agg #[.int .i64 ak, .int .i64 n, .string Y]] w (DoT w b bx base F kd cp st m) := by
  have hno := Lib.hid ((Only.refl Nil w).alloc (.cells #[.int .i64 ak, .int .i64 n, .string Y] 36))
  have hA0 := Lib.hid (Blk.new w 36 #[.int .i64 ak, .int .i64 n, .string Y])
  have h0 := Lib.hid (h.kept hno.out)
  have HAct := Lib.hid (fun W (ho : Only F (w.alloc (.cells #[.int .i64 ak, .int .i64 n, .string Y] 36)) W) => h0.out.act hA0.out (by decide) (by decide) (by decide) (by decide) (by decide) (by decide) ho)
  have HI := Lib.hid hi
  by_cases k1 : kd = 1
  · subst k1
    have HP := Lib.hid (PT.Want n h0.out.p hi.w0 hi.w1 13 rfl wn rfl)
    clear h hi hk
    rcases ha with rfl | rfl
    ·
      go_enter Try.func10, Try.ntmps10
      go_wp2_with (first
        | (go_at_call 21; (with_reducible refine (HP.out).mono ?_); rintro e w1 ⟨F1, rfl, hp1, ho1, hg1⟩; have HR1 := Lib.hid (h0.out.r1 ho1); obtain ⟨g0, g1, g2, g3, g4, g5, g6, g7, g8, g9, g10, zb1⟩ := HR1.out.facts; obtain ⟨f3, f4, f5, f6, f7, f8, f9, f10⟩ := HR1.out.thaw; have ha1 := HAct.out _ ho1; have a1 := ha1.cell 1; have za := ha1.lt; have HP1 := Lib.hid hp1; have HO1 := Lib.hid ho1; have HG1 := Lib.hid hg1; clear hp1 ho1 hg1 ha1)
        )
      go_ret
      exact ⟨F1, v, _, _, _, _, _, _, _, _, rfl, h0.out.done HP1.out HO1.out HG1.out HR1.out (Only.refl _ _) (fun _ hg => .inl hg), HI.out, h0.out.frame hno.out HO1.out (Only.refl _ _)⟩
    ·
      go_enter Try.func10, Try.ntmps10
      go_wp2_with (first
        | (go_at_call 21; (with_reducible refine (HP.out).mono ?_); rintro e w1 ⟨F1, rfl, hp1, ho1, hg1⟩; have HR1 := Lib.hid (h0.out.r1 ho1); obtain ⟨g0, g1, g2, g3, g4, g5, g6, g7, g8, g9, g10, zb1⟩ := HR1.out.facts; obtain ⟨f3, f4, f5, f6, f7, f8, f9, f10⟩ := HR1.out.thaw; have ha1 := HAct.out _ ho1; have a1 := ha1.cell 1; have za := ha1.lt; have HP1 := Lib.hid hp1; have HO1 := Lib.hid ho1; have HG1 := Lib.hid hg1; clear hp1 ho1 hg1 ha1)
        )
      go_ret
      exact ⟨F1, v, _, _, _, _, _, _, _, _, rfl, h0.out.done HP1.out HO1.out HG1.out HR1.out (Only.refl _ _) (fun _ hg => .inl hg), HI.out, h0.out.frame hno.out HO1.out (Only.refl _ _)⟩
  · have k2 : kd = 2 := by omega
    subst k2
    by_cases hn : n < 1
    · have HP := Lib.hid (PT.Want n h0.out.p hi.w0 hi.w1 2 (by unfold wnE Dem.addE; rw [if_neg (by decide), if_pos hn]) wn (by unfold wnK Dem.addK; rw [if_neg (by decide), if_pos hn]; omega))
      clear h hi hk
      rcases ha with rfl | rfl
      ·
        go_enter Try.func10, Try.ntmps10
        go_wp2_with (first
          | (go_at_call 21; (with_reducible refine (HP.out).mono ?_); rintro e w1 ⟨F1, rfl, hp1, ho1, hg1⟩; have HR1 := Lib.hid (h0.out.r1 ho1); obtain ⟨g0, g1, g2, g3, g4, g5, g6, g7, g8, g9, g10, zb1⟩ := HR1.out.facts; obtain ⟨f3, f4, f5, f6, f7, f8, f9, f10⟩ := HR1.out.thaw; have ha1 := HAct.out _ ho1; have a1 := ha1.cell 1; have za := ha1.lt; have HP1 := Lib.hid hp1; have HO1 := Lib.hid ho1; have HG1 := Lib.hid hg1; clear hp1 ho1 hg1 ha1)
          )
        go_ret
        exact ⟨F1, v, _, _, _, _, _, _, _, _, rfl, h0.out.done HP1.out HO1.out HG1.out HR1.out (Only.refl _ _) (fun _ hg => .inl hg), HI.out, h0.out.frame hno.out HO1.out (Only.refl _ _)⟩
      ·
        go_enter Try.func10, Try.ntmps10
        go_wp2_with (first
          | (go_at_call 21; (with_reducible refine (HP.out).mono ?_); rintro e w1 ⟨F1, rfl, hp1, ho1, hg1⟩; have HR1 := Lib.hid (h0.out.r1 ho1); obtain ⟨g0, g1, g2, g3, g4, g5, g6, g7, g8, g9, g10, zb1⟩ := HR1.out.facts; obtain ⟨f3, f4, f5, f6, f7, f8, f9, f10⟩ := HR1.out.thaw; have ha1 := HAct.out _ ho1; have a1 := ha1.cell 1; have za := ha1.lt; have HP1 := Lib.hid hp1; have HO1 := Lib.hid ho1; have HG1 := Lib.hid hg1; clear hp1 ho1 hg1 ha1)
          )
        go_ret
        exact ⟨F1, v, _, _, _, _, _, _, _, _, rfl, h0.out.done HP1.out HO1.out HG1.out HR1.out (Only.refl _ _) (fun _ hg => .inl hg), HI.out, h0.out.frame hno.out HO1.out (Only.refl _ _)⟩
    · have hw0 := hi.w0
      have hw1 := hi.w1
      obtain ⟨q, hq⟩ : ∃ q, Dem.addK wn 2147483647 n = q := ⟨_, rfl⟩
      have hq0 : 0 ≤ wn + q := by rw [← hq]; unfold Dem.addK; omega
      have hq1 : wn + q ≤ 2147483647 := by rw [← hq]; unfold Dem.addK; omega
      have hq2 : 0 ≤ q := by rw [← hq]; unfold Dem.addK; omega
      have HP := Lib.hid (PT.Want n h0.out.p hi.w0 hi.w1 0 (by unfold wnE Dem.addE; rw [if_neg (by decide), if_neg hn]) (wn + q) (by unfold wnK; rw [if_neg (by decide), hq]))
      have HI2 := Lib.hid (by have := hi.want n; unfold wnK at this; rw [if_neg (by decide), hq] at this; exact this : TI 2 m cp B L (wn + q) en ou A S D)
      have hR := Lib.hid (fun W => radd_any wn n W hw0 hw1 (by omega))
      rw [hq] at hR
      clear h hi hk hq
      rcases ha with rfl | rfl
      ·
        go_enter Try.func10, Try.ntmps10
        go_wp2_with (first
          | (go_at_call 21; (with_reducible refine (HP.out).mono ?_); rintro e w1 ⟨F1, rfl, hp1, ho1, hg1⟩; have HR1 := Lib.hid (h0.out.r1 ho1); obtain ⟨g0, g1, g2, g3, g4, g5, g6, g7, g8, g9, g10, zb1⟩ := HR1.out.facts; obtain ⟨f3, f4, f5, f6, f7, f8, f9, f10⟩ := HR1.out.thaw; have ha1 := HAct.out _ ho1; have a1 := ha1.cell 1; have za := ha1.lt; have HP1 := Lib.hid hp1; have HO1 := Lib.hid ho1; have HG1 := Lib.hid hg1; clear hp1 ho1 hg1 ha1)
          )
        go_region_law (first
          | (go_simp; go_at_call 30; (with_reducible refine (hR.out _).mono ?_); rintro e w9 ⟨rfl, rfl⟩)
          )
        all_goals
          go_wp2
          go_ret
          have hr2 : RT (w1.drew.setCell ⟨bx, 5, none⟩ (.int .i64 (wn + q))) bx base v 2 cp st B L (wn + q) en ou A S D := (HR1.out.kept ((Only.refl Nil w1).drew)).put 5 _ rfl
          have ho2 := ((Only.refl (One bx) w1).drew).r1 5 (.int .i64 (wn + q))
          exact ⟨F1, v, _, _, _, _, _, _, _, _, rfl, h0.out.done HP1.out HO1.out HG1.out hr2 ho2 (fun _ hg => .inl hg), HI2.out, h0.out.frame hno.out HO1.out ho2⟩
      ·
        go_enter Try.func10, Try.ntmps10
        go_wp2_with (first
          | (go_at_call 21; (with_reducible refine (HP.out).mono ?_); rintro e w1 ⟨F1, rfl, hp1, ho1, hg1⟩; have HR1 := Lib.hid (h0.out.r1 ho1); obtain ⟨g0, g1, g2, g3, g4, g5, g6, g7, g8, g9, g10, zb1⟩ := HR1.out.facts; obtain ⟨f3, f4, f5, f6, f7, f8, f9, f10⟩ := HR1.out.thaw; have ha1 := HAct.out _ ho1; have a1 := ha1.cell 1; have za := ha1.lt; have HP1 := Lib.hid hp1; have HO1 := Lib.hid ho1; have HG1 := Lib.hid hg1; clear hp1 ho1 hg1 ha1)
          )
        go_region_law (first
          | (go_simp; go_at_call 30; (with_reducible refine (hR.out _).mono ?_); rintro e w9 ⟨rfl, rfl⟩)
          )
        all_goals
          go_wp2
          go_ret
          have hr2 : RT (w1.drew.setCell ⟨bx, 5, none⟩ (.int .i64 (wn + q))) bx base v 2 cp st B L (wn + q) en ou A S D := (HR1.out.kept ((Only.refl Nil w1).drew)).put 5 _ rfl
          have ho2 := ((Only.refl (One bx) w1).drew).r1 5 (.int .i64 (wn + q))
          exact ⟨F1, v, _, _, _, _, _, _, _, _, rfl, h0.out.done HP1.out HO1.out HG1.out hr2 ho2 (fun _ hg => .inl hg), HI2.out, h0.out.frame hno.out HO1.out ho2⟩
end
end Go.Proofs.Ytlinmpcllmijaaa
