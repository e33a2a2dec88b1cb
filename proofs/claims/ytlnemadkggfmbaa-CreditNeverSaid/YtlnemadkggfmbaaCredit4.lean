/- What Spend, Grow and Close do to a ledger. -/
import Derived.Test.YtlnemadkggfmbaaCredit3
namespace Go.Proofs.Ytlnemadkggfmbaa
open Go.RowKit

theorem map_set_same {α β : Type} (f : α → β) {L : List α} {i : Nat} {x y : α} (hx : L[i]? = some x) (hf : f y = f x) : (L.set i y).map f = L.map f := by
  rw [List.map_set, hf]
  apply List.ext_getElem?
  intro j
  by_cases hij : i = j
  · subst hij
    have hl := (List.getElem?_eq_some_iff.1 hx).1
    rw [List.getElem?_set_self (by simpa using hl), List.getElem?_map, hx]
    rfl
  · rw [List.getElem?_set_ne hij]
theorem mem_set {α : Type} {L : List α} {i : Nat} {x y z : α} (hx : L[i]? = some x) (h : z ∈ L.set i y) : z = y ∨ ∃ j, j ≠ i ∧ L[j]? = some z := by
  obtain ⟨j, hj⟩ := List.mem_iff_getElem?.1 h
  have hl := (List.getElem?_eq_some_iff.1 hx).1
  by_cases hij : j = i
  · subst hij
    rw [List.getElem?_set_self hl] at hj
    injection hj with hj
    exact .inl hj.symm
  · rw [List.getElem?_set_ne (Ne.symm hij)] at hj
    exact .inr ⟨j, hij, hj⟩
theorem nd_ne {L : List Gn} (h : (L.map (·.b)).Nodup) {i j : Nat} {x y : Gn} (hx : L[i]? = some x) (hy : L[j]? = some y) (hij : j ≠ i) : y.b ≠ x.b := by
  intro e
  have h1 : (L.map (·.b))[i]? = some x.b := by simp [hx]
  have h2 : (L.map (·.b))[j]? = some x.b := by simp [hy, e]
  have hl := (List.getElem?_eq_some_iff.1 h1).1
  exact hij ((List.getElem?_inj (i := i) (j := j) hl h).1 (h1.trans h2.symm)).symm
section
variable {w w' : World} {b cb base : Nat} {C S : Int} {v : Value} {L : List Gn}
theorem Lg.ne_own (h : Lg w b cb base C S v L) {g : Nat} {m : Int} (hg : Win w g m) : v.ownBlock ≠ some g := fun hh => by
  obtain ⟨cs, hcs⟩ := h.own.blkOf hh
  exact absurd (hg.inj hcs).1 (by decide)
theorem Lg.ne_b (h : Lg w b cb base C S v L) {g : Nat} {m : Int} (hg : Win w g m) : b ≠ g := fun e => by
  subst e
  exact absurd (hg.inj h.blk).1 (by decide)
/-- a stream's window is another one -/
theorem Lg.updWin (h : Lg w b cb base C S v L) {i : Nat} {x : Gn} (hx : L[i]? = some x) (ho : Only (One x.b) w w') {m : Int} (hW : Win w' x.b m) : Lg w' b cb base C S v (L.set i ⟨x.id, x.s, m, x.b⟩) := by
  have hxw := h.win hx
  have hnd := List.nodup_cons.1 h.nd
  have hxm : x.b ∈ L.map (·.b) := List.mem_map.2 ⟨x, List.mem_of_getElem? hx, rfl⟩
  have hxl := List.mem_of_getElem? hx
  refine ⟨h.blk.kept ho (h.ne_b hxw), h.conn.kept ho (fun e => hnd.1 (by unfold One at e; rw [e]; exact hxm)), ?_, fun y hy => ?_, ?_, h.hb, h.hc, fun y hy => ?_⟩
  · have := h.own.kept ho (fun g hg hh => by unfold One at hh; subst hh; exact h.ne_own hxw hg)
    rwa [show acs (L.set i ⟨x.id, x.s, m, x.b⟩) = acs L from map_set_same Gn.ac hx rfl]
  · rcases mem_set hx hy with rfl | ⟨j, hj, hy⟩
    · exact hW
    · exact (h.win hy).kept ho (nd_ne hnd.2 hx hy hj)
  · rw [map_set_same (y := (⟨x.id, x.s, m, x.b⟩ : Gn)) (·.b) hx rfl]
    exact h.nd
  · rcases mem_set hx hy with rfl | ⟨j, hj, hy⟩
    · exact h.hw x hxl
    · exact h.hw y (List.mem_of_getElem? hy)
/-- the connection's window is another one -/
theorem Lg.updCon (h : Lg w b cb base C S v L) (ho : Only (One cb) w w') {m : Int} (hW : Win w' cb m) : Lg w' b cb base m S v L := by
  have hnd := List.nodup_cons.1 h.nd
  exact ⟨h.blk.kept ho (h.ne_b h.conn), hW, h.own.kept ho (fun g hg hh => by unfold One at hh; subst hh; exact h.ne_own h.conn hg), fun y hy => (h.wins y hy).kept ho (fun e => hnd.1 (by unfold One at e; rw [← e]; exact List.mem_map.2 ⟨y, hy, rfl⟩)), h.nd, h.hb, h.hc, h.hw⟩
/-- what was spent on a stream is another number -/
theorem Lg.updS {g o n cap : Nat} (h : Lg w b cb base C S (.slice (some ⟨g, o, none⟩) n cap) L) {i : Nat} {x : Gn} (hx : L[i]? = some x) (s : Int) : Lg (w.setCell ⟨g, o + i * 3 + 1, none⟩ (.int .i64 s)) b cb base C S (.slice (some ⟨g, o, none⟩) n cap) (L.set i ⟨x.id, s, x.n, x.b⟩) := by
  have hxl := List.mem_of_getElem? hx
  have hwn : ∀ {k : Nat} {m : Int}, Win w k m → k ≠ g := fun {k m} hk e => h.ne_own hk (by rw [e]; rfl)
  refine ⟨h.blk.far (p := ⟨g, _, none⟩) (fun e => (h.own.ne h.blk (by decide)) (by rw [e]; rfl)) _, h.conn.far (p := ⟨g, _, none⟩) (hwn h.conn) _, ?_, fun y hy => ?_, ?_, h.hb, h.hc, fun y hy => ?_⟩
  · have := h.own.putC encA_len i 1 (acs_at hx) (by decide) ⟨x.id, s, some ⟨x.b, 0, none⟩⟩ (.int .i64 s) rfl
    rwa [show acs (L.set i ⟨x.id, s, x.n, x.b⟩) = (acs L).set i ⟨x.id, s, some ⟨x.b, 0, none⟩⟩ from List.map_set]
  · rcases mem_set hx hy with rfl | ⟨j, hj, hy⟩
    · exact (h.win hx).far (p := ⟨g, _, none⟩) (hwn (h.win hx)) _
    · exact (h.win hy).far (p := ⟨g, _, none⟩) (hwn (h.win hy)) _
  · rw [map_set_same (y := (⟨x.id, s, x.n, x.b⟩ : Gn)) (·.b) hx rfl]
    exact h.nd
  · rcases mem_set hx hy with rfl | ⟨j, hj, hy⟩
    · exact h.hw x hxl
    · exact h.hw y (List.mem_of_getElem? hy)
/-- what was spent in all is another number -/
theorem Lg.updB (h : Lg w b cb base C S v L) (s : Int) : Lg (w.setCell ⟨b, 1, none⟩ (.int .i64 s)) b cb base C s v L :=
  ⟨h.blk.set 1 _, h.conn.far (p := ⟨b, 1, none⟩) (h.ne_b h.conn).symm _, h.own.set (h.own.ne h.blk (by decide)) 1 _, fun y hy => (h.wins y hy).far (p := ⟨b, 1, none⟩) (h.ne_b (h.wins y hy)).symm _, h.nd, h.hb, h.hc, h.hw⟩
theorem set_set {α : Type} (L : List α) (i : Nat) (x y : α) : (L.set i x).set i y = L.set i y := by simp
def gOk (C : Int) (L : List Gn) : Prop := winOk C ∧ ∀ x ∈ L, winOk x.n
def sOk (M S : Int) (L : List Gn) : Prop := (0 ≤ S ∧ S ≤ M) ∧ ∀ x ∈ L, 0 ≤ x.s ∧ x.s ≤ M
theorem Spend_out (id k : Int) (w : World) (h : Lg w b cb base C S v L) (hl : L.length ≤ 1000) (hid : outL L id) :
    Calls Try.prog 16 #[.pointer (some ⟨b, 0, none⟩), .int .i64 id, .int .i64 k] w fun e w' => e = .returned (.int .i64 7) ∧ Only Nil w w' := by
  go_enter Try.func16, Try.ntmps16
  go_wp2_with (first
    | (go_at_call 30; (with_reducible refine (place_out id _ h hl hid).mono ?_); rintro e w1 ⟨r, rfl, hr, ho1⟩)
    )
  go_ret
  exact ⟨rfl, ho1⟩
theorem Spend_neg (i : Nat) (x : Gn) (id k : Int) (w : World) (h : Lg w b cb base C S v L) (hl : L.length ≤ 1000) (hr : rise L) (hx : L[i]? = some x) (hid : x.id = id) (hk : k < 0) :
    Calls Try.prog 16 #[.pointer (some ⟨b, 0, none⟩), .int .i64 id, .int .i64 k] w fun e w' => e = .returned (.int .i64 2) ∧ Only Nil w w' := by
  have hP := Lib.hid (fun W (k : Lg W b cb base C S v L) => place_in i x id W k hl hr hx hid)
  clear hx hr hid
  go_enter Try.func16, Try.ntmps16
  go_wp2_with (first
    | (go_at_call 30; (with_reducible refine (hP.out _ h).mono ?_); rintro e w1 ⟨rfl, ho1⟩)
    )
  go_ret
  exact ⟨rfl, ho1⟩
theorem Spend_over (i : Nat) (x : Gn) (id k : Int) (w : World) (h : Lg w b cb base C S v L) (hl : L.length ≤ 1000) (hr : rise L) (hx : L[i]? = some x) (hid : x.id = id) (hk : 0 < k) (hf : frI C x.n < k) :
    Calls Try.prog 16 #[.pointer (some ⟨b, 0, none⟩), .int .i64 id, .int .i64 k] w fun e w' => e = .returned (.int .i64 9) ∧ Only Nil w w' := by
  have hP := Lib.hid (fun W (k : Lg W b cb base C S v L) => place_in i x id W k hl hr hx hid)
  have hF := Lib.hid (fun W (k : Lg W b cb base C S v L) => Free_in i x id W k hl hr hx hid)
  clear hx hr hid
  generalize frI C x.n = f at *
  go_enter Try.func16, Try.ntmps16
  go_wp2_with (first
    | (go_at_call 30; (with_reducible refine (hP.out _ h).mono ?_); rintro e w1 ⟨rfl, ho1⟩; have h1 := h.kept ho1)
    | (go_at_call 19; (with_reducible refine (hF.out _ h1).mono ?_); rintro e w2 ⟨rfl, ho2⟩)
    )
  go_ret
  exact ⟨rfl, ho1.trans ho2⟩
set_option maxHeartbeats 2000000 in
theorem Spend_in (i : Nat) (x : Gn) (id k : Int) (w : World) (h : Lg w b cb base C S v L) (hl : L.length ≤ 1000) (hr : rise L) (hx : L[i]? = some x) (hid : x.id = id) (h0 : 0 ≤ k) (hf : 0 < k → k ≤ frI C x.n) (hg : gOk C L) (hs : sOk 1000000000000 S L) :
    Calls Try.prog 16 #[.pointer (some ⟨b, 0, none⟩), .int .i64 id, .int .i64 k] w (LPost w b cb base v L (.int .i64 0) (C - k) (S + k) (L.set i ⟨x.id, x.s + k, x.n - k, x.b⟩)) := by
  obtain ⟨A, cap, rfl, hcp, hm⟩ := h.own.form
  rw [List.length_map] at h hcp ⊢
  have hP := Lib.hid (fun W (k : Lg W b cb base C S (.slice A L.length cap) L) => place_in i x id W k hl hr hx hid)
  have hF := Lib.hid (fun W (k : Lg W b cb base C S (.slice A L.length cap) L) => Free_in i x id W k hl hr hx hid)
  have hR := Lib.hid (fun W (k : Lg W b cb base C S (.slice A L.length cap) L) => k.row hx)
  have hWi := Lib.hid (fun W (k : Lg W b cb base C S (.slice A L.length cap) L) => k.win hx)
  have hil := (List.getElem?_eq_some_iff.1 hx).1
  have HM := Lib.hid (List.mem_of_getElem? hx)
  have hcf : k ≤ 2147483647 ∧ (0 < k → k ≤ C ∧ k ≤ x.n) := by
    have := hg.1.2
    have := (hg.2 x (List.mem_of_getElem? hx)).2
    unfold frI at hf
    omega
  have hxs := hs.2 x (List.mem_of_getElem? hx)
  have hS := hs.1
  have hWS : Hid (∀ W, Win W x.b x.n → Calls Try.prog 33 #[.pointer (some ⟨x.b, 0, none⟩), .int .i64 k] W (WinPost W x.b 0 (x.n - k))) := Lib.hid fun W hW => by
    have := spend_any x.b x.n k W hW (hg.2 x (List.mem_of_getElem? hx)) ⟨by omega, by omega⟩
    have e1 : spE x.n k = 0 := by unfold spE; rw [if_neg (by omega), if_neg (by omega)]
    have e2 : spN x.n k = x.n - k := by unfold spN; rw [if_neg (by omega), if_neg (by omega)]
    rwa [e1, e2] at this
  have hCS : Hid (∀ W, Win W cb C → Calls Try.prog 33 #[.pointer (some ⟨cb, 0, none⟩), .int .i64 k] W (WinPost W cb 0 (C - k))) := Lib.hid fun W hW => by
    have := spend_any cb C k W hW hg.1 ⟨by omega, by omega⟩
    have e1 : spE C k = 0 := by unfold spE; rw [if_neg (by omega), if_neg (by omega)]
    have e2 : spN C k = C - k := by unfold spN; rw [if_neg (by omega), if_neg (by omega)]
    rwa [e1, e2] at this
  have hX := Lib.hid hx
  have hX3 : Hid ((L.set i ⟨x.id, x.s, x.n - k, x.b⟩)[i]? = some ⟨x.id, x.s, x.n - k, x.b⟩) := Lib.hid (by rw [List.getElem?_set_self hil])
  obtain ⟨hcf1, hcf2⟩ := hcf
  obtain ⟨hxs1, hxs2⟩ := hxs
  obtain ⟨hS1, hS2⟩ := hS
  clear hx hr hid hg hs hcf2
  generalize L.length = n at *
  generalize frI C x.n = f at *
  by_cases hk : 0 < k
  · have hfk := hf hk
    clear hf
    go_enter Try.func16, Try.ntmps16
    go_upto_region 10 with (first
      | (go_at_call 30; (with_reducible refine (hP.out _ h).mono ?_); rintro e w1 ⟨rfl, ho1⟩; have h1 := h.kept ho1)
      | (go_at_call 19; (with_reducible refine (hF.out _ h1).mono ?_); rintro e w2 ⟨rfl, ho2⟩; have h2 := h1.kept ho2; have ho12 := ho1.trans ho2)
      )
    have hT1 := h2.facts.2.2
    obtain ⟨g, o, rfl, hg, e0, e1, e2⟩ := hR.out _ h2
    have hx2 := h2.own
    have hci : (i : Int) < n := by omega
    go_wp2_with (first
      | (go_at_call 33; (with_reducible refine (hWS.out _ (hWi.out _ h2)).mono ?_); rintro e w3 ⟨rfl, ho3, hW3⟩; have h3 := h2.updWin hX.out ho3 hW3; have k30 := h3.facts.1)
      | (go_at_call 33; (with_reducible refine (hCS.out _ h3.conn).mono ?_); rintro e w4 ⟨rfl, ho4, hW4⟩; have h4 := h3.updCon ho4 hW4; obtain ⟨g', o', hA', hg', e40, e41, e42⟩ := h4.row hX3.out; injection hA' with hA'; injection hA' with hA1 hA2; subst hA1 hA2; have f41 := h4.own.frzN (o + i * 3 + 1); have h5 := h4.updS hX3.out (x.s + k); have k51 := h5.facts.2.1; have f51 := h5.blk.frozen 1; have h6 := h5.updB (S + k))
      )
    go_ret
    rw [set_set] at h6
    have hq := (((ho12.of_nil (Ft b cb (.slice (some ⟨g, o, none⟩) n cap) L)).trans (ho3.weaken' fun _ hh => .inr (.inr (.inr ⟨x, HM.out, hh.symm⟩)))).trans (ho4.weaken' fun _ hh => .inr (.inl hh)))
    exact ⟨_, rfl, h6, (hq.setCell (p := ⟨g, o + i * 3 + 1, none⟩) (fun _ => .inr (.inr (.inl rfl))) _).setCell (p := ⟨b, 1, none⟩) (fun _ => .inl rfl) _⟩
  · clear hf
    go_enter Try.func16, Try.ntmps16
    go_upto_region 10 with (first
      | (go_at_call 30; (with_reducible refine (hP.out _ h).mono ?_); rintro e w2 ⟨rfl, ho12⟩; have h2 := h.kept ho12)
      )
    have hT1 := h2.facts.2.2
    obtain ⟨g, o, rfl, hg, e0, e1, e2⟩ := hR.out _ h2
    have hx2 := h2.own
    have hci : (i : Int) < n := by omega
    go_wp2_with (first
      | (go_at_call 33; (with_reducible refine (hWS.out _ (hWi.out _ h2)).mono ?_); rintro e w3 ⟨rfl, ho3, hW3⟩; have h3 := h2.updWin hX.out ho3 hW3; have k30 := h3.facts.1)
      | (go_at_call 33; (with_reducible refine (hCS.out _ h3.conn).mono ?_); rintro e w4 ⟨rfl, ho4, hW4⟩; have h4 := h3.updCon ho4 hW4; obtain ⟨g', o', hA', hg', e40, e41, e42⟩ := h4.row hX3.out; injection hA' with hA'; injection hA' with hA1 hA2; subst hA1 hA2; have f41 := h4.own.frzN (o + i * 3 + 1); have h5 := h4.updS hX3.out (x.s + k); have k51 := h5.facts.2.1; have f51 := h5.blk.frozen 1; have h6 := h5.updB (S + k))
      )
    go_ret
    rw [set_set] at h6
    have hq := (((ho12.of_nil (Ft b cb (.slice (some ⟨g, o, none⟩) n cap) L)).trans (ho3.weaken' fun _ hh => .inr (.inr (.inr ⟨x, HM.out, hh.symm⟩)))).trans (ho4.weaken' fun _ hh => .inr (.inl hh)))
    exact ⟨_, rfl, h6, (hq.setCell (p := ⟨g, o + i * 3 + 1, none⟩) (fun _ => .inr (.inr (.inl rfl))) _).setCell (p := ⟨b, 1, none⟩) (fun _ => .inl rfl) _⟩
/-! ### Grow -/
theorem Grow_out (id k : Int) (w : World) (h : Lg w b cb base C S v L) (hl : L.length ≤ 1000) (h0 : (id == 0) = false) (hid : outL L id) :
    Calls Try.prog 13 #[.pointer (some ⟨b, 0, none⟩), .int .i64 id, .int .i64 k] w fun e w' => e = .returned (.int .i64 7) ∧ Only Nil w w' := by
  go_enter Try.func13, Try.ntmps13
  go_wp2_with (first
    | (go_at_call 30; (with_reducible refine (place_out id _ h hl hid).mono ?_); rintro e w1 ⟨r, rfl, hr, ho1⟩)
    )
  go_ret
  exact ⟨rfl, ho1⟩
theorem Grow_0 (k : Int) (w : World) (h : Lg w b cb base C S v L) (hg : gOk C L) :
    Calls Try.prog 13 #[.pointer (some ⟨b, 0, none⟩), .int .i64 0, .int .i64 k] w (LPost w b cb base v L (.int .i64 (growE C k)) (growN C k) S L) := by
  obtain ⟨c0, c1, c2⟩ := h.facts
  have hG := Lib.hid (fun W (k' : Lg W b cb base C S v L) => grow_any cb C k W k'.conn hg.1)
  clear hg
  generalize growE C k = e at *
  generalize growN C k = m at *
  go_enter Try.func13, Try.ntmps13
  go_wp2_with (first
    | (go_at_call 31; (with_reducible refine (hG.out _ h).mono ?_); rintro e w1 ⟨rfl, ho1, hW1⟩)
    )
  go_ret
  exact ⟨_, rfl, h.updCon ho1 hW1, ho1.weaken' fun _ hh => .inr (.inl hh)⟩
theorem Grow_in (i : Nat) (x : Gn) (id k : Int) (w : World) (h : Lg w b cb base C S v L) (hl : L.length ≤ 1000) (hr : rise L) (hx : L[i]? = some x) (hid : x.id = id) (h0 : (id == 0) = false) (hg : gOk C L) :
    Calls Try.prog 13 #[.pointer (some ⟨b, 0, none⟩), .int .i64 id, .int .i64 k] w (LPost w b cb base v L (.int .i64 (growE x.n k)) C S (L.set i ⟨x.id, x.s, growN x.n k, x.b⟩)) := by
  obtain ⟨A, cap, rfl, hcp, hm⟩ := h.own.form
  rw [List.length_map] at h hcp ⊢
  have hP := Lib.hid (fun W (k : Lg W b cb base C S (.slice A L.length cap) L) => place_in i x id W k hl hr hx hid)
  have hR := Lib.hid (fun W (k : Lg W b cb base C S (.slice A L.length cap) L) => k.row hx)
  have hG := Lib.hid (fun W (k' : Lg W b cb base C S (.slice A L.length cap) L) => grow_any x.b x.n k W (k'.win hx) (hg.2 x (List.mem_of_getElem? hx)))
  have hil := (List.getElem?_eq_some_iff.1 hx).1
  have HM := Lib.hid (List.mem_of_getElem? hx)
  have hX := Lib.hid hx
  clear hx hr hid hg
  generalize L.length = n at *
  have hci : (i : Int) < n := by omega
  generalize growE x.n k = e at *
  generalize growN x.n k = m at *
  go_enter Try.func13, Try.ntmps13
  go_wp2_with (first
    | (go_at_call 30; (with_reducible refine (hP.out _ h).mono ?_); rintro e w1 ⟨rfl, ho1⟩; have h1 := h.kept ho1; obtain ⟨g, o, rfl, hg, e0, e1, e2⟩ := hR.out _ h1; have k2 := h1.facts.2.2)
    | (go_at_call 31; (with_reducible refine (hG.out _ h1).mono ?_); rintro e w2 ⟨rfl, ho2, hW2⟩)
    )
  go_ret
  exact ⟨_, rfl, h1.updWin hX.out ho2 hW2, (ho1.of_nil _).trans (ho2.weaken' fun _ hh => .inr (.inr (.inr ⟨x, HM.out, hh.symm⟩)))⟩
/-! ### Close -/
theorem Close_out (id : Int) (w : World) (h : Lg w b cb base C S v L) (hl : L.length ≤ 1000) (hid : outL L id) :
    Calls Try.prog 12 #[.pointer (some ⟨b, 0, none⟩), .int .i64 id] w fun e w' => e = .returned (.int .i64 7) ∧ Only Nil w w' := by
  go_enter Try.func12, Try.ntmps12
  go_wp2_with (first
    | (go_at_call 30; (with_reducible refine (place_out id _ h hl hid).mono ?_); rintro e w1 ⟨r, rfl, hr, ho1⟩)
    )
  go_ret
  exact ⟨rfl, ho1⟩
theorem cpy_down {α : Type} (I : List α) (r : Nat) (h : r < I.length) : (cpy I r (r + 1) (min (I.length - (r + 1)) (I.length - r))).take (I.length - 1) = I.eraseIdx r := by
  have e : min (I.length - (r + 1)) (I.length - r) = I.length - (r + 1) := by omega
  rw [e]
  unfold cpy
  rw [List.eraseIdx_eq_take_drop_succ, ← List.append_assoc, List.take_append_of_le_length (by simp; omega), List.take_of_length_le (by simp; omega)]
  congr 1
  exact List.take_of_length_le (by simp)
theorem len_down {α : Type} (I : List α) (r : Nat) (h : r < I.length) : (cpy I r (r + 1) (min (I.length - (r + 1)) (I.length - r))).length = I.length :=
  cpy_length _ _ _ _ (by omega) (by omega)
theorem set_take {α : Type} (l : List α) (k : Nat) (z : α) : (l.set k z).take k = l.take k := by
  apply List.ext_getElem?
  intro i
  rw [List.getElem?_take, List.getElem?_take]
  split
  · rw [List.getElem?_set_ne (by omega)]
  · rfl
set_option maxRecDepth 100000 in
set_option maxHeartbeats 4000000 in
theorem Close_in (r : Nat) (x : Gn) (id : Int) (w : World) (h : Lg w b cb base C S v L) (hl : L.length ≤ 1000) (hr : rise L) (hx : L[r]? = some x) (hid : x.id = id) :
    Calls Try.prog 12 #[.pointer (some ⟨b, 0, none⟩), .int .i64 id] w (LPost w b cb base v L (.int .i64 0) C S (L.eraseIdx r)) := by
  obtain ⟨A, cap, rfl, hcp, hm⟩ := h.own.form
  rw [List.length_map] at h hcp ⊢
  have hP := Lib.hid (fun W (k : Lg W b cb base C S (.slice A L.length cap) L) => place_in r x id W k hl hr hx hid)
  have hil := (List.getElem?_eq_some_iff.1 hx).1
  obtain ⟨g6, o6, rfl, _, _, _, _⟩ := h.row hx
  have HL : Hid ((acs L).length = L.length) := Lib.hid (by simp [acs])
  have hI1 := Lib.hid (cpy_down (acs L) r (by rw [HL.out]; exact hil))
  have lI1 := len_down (acs L) r (by rw [HL.out]; exact hil)
  rw [HL.out] at hI1 lI1
  have HK : Hid (L.length = L.length) := Lib.hid rfl
  generalize L.length = n at h hP hil hI1 lI1 HK hl hcp ⊢
  clear hx hr hid
  by_cases hcr : cap = r + 1
  · subst hcr
    go_enter Try.func12, Try.ntmps12
    go_wp2_with (first
      | (go_at_call 30; (with_reducible refine (hP.out _ h).mono ?_); rintro e w2 ⟨rfl, ho2⟩; have h2 := h.kept ho2; have k2 := h2.facts.2.2)
      )
    have hB7 := h2.blk
    have hO7 := h2.own
    have hne6 := hO7.ne hB7 (by decide)
    have b1 : w2.drew.cell? ⟨b, 2, none⟩ = some (.slice (some ⟨g6, o6, none⟩) n (r + 1)) := hB7.cell 2
    have ew : IntKind.i64.wrap ((r : Int) + 1) = (r : Int) + 1 := IntWalk.i64_in _ (by omega)
    have er1 : (r : Int) + 1 ≤ (n : Int) := by omega
    have er2 : (0 : Int) ≤ (r : Int) + 1 := by omega
    have er3 : (r : Int) ≤ (n : Int) := by omega
    have hn1 : n - 1 < n := by omega
    clear hP k2
    go_region_held3 (fun w' => w'.cell? ⟨b, 2, none⟩ = some (.slice (some ⟨g6, o6, none⟩) n (r + 1))) (with_reducible (first | exact b1 | exact b1n)) (first
      | (refine step_cpyN (enc := encA) (by rfl) (.tmp 29) (.tmp 36) _ _ (by rfl) 61 Try.underlying52 acc_size encA_len encA_one hO7.drew _ _ _ _ _ _ (by rfl) (by rfl) r (r + 1) (by omega) (by omega) (by omega) (by omega) (by intro hh; first | (exfalso; omega) | (rw [if_neg (by omega)]; simp [Addr.add_lit]) | simp [Addr.add_lit]) (by intro hh; first | (exfalso; omega) | (rw [if_neg (by omega)]; simp [Addr.add_lit]) | simp [Addr.add_lit]) ?_; intro w10 h10 h11; have hB10 := Blk.kept hB7.drew h11.out hne6; have b1n : w10.cell? ⟨b, 2, none⟩ = some (.slice (some ⟨g6, o6, none⟩) n (r + 1)) := hB10.cell 2)
      )
    all_goals
      have hO10 := h10.out
      have hz10 : Only (fun i => i = b ∨ g6 = i) w2 w10 := ((Only.refl _ w2).drew).trans_new h11.out (fun i hi hh => by
        unfold ownB at hh
        simp [Value.ownBlock] at hh
        exact .inr hh)
      generalize cpy (acs L) r (r + 1) (min (n - (r + 1)) (n - r)) = I1 at hO10 hI1 lI1
      clear h10 h11 b1 b1n hB7 hO7
      obtain ⟨_, _, x1, e1, _, hx1, _, hc1⟩ := (hO10.sqn (fun x _ => encA_len x)).at_ (k := n - 1) (by omega)
      injection e1 with e1
      injection e1 with e1 e2
      subst e1 e2
      have y0 : w10.cell? ⟨g6, o6 + (n - 1) * 3, none⟩ = some (.int .i64 x1.id) := hc1 0 (by decide)
      have y1 : w10.cell? ⟨g6, o6 + (n - 1) * 3 + 1, none⟩ = some (.int .i64 x1.s) := hc1 1 (by decide)
      have y2 : w10.cell? ⟨g6, o6 + (n - 1) * 3 + 2, none⟩ = some (.pointer x1.p) := hc1 2 (by decide)
      have z0 := hO10.frzN (o6 + (n - 1) * 3)
      have z1 := hO10.frzN (o6 + (n - 1) * 3 + 1)
      have z2 := hO10.frzN (o6 + (n - 1) * 3 + 2)
      have k1 : w10.cell? ⟨b, 2, none⟩ = some (.slice (some ⟨g6, o6, none⟩) n (r + 1)) := hB10.cell 2
      have k12 := hB10.frozen 2
      have en1 : ((n : Int) - 1).toNat = n - 1 := by omega
      have en2 : (0 : Int) ≤ (n : Int) - 1 := by omega
      have en3 : (1 : Int) ≤ (n : Int) := by omega
      have hn6b : g6 ≠ b := fun e => hne6 (by rw [e]; rfl)
      have EN1 := Lib.hid en1
      have hcn : (n : Int) ≤ (r + 1) := by omega
      clear hc1 hx1
      go_wp2
      all_goals
        go_ret
        have p1 := (hO10.put3 (n - 1) (by omega) ⟨0, 0, none⟩).take (fun x _ => encA_len x) rfl (k := n - 1) (by rw [List.length_set]; omega)
        rw [set_take, hI1.out, show (acs L).eraseIdx r = acs (L.eraseIdx r) from (by simp [acs, List.eraseIdx_eq_take_drop_succ, List.map_take, List.map_drop])] at p1
        have q1 := ((hB10.far (p := ⟨g6, o6 + (n - 1) * 3, none⟩) hn6b.symm (.int .i64 0)).far (p := ⟨g6, o6 + (n - 1) * 3 + 1, none⟩) hn6b.symm (.int .i64 0)).far (p := ⟨g6, o6 + (n - 1) * 3 + 2, none⟩) hn6b.symm (.pointer none)
        have q2 := q1.set 2 (.slice (some ⟨g6, o6, none⟩) (n - 1) (r + 1))
        have p2 := p1.set (p1.ne q1 (by decide)) 2 (.slice (some ⟨g6, o6, none⟩) (n - 1) (r + 1))
        have hz11 := (((hz10.setCell (p := ⟨g6, o6 + (n - 1) * 3, none⟩) (fun _ => .inr rfl) (.int .i64 0)).setCell (p := ⟨g6, o6 + (n - 1) * 3 + 1, none⟩) (fun _ => .inr rfl) (.int .i64 0)).setCell (p := ⟨g6, o6 + (n - 1) * 3 + 2, none⟩) (fun _ => .inr rfl) (.pointer none)).setCell (p := ⟨b, 2, none⟩) (fun _ => .inl rfl) (.slice (some ⟨g6, o6, none⟩) (n - 1) (r + 1))
        have hwin : ∀ {g : Nat} {m : Int}, Win w2 g m → ¬ (g = b ∨ g6 = g) := fun {g m} hg hh => by
          rcases hh with rfl | rfl
          · exact absurd (hg.inj h2.blk).1 (by decide)
          · exact h2.ne_own hg rfl
        have hsub : (L.eraseIdx r).Sublist L := List.eraseIdx_sublist ..
        refine ⟨_, rfl, ⟨q2, h2.conn.kept hz11 (hwin h2.conn), p2, fun y hy => ?_, ((hsub.map (·.b)).cons_cons cb).nodup h2.nd, h2.hb, h2.hc, fun y hy => h2.hw y (hsub.subset hy)⟩, (ho2.of_nil _).trans (hz11.weaken' ?_)⟩
        · have := h2.wins y (hsub.subset hy)
          exact this.kept hz11 (hwin this)
        · rintro i (rfl | rfl)
          · exact .inl rfl
          · exact .inr (.inr (.inl rfl))
  ·
    go_enter Try.func12, Try.ntmps12
    go_wp2_with (first
      | (go_at_call 30; (with_reducible refine (hP.out _ h).mono ?_); rintro e w2 ⟨rfl, ho2⟩; have h2 := h.kept ho2; have k2 := h2.facts.2.2)
      )
    have hB7 := h2.blk
    have hO7 := h2.own
    have hne6 := hO7.ne hB7 (by decide)
    have b1 : w2.drew.cell? ⟨b, 2, none⟩ = some (.slice (some ⟨g6, o6, none⟩) n cap) := hB7.cell 2
    have ew : IntKind.i64.wrap ((r : Int) + 1) = (r : Int) + 1 := IntWalk.i64_in _ (by omega)
    have er1 : (r : Int) + 1 ≤ (n : Int) := by omega
    have er2 : (0 : Int) ≤ (r : Int) + 1 := by omega
    have er3 : (r : Int) ≤ (n : Int) := by omega
    have hn1 : n - 1 < n := by omega
    clear hP k2
    go_region_held3 (fun w' => w'.cell? ⟨b, 2, none⟩ = some (.slice (some ⟨g6, o6, none⟩) n cap)) (with_reducible (first | exact b1 | exact b1n)) (first
      | (refine step_cpyN (enc := encA) (by rfl) (.tmp 29) (.tmp 36) _ _ (by rfl) 61 Try.underlying52 acc_size encA_len encA_one hO7.drew _ _ _ _ _ _ (by rfl) (by rfl) r (r + 1) (by omega) (by omega) (by omega) (by omega) (by intro hh; first | (exfalso; omega) | (rw [if_neg (by omega)]; simp [Addr.add_lit]) | simp [Addr.add_lit]) (by intro hh; first | (exfalso; omega) | (rw [if_neg (by omega)]; simp [Addr.add_lit]) | simp [Addr.add_lit]) ?_; intro w10 h10 h11; have hB10 := Blk.kept hB7.drew h11.out hne6; have b1n : w10.cell? ⟨b, 2, none⟩ = some (.slice (some ⟨g6, o6, none⟩) n cap) := hB10.cell 2)
      )
    all_goals
      have hO10 := h10.out
      have hz10 : Only (fun i => i = b ∨ g6 = i) w2 w10 := ((Only.refl _ w2).drew).trans_new h11.out (fun i hi hh => by
        unfold ownB at hh
        simp [Value.ownBlock] at hh
        exact .inr hh)
      generalize cpy (acs L) r (r + 1) (min (n - (r + 1)) (n - r)) = I1 at hO10 hI1 lI1
      clear h10 h11 b1 b1n hB7 hO7
      obtain ⟨_, _, x1, e1, _, hx1, _, hc1⟩ := (hO10.sqn (fun x _ => encA_len x)).at_ (k := n - 1) (by omega)
      injection e1 with e1
      injection e1 with e1 e2
      subst e1 e2
      have y0 : w10.cell? ⟨g6, o6 + (n - 1) * 3, none⟩ = some (.int .i64 x1.id) := hc1 0 (by decide)
      have y1 : w10.cell? ⟨g6, o6 + (n - 1) * 3 + 1, none⟩ = some (.int .i64 x1.s) := hc1 1 (by decide)
      have y2 : w10.cell? ⟨g6, o6 + (n - 1) * 3 + 2, none⟩ = some (.pointer x1.p) := hc1 2 (by decide)
      have z0 := hO10.frzN (o6 + (n - 1) * 3)
      have z1 := hO10.frzN (o6 + (n - 1) * 3 + 1)
      have z2 := hO10.frzN (o6 + (n - 1) * 3 + 2)
      have k1 : w10.cell? ⟨b, 2, none⟩ = some (.slice (some ⟨g6, o6, none⟩) n cap) := hB10.cell 2
      have k12 := hB10.frozen 2
      have en1 : ((n : Int) - 1).toNat = n - 1 := by omega
      have en2 : (0 : Int) ≤ (n : Int) - 1 := by omega
      have en3 : (1 : Int) ≤ (n : Int) := by omega
      have hn6b : g6 ≠ b := fun e => hne6 (by rw [e]; rfl)
      have EN1 := Lib.hid en1
      have hcn : (n : Int) ≤ cap := by omega
      clear hc1 hx1
      go_wp2
      all_goals
        go_ret
        have p1 := (hO10.put3 (n - 1) (by omega) ⟨0, 0, none⟩).take (fun x _ => encA_len x) rfl (k := n - 1) (by rw [List.length_set]; omega)
        rw [set_take, hI1.out, show (acs L).eraseIdx r = acs (L.eraseIdx r) from (by simp [acs, List.eraseIdx_eq_take_drop_succ, List.map_take, List.map_drop])] at p1
        have q1 := ((hB10.far (p := ⟨g6, o6 + (n - 1) * 3, none⟩) hn6b.symm (.int .i64 0)).far (p := ⟨g6, o6 + (n - 1) * 3 + 1, none⟩) hn6b.symm (.int .i64 0)).far (p := ⟨g6, o6 + (n - 1) * 3 + 2, none⟩) hn6b.symm (.pointer none)
        have q2 := q1.set 2 (.slice (some ⟨g6, o6, none⟩) (n - 1) cap)
        have p2 := p1.set (p1.ne q1 (by decide)) 2 (.slice (some ⟨g6, o6, none⟩) (n - 1) cap)
        have hz11 := (((hz10.setCell (p := ⟨g6, o6 + (n - 1) * 3, none⟩) (fun _ => .inr rfl) (.int .i64 0)).setCell (p := ⟨g6, o6 + (n - 1) * 3 + 1, none⟩) (fun _ => .inr rfl) (.int .i64 0)).setCell (p := ⟨g6, o6 + (n - 1) * 3 + 2, none⟩) (fun _ => .inr rfl) (.pointer none)).setCell (p := ⟨b, 2, none⟩) (fun _ => .inl rfl) (.slice (some ⟨g6, o6, none⟩) (n - 1) cap)
        have hwin : ∀ {g : Nat} {m : Int}, Win w2 g m → ¬ (g = b ∨ g6 = g) := fun {g m} hg hh => by
          rcases hh with rfl | rfl
          · exact absurd (hg.inj h2.blk).1 (by decide)
          · exact h2.ne_own hg rfl
        have hsub : (L.eraseIdx r).Sublist L := List.eraseIdx_sublist ..
        refine ⟨_, rfl, ⟨q2, h2.conn.kept hz11 (hwin h2.conn), p2, fun y hy => ?_, ((hsub.map (·.b)).cons_cons cb).nodup h2.nd, h2.hb, h2.hc, fun y hy => h2.hw y (hsub.subset hy)⟩, (ho2.of_nil _).trans (hz11.weaken' ?_)⟩
        · have := h2.wins y (hsub.subset hy)
          exact this.kept hz11 (hwin this)
        · rintro i (rfl | rfl)
          · exact .inl rfl
          · exact .inr (.inr (.inl rfl))
end
end Go.Proofs.Ytlnemadkggfmbaa
