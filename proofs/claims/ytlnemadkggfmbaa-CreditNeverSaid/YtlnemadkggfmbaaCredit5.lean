/- What Resize does to a ledger. -/
import Derived.Test.YtlnemadkggfmbaaRef07c
import Derived.Deep.CutBlock
import Derived.Outline
namespace Go.Proofs.Ytlnemadkggfmbaa
open Go.RowKit

def TrPost (w : World) (f t : Int) (x : Ending) (w' : World) : Prop := ∃ bf bt : Nat, x = .returned (.func (.func 43) #[] #[.pointer (some ⟨bf, 0, none⟩), .pointer (some ⟨bt, 0, none⟩)]) ∧ Only Nil w w' ∧ Blk w' bf 3 #[.int .i64 f] ∧ Blk w' bt 3 #[.int .i64 t]
theorem trial_any (f t : Int) (w : World) : Calls Try.prog 32 #[.int .i64 f, .int .i64 t] w (TrPost w f t) := by
  have hmf := mkf Try.prog
  go_enter Try.func32, Try.ntmps32
  go_wp2
  go_ret
  have hb := Blk.new (w.alloc (.cells #[.int .i64 f] 3)) 3 #[.int .i64 t]
  exact ⟨_, _, rfl, ((Only.refl _ _).alloc _).alloc _, (Blk.new _ _ _).alloc _, by simpa using hb⟩
def T1Post (w : World) (n f t : Int) (x : Ending) (w' : World) : Prop := ∃ c : Nat, x = .returned (.tuple #[.pointer (some ⟨c, 0, none⟩), .int .i64 (resE n f t)]) ∧ w.heap.size ≤ c ∧ Only Nil w w' ∧ Win w' c (resN n f t)
theorem trial1_any (wb bf bt : Nat) (n f t : Int) (w : World) (h : Win w wb n) (hn : winOk n) (hf : Blk w bf 3 #[.int .i64 f]) (ht : Blk w bt 3 #[.int .i64 t]) :
    Calls Try.prog 43 #[.pointer (some ⟨wb, 0, none⟩), .pointer (some ⟨bf, 0, none⟩), .pointer (some ⟨bt, 0, none⟩)] w (T1Post w n f t) := by
  have hR := Lib.hid (fun W c (q : Win W c n) => resize_any c n f t W q hn)
  unfold T1Post
  generalize resE n f t = E at *
  generalize resN n f t = M at *
  go_enter Try.func43, Try.ntmps43
  go_wp2_with (first
    | (go_at_call 44; (with_reducible refine (Copy_any wb n _ h).mono ?_); rintro e w1 ⟨c, rfl, hc, ho1, hW1⟩; have d1 := (hf.kept ho1 (fun hh => hh)).cell 0; have d2 := (ht.kept ho1 (fun hh => hh)).cell 0)
    | (go_at_call 45; (with_reducible refine (hR.out _ _ hW1).mono ?_); rintro e w2 ⟨rfl, ho2, hW2⟩)
    )
  go_ret2
  exact ⟨c, rfl, hc, ho1.trans_new ho2 (fun i hi hh => by unfold One at hh; omega), hW2⟩
theorem fresh_none (f t : Int) (h : (szB f && szB t) = true) : resE 0 f t = 0 := by
  have h3 : (0 ≤ f ∧ f ≤ 2147483647) ∧ (0 ≤ t ∧ t ≤ 2147483647) := by simpa [szB] using h
  unfold resE chE
  rw [if_pos h]
  have : chB 0 (t - f) = true := by simp [chB]; omega
  rw [if_pos this]
theorem fresh_arg (f t : Int) (h : (szB f && szB t) = false) : resE 0 f t = 2 := by
  unfold resE
  rw [h]
  rfl
section
variable {w w' : World} {b cb base : Nat} {C S : Int} {v : Value} {L : List Gn}
theorem Resize_arg (f t : Int) (w : World) (h : (szB f && szB t) = false) : Calls Try.prog 15 #[.pointer (some ⟨b, 0, none⟩), .int .i64 f, .int .i64 t] w fun e w' => e = .returned (.int .i64 2) ∧ Only Nil w w' := by
  have HT := Lib.hid (fun W wb bf bt (q : Win W wb 0) hf ht => trial1_any wb bf bt 0 f t W q (by unfold winOk; decide) hf ht)
  unfold T1Post at HT
  rw [fresh_arg f t h] at HT
  clear h
  go_enter Try.func15, Try.ntmps15
  go_wp2
  go_step3
  go_wp2_with (first
    | (go_at_call 32; (with_reducible refine (trial_any f t _).mono ?_); rintro e w1 ⟨bf, bt, rfl, ho1, hf1, ht1⟩)
    | (go_at_call 20; (with_reducible refine (new_any 0 _ (by decide)).mono ?_); rintro e w2 ⟨nb, rfl, hnb, ho2, hW2⟩; have hf2 := hf1.kept ho2 (fun hh => hh); have ht2 := ht1.kept ho2 (fun hh => hh))
    | (go_at_call 43; (with_reducible refine (HT.out _ _ _ _ hW2 hf2 ht2).mono ?_); rintro e w3 ⟨c, rfl, hc, ho3, hW3⟩)
    )
  rw [Exit.noGoto_ret]
  go_ret
  exact ⟨rfl, (ho1.trans ho2).trans ho3⟩
end
def encW (c : Nat) : List Value := [.pointer (some ⟨c, 0, none⟩)]
theorem encW_len : ∀ c, (encW c).length = 1 := fun _ => rfl
theorem encW_one : ∀ c, ∀ u ∈ encW c, u.oneCell' = true := fun c u hu => by simp [encW] at hu; subst hu; rfl
theorem pwin_info : (Try.prog.info? 49).map (fun i => (i.zero, i.size, i.bytes)) = some (some (.pointer none), 1, 8) := by kernel_rfl
/-- the windows behind a setting, as they are collected -/
structure Bh (w0 wr : World) (f t : Int) (L : List Gn) (v : Value) (bs : List Nat) : Prop where
  own : Ow encW 1 wr w0.heap.size 49 v bs
  wins : ∀ (j : Nat) c x, bs[j]? = some c → L[j]? = some x → Win wr c (resN x.n f t)
  nd : bs.Nodup
  ge : ∀ c ∈ bs, w0.heap.size ≤ c
theorem Bh.kept {w0 w w' : World} {f t : Int} {L : List Gn} {v : Value} {bs : List Nat} (h : Bh w0 w f t L v bs) (ho : Only Nil w w') : Bh w0 w' f t L v bs :=
  ⟨h.own.kept ho (fun _ _ hh => hh), fun j c x hc hx => (h.wins j c x hc hx).kept ho (fun hh => hh), h.nd, h.ge⟩
theorem Bh.lt {w0 w : World} {f t : Int} {L : List Gn} {v : Value} {bs : List Nat} (h : Bh w0 w f t L v bs) (hl : bs.length ≤ L.length) : ∀ c ∈ bs, c < w.heap.size := fun c hc => by
  obtain ⟨j, hj⟩ := List.mem_iff_getElem?.1 hc
  have hjl := (List.getElem?_eq_some_iff.1 hj).1
  exact (h.wins j c _ hj (List.getElem?_eq_getElem (by omega))).lt
/-- one more -/
theorem Bh.app {w0 w w' : World} {f t : Int} {L : List Gn} {v v' : Value} {bs : List Nat} {x : Gn} {c : Nat} (h : Bh w0 w f t L v bs) (hO : Ow encW 1 w' w0.heap.size 49 v' (bs ++ [c])) (ho : Only (ownB v) w w') (hx : L[bs.length]? = some x) (hW : Win w c (resN x.n f t)) (hn : c ∉ bs) (hc : w0.heap.size ≤ c) : Bh w0 w' f t L v' (bs ++ [c]) := by
  have hne : ∀ {g : Nat} {m : Int}, Win w g m → ¬ ownB v g := fun {g m} hg hh => by
    obtain ⟨cs, hcs⟩ := h.own.blkOf hh
    exact absurd (hg.inj hcs).1 (by decide)
  refine ⟨hO, fun j d y hd hy => ?_, ?_, fun d hd => ?_⟩
  · rcases Nat.lt_or_ge j bs.length with hj | hj
    · rw [List.getElem?_append_left hj] at hd
      have := h.wins j d y hd hy
      exact this.kept ho (hne this)
    · rw [List.getElem?_append_right hj] at hd
      have hj0 : j = bs.length := by
        rcases Nat.eq_or_lt_of_le hj with e | e
        · exact e.symm
        · rw [List.getElem?_eq_none (by simp; omega)] at hd
          cases hd
      subst hj0
      simp at hd
      subst hd
      rw [hx] at hy
      injection hy with hy
      subst hy
      exact hW.kept ho (hne hW)
  · rw [List.nodup_append]
    exact ⟨h.nd, by simp, fun a ha b hb => by simp at hb; subst hb; exact fun e => hn (e ▸ ha)⟩
  · simp only [List.mem_append, List.mem_singleton] at hd
    rcases hd with hd | rfl
    · exact h.ge d hd
    · exact hc
def rzZ (f t : Int) (L : List Gn) (bs : List Nat) : List Gn := List.zipWith (fun x c => ⟨x.id, x.s, resN x.n f t, c⟩) L bs
def mix (f t : Int) (L : List Gn) (bs : List Nat) (k : Nat) : List Gn := (rzZ f t L bs).take k ++ L.drop k
section
variable {f t : Int} {L : List Gn} {bs : List Nat} {k : Nat}
theorem rzZ_len (hb : bs.length = L.length) : (rzZ f t L bs).length = L.length := by simp [rzZ, hb]
theorem rzZ_at {x : Gn} {c : Nat} (hx : L[k]? = some x) (hc : bs[k]? = some c) : (rzZ f t L bs)[k]? = some ⟨x.id, x.s, resN x.n f t, c⟩ := by simp [rzZ, List.getElem?_zipWith, hx, hc]
theorem mix_at (hb : bs.length = L.length) {x : Gn} (hx : L[k]? = some x) : (mix f t L bs k)[k]? = some x := by
  have hk := (List.getElem?_eq_some_iff.1 hx).1
  have hl : ((rzZ f t L bs).take k).length = k := by rw [List.length_take, rzZ_len hb]; omega
  unfold mix
  rw [List.getElem?_append_right (by omega), hl, Nat.sub_self, List.getElem?_drop, Nat.add_zero, hx]
theorem mix_set (hb : bs.length = L.length) {x : Gn} {c : Nat} (hx : L[k]? = some x) (hc : bs[k]? = some c) : (mix f t L bs k).set k ⟨x.id, x.s, resN x.n f t, c⟩ = mix f t L bs (k + 1) := by
  have hk := (List.getElem?_eq_some_iff.1 hx).1
  have hl : ((rzZ f t L bs).take k).length = k := by rw [List.length_take, rzZ_len hb]; omega
  unfold mix
  rw [List.set_append_right _ _ (by omega), hl, Nat.sub_self, List.drop_eq_getElem_cons hk, List.set_cons_zero, List.take_add_one, rzZ_at hx hc]
  simp
theorem mix_len (hb : bs.length = L.length) (hk : k ≤ L.length) : (mix f t L bs k).length = L.length := by
  unfold mix
  rw [List.length_append, List.length_take, rzZ_len hb, List.length_drop]
  omega
theorem mix_0 : mix f t L bs 0 = L := by simp [mix]
theorem mix_all (hb : bs.length = L.length) : mix f t L bs L.length = rzZ f t L bs := by
  unfold mix
  rw [List.take_of_length_le (by rw [rzZ_len hb]; omega), List.drop_length, List.append_nil]
theorem mix_b (hnd : bs.Nodup) {c : Nat} (hc : bs[k]? = some c) (hL : ∀ x ∈ L, x.b ≠ c) : ∀ y ∈ mix f t L bs k, y.b ≠ c := fun y hy => by
  rcases List.mem_append.1 hy with hy | hy
  · obtain ⟨j, hj⟩ := List.mem_iff_getElem?.1 hy
    rw [List.getElem?_take] at hj
    split at hj
    · rename_i hjk
      simp only [rzZ, List.getElem?_zipWith] at hj
      split at hj
      · rename_i x d hx hd
        injection hj with hj
        subst hj
        intro e
        simp only at e
        subst e
        have := (List.getElem?_inj (List.getElem?_eq_some_iff.1 hd).1 hnd).1 (hd.trans hc.symm)
        omega
      · cases hj
    · cases hj
  · exact hL y (List.mem_of_mem_drop hy)
end
section
variable {w w' : World} {b cb base : Nat} {C S : Int} {v : Value} {L : List Gn}
theorem nodup_set {α : Type} {c : α} : ∀ {l : List α}, l.Nodup → ∀ i, c ∉ l → (l.set i c).Nodup
  | [], _, _, _ => by simp
  | x :: l, h, 0, hc => List.nodup_cons.2 ⟨fun hh => hc (List.mem_cons_of_mem _ hh), (List.nodup_cons.1 h).2⟩
  | x :: l, h, i + 1, hc => by
    have h2 := List.nodup_cons.1 h
    refine List.nodup_cons.2 ⟨fun hh => ?_, nodup_set h2.2 i (fun hh => hc (List.mem_cons_of_mem _ hh))⟩
    rcases List.mem_or_eq_of_mem_set hh with h1 | h1
    · exact h2.1 h1
    · exact hc (h1 ▸ List.mem_cons_self ..)
theorem Bh.far {w0 w : World} {f t : Int} {v : Value} {bs : List Nat} {g e : Nat} {cs : Array Value} (h : Bh w0 w f t L v bs) (hg : Blk w g 61 cs) (u : Value) : Bh w0 (w.setCell ⟨g, e, none⟩ u) f t L v bs := by
  have hne : ∀ {k : Nat} {m : Int}, Win w k m → k ≠ g := fun {k m} hk e => by
    subst e
    exact absurd (hk.inj hg).1 (by decide)
  refine ⟨h.own.set (h.own.ne hg (by decide)) e u, fun j c x hc hx => (h.wins j c x hc hx).far (p := ⟨g, e, none⟩) (hne (h.wins j c x hc hx)) u, h.nd, h.ge⟩
/-- a stream has another window -/
theorem Lg.updP {g o n cap : Nat} (h : Lg w b cb base C S (.slice (some ⟨g, o, none⟩) n cap) L) {i : Nat} {x : Gn} (hx : L[i]? = some x) {c : Nat} {m : Int} (hW : Win w c m) (hc : base ≤ c) (hcb : c ≠ cb) (hn : ∀ y ∈ L, y.b ≠ c) :
    Lg (w.setCell ⟨g, o + i * 3 + 2, none⟩ (.pointer (some ⟨c, 0, none⟩))) b cb base C S (.slice (some ⟨g, o, none⟩) n cap) (L.set i ⟨x.id, x.s, m, c⟩) := by
  have hxl := List.mem_of_getElem? hx
  have hwn : ∀ {k : Nat} {m : Int}, Win w k m → k ≠ g := fun {k m} hk e => h.ne_own hk (by rw [e]; rfl)
  have hnd := List.nodup_cons.1 h.nd
  refine ⟨h.blk.far (p := ⟨g, _, none⟩) (fun e => (h.own.ne h.blk (by decide)) (by rw [e]; rfl)) _, h.conn.far (p := ⟨g, _, none⟩) (hwn h.conn) _, ?_, fun y hy => ?_, ?_, h.hb, h.hc, fun y hy => ?_⟩
  · have := h.own.putC encA_len i 2 (acs_at hx) (by decide) ⟨x.id, x.s, some ⟨c, 0, none⟩⟩ (.pointer (some ⟨c, 0, none⟩)) rfl
    rwa [show acs (L.set i ⟨x.id, x.s, m, c⟩) = (acs L).set i ⟨x.id, x.s, some ⟨c, 0, none⟩⟩ from List.map_set]
  · rcases mem_set hx hy with rfl | ⟨j, hj, hy⟩
    · exact hW.far (p := ⟨g, _, none⟩) (hwn hW) _
    · exact (h.win hy).far (p := ⟨g, _, none⟩) (hwn (h.win hy)) _
  · rw [List.map_set]
    refine List.nodup_cons.2 ⟨fun hh => ?_, nodup_set hnd.2 _ (fun hh => ?_)⟩
    · rcases List.mem_or_eq_of_mem_set hh with h1 | h1
      · exact hnd.1 h1
      · exact hcb h1.symm
    · obtain ⟨y, hy, e⟩ := List.mem_map.1 hh
      exact hn y hy e
  · rcases mem_set hx hy with rfl | ⟨j, hj, hy⟩
    · exact hc
    · exact h.hw y (List.mem_of_getElem? hy)
def RsPost (w : World) (b cb base : Nat) (C S : Int) (v : Value) (f t : Int) (L : List Gn) (i : Nat) (x : Ending) (w' : World) : Prop :=
  if i < L.length then x = .returned (.int .i64 10) ∧ Only Nil w w' else ∃ bs : List Nat, bs.length = L.length ∧ LPost w b cb base v L (.int .i64 0) C S (rzZ f t L bs) x w'
set_option maxHeartbeats 4000000 in
theorem Resize_any (f t : Int) (i : Nat) (w : World) (h : Lg w b cb base C S v L) (hl : L.length ≤ 1000) (hs : (szB f && szB t) = true) (hg : gOk C L) (hi : rzTo f t L i) :
    Calls Try.prog 15 #[.pointer (some ⟨b, 0, none⟩), .int .i64 f, .int .i64 t] w (RsPost w b cb base C S v f t L i) := by
  have HP1 : Hid (i < L.length → RsPost w b cb base C S v f t L i = fun x w' => x = .returned (.int .i64 10) ∧ Only Nil w w') := Lib.hid fun hlt => by funext x w'; exact if_pos hlt
  have HP2 : Hid (¬ i < L.length → RsPost w b cb base C S v f t L i = fun x w' => ∃ bs : List Nat, bs.length = L.length ∧ LPost w b cb base v L (.int .i64 0) C S (rzZ f t L bs) x w') := Lib.hid fun hlt => by funext x w'; exact if_neg hlt
  have HT := Lib.hid (fun W wb bf bt (q : Win W wb 0) hf ht => trial1_any wb bf bt 0 f t W q (by unfold winOk; decide) hf ht)
  unfold T1Post at HT
  rw [fresh_none f t hs] at HT
  have HX := Lib.hid (fun (x : Gn) W bf bt (hx : x ∈ L) (q : Win W x.b x.n) hf ht => trial1_any x.b bf bt x.n f t W q (hg.2 x hx) hf ht)
  clear hs hg
  obtain ⟨A, cap, rfl, hcp, hm⟩ := h.own.form
  rw [List.length_map] at h hcp HP1 HP2 ⊢
  obtain ⟨c0, c1, c2⟩ := h.facts
  have HI := Lib.hid hi
  have hil := hi.1
  have HF := Lib.hid (⟨h.hb, fun x hx => (h.wins x hx).lt, h.conn.lt, h.sz⟩ : base ≤ b ∧ (∀ x ∈ L, x.b < w.heap.size) ∧ cb < w.heap.size ∧ base ≤ w.heap.size)
  have hRow := Lib.hid (fun W i (x : Gn) L' (q : Lg W b cb base C S (.slice A L.length cap) L') (hx : L'[i]? = some x) => q.row hx)
  generalize hn : L.length = n at *
  have HN := Lib.hid hn
  clear hn hi
  go_enter Try.func15, Try.ntmps15
  go_wp2
  go_step3
  go_wp2_with (first
    | (go_at_call 32; (with_reducible refine (trial_any f t _).mono ?_); rintro e w1 ⟨bf, bt, rfl, ho1, hf1, ht1⟩)
    | (go_at_call 20; (with_reducible refine (new_any 0 _ (by decide)).mono ?_); rintro e w2 ⟨nb, rfl, hnb, ho2, hW2⟩; have hf2 := hf1.kept ho2 (fun hh => hh); have ht2 := ht1.kept ho2 (fun hh => hh))
    | (go_at_call 43; (with_reducible refine (HT.out _ _ _ _ hW2 hf2 ht2).mono ?_); rintro e w3 ⟨c, rfl, hc, ho3, hW3⟩; have hx3 := (ho1.trans ho2).trans ho3; have h3 := h.kept hx3; have k2 := h3.facts.2.2; have hf3 := hf2.kept ho3 (fun hh => hh); have ht3 := ht2.kept ho3 (fun hh => hh))
    )
  go_step3
  go_wp2
  go_loopw [12, 13, 43] (fun bv pv ii wr => ∃ (k : Nat) (Av : Option Addr) (cv : Nat) (bs : List Nat), k ≤ i ∧ ii = .int .i64 k ∧ pv = .int .i64 0 ∧ bv = .slice Av k cv ∧ bs.length = k ∧ Only Nil w3 wr ∧ Bh w3 wr f t L (.slice Av k cv) bs) (fun _ _ ii _ => n - (intOf ii).toNat)
  case atStart => exact ⟨0, none, 0, [], Nat.zero_le _, rfl, rfl, rfl, rfl, Only.refl _ _, Ow.nil, fun j c x hc => by simp at hc, by simp, by simp⟩
  case round =>
    obtain ⟨k, Av, cv, bs, hk, rfl, rfl, rfl, hbl, ho, hB⟩ := hrel
    have hr := h3.kept ho
    have hfr := hf3.kept ho (fun hh => hh)
    have htr := ht3.kept ho (fun hh => hh)
    by_cases hlt : k < n
    · obtain ⟨x, hx⟩ : ∃ x, L[k]? = some x := ⟨_, List.getElem?_eq_getElem (by have := HN.out; omega)⟩
      have hki : (k : Int) < n := by omega
      obtain ⟨g, o, rfl, hg', e0, e1, e2⟩ := hRow.out _ _ _ _ hr hx
      have ha := (Only.refl Nil wr).alloc (.cells #[.int .i64 x.id, .int .i64 x.s, .pointer (some ⟨x.b, 0, none⟩)] 61)
      have hWx := (hr.win hx).kept ha (fun hh => hh)
      have hfa := hfr.kept ha (fun hh => hh)
      have hta := htr.kept ha (fun hh => hh)
      have HXx := Lib.hid (HX.out x _ bf bt (List.mem_of_getElem? hx) hWx hfa hta)
      by_cases hki2 : k < i
      · have hE0 : Hid (resE x.n f t = 0) := Lib.hid (HI.out.2.1 _ _ hx hki2)
        have HXX := Lib.hid hx
        have HBL := Lib.hid hbl
        unfold T1Post at HXx
        rw [hE0.out] at HXx
        clear hx hE0 HI hbl
        go_wp2_with (first
          | (go_at_call 43; (with_reducible refine (HXx.out).mono ?_); rintro e w4 ⟨c4, rfl, hc4, ho4, hW4⟩; have hx4 := ho.trans (ha.trans ho4); have hB4 := hB.kept (ha.trans ho4); have hO4 := hB4.own.alloc (.cells #[.pointer (some ⟨c4, 0, none⟩)] 49); have hx5 := hx4.alloc (.cells #[.pointer (some ⟨c4, 0, none⟩)] 49); have s1 := Src.one (P := Try.prog) (enc := encW) (tx := 64) Try.underlying64 c4 1 rfl (Blk.new w4 49 #[.pointer (some ⟨c4, 0, none⟩)]) rfl (encW_one _))
          | (at_builtin
             refine wpList_app2 rfl (.tmp 58) (.tmp 60) _ _ rfl w3.heap.size 49 Try.underlying64 pwin_info rfl _ _ rfl hO4 _ [c4] rfl s1 (by rw [la2' HBL.out]; omega) (by decide) hx5.size (k + 1) (la2' HBL.out) _ rfl ?_
             intro A6 c6 w6 hown6 ho6 hg6
             have hx6 := hx5.own_nil hO4 ho6
             have hzz := hx4.size
             have hzr := ho.size
             have hB6 := (hB4.kept ((Only.refl Nil w4).alloc (.cells #[.pointer (some ⟨c4, 0, none⟩)] 49))).app hown6 ho6 (by rw [HBL.out]; exact HXX.out) (hW4.alloc _) (fun hh => by have := hB.lt (by have := HN.out; have := HBL.out; omega) c4 hh; have h9 : (wr.alloc (.cells #[.int .i64 x.id, .int .i64 x.s, .pointer (some ⟨x.b, 0, none⟩)] 61)).heap.size = wr.heap.size + 1 := (by simp); omega) (by have h9 : (wr.alloc (.cells #[.int .i64 x.id, .int .i64 x.s, .pointer (some ⟨x.b, 0, none⟩)] 61)).heap.size = wr.heap.size + 1 := (by simp); omega))
          )
        go_roundw
        case rel => exact ⟨k + 1, A6, c6, bs ++ [c4], by omega, by go_num, rfl, rfl, by have := HBL.out; simp; omega, hx6, hB6⟩
        case measure => simp [intOf]; omega
      · obtain rfl : k = i := by omega
        have hE0 : Hid (resE x.n f t = 10) := Lib.hid (HI.out.2.2 _ hx)
        unfold T1Post at HXx
        rw [hE0.out] at HXx
        have HPP := Lib.hid (HP1.out hlt)
        clear hx hE0 HI hbl
        go_wp2_with (first
          | (go_at_call 43; (with_reducible refine (HXx.out).mono ?_); rintro e w4 ⟨c4, rfl, hc4, ho4, hW4⟩)
          )
        rw [Exit.noGoto_ret]
        go_ret
        rw [HPP.out]
        exact ⟨rfl, hx3.trans (ho.trans (ha.trans ho4))⟩
    · obtain rfl : k = n := by omega
      have HPP := Lib.hid (HP2.out (by omega))
      have HBL := Lib.hid hbl
      have HLE : Hid (bs.length = L.length) := Lib.hid (by have := HN.out; omega)
      clear hbl HI
      go_wp2
      go_loopw [68] (fun ii wq => ∃ (q : Nat), q ≤ k ∧ ii = .int .i64 q ∧ Lg wq b cb base C S (.slice A k cap) (mix f t L bs q) ∧ Bh w3 wq f t L (.slice Av k cv) bs ∧ Only (Ft b cb (.slice A k cap) L) w wq) (fun ii _ => k - (intOf ii).toNat)
      case atStart => exact ⟨0, Nat.zero_le _, rfl, by rw [mix_0]; exact hr, hB, (hx3.trans ho).of_nil _⟩
      case round =>
        obtain ⟨q, hq, rfl, hM, hBq, hoq⟩ := hrel
        by_cases hlq : q < k
        · obtain ⟨x, hx⟩ : ∃ x, L[q]? = some x := ⟨_, List.getElem?_eq_getElem (by have := HN.out; omega)⟩
          obtain ⟨c5, hc5⟩ : ∃ c5, bs[q]? = some c5 := ⟨_, List.getElem?_eq_getElem (by have := HBL.out; omega)⟩
          have hmx := mix_at (f := f) (t := t) HLE.out hx
          obtain ⟨g, o, rfl, hg', e0, e1, e2⟩ := hRow.out _ _ _ _ hM hmx
          obtain ⟨gb, ob, y, rfl, hgb, hy, _, hcs⟩ := (hBq.own.sqn (fun x _ => encW_len x)).at_ (k := q) (by have := HBL.out; omega)
          rw [hc5] at hy
          injection hy with hy
          subst hy
          have e5 : wr.cell? ⟨gb, ob + q, none⟩ = some (.pointer (some ⟨c5, 0, none⟩)) := by simpa [encW] using hcs 0 (by decide)
          have f2 := hM.own.frzN (o + q * 3 + 2)
          have k2 := hM.facts.2.2
          obtain ⟨cs, hgB⟩ := hM.own.blkOf (g := g) rfl
          have hB2 := Lib.hid (hBq.far hgB (e := o + q * 3 + 2) (.pointer (some ⟨c5, 0, none⟩)))
          have hge := hBq.ge c5 (List.mem_of_getElem? hc5)
          have hw3 := hx3.size
          have hM2 := Lib.hid (hM.updP hmx (hBq.wins _ _ _ hc5 hx) (by have := HF.out.2.2.2; omega) (by have := HF.out.2.2.1; omega) (mix_b hBq.nd hc5 (fun x hx => by have := HF.out.2.1 x hx; omega)))
          have hE := Lib.hid (mix_set (f := f) (t := t) HLE.out hx hc5)
          have hqi : (q : Int) < k := by omega
          clear hcs hmx hx hc5 hgB hBq hge
          go_wp2
          go_roundw
          case rel => exact ⟨q + 1, by omega, by go_num, by rw [← hE.out]; exact hM2.out, hB2.out, hoq.setCell (p := ⟨g, o + q * 3 + 2, none⟩) (fun _ => .inr (.inr (.inl rfl))) _⟩
          case measure => simp [intOf]; omega
        · obtain rfl : q = k := by omega
          have hfin : Hid (mix f t L bs q = rzZ f t L bs) := Lib.hid (by rw [← mix_all HLE.out, HN.out])
          go_wp2
          rw [Exit.noGoto_ret]
          go_ret
          rw [HPP.out]
          rw [hfin.out] at hM
          exact ⟨bs, HBL.out, _, rfl, hM, hoq⟩
end
end Go.Proofs.Ytlnemadkggfmbaa
