/- What Send, Latest and Ack do to a shake of the call's own. -/
import Derived.Test.YtjbemhfhhedlpaaShake
import Derived.Deep.RegionLaw
namespace Go.Proofs.Ytjbemhfhhedlpaa
open Go.RowKit

theorem st_info : (Try.prog.info? 27).map (fun i => (i.zero, i.size, i.bytes)) = some (some (.agg #[.int .i64 0, .int .i64 0, .int .i64 0]), 3, 24) := by kernel_rfl
def GtPost (w : World) (p q : St) (x : Ending) (w' : World) : Prop := ∃ g1 g2, x = .returned (.func (.func 22) #[] #[.pointer (some ⟨g1, 0, none⟩), .pointer (some ⟨g2, 0, none⟩)]) ∧ Only Nil w w' ∧ Sb w' g1 p ∧ Sb w' g2 q
theorem greatest_any (p q : St) (w : World) : Calls Try.prog 19 #[stV p.a p.b p.c, stV q.a q.b q.c] w (GtPost w p q) := by
  have hmf := mkf Try.prog
  go_enter Try.func19, Try.ntmps19
  go_wp2
  go_ret
  refine ⟨_, _, rfl, ((Only.refl _ _).alloc _).alloc _, (Blk.new _ _ _).alloc _, ?_⟩
  have := Blk.new (w.alloc (.cells #[.int .i64 p.a, .int .i64 p.b, .int .i64 p.c] 27)) 27 #[.int .i64 q.a, .int .i64 q.b, .int .i64 q.c]
  simpa using this
def hiN (a b : Int) : Int := max a b
def hiS (p q : St) : St := ⟨hiN p.a q.a, hiN p.b q.b, hiN p.c q.c⟩
theorem greatest1_any (p q : St) (g1 g2 : Nat) (w : World) (h1 : Sb w g1 p) (h2 : Sb w g2 q) : Calls Try.prog 22 #[.pointer (some ⟨g1, 0, none⟩), .pointer (some ⟨g2, 0, none⟩)] w fun x w' => x = .returned (stV (hiS p q).a (hiS p q).b (hiS p q).c) ∧ Only Nil w w' := by
  obtain ⟨c0, c1, c2⟩ := Sb.facts h1
  obtain ⟨d0, d1, d2⟩ := Sb.facts h2
  have z1 := h1.lt
  have z2 := h2.lt
  go_enter Try.func22, Try.ntmps22
  go_wp2
  all_goals
    refine bodyPost_ret (v := stV (hiS p q).a (hiS p q).b (hiS p q).c) ?_ rfl ⟨rfl, (Only.refl _ _).alloc _⟩
    simp [results, Try.results22, go_sem, stV, hiS, hiN]
    try omega
theorem far3 {w : World} {g b i : Nat} {u x y z : Value} (h : w.cell? ⟨b, i, none⟩ = some u) (hg : g ≠ b) : (((w.setCell ⟨g, 0, none⟩ x).setCell ⟨g, 1, none⟩ y).setCell ⟨g, 2, none⟩ z).cell? ⟨b, i, none⟩ = some u := by
  rw [World.cell?_setCell_far _ _ _ _ hg, World.cell?_setCell_far _ _ _ _ hg, World.cell?_setCell_far _ _ _ _ hg, h]
section
variable {b base : Nat} {v : Value} {h m : St} {L : List St}
set_option maxHeartbeats 1000000 in
theorem Latest_some (w : World) (M : List St) (t : St) (k : Sk w b base v h m (M ++ [t])) (hM : M.length ≤ 100) : Calls Try.prog 13 #[.pointer (some ⟨b, 0, none⟩)] w fun x w' => x = .returned (stV t.a t.b t.c) ∧ Only Nil w w' := by
  obtain ⟨A, cap, rfl, hc, hm⟩ := k.own.form
  have hx0 := (Only.refl Nil w).alloc (.cells #[.int .i64 0, .int .i64 0, .int .i64 0] 27)
  have hR0 : Sb (w.alloc (.cells #[.int .i64 0, .int .i64 0, .int .i64 0] 27)) w.heap.size ⟨0, 0, 0⟩ := Blk.new _ _ _
  have k0 := k.kept hx0
  have hs := k.own.sq (fun _ _ => rfl) rfl
  obtain ⟨bb, off, x, rfl, hb1, hx, _, hcs⟩ := hs.at_ (k := M.length) (by simp)
  rw [List.getElem?_append_right (Nat.le_refl _), Nat.sub_self] at hx
  simp at hx
  subst hx
  have f0 := hcs 0 (by decide)
  have f1 := hcs 1 (by decide)
  have f2 := hcs 2 (by decide)
  simp [encS] at f0 f1 f2
  clear hcs
  have c6 := k.blk.cell 6
  have zb := k.blk.lt
  have hn : (M ++ [t]).length = M.length + 1 := by simp
  have hw : ∀ W, Sk W b base (.slice (some ⟨bb, off, none⟩) (M ++ [t]).length cap) h m (M ++ [t]) → Calls Try.prog 15 #[.pointer (some ⟨b, 0, none⟩)] W fun x w' => x = .returned (.int .i64 ((M ++ [t]).length : Nat)) ∧ W = w' := fun W k => Waiting_any W k
  generalize (M ++ [t]).length = n at *
  rw [show M.length = n - 1 by omega] at f0 f1 f2
  have hn0 : 1 ≤ n := by omega
  have hn1 : n ≤ 101 := by omega
  have hnz : ((n : Int) == 0) = false := by simp; omega
  have ew : IntKind.i64.wrap ((n : Int) - 1) = (n : Int) - 1 := IntWalk.i64_in _ (by omega)
  have e0 : 0 ≤ (n : Int) - 1 := by omega
  have en : (n : Int) - 1 < n := by omega
  have et : ((n : Int) - 1).toNat = n - 1 := by omega
  clear hn
  have ez : (1 : Int) ≤ n := by omega
  have hix : ∀ W : World, (Instr.indexAt 28 (.slice (some ⟨bb, off, none⟩) n cap) (.int .i64 ((n : Int) - 1))).run Try.prog W = .ok (.pointer (some ⟨bb, off + (n - 1) * 3, none⟩)) W := by
    intro W
    go_simp
  clear hs hn0 hn1 e0
  go_enter Try.func13, Try.ntmps13
  go_wp2_with (first
    | (go_at_call 15; (with_reducible refine (hw _ k0).mono ?_); rintro e w1 ⟨rfl, rfl⟩)
    )
  obtain ⟨r0, r1, r2⟩ := Sb.loose hR0
  have nb : w.heap.size ≠ b := by omega
  have nbb : w.heap.size ≠ bb := by omega
  have g6 : (w.alloc (.cells #[.int .i64 0, .int .i64 0, .int .i64 0] 27)).drew.cell? ⟨b, 6, none⟩ = some (.slice (some ⟨bb, off, none⟩) n cap) := k0.blk.cell 6
  have g0 : (w.alloc (.cells #[.int .i64 0, .int .i64 0, .int .i64 0] 27)).drew.cell? ⟨bb, off + (n - 1) * 3, none⟩ = some (.int .i64 t.a) := (World.cell?_alloc_lt _ _ _ hb1).trans f0
  have g1 : (w.alloc (.cells #[.int .i64 0, .int .i64 0, .int .i64 0] 27)).drew.cell? ⟨bb, off + (n - 1) * 3 + 1, none⟩ = some (.int .i64 t.b) := (World.cell?_alloc_lt _ _ _ hb1).trans f1
  have g2 : (w.alloc (.cells #[.int .i64 0, .int .i64 0, .int .i64 0] 27)).drew.cell? ⟨bb, off + (n - 1) * 3 + 2, none⟩ = some (.int .i64 t.c) := (World.cell?_alloc_lt _ _ _ hb1).trans f2
  go_region_held3 (fun w' => w'.cell? ⟨b, 6, none⟩ = some (.slice (some ⟨bb, off, none⟩) n cap) ∧ w'.cell? ⟨bb, off + (n - 1) * 3, none⟩ = some (.int .i64 t.a) ∧ w'.cell? ⟨bb, off + (n - 1) * 3 + 1, none⟩ = some (.int .i64 t.b) ∧ w'.cell? ⟨bb, off + (n - 1) * 3 + 2, none⟩ = some (.int .i64 t.c)) (first | with_reducible exact ⟨g6, g0, g1, g2⟩ | go_keep) (fail)
  go_wp2
  exact bodyPost_ret (v := stV t.a t.b t.c) (by simp [results, Try.results13, go_sem]) rfl ⟨rfl, ((Only.refl _ _).alloc _).drew⟩
set_option maxHeartbeats 4000000 in
theorem Send_bad (w : World) (b : Nat) (to : St) (hr : rightB to.a to.b to.c = false) : Calls Try.prog 8 #[.pointer (some ⟨b, 0, none⟩), stV to.a to.b to.c] w fun x w' => x = .returned (.tuple #[.slice none 0 0, .int .i64 3]) ∧ Only Nil w w' := by
  have hP0 : Sb (w.alloc (.cells #[.int .i64 to.a, .int .i64 to.b, .int .i64 to.c] 27)) w.heap.size to := Blk.new _ _ _
  have hck : ∀ W, Calls Try.prog 17 #[stV to.a to.b to.c] W fun x w' => x = .returned (.int .i64 3) ∧ Only Nil W w' := fun W => by
    have := Check_any to.a to.b to.c W
    rw [hr] at this
    exact this
  have hx0 := (Only.refl Nil w).alloc (.cells #[.int .i64 to.a, .int .i64 to.b, .int .i64 to.c] 27)
  go_enter Try.func8, Try.ntmps8
  go_wp2_with (first
    | (go_at_call 17; (with_reducible refine (hck _).mono ?_); rintro e w1 ⟨rfl, ho1⟩)
    )
  go_ret2
  exact ⟨rfl, hx0.trans ho1⟩
theorem Send_full (w : World) (k : Sk w b base v h m L) (to : St) (hr : rightB to.a to.b to.c = true) (hl : L.length = 4) : Calls Try.prog 8 #[.pointer (some ⟨b, 0, none⟩), stV to.a to.b to.c] w fun x w' => x = .returned (.tuple #[.slice none 0 0, .int .i64 16]) ∧ Only Nil w w' := by
  obtain ⟨A, cap, rfl, hc, hm⟩ := k.own.form
  rw [hl] at k hc
  have hck : ∀ W, Calls Try.prog 17 #[stV to.a to.b to.c] W fun x w' => x = .returned (.int .i64 0) ∧ Only Nil W w' := fun W => by
    have := Check_any to.a to.b to.c W
    rw [hr] at this
    exact this
  have hx0 := (Only.refl Nil w).alloc (.cells #[.int .i64 to.a, .int .i64 to.b, .int .i64 to.c] 27)
  have k0 := k.kept hx0
  go_enter Try.func8, Try.ntmps8
  go_wp2_with (first
    | (go_at_call 17; (with_reducible refine (hck _).mono ?_); rintro e w1 ⟨rfl, ho1⟩; have k1 := k0.kept ho1; have c6 := k1.blk.cell 6)
    )
  go_ret2
  exact ⟨rfl, hx0.trans ho1⟩
/-- the settings that the next ones differ from -/
def lastOf (h : St) (L : List St) : St := L.getLastD h
theorem Latest_any (w : World) (k : Sk w b base v h m L) (hL : L.length ≤ 4) : Calls Try.prog 13 #[.pointer (some ⟨b, 0, none⟩)] w fun x w' => x = .returned (stV (lastOf h L).a (lastOf h L).b (lastOf h L).c) ∧ Only Nil w w' := by
  rcases List.eq_nil_or_concat L with rfl | ⟨M, t, rfl⟩
  · exact Latest_none w k
  · have e : lastOf h (M ++ [t]) = t := by simp [lastOf]
    rw [List.concat_eq_append] at *
    rw [e]
    exact Latest_some w M t k (by simp at hL; omega)
/-- what a call of a shake may turn -/
def Tch (b : Nat) (v : Value) : Nat → Prop := fun g => g = b ∨ v.ownBlock = some g
def SdPost (w : World) (b base : Nat) (v : Value) (h m : St) (L : List St) (to : St) (x : Ending) (w' : World) : Prop :=
  ∃ A cap v', x = .returned (.tuple #[.slice A (dpre (lastOf h L) to 3).length cap, .int .i64 0]) ∧ Sq encP 2 w' w'.heap.size A (dpre (lastOf h L) to 3) ∧ Sk w' b base v' h (hiS m to) (L ++ [to]) ∧ Below base w w' ∧ cap ≤ maxLen ∧ Only (Tch b v) w w' ∧ ∀ g, v'.ownBlock = some g → v.ownBlock = some g ∨ w.heap.size ≤ g
set_option maxHeartbeats 8000000 in
theorem Send_ok (w : World) (k : Sk w b base v h m L) (to : St) (hr : rightB to.a to.b to.c = true) (hl : L.length < 4) : Calls Try.prog 8 #[.pointer (some ⟨b, 0, none⟩), stV to.a to.b to.c] w (SdPost w b base v h m L to) := by
  have hsz : base ≤ w.heap.size := by have := k.hb; have := k.blk.lt; omega
  obtain ⟨AV, cV, rfl, hcV, hmV⟩ := k.own.form
  have hx0 := (Only.refl Nil w).alloc (.cells #[.int .i64 to.a, .int .i64 to.b, .int .i64 to.c] 27)
  have hP0 : Sb (w.alloc (.cells #[.int .i64 to.a, .int .i64 to.b, .int .i64 to.c] 27)) w.heap.size to := Blk.new _ _ _
  have k0 := k.kept hx0
  have hck : ∀ W, Calls Try.prog 17 #[stV to.a to.b to.c] W fun x w' => x = .returned (.int .i64 0) ∧ Only Nil W w' := fun W => by
    have := Check_any to.a to.b to.c W
    rw [hr] at this
    exact this
  have hD : ∀ W, Calls Try.prog 18 #[stV (lastOf h L).a (lastOf h L).b (lastOf h L).c, stV to.a to.b to.c] W (DiffPost W (lastOf h L) to) := fun W => Diff_any _ _ W
  have hLt : ∀ W v, Sk W b base v h m L → Calls Try.prog 13 #[.pointer (some ⟨b, 0, none⟩)] W fun x w' => x = .returned (stV (lastOf h L).a (lastOf h L).b (lastOf h L).c) ∧ Only Nil W w' := fun W v k => Latest_any W k (by omega)
  unfold SdPost
  unfold DiffPost at hD
  have hd3 := dpre_len (lastOf h L) to 3
  generalize dpre (lastOf h L) to 3 = D at hD hd3 ⊢
  generalize lastOf h L = lq at hD hLt
  generalize hn : L.length = n at k k0 hl hcV
  have HC := Lib.hid hck
  have HD := Lib.hid hD
  have HL := Lib.hid hLt
  clear hck hD hLt
  go_enter Try.func8, Try.ntmps8
  go_wp2_with (first
    | (go_at_call 17; (with_reducible refine (HC.out _).mono ?_); rintro e w1 ⟨rfl, ho1⟩; have k1 := k0.kept ho1; have hP1 : Sb w1 w.heap.size to := Blk.kept hP0 ho1 (fun hh => hh); have c6 := k1.blk.cell 6; obtain ⟨p0, p1, p2⟩ := Sb.facts hP1)
    )
  go_region_held3 (fun w' => w'.cell? ⟨w.heap.size, 0, none⟩ = some (.int .i64 to.a) ∧ w'.cell? ⟨w.heap.size, 1, none⟩ = some (.int .i64 to.b) ∧ w'.cell? ⟨w.heap.size, 2, none⟩ = some (.int .i64 to.c)) (first | with_reducible exact ⟨q0, q1, q2⟩ | exact ⟨p0, p1, p2⟩) (first
    | (go_at_call 18; (with_reducible refine (HD.out _).mono ?_); rintro e w3 ⟨A3, c3, rfl, hO3, ho3⟩; have hP3 : Sb w3 w.heap.size to := Blk.kept hP2 ho3 (fun hh => hh); obtain ⟨q0, q1, q2⟩ := Sb.facts hP3)
    | (go_at_call 13; (with_reducible refine (HL.out _ _ (Sk.kept k1 (Only.refl Nil w1).drew)).mono ?_); rintro e w2 ⟨rfl, ho2⟩; have hP2 : Sb w2 w.heap.size to := Blk.kept (Blk.drew hP1) ho2 (fun hh => hh); obtain ⟨q0, q1, q2⟩ := Sb.facts hP2)
    )
  have k3 := ((k1.kept (Only.refl Nil w1).drew).kept ho2).kept ho3
  have hx3 := ((hx0.trans ho1).drew.trans ho2).trans ho3
  have hx2 := ((hx0.trans ho1).drew.trans ho2)
  have hz3 : base ≤ w3.heap.size := Nat.le_trans hsz hx3.size
  have zb := k3.blk.lt
  have zp := hP3.lt
  have hne := k3.own.ne k3.blk (by decide)
  have hPn : ¬ ownB (.slice AV n cV) w.heap.size := fun hh => by have := k.own.lt hh; omega
  have hPb : w.heap.size ≠ b := by have := k.blk.lt; omega
  have hDn : ∀ g, (Value.slice A3 D.length c3).ownBlock = some g → ¬ ownB (.slice AV n cV) g := fun g hg hh => by
    have h1 := (hO3.lt hg).1
    have h2 := (k.own.lt hh).2
    have := hx2.size
    omega
  have hDb : (Value.slice A3 D.length c3).ownBlock ≠ some b := fun hg => by
    have h1 := (hO3.lt hg).1
    have := hx2.size
    have := k.blk.lt
    omega
  have hc3 : c3 ≤ maxLen := by obtain ⟨A', c', h1, h2, h3⟩ := hO3.form; injection h1 with _ _ h1; subst h1; exact h3
  have hO4 := (k3.own.alloc (.cells #[.int .i64 to.a, .int .i64 to.b, .int .i64 to.c] 27)).drew
  have hD4 := (hO3.alloc (.cells #[.int .i64 to.a, .int .i64 to.b, .int .i64 to.c] 27)).drew
  have hN4 := (Blk.new w3 27 #[.int .i64 to.a, .int .i64 to.b, .int .i64 to.c]).drew
  have hP4 := (Blk.alloc hP3 (.cells #[.int .i64 to.a, .int .i64 to.b, .int .i64 to.c] 27)).drew
  have hB4 := (k3.blk.alloc (.cells #[.int .i64 to.a, .int .i64 to.b, .int .i64 to.c] 27)).drew
  have c6' := k3.blk.cell 6
  have hz4 : base ≤ ((w3.alloc (.cells #[.int .i64 to.a, .int .i64 to.b, .int .i64 to.c] 27)).drew).heap.size := by simp; omega
  have hBe4 := (hx3.alloc (.cells #[.int .i64 to.a, .int .i64 to.b, .int .i64 to.c] 27)).drew.below hsz (fun _ _ hh => hh)
  clear hO3 k1 k0 HC HD HL hP1 hP2
  go_wp2
  go_region_law (first
    | (refine step_app (enc := encS) (by rfl) (.tmp 29) (.tmp 31) _ _ (by rfl) base 27 Try.underlying28 st_info (by rfl) _ L (by rfl) hO4 _ [to] (by rfl) (Src.one (enc := encS) Try.underlying28 to 1 rfl hN4 rfl (by simp [encS, Value.oneCell'])) (by simp; omega) (by decide) hz4 ?_; intro A6 c6' w6 hown6 ho6 hg6; have hB6 := hB4.kept ho6 hne; have hP6 : Sb w6 w.heap.size to := Blk.kept hP4 ho6 hPn; have hD6 := hD4.kept ho6 hDn; have f6 := hB6.frozen 6; have d6 := hB6.cell 6)
    )
  all_goals
    have hn1 : L.length + [to].length = n + 1 := by simp [hn]
    rw [hn1] at hown6 hg6
    have hT7 : Only (Tch b (.slice AV n cV)) w _ := (((((hx3.alloc (.cells #[.int .i64 to.a, .int .i64 to.b, .int .i64 to.c] 27)).drew.of_nil _).trans_new ho6 (fun i _ hh => .inr hh)) : Only (Tch b (.slice AV n cV)) w w6).setCell (p := ⟨b, 6, none⟩) (fun _ => .inl rfl) (.slice A6 (n + 1) c6'))
    have hF : ∀ g, (Value.slice A6 (n + 1) c6').ownBlock = some g → (Value.slice AV n cV).ownBlock = some g ∨ w.heap.size ≤ g := fun g hg => (hg6 g hg).imp (fun hh => hh) (fun e => by rw [e]; have := hx3.size; simp; omega)
    have hne6 := hown6.ne hB6 (by decide)
    have hB7 := hB6.set 6 (.slice A6 (n + 1) c6')
    have hO7 := hown6.set hne6 6 (.slice A6 (n + 1) c6')
    have hD7 := hD6.set hDb 6 (.slice A6 (n + 1) c6')
    have hP7 : Sb _ w.heap.size to := Blk.far hP6 (p := ⟨b, 6, none⟩) hPb (.slice A6 (n + 1) c6')
    have hBe7 := (hBe4.trans (ho6.below hz4 (fun i hi hh => by have := (hO4.lt hh).1; omega))).setCell (p := ⟨b, 6, none⟩) k.hb (.slice A6 (n + 1) c6')
    clear f6 d6 hB6 hP6 hD6 hown6
    generalize (w6.setCell ⟨b, 6, none⟩ (.slice A6 (n + 1) c6')) = w7 at *
    have hw7 := hB7.lt
    have hp7 := hP7.lt
    obtain ⟨p0, p1, p2⟩ := Sb.facts hP7
    have e3 : w7.cell? ⟨b, 3, none⟩ = some (.int .i64 m.a) := hB7.cell 3
    have e4 : w7.cell? ⟨b, 4, none⟩ = some (.int .i64 m.b) := hB7.cell 4
    have e5 : w7.cell? ⟨b, 5, none⟩ = some (.int .i64 m.c) := hB7.cell 5
    go_wp2
    go_region_with (first
      | (go_at_call 19; (with_reducible refine (greatest_any m to _).mono ?_); rintro e w8 ⟨g1, g2, rfl, ho8, hg1, hg2⟩; have hB8 := hB7.drew.kept ho8 (fun hh => hh); have hO8 := hO7.drew.kept ho8 (fun _ _ hh => hh); have hD8 := hD7.drew.kept ho8 (fun _ _ hh => hh))
      | (go_at_call 22; (with_reducible refine (greatest1_any m to _ _ _ hg1 hg2).mono ?_); rintro e w9 ⟨rfl, ho9⟩; have hB9 := hB8.kept ho9 (fun hh => hh); have hO9 := hO8.kept ho9 (fun _ _ hh => hh); have hD9 := hD8.kept ho9 (fun _ _ hh => hh); have r3 := hB9.frozen 3; have r4 := hB9.frozen 4; have r5 := hB9.frozen 5; have d3 : w9.cell? ⟨b, 3, none⟩ = some (.int .i64 m.a) := hB9.cell 3; have d4 : w9.cell? ⟨b, 4, none⟩ = some (.int .i64 m.b) := hB9.cell 4; have d5 : w9.cell? ⟨b, 5, none⟩ = some (.int .i64 m.c) := hB9.cell 5)
      )
    all_goals
      go_wp2
      go_ret2
      have hneb := hO9.ne hB9 (by decide)
      have hsq := ((hD9.set hDb 3 (.int .i64 (hiS m to).a)).set hDb 4 (.int .i64 (hiS m to).b)).set hDb 5 (.int .i64 (hiS m to).c)
      exact ⟨A3, c3, _, rfl, hsq.sq (fun _ _ => rfl) rfl, ⟨((hB9.set 3 _).set 4 _).set 5 _, ((hO9.set hneb 3 _).set hneb 4 _).set hneb 5 _, k.hb⟩, (((hBe7.trans ((Only.refl Nil _).drew.trans ho8 |>.trans ho9 |>.below (Nat.le_trans hsz hBe7.size) (fun _ _ hh => hh))).setCell (p := ⟨b, 3, none⟩) k.hb _).setCell (p := ⟨b, 4, none⟩) k.hb _).setCell (p := ⟨b, 5, none⟩) k.hb _, hc3, ((((hT7.drew.trans (ho8.of_nil _)).trans (ho9.of_nil _)).setCell (p := ⟨b, 3, none⟩) (fun _ => .inl rfl) _).setCell (p := ⟨b, 4, none⟩) (fun _ => .inl rfl) _).setCell (p := ⟨b, 5, none⟩) (fun _ => .inl rfl) _, hF⟩
end
end Go.Proofs.Ytjbemhfhhedlpaa
