/- The shake beside the document's own words of it: what stays true from call to call. -/
import Derived.Test.YtjbemhfhhedlpaaShake3
namespace Go.Proofs.Ytjbemhfhhedlpaa
open Go.RowKit

theorem High1_any (a b : Int) (w : World) : Calls Try.prog 20 #[.int .i64 a, .int .i64 b] w fun x w' => x = .returned (.int .i64 (hiN a b)) ∧ w = w' := by
  unfold hiN
  by_cases h : b < a
  · rw [show max a b = a by omega]
    go_enter Try.func20, Try.ntmps20
    go_wp2
    go_ret
    exact ⟨rfl, rfl⟩
  · rw [show max a b = b by omega]
    go_enter Try.func20, Try.ntmps20
    go_wp2
    go_ret
    exact ⟨rfl, rfl⟩
set_option maxHeartbeats 4000000 in
theorem High_any (p q : St) (w : World) : Calls Try.prog 11 #[stV p.a p.b p.c, stV q.a q.b q.c] w fun x w' => x = .returned (stV (hiS p q).a (hiS p q).b (hiS p q).c) ∧ Only Nil w w' := by
  have hp : Sb (((w.alloc (.cells #[.int .i64 p.a, .int .i64 p.b, .int .i64 p.c] 27)).alloc (.cells #[.int .i64 q.a, .int .i64 q.b, .int .i64 q.c] 27)).alloc (.cells #[.int .i64 0, .int .i64 0, .int .i64 0] 27)).drew w.heap.size p := (((Blk.new _ _ _).alloc _).alloc _).drew
  have hq : Sb (((w.alloc (.cells #[.int .i64 p.a, .int .i64 p.b, .int .i64 p.c] 27)).alloc (.cells #[.int .i64 q.a, .int .i64 q.b, .int .i64 q.c] 27)).alloc (.cells #[.int .i64 0, .int .i64 0, .int .i64 0] 27)).drew (w.heap.size + 1) q := by
    have := (Blk.new (w.alloc (.cells #[.int .i64 p.a, .int .i64 p.b, .int .i64 p.c] 27)) 27 #[.int .i64 q.a, .int .i64 q.b, .int .i64 q.c]).alloc (.cells #[.int .i64 0, .int .i64 0, .int .i64 0] 27)
    exact Blk.drew (by simpa using this)
  have fp := Sb.facts hp
  have fq := Sb.facts hq
  have n1 : w.heap.size + 1 + 1 ≠ w.heap.size := by omega
  have n2 : w.heap.size + 1 + 1 ≠ w.heap.size + 1 := by omega
  have h0 := fun W => High1_any p.a q.a W
  have h1 := fun W => High1_any p.b q.b W
  have h2 := fun W => High1_any p.c q.c W
  unfold hiS
  dsimp only
  generalize hiN p.a q.a = A at h0 ⊢
  generalize hiN p.b q.b = B at h1 ⊢
  generalize hiN p.c q.c = C at h2 ⊢
  have H0 := Lib.hid h0
  have H1 := Lib.hid h1
  have H2 := Lib.hid h2
  have FP := Lib.hid fp
  have FQ := Lib.hid fq
  clear h0 h1 h2 fp fq hp hq
  go_enter Try.func11, Try.ntmps11
  go_wp2
  go_region_held3 (fun w' => (w'.cell? ⟨w.heap.size, 0, none⟩ = some (.int .i64 p.a) ∧ w'.cell? ⟨w.heap.size, 1, none⟩ = some (.int .i64 p.b) ∧ w'.cell? ⟨w.heap.size, 2, none⟩ = some (.int .i64 p.c)) ∧ (w'.cell? ⟨w.heap.size + 1, 0, none⟩ = some (.int .i64 q.a) ∧ w'.cell? ⟨w.heap.size + 1, 1, none⟩ = some (.int .i64 q.b) ∧ w'.cell? ⟨w.heap.size + 1, 2, none⟩ = some (.int .i64 q.c))) (first | with_reducible exact ⟨FP.out, FQ.out⟩ | go_keep) (first
    | (go_at_call 20; (with_reducible refine (H0.out _).mono ?_); rintro e w1 ⟨rfl, rfl⟩)
    | (go_at_call 20; (with_reducible refine (H1.out _).mono ?_); rintro e w2 ⟨rfl, rfl⟩)
    | (go_at_call 20; (with_reducible refine (H2.out _).mono ?_); rintro e w3 ⟨rfl, rfl⟩)
    )
  all_goals
    go_wp2
    exact bodyPost_ret (v := stV A B C) (by simp [results, Try.results11, go_sem]) rfl ⟨rfl, by repeat (with_reducible (first | exact Only.refl _ _ | refine Only.drew ?_ | refine Only.alloc ?_ _))⟩

/-- the shake, the document's own words of it beside it (three boxes and a list), and how they lie -/
structure Inv (w wr : World) (M b B5 B6 B7 : Nat) (s8 v : Value) (h m : St) (L : List St) : Prop where
  sk : Sk wr b w.heap.size v h m L
  ow : Ow encS 3 wr M 27 s8 L
  l4 : L.length ≤ 4
  b5 : Sb wr B5 h
  b6 : Sb wr B6 m
  b7 : Sb wr B7 (lastOf h L)
  sep : ∀ g, v.ownBlock = some g → M ≤ g ∧ s8.ownBlock ≠ some g
  bel : Below w.heap.size w wr
  hM : M ≤ wr.heap.size
structure Fx (n M b B5 B6 B7 : Nat) : Prop where
  bM : b < M
  m5 : B5 < M
  m6 : B6 < M
  m7 : B7 < M
  n5 : n ≤ B5
  n6 : n ≤ B6
  n7 : n ≤ B7
  nb : n ≤ b
  e5 : B5 ≠ b
  e6 : B6 ≠ b
  e7 : B7 ≠ b
  e56 : B5 ≠ B6
  e57 : B5 ≠ B7
  e67 : B6 ≠ B7
section
variable {w wr w1 W W2 : World} {M b B5 B6 B7 : Nat} {s8 v v' : Value} {h m : St} {L : List St}
theorem Inv.kept (i : Inv w wr M b B5 B6 B7 s8 v h m L) (ho : Only Nil wr w1) : Inv w w1 M b B5 B6 B7 s8 v h m L :=
  ⟨i.sk.kept ho, i.ow.kept ho (fun _ _ hh => hh), i.l4, Blk.kept i.b5 ho (fun hh => hh), Blk.kept i.b6 ho (fun hh => hh), Blk.kept i.b7 ho (fun hh => hh), i.sep, i.bel.trans (ho.below i.bel.size (fun _ _ hh => hh)), Nat.le_trans i.hM ho.size⟩
theorem Inv.away (i : Inv w wr M b B5 B6 B7 s8 v h m L) (f : Fx w.heap.size M b B5 B6 B7) (ht : Only (Tch b v) wr w1) :
    Ow encS 3 w1 M 27 s8 L ∧ Sb w1 B5 h ∧ Sb w1 B6 m ∧ Sb w1 B7 (lastOf h L) := by
  have hb : ∀ B, B < M → B ≠ b → ¬ Tch b v B := fun B hB hne hh => by
    rcases hh with hh | hh
    · exact hne hh
    · have := (i.sep B hh).1
      omega
  refine ⟨i.ow.kept ht (fun g hg hh => ?_), Blk.kept i.b5 ht (hb _ f.m5 f.e5), Blk.kept i.b6 ht (hb _ f.m6 f.e6), Blk.kept i.b7 ht (hb _ f.m7 f.e7)⟩
  rcases hh with hh | hh
  · have := (i.ow.lt hg).1
    have := f.bM
    omega
  · exact (i.sep g hh).2 hg
theorem last_cons (h t : St) (L : List St) : lastOf h (t :: L) = lastOf t L := by
  unfold lastOf
  cases L with
  | nil => rfl
  | cons x r => simp [List.getLast?_cons]
theorem Inv.acked {t : St} {M' : List St} {g off n c : Nat} (i : Inv w wr M b B5 B6 B7 s8 v h m (t :: M')) (f : Fx w.heap.size M b B5 B6 B7) (k1 : Sk w1 b w.heap.size v' t m M') (hb : Below w.heap.size wr w1)
    (ht : Only (Tch b v) wr w1) (hf : ∀ g, v'.ownBlock = some g → wr.heap.size ≤ g) (hx : Only Nil w1 W2) (hs8 : s8 = .slice (some ⟨g, off, none⟩) n c) :
    Inv w (((W2.setCell ⟨B5, 0, none⟩ (.int .i64 t.a)).setCell ⟨B5, 1, none⟩ (.int .i64 t.b)).setCell ⟨B5, 2, none⟩ (.int .i64 t.c)) M b B5 B6 B7 (.slice (if c = 1 then some ⟨g, off, none⟩ else some ⟨g, off + 3, none⟩) (n - 1) (c - 1)) v' t m M' := by
  obtain ⟨o1, b51, b61, b71⟩ := i.away f ht
  have hgl := i.ow.lt (g := g) (by rw [hs8]; rfl)
  have hne5 : v'.ownBlock ≠ some B5 := fun hh => by have := hf _ hh; have := i.hM; have := f.m5; omega
  have e : (⟨g, off, none⟩ : Addr).add 3 = ⟨g, off + 3, none⟩ := rfl
  have od := (o1.kept hx (fun _ _ hh => hh)).drop (fun _ _ => rfl) hs8 (k := 1) (by simp)
  rw [show List.drop 1 (t :: M') = M' from rfl] at od
  simp only [Nat.one_mul, Option.map_some, e] at od
  have hob : (Value.slice (if c = 1 then some ⟨g, off, none⟩ else some ⟨g, off + 3, none⟩) (n - 1) (c - 1)).ownBlock = some g := by split <;> rfl
  have hO5 : (Value.slice (if c = 1 then some ⟨g, off, none⟩ else some ⟨g, off + 3, none⟩) (n - 1) (c - 1)).ownBlock ≠ some B5 := fun hh => by
    rw [hob] at hh
    injection hh with hh
    have := hgl.1
    have := f.m5
    omega
  refine ⟨⟨((Blk.far (p := ⟨B5, 0, none⟩) (k1.blk.kept hx (fun hh => hh)) f.e5.symm _).far (p := ⟨B5, 1, none⟩) f.e5.symm _).far (p := ⟨B5, 2, none⟩) f.e5.symm _, (((k1.own.kept hx (fun _ _ hh => hh)).set hne5 0 _).set hne5 1 _).set hne5 2 _, f.nb⟩, ((od.set hO5 0 _).set hO5 1 _).set hO5 2 _, by have := i.l4; simp at this; omega, Sb.put (Blk.kept b51 hx (fun hh => hh)) _ _ _, Sb.away (Blk.kept b61 hx (fun hh => hh)) f.e56.symm _ _ _, by rw [← last_cons h]; exact Sb.away (Blk.kept b71 hx (fun hh => hh)) f.e57.symm _ _ _, fun g' hg' => ⟨Nat.le_trans i.hM (hf _ hg'), fun hh => ?_⟩, Below.put (i.bel.trans (hb.trans (hx.below (Nat.le_trans i.bel.size hb.size) (fun _ _ hh => hh)))) f.n5 _ _ _, by simp; exact Nat.le_trans i.hM (Nat.le_trans ht.size hx.size)⟩
  rw [hob] at hh
  injection hh with hh
  have := hf _ hg'
  have := hgl.2
  omega
theorem last_snoc (h t : St) (L : List St) : lastOf h (L ++ [t]) = t := by simp [lastOf]
/-- between the call and the end of the document's words of it -/
structure Mid (w wr : World) (M b B5 B6 B7 : Nat) (s8 v : Value) (h m m' : St) (L : List St) (to : St) : Prop where
  sk : Sk wr b w.heap.size v h m' (L ++ [to])
  ow : Ow encS 3 wr M 27 s8 L
  b5 : Sb wr B5 h
  b6 : Sb wr B6 m
  b7 : Sb wr B7 to
  sep : ∀ g, v.ownBlock = some g → M ≤ g ∧ s8.ownBlock ≠ some g
  bel : Below w.heap.size w wr
  hM : M ≤ wr.heap.size
variable {m' to : St}
theorem Mid.kept (i : Mid w wr M b B5 B6 B7 s8 v h m m' L to) (ho : Only Nil wr w1) : Mid w w1 M b B5 B6 B7 s8 v h m m' L to :=
  ⟨i.sk.kept ho, i.ow.kept ho (fun _ _ hh => hh), Blk.kept i.b5 ho (fun hh => hh), Blk.kept i.b6 ho (fun hh => hh), Blk.kept i.b7 ho (fun hh => hh), i.sep, i.bel.trans (ho.below i.bel.size (fun _ _ hh => hh)), Nat.le_trans i.hM ho.size⟩
theorem Inv.sent1 (i : Inv w wr M b B5 B6 B7 s8 v h m L) (f : Fx w.heap.size M b B5 B6 B7) (k1 : Sk w1 b w.heap.size v' h m' (L ++ [to])) (hb : Below w.heap.size wr w1)
    (ht : Only (Tch b v) wr w1) (hf : ∀ g, v'.ownBlock = some g → v.ownBlock = some g ∨ wr.heap.size ≤ g) (hx : Only Nil w1 W2) :
    Mid w (((W2.setCell ⟨B7, 0, none⟩ (.int .i64 to.a)).setCell ⟨B7, 1, none⟩ (.int .i64 to.b)).setCell ⟨B7, 2, none⟩ (.int .i64 to.c)) M b B5 B6 B7 s8 v' h m m' L to := by
  obtain ⟨o1, b51, b61, b71⟩ := i.away f ht
  have hsep : ∀ g, v'.ownBlock = some g → M ≤ g ∧ s8.ownBlock ≠ some g := fun g hg => by
    rcases hf g hg with h1 | h1
    · exact i.sep g h1
    · refine ⟨Nat.le_trans i.hM h1, fun hh => ?_⟩
      have := (i.ow.lt hh).2
      omega
  have hne7 : v'.ownBlock ≠ some B7 := fun hh => by have := (hsep _ hh).1; have := f.m7; omega
  have ho7 : s8.ownBlock ≠ some B7 := fun hh => by have := (i.ow.lt hh).1; have := f.m7; omega
  exact ⟨⟨((Blk.far (p := ⟨B7, 0, none⟩) (k1.blk.kept hx (fun hh => hh)) f.e7.symm _).far (p := ⟨B7, 1, none⟩) f.e7.symm _).far (p := ⟨B7, 2, none⟩) f.e7.symm _, (((k1.own.kept hx (fun _ _ hh => hh)).set hne7 0 _).set hne7 1 _).set hne7 2 _, f.nb⟩, (((o1.kept hx (fun _ _ hh => hh)).set ho7 0 _).set ho7 1 _).set ho7 2 _, Sb.away (Blk.kept b51 hx (fun hh => hh)) f.e57 _ _ _, Sb.away (Blk.kept b61 hx (fun hh => hh)) f.e67 _ _ _, Sb.put (Blk.kept b71 hx (fun hh => hh)) _ _ _, hsep, Below.put (i.bel.trans (hb.trans (hx.below (Nat.le_trans i.bel.size hb.size) (fun _ _ hh => hh)))) f.n7 _ _ _, by simp; exact Nat.le_trans i.hM (Nat.le_trans ht.size hx.size)⟩
theorem Mid.appd {w6 w7 : World} {s9 : Value} (x : Mid w wr M b B5 B6 B7 s8 v h m m' L to) (f : Fx w.heap.size M b B5 B6 B7) (ho6 : Only (ownB s8) wr w6) (hown6 : Ow encS 3 w6 M 27 s9 (L ++ [to]))
    (hg6 : ∀ g, s9.ownBlock = some g → s8.ownBlock = some g ∨ g = wr.heap.size) (hl : L.length < 4) (ho7 : Only Nil w6 w7) :
    Inv w (((w7.setCell ⟨B6, 0, none⟩ (.int .i64 m'.a)).setCell ⟨B6, 1, none⟩ (.int .i64 m'.b)).setCell ⟨B6, 2, none⟩ (.int .i64 m'.c)) M b B5 B6 B7 s9 v h m' (L ++ [to]) := by
  have hB : ∀ B, B < M → ¬ ownB s8 B := fun B hB hh => by have := (x.ow.lt hh).1; omega
  have hvs : ∀ g, v.ownBlock = some g → ¬ ownB s8 g := fun g hg hh => (x.sep g hg).2 hh
  have k6 : Sk w6 b w.heap.size v h m' (L ++ [to]) := ⟨x.sk.blk.kept ho6 (hB b f.bM), x.sk.own.kept ho6 hvs, f.nb⟩
  have k7 := k6.kept ho7
  have o7 := hown6.kept ho7 (fun _ _ hh => hh)
  have hne6 : v.ownBlock ≠ some B6 := fun hh => by have := (x.sep _ hh).1; have := f.m6; omega
  have hn6 : s9.ownBlock ≠ some B6 := fun hh => by have := (hown6.lt hh).1; have := f.m6; omega
  have hbel : Below w.heap.size w w7 := (x.bel.trans (ho6.below x.bel.size (fun i hi hh => by have := (x.ow.lt hh).1; have := f.m5; have := f.n5; omega))).trans (ho7.below (Nat.le_trans x.bel.size ho6.size) (fun _ _ hh => hh))
  refine ⟨⟨((Blk.far (p := ⟨B6, 0, none⟩) k7.blk f.e6.symm _).far (p := ⟨B6, 1, none⟩) f.e6.symm _).far (p := ⟨B6, 2, none⟩) f.e6.symm _, ((k7.own.set hne6 0 _).set hne6 1 _).set hne6 2 _, f.nb⟩, ((o7.set hn6 0 _).set hn6 1 _).set hn6 2 _, by simp; omega, Sb.away (Blk.kept (Blk.kept x.b5 ho6 (hB _ f.m5)) ho7 (fun hh => hh)) f.e56 _ _ _, Sb.put (Blk.kept (Blk.kept x.b6 ho6 (hB _ f.m6)) ho7 (fun hh => hh)) _ _ _, by rw [last_snoc]; exact Sb.away (Blk.kept (Blk.kept x.b7 ho6 (hB _ f.m7)) ho7 (fun hh => hh)) f.e67.symm _ _ _, fun g hg => ⟨(x.sep g hg).1, fun hh => ?_⟩, Below.put hbel f.n6 _ _ _, by simp; exact Nat.le_trans x.hM (Nat.le_trans ho6.size ho7.size)⟩
  rcases hg6 g hh with h1 | h1
  · exact (x.sep g hg).2 h1
  · have := (x.sk.own.lt hg).2
    omega
theorem dpre_apply (f t : St) (ha : 0 ≤ t.a ∧ t.a ≤ 2147483647) (hb : 0 ≤ t.b ∧ t.b ≤ 2147483647) (hc : 0 ≤ t.c ∧ t.c ≤ 2147483647) : apG (dpre f t 3) f = (t, 0) := by
  obtain ⟨a, b, c⟩ := f
  obtain ⟨x, y, z⟩ := t
  dsimp only at ha hb hc
  have na : ¬ (x < 0 ∨ 2147483647 < x) := by omega
  have nb : ¬ (y < 0 ∨ 2147483647 < y) := by omega
  have nc : ¬ (z < 0 ∨ 2147483647 < z) := by omega
  unfold dpre allP
  simp only [List.take_succ_cons, List.take_zero]
  by_cases h1 : x = a <;> by_cases h2 : y = b <;> by_cases h3 : z = c <;>
    simp [chg, St.wth, pw1, pw2, pw3, List.filter, h1, h2, h3, apG] <;> (try simp_all) <;> (repeat' split) <;> (first | rfl | omega)
theorem last_get (h : St) : ∀ (L : List St), L ≠ [] → L[L.length - 1]? = some (lastOf h L) := by
  intro L hL
  unfold lastOf
  rw [← List.getLast?_eq_getElem?]
  cases L with
  | nil => exact absurd rfl hL
  | cons x r => simp [List.getLast?_cons]
theorem lastAt {W : World} {M g o n c : Nat} {L : List St} {q : St} (h : St) (ow : Ow encS 3 W M 27 (.slice (some ⟨g, o, none⟩) n c) L) (hl : L ≠ []) (hq : lastOf h L = q) :
    W.cell? ⟨g, o + (n - 1) * 3, none⟩ = some (.int .i64 q.a) ∧ W.cell? ⟨g, o + (n - 1) * 3 + 1, none⟩ = some (.int .i64 q.b) ∧ W.cell? ⟨g, o + (n - 1) * 3 + 2, none⟩ = some (.int .i64 q.c) := by
  have hn : n = L.length := by obtain ⟨A', c', h1, _⟩ := ow.form; injection h1
  have hpos : 0 < L.length := List.length_pos_iff.2 hl
  obtain ⟨g', o', x', e', _, hx', _, hc⟩ := (ow.sq (fun _ _ => rfl) rfl).at_ (k := L.length - 1) (by omega)
  injection e' with e'
  injection e' with e1 e2
  subst e1 e2
  rw [last_get h L hl, hq] at hx'
  injection hx' with hx'
  subst hx'
  have f0 := hc 0 (by decide)
  have f1 := hc 1 (by decide)
  have f2 := hc 2 (by decide)
  simp [encS] at f0 f1 f2
  rw [hn]
  exact ⟨f0, f1, f2⟩
theorem dropOw {W : World} {M g o n c : Nat} {t : St} {L : List St} (ow : Ow encS 3 W M 27 (.slice (some ⟨g, o, none⟩) n c) (t :: L)) (hc : ¬ c = 1) : Ow encS 3 W M 27 (.slice (some ⟨g, o + 3, none⟩) (n - 1) (c - 1)) L := by
  have od := ow.drop (fun _ _ => rfl) rfl (k := 1) (by simp)
  have e : (⟨g, o, none⟩ : Addr).add 3 = ⟨g, o + 3, none⟩ := rfl
  rw [show List.drop 1 (t :: L) = L from rfl] at od
  simp only [Nat.one_mul, Option.map_some, e, if_neg hc] at od
  exact od
end
end Go.Proofs.Ytjbemhfhhedlpaa
