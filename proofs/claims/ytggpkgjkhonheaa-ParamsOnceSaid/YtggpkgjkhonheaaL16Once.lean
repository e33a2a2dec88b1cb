/- For all settings and every list of Params: applied twice is as applied once (the statement ParamsOnce, as it is given). No condition. -/

import Derived.Test.YtggpkgjkhonheaaAwake16
namespace Go.Proofs.Ytggpkgjkhonheaa
open Go.RowKit

theorem far3 {w : World} {g b i : Nat} {u x y z : Value} (h : w.cell? ⟨b, i, none⟩ = some u) (hg : g ≠ b) : (((w.setCell ⟨g, 0, none⟩ x).setCell ⟨g, 1, none⟩ y).setCell ⟨g, 2, none⟩ z).cell? ⟨b, i, none⟩ = some u := by
  rw [World.cell?_setCell_far _ _ _ _ hg, World.cell?_setCell_far _ _ _ _ hg, World.cell?_setCell_far _ _ _ _ hg, h]
theorem Below.src {S : Nat → Prop} {B : Nat} {w0 W w1 : World} (_ : Only S W w1) (h : Below B w0 W) : Below B w0 W := h
theorem Ow.src {α : Type} {enc : α → List Value} {sz : Nat} {W w1 : World} {base : Nat} {e : TypeId} {v : Value} {l : List α} (_ : Only (ownB v) W w1) (h : Ow enc sz W base e v l) : Ow enc sz W base e v l := h
theorem wth_wth (s : St) (p q : Pr) (h : p.ID = q.ID) : (s.wth p).wth q = s.wth q := by
  obtain ⟨a, b, c⟩ := s
  obtain ⟨i, v⟩ := p
  obtain ⟨j, u⟩ := q
  dsimp only at h
  subst h
  simp only [St.wth, pw1, pw2, pw3]
  congr 1 <;> split <;> rfl
theorem wth_comm (s : St) (p q : Pr) (h : p.ID ≠ q.ID) : (s.wth p).wth q = (s.wth q).wth p := by
  obtain ⟨a, b, c⟩ := s
  obtain ⟨i, v⟩ := p
  obtain ⟨j, u⟩ := q
  dsimp only at h
  simp only [St.wth, pw1, pw2, pw3]
  congr 1 <;> (repeat' split) <;> first | rfl | omega
def okL (l : List Pr) : Bool := l.all fun p => decide (¬ (p.V < 0 ∨ 2147483647 < p.V))
def fold (l : List Pr) (s : St) : St := l.foldl St.wth s
theorem apG_ok : ∀ (l : List Pr) (s : St), apG l s = if okL l = true then (fold l s, 0) else (⟨0, 0, 0⟩, 4)
  | [], s => rfl
  | p :: l, s => by
    rw [apG]
    by_cases h : p.V < 0 ∨ 2147483647 < p.V
    · rw [if_pos h, if_neg (by simp [okL]; intro h1 h2; omega)]
    · rw [if_neg h, apG_ok l]
      have : okL (p :: l) = okL l := by simp only [okL, List.all_cons]; rw [decide_eq_true h]; rfl
      rw [this]
      rfl
/-- what comes first does not matter, if the same number comes later -/
theorem fold_over : ∀ (l : List Pr) (s : St) (p : Pr), (∃ q ∈ l, q.ID = p.ID) → fold l (s.wth p) = fold l s
  | [], _, _, h => by obtain ⟨_, h, _⟩ := h; cases h
  | q :: l, s, p, h => by
    show fold l ((s.wth p).wth q) = fold l (s.wth q)
    by_cases e : p.ID = q.ID
    · rw [wth_wth _ _ _ e]
    · rw [wth_comm _ _ _ e]
      refine fold_over l (s.wth q) p ?_
      obtain ⟨x, hx, hxe⟩ := h
      rcases List.mem_cons.1 hx with rfl | hx
      · exact absurd hxe.symm e
      · exact ⟨x, hx, hxe⟩
theorem fold_twice : ∀ (l r : List Pr) (s : St), (∀ p ∈ l, ∃ q ∈ r, q.ID = p.ID) → fold r (fold l s) = fold r s
  | [], _, _, _ => rfl
  | p :: l, r, s, h => by
    show fold r (fold l (s.wth p)) = _
    rw [fold_twice l r (s.wth p) (fun q hq => h q (List.mem_cons_of_mem _ hq))]
    exact fold_over r s p (h p (List.mem_cons_self ..))
theorem apG_twice (l : List Pr) (s : St) : apG (l ++ l) s = apG l s := by
  rw [apG_ok, apG_ok]
  have h1 : okL (l ++ l) = okL l := by unfold okL; rw [List.all_append]; simp
  have h2 : fold (l ++ l) s = fold l (fold l s) := by unfold fold; rw [List.foldl_append]
  rw [h1, h2, fold_twice l l s (fun p hp => ⟨p, hp, rfl⟩)]
set_option maxRecDepth 100000 in
set_option maxHeartbeats 4000000 in
theorem paramsOnce_walk (v0 v1 : Value) (w : World) (h0 : Kd.Fit w (.agg [.int .i64, .int .i64, .int .i64]) v0) (h1 : Kd.Fit w (.slc (.agg [.int .i64, .int .i64])) v1) :
    Calls Try.prog 5 #[v0, v1] w fun e w' => e = .returned (.bool true) ∧ Below w.heap.size w w' := by
  obtain ⟨sa, sb, sc, rfl, _, _, _⟩ := Kd.ints3 h0
  obtain ⟨A, len, cap, rfl, hl⟩ := Kd.slc_fit h1
  obtain ⟨l, hlen, hok, hs⟩ := pr_list hl
  have hll : len ≤ 9223372036854775807 := Nat.le_trans hl.1 hl.2.1
  have hcap := hl.1
  have hnil : A = none → len = 0 := fun hA => by have := hl.2.2.1 hA; omega
  have hcm : cap ≤ 9223372036854775807 := hl.2.1
  clear h0 h1 hl hok
  by_cases hbig : 100 < len
  · obtain ⟨m, hm⟩ : ∃ m, l.take 100 = m := ⟨_, rfl⟩
    have hml : m.length = 100 := by rw [← hm, List.length_take]; omega
    have hsm : Sq encP 2 w w.heap.size A m := by rw [← hm]; exact hs.take 100
    clear hm hs hlen
    obtain ⟨⟨⟨ra, rb, rc⟩, rd⟩, hr⟩ : ∃ r, apG m ⟨sa, sb, sc⟩ = r := ⟨_, rfl⟩
    have hA := fun (W : World) (h : Sq encP 2 W W.heap.size A m) => Apply_any ⟨sa, sb, sc⟩ A cap m W h (by rw [hml]; omega)
    have hD : ∀ (W : World) (A : Option Addr) (cap k : Nat), k = (m ++ m).length → Sq encP 2 W W.heap.size A (m ++ m) → Calls Try.prog 6 #[stV sa sb sc, .slice A k cap] W fun x w' => x = .returned (apV (⟨ra, rb, rc⟩, rd)) ∧ Only Nil W w' := by
      intro W A cap k hk h
      subst hk
      have := Apply_any ⟨sa, sb, sc⟩ A cap (m ++ m) W h (by simp; rw [hml]; omega)
      rw [apG_twice m ⟨sa, sb, sc⟩, hr] at this
      exact this
    have hsrc : ∀ (W : World), Sq encP 2 W w.heap.size A m → Src Try.prog 2 24 (.slice A 100 cap) m.length (m.flatMap encP) W := by
      intro W h
      have := Src.sq (P := Try.prog) (tx := 24) Try.underlying24 cap h (fun _ _ => rfl) (fun hA => List.eq_nil_of_length_eq_zero (by have := hnil hA; omega)) (by intro x _ u hu; simp [encP] at hu; rcases hu with rfl | rfl <;> rfl) (by decide)
      have e : Value.slice A m.length cap = .slice A 100 cap := by rw [hml]
      rw [e] at this
      exact this
    rw [hr, hml] at hA
    unfold apV at hA hD
    have hmm : m.length ≤ 100 := by rw [hml]; omega
    clear hr hml
    have hx0 := (Only.refl Nil w).alloc (.cells #[.int .i64 sa, .int .i64 sb, .int .i64 sc] 23)
    have hB0 : Sb (w.alloc (.cells #[.int .i64 sa, .int .i64 sb, .int .i64 sc] 23)) w.heap.size ⟨sa, sb, sc⟩ := Blk.new _ _ _
    go_enter Try.func5, Try.ntmps5
    go_wp2_with (first
      | (go_at_call 6; (with_reducible refine (hA _ (hsm.go hx0)).mono ?_); rintro e w1 ⟨rfl, ho1⟩; have hB1 := Blk.kept hB0 ho1 (fun hh => hh); obtain ⟨c0, c1, c2⟩ := Sb.facts (q := ⟨sa, sb, sc⟩) hB1; have z1 := hB1.lt; have hx1 := (hx0.trans ho1).alloc (.cells #[.int .i64 ra, .int .i64 rb, .int .i64 rc] 23); have hP1 := Blk.new w1 23 #[.int .i64 ra, .int .i64 rb, .int .i64 rc])
      )
    have hR1 := Blk.alloc hB1 (.cells #[.int .i64 ra, .int .i64 rb, .int .i64 rc] 23)
    have hg5 := hP1.lt
    have hg0 := hR1.lt
    have hx1s := hx1.size
    have HD := Lib.hid hD
    have HS := Lib.hid hsrc
    clear hD hsrc hA hnil c0 c1 c2 z1
    generalize (w1.alloc (.cells #[.int .i64 ra, .int .i64 rb, .int .i64 rc] 23)) = W1 at *
    generalize w1.heap.size = g5 at *
    have hsm1 := hsm.kept hx1 (Nat.le_refl _) (fun _ _ hh => hh)
    have oA : Ow encP 2 (W1.alloc (.cells #[] 35)).drew W1.heap.size 35 (.slice (some ⟨W1.heap.size, 0, none⟩) 0 0) ([] : List Pr) := Ow.drew (Ow.lit (enc := encP) (sz := 2) (e := 35) (base := W1.heap.size) W1 (cs := #[]) [] rfl rfl (by simp [maxLen]) (Nat.le_refl _))
    have oB : Ow encP 2 ((W1.alloc (.cells #[.int .i64 0, .int .i64 0, .int .i64 0] 23)).alloc (.cells #[] 35)).drew W1.heap.size 35 (.slice (some ⟨W1.heap.size + 1, 0, none⟩) 0 0) ([] : List Pr) := by
      have := Ow.drew (Ow.lit (enc := encP) (sz := 2) (e := 35) (base := W1.heap.size) (W1.alloc (.cells #[.int .i64 0, .int .i64 0, .int .i64 0] 23)) (cs := #[]) [] rfl rfl (by simp [maxLen]) (by simp))
      simpa using this
    have oC : Ow encP 2 ((W1.alloc (.cells #[] 35)).alloc (.cells #[.int .i64 0, .int .i64 0, .int .i64 0] 23)).drew W1.heap.size 35 (.slice (some ⟨W1.heap.size, 0, none⟩) 0 0) ([] : List Pr) := Ow.drew (Ow.alloc (Ow.lit (enc := encP) (sz := 2) (e := 35) (base := W1.heap.size) W1 (cs := #[]) [] rfl rfl (by simp [maxLen]) (Nat.le_refl _)) (.cells #[.int .i64 0, .int .i64 0, .int .i64 0] 23))
    have b0 : Below W1.heap.size W1 W1.drew := (Only.refl Nil W1).drew.below (Nat.le_refl _) (fun _ _ hh => hh)
    have bZ : Below W1.heap.size W1 (W1.alloc (.cells #[.int .i64 0, .int .i64 0, .int .i64 0] 23)).drew := ((Only.refl Nil W1).alloc (.cells #[.int .i64 0, .int .i64 0, .int .i64 0] 23)).drew.below (Nat.le_refl _) (fun _ _ hh => hh)
    have bA : Below W1.heap.size W1 (W1.alloc (.cells #[] 35)).drew := ((Only.refl Nil W1).alloc (.cells #[] 35)).drew.below (Nat.le_refl _) (fun _ _ hh => hh)
    have bB : Below W1.heap.size W1 ((W1.alloc (.cells #[.int .i64 0, .int .i64 0, .int .i64 0] 23)).alloc (.cells #[] 35)).drew := (((Only.refl Nil W1).alloc (.cells #[.int .i64 0, .int .i64 0, .int .i64 0] 23)).alloc (.cells #[] 35)).drew.below (Nat.le_refl _) (fun _ _ hh => hh)
    have bC : Below W1.heap.size W1 ((W1.alloc (.cells #[] 35)).alloc (.cells #[.int .i64 0, .int .i64 0, .int .i64 0] 23)).drew := (((Only.refl Nil W1).alloc (.cells #[] 35)).alloc (.cells #[.int .i64 0, .int .i64 0, .int .i64 0] 23)).drew.below (Nat.le_refl _) (fun _ _ hh => hh)
    have n0 : W1.heap.size ≠ w.heap.size := by omega
    have n1 : W1.heap.size + 1 ≠ w.heap.size := by omega
    have zC : Blk ((W1.alloc (.cells #[] 35)).alloc (.cells #[.int .i64 0, .int .i64 0, .int .i64 0] 23)).drew (W1.heap.size + 1) 23 #[.int .i64 0, .int .i64 0, .int .i64 0] := Blk.drew (by simpa using Blk.new (W1.alloc (.cells #[] 35)) 23 #[.int .i64 0, .int .i64 0, .int .i64 0])
    have e00 := Lib.hid (show ([] : List Pr).length + m.length = m.length by simp)
    have s0 := Lib.hid (Sb.facts (q := ⟨sa, sb, sc⟩) (Blk.below hR1 b0 hg0))
    have sZ := Lib.hid (Sb.facts (q := ⟨sa, sb, sc⟩) (Blk.below hR1 bZ hg0))
    have sA := Lib.hid (Sb.facts (q := ⟨sa, sb, sc⟩) (Blk.below hR1 bA hg0))
    have sB := Lib.hid (Sb.facts (q := ⟨sa, sb, sc⟩) (Blk.below hR1 bB hg0))
    have sC := Lib.hid (Sb.facts (q := ⟨sa, sb, sc⟩) (Blk.below hR1 bC hg0))
    go_region_held3 (fun w' => w'.cell? ⟨w.heap.size, 0, none⟩ = some (.int .i64 sa) ∧ w'.cell? ⟨w.heap.size, 1, none⟩ = some (.int .i64 sb) ∧ w'.cell? ⟨w.heap.size, 2, none⟩ = some (.int .i64 sc)) (with_reducible (first | exact s4.out | exact s4'.out | exact s3.out | exact s3'.out | exact s2.out | exact s2'.out | exact sC.out | exact sB.out | exact sA.out | exact sZ.out | exact s0.out | exact s4r.out | exact ⟨far3 s4.out.1 n0, far3 s4.out.2.1 n0, far3 s4.out.2.2 n0⟩ | exact ⟨far3 s4.out.1 n1, far3 s4.out.2.1 n1, far3 s4.out.2.2 n1⟩ | exact ⟨far3 s4.out.1 n2, far3 s4.out.2.1 n2, far3 s4.out.2.2 n2⟩ | exact ⟨far3 s4.out.1 n3, far3 s4.out.2.1 n3, far3 s4.out.2.2 n3⟩)) (first
      | (refine step_app (enc := encP) (by rfl) (.tmp 22) (.tmp 23) _ _ (by rfl) W1.heap.size 35 Try.underlying24 pr_info (by rfl) _ [] (by rfl) oA _ m (by rfl) (HS.out _ (hsm1.below (Below.mono bA hx1s))) (by simp; omega) (by decide) (Below.size bA) ?_; intro A2 c2 w2 hown2 ho2 hg2; have hown2s : Ow encP 2 w2 W1.heap.size 35 (.slice A2 m.length c2) ([] ++ m) := (by have h := hown2; rw [e00.out] at h; exact h); have o2 := Ow.src ho2 (l := []) (e := 35) (enc := encP) (sz := 2) (base := W1.heap.size) oA; have b2 := Below.trans bA (ho2.below (Below.size bA) (fun i hi hh => by have := (o2.lt hh).1; omega)); have n2 : w2.heap.size ≠ w.heap.size := (by have := b2.size; omega); have s2 := Lib.hid (Sb.facts (q := ⟨sa, sb, sc⟩) (Blk.below hR1 b2 hg0)); have s2' := Lib.hid (Sb.facts (q := ⟨sa, sb, sc⟩) (Blk.below hR1 (b2.alloc b2.size (.cells #[.int .i64 0, .int .i64 0, .int .i64 0] 23)) hg0)))
      | (refine step_app (enc := encP) (by rfl) (.tmp 22) (.tmp 23) _ _ (by rfl) W1.heap.size 35 Try.underlying24 pr_info (by rfl) _ [] (by rfl) oC _ m (by rfl) (HS.out _ (hsm1.below (Below.mono bC hx1s))) (by simp; omega) (by decide) (Below.size bC) ?_; intro A2 c2 w2 hown2 ho2 hg2; have hown2s : Ow encP 2 w2 W1.heap.size 35 (.slice A2 m.length c2) ([] ++ m) := (by have h := hown2; rw [e00.out] at h; exact h); have o2 := Ow.src ho2 (l := []) (e := 35) (enc := encP) (sz := 2) (base := W1.heap.size) oC; have b2 := Below.trans bC (ho2.below (Below.size bC) (fun i hi hh => by have := (o2.lt hh).1; omega)); have n2 : w2.heap.size ≠ w.heap.size := (by have := b2.size; omega); have s2 := Lib.hid (Sb.facts (q := ⟨sa, sb, sc⟩) (Blk.below hR1 b2 hg0)); have s2' := Lib.hid (Sb.facts (q := ⟨sa, sb, sc⟩) (Blk.below hR1 (b2.alloc b2.size (.cells #[.int .i64 0, .int .i64 0, .int .i64 0] 23)) hg0)); have hz2 := Blk.kept zC ho2 (o2.ne zC (by decide)))
      | (refine step_app (enc := encP) (by rfl) (.tmp 22) (.tmp 23) _ _ (by rfl) W1.heap.size 35 Try.underlying24 pr_info (by rfl) _ [] (by rfl) oB _ m (by rfl) (HS.out _ (hsm1.below (Below.mono bB hx1s))) (by simp; omega) (by decide) (Below.size bB) ?_; intro A2 c2 w2 hown2 ho2 hg2; have hown2s : Ow encP 2 w2 W1.heap.size 35 (.slice A2 m.length c2) ([] ++ m) := (by have h := hown2; rw [e00.out] at h; exact h); have o2 := Ow.src ho2 (l := []) (e := 35) (enc := encP) (sz := 2) (base := W1.heap.size) oB; have b2 := Below.trans bB (ho2.below (Below.size bB) (fun i hi hh => by have := (o2.lt hh).1; omega)); have n2 : w2.heap.size ≠ w.heap.size := (by have := b2.size; omega); have s2 := Lib.hid (Sb.facts (q := ⟨sa, sb, sc⟩) (Blk.below hR1 b2 hg0)); have s2' := Lib.hid (Sb.facts (q := ⟨sa, sb, sc⟩) (Blk.below hR1 (b2.alloc b2.size (.cells #[.int .i64 0, .int .i64 0, .int .i64 0] 23)) hg0)); have hz2 := Blk.kept (Blk.drew (Blk.alloc (Blk.new W1 23 #[.int .i64 0, .int .i64 0, .int .i64 0]) (.cells #[] 35))) ho2 (o2.ne (Blk.drew (Blk.alloc (Blk.new W1 23 #[.int .i64 0, .int .i64 0, .int .i64 0]) (.cells #[] 35))) (by decide)))
      | (refine step_app (enc := encP) (by rfl) (.tmp 24) (.tmp 25) _ _ (by rfl) W1.heap.size 35 Try.underlying24 pr_info (by rfl) _ ([] ++ m) (by rfl) hown2 _ m (by rfl) (HS.out _ (hsm1.below (Below.mono b2 hx1s))) (by simp; omega) (by decide) (Below.size b2) ?_; intro A3 c3 w3 hown3 ho3 hg3; have o3 := Ow.src ho3 (l := ([] ++ m)) (e := 35) (enc := encP) (sz := 2) (base := W1.heap.size) hown2; have b3 := Below.trans b2 (ho3.below (Below.size b2) (fun i hi hh => by have := (o3.lt hh).1; omega)); have n3 : w3.heap.size ≠ w.heap.size := (by have := b3.size; omega); have s3 := Lib.hid (Sb.facts (q := ⟨sa, sb, sc⟩) (Blk.below hR1 b3 hg0)); have s3' := Lib.hid (Sb.facts (q := ⟨sa, sb, sc⟩) (Blk.below hR1 (b3.alloc b3.size (.cells #[.int .i64 0, .int .i64 0, .int .i64 0] 23)) hg0)); have hz3 := Blk.kept hz2 ho3 (o3.ne hz2 (by decide)))
      | (refine step_app (enc := encP) (by rfl) (.tmp 24) (.tmp 25) _ _ (by rfl) W1.heap.size 35 Try.underlying24 pr_info (by rfl) _ ([] ++ m) (by rfl) hown2 _ m (by rfl) (HS.out _ (hsm1.below (Below.mono b2 hx1s))) (by simp; omega) (by decide) (Below.size b2) ?_; intro A3 c3 w3 hown3 ho3 hg3; have o3 := Ow.src ho3 (l := ([] ++ m)) (e := 35) (enc := encP) (sz := 2) (base := W1.heap.size) hown2; have b3 := Below.trans b2 (ho3.below (Below.size b2) (fun i hi hh => by have := (o3.lt hh).1; omega)); have n3 : w3.heap.size ≠ w.heap.size := (by have := b3.size; omega); have s3 := Lib.hid (Sb.facts (q := ⟨sa, sb, sc⟩) (Blk.below hR1 b3 hg0)); have s3' := Lib.hid (Sb.facts (q := ⟨sa, sb, sc⟩) (Blk.below hR1 (b3.alloc b3.size (.cells #[.int .i64 0, .int .i64 0, .int .i64 0] 23)) hg0)))
      | (refine step_app (enc := encP) (by rfl) (.tmp 24) (.tmp 25) _ _ (by rfl) W1.heap.size 35 Try.underlying24 pr_info (by rfl) _ ([] ++ m) (by rfl) (hown2s.alloc (.cells #[.int .i64 0, .int .i64 0, .int .i64 0] 23)) _ m (by rfl) (HS.out _ (hsm1.below (Below.mono (b2.alloc b2.size (.cells #[.int .i64 0, .int .i64 0, .int .i64 0] 23)) hx1s))) (by simp; omega) (by decide) (Below.size (b2.alloc b2.size (.cells #[.int .i64 0, .int .i64 0, .int .i64 0] 23))) ?_; intro A3 c3 w3 hown3 ho3 hg3; have o3 := Ow.src ho3 (l := ([] ++ m)) (e := 35) (enc := encP) (sz := 2) (base := W1.heap.size) (hown2s.alloc (.cells #[.int .i64 0, .int .i64 0, .int .i64 0] 23)); have b3 := Below.trans (b2.alloc b2.size (.cells #[.int .i64 0, .int .i64 0, .int .i64 0] 23)) (ho3.below (Below.size (b2.alloc b2.size (.cells #[.int .i64 0, .int .i64 0, .int .i64 0] 23))) (fun i hi hh => by have := (o3.lt hh).1; omega)); have n3 : w3.heap.size ≠ w.heap.size := (by have := b3.size; omega); have s3 := Lib.hid (Sb.facts (q := ⟨sa, sb, sc⟩) (Blk.below hR1 b3 hg0)); have s3' := Lib.hid (Sb.facts (q := ⟨sa, sb, sc⟩) (Blk.below hR1 (b3.alloc b3.size (.cells #[.int .i64 0, .int .i64 0, .int .i64 0] 23)) hg0)); have hz3 := Blk.kept (Blk.new w2 23 #[.int .i64 0, .int .i64 0, .int .i64 0]) ho3 (o3.ne (Blk.new w2 23 #[.int .i64 0, .int .i64 0, .int .i64 0]) (by decide)))
      | (go_at_call 6; (with_reducible refine (HD.out _ _ _ _ (by simp) (Ow.sq hown3 (fun _ _ => rfl) rfl)).mono ?_); rintro e w4 ⟨rfl, ho4⟩; have b4 := Below.trans b3 (ho4.below (Below.size b3) (fun _ _ hh => hh)); have s4 := Lib.hid (Sb.facts (q := ⟨sa, sb, sc⟩) (Blk.below hR1 b4 hg0)); have s4' := Lib.hid (Sb.facts (q := ⟨sa, sb, sc⟩) (Blk.below hR1 (b4.alloc b4.size (.cells #[.int .i64 0, .int .i64 0, .int .i64 0] 23)) hg0)); have s4r := Lib.hid (Sb.facts (q := ⟨sa, sb, sc⟩) (Blk.below hR1 (b4.alloc b4.size (.cells #[.int .i64 ra, .int .i64 rb, .int .i64 rc] 23)) hg0)); have hz4 := Blk.kept hz3 ho4 (fun hh => hh); obtain ⟨x0, x1, x2⟩ := Sb.facts (q := ⟨0, 0, 0⟩) hz4; obtain ⟨u0, u1, u2⟩ := Sb.loose (q := ⟨0, 0, 0⟩) hz4; have zl := hz4.lt)
      | (go_at_call 6; (with_reducible refine (HD.out _ _ _ _ (by simp) (Ow.sq (hown3.alloc (.cells #[.int .i64 0, .int .i64 0, .int .i64 0] 23)) (fun _ _ => rfl) rfl)).mono ?_); rintro e w4 ⟨rfl, ho4⟩; have b4 := Below.trans (b3.alloc b3.size (.cells #[.int .i64 0, .int .i64 0, .int .i64 0] 23)) (ho4.below (Below.size (b3.alloc b3.size (.cells #[.int .i64 0, .int .i64 0, .int .i64 0] 23))) (fun _ _ hh => hh)); have s4 := Lib.hid (Sb.facts (q := ⟨sa, sb, sc⟩) (Blk.below hR1 b4 hg0)); have s4' := Lib.hid (Sb.facts (q := ⟨sa, sb, sc⟩) (Blk.below hR1 (b4.alloc b4.size (.cells #[.int .i64 0, .int .i64 0, .int .i64 0] 23)) hg0)); have s4r := Lib.hid (Sb.facts (q := ⟨sa, sb, sc⟩) (Blk.below hR1 (b4.alloc b4.size (.cells #[.int .i64 ra, .int .i64 rb, .int .i64 rc] 23)) hg0)); have hz4 := Blk.kept (Blk.new w3 23 #[.int .i64 0, .int .i64 0, .int .i64 0]) ho4 (fun hh => hh); obtain ⟨x0, x1, x2⟩ := Sb.facts (q := ⟨0, 0, 0⟩) hz4; obtain ⟨u0, u1, u2⟩ := Sb.loose (q := ⟨0, 0, 0⟩) hz4; have zl := hz4.lt)
      | (go_at_call 6; (with_reducible refine (HD.out _ _ _ _ (by simp) (Ow.sq hown3 (fun _ _ => rfl) rfl)).mono ?_); rintro e w4 ⟨rfl, ho4⟩; have b4 := Below.trans b3 (ho4.below (Below.size b3) (fun _ _ hh => hh)); have s4 := Lib.hid (Sb.facts (q := ⟨sa, sb, sc⟩) (Blk.below hR1 b4 hg0)); have s4' := Lib.hid (Sb.facts (q := ⟨sa, sb, sc⟩) (Blk.below hR1 (b4.alloc b4.size (.cells #[.int .i64 0, .int .i64 0, .int .i64 0] 23)) hg0)); have s4r := Lib.hid (Sb.facts (q := ⟨sa, sb, sc⟩) (Blk.below hR1 (b4.alloc b4.size (.cells #[.int .i64 ra, .int .i64 rb, .int .i64 rc] 23)) hg0)))
      )
    ·
      have hQ : Sb _ w4.heap.size ⟨ra, rb, rc⟩ := Blk.new w4 23 #[.int .i64 ra, .int .i64 rb, .int .i64 rc]
      have bW := b4.alloc b4.size (.cells #[.int .i64 ra, .int .i64 rb, .int .i64 rc] 23)
      have hP5 := Blk.below hP1 bW hg5
      go_wp2_with (first
        | (go_at_call 9; (with_reducible refine (awake_any _).mono ?_); rintro e w5 ⟨rfl, ho5⟩; have hP6 := hP5.kept ho5 (fun hh => hh); have hQ6 := Blk.kept hQ ho5 (fun hh => hh); obtain ⟨p0, p1, p2⟩ := Sb.facts (q := ⟨ra, rb, rc⟩) hP6; obtain ⟨r0, r1, r2⟩ := Sb.facts (q := ⟨ra, rb, rc⟩) hQ6; have l5 := hP6.lt; have l6 := hQ6.lt)
        )
      go_ret
      exact ⟨rfl, ((hx1.below (Nat.le_refl _) (fun _ _ hh => hh)).trans (bW.mono hx1s)).trans (ho5.below (Nat.le_trans hx1s bW.size) (fun _ _ hh => hh))⟩
    ·
      have hQ := Sb.put (q := ⟨0, 0, 0⟩) hz4 ra rb rc
      have bW := Below.put (g := w3.heap.size) b4 (b3.size) (.int .i64 ra) (.int .i64 rb) (.int .i64 rc)
      have hP5 := Blk.below hP1 bW hg5
      go_wp2_with (first
        | (go_at_call 9; (with_reducible refine (awake_any _).mono ?_); rintro e w5 ⟨rfl, ho5⟩; have hP6 := hP5.kept ho5 (fun hh => hh); have hQ6 := Blk.kept hQ ho5 (fun hh => hh); obtain ⟨p0, p1, p2⟩ := Sb.facts (q := ⟨ra, rb, rc⟩) hP6; obtain ⟨r0, r1, r2⟩ := Sb.facts (q := ⟨ra, rb, rc⟩) hQ6; have l5 := hP6.lt; have l6 := hQ6.lt)
        )
      go_ret
      exact ⟨rfl, ((hx1.below (Nat.le_refl _) (fun _ _ hh => hh)).trans (bW.mono hx1s)).trans (ho5.below (Nat.le_trans hx1s bW.size) (fun _ _ hh => hh))⟩
    ·
      have hQ := Sb.put (q := ⟨0, 0, 0⟩) hz4 ra rb rc
      have bW := Below.put (g := w2.heap.size) b4 (b2.size) (.int .i64 ra) (.int .i64 rb) (.int .i64 rc)
      have hP5 := Blk.below hP1 bW hg5
      go_wp2_with (first
        | (go_at_call 9; (with_reducible refine (awake_any _).mono ?_); rintro e w5 ⟨rfl, ho5⟩; have hP6 := hP5.kept ho5 (fun hh => hh); have hQ6 := Blk.kept hQ ho5 (fun hh => hh); obtain ⟨p0, p1, p2⟩ := Sb.facts (q := ⟨ra, rb, rc⟩) hP6; obtain ⟨r0, r1, r2⟩ := Sb.facts (q := ⟨ra, rb, rc⟩) hQ6; have l5 := hP6.lt; have l6 := hQ6.lt)
        )
      go_ret
      exact ⟨rfl, ((hx1.below (Nat.le_refl _) (fun _ _ hh => hh)).trans (bW.mono hx1s)).trans (ho5.below (Nat.le_trans hx1s bW.size) (fun _ _ hh => hh))⟩
    ·
      have hQ := Sb.put (q := ⟨0, 0, 0⟩) hz4 ra rb rc
      have bW := Below.put (g := W1.heap.size + 1) b4 (Nat.le_succ _) (.int .i64 ra) (.int .i64 rb) (.int .i64 rc)
      have hP5 := Blk.below hP1 bW hg5
      go_wp2_with (first
        | (go_at_call 9; (with_reducible refine (awake_any _).mono ?_); rintro e w5 ⟨rfl, ho5⟩; have hP6 := hP5.kept ho5 (fun hh => hh); have hQ6 := Blk.kept hQ ho5 (fun hh => hh); obtain ⟨p0, p1, p2⟩ := Sb.facts (q := ⟨ra, rb, rc⟩) hP6; obtain ⟨r0, r1, r2⟩ := Sb.facts (q := ⟨ra, rb, rc⟩) hQ6; have l5 := hP6.lt; have l6 := hQ6.lt)
        )
      go_ret
      exact ⟨rfl, ((hx1.below (Nat.le_refl _) (fun _ _ hh => hh)).trans (bW.mono hx1s)).trans (ho5.below (Nat.le_trans hx1s bW.size) (fun _ _ hh => hh))⟩
    ·
      have hQ := Sb.put (q := ⟨0, 0, 0⟩) hz4 ra rb rc
      have bW := Below.put (g := W1.heap.size) b4 (Nat.le_refl _) (.int .i64 ra) (.int .i64 rb) (.int .i64 rc)
      have hP5 := Blk.below hP1 bW hg5
      go_wp2_with (first
        | (go_at_call 9; (with_reducible refine (awake_any _).mono ?_); rintro e w5 ⟨rfl, ho5⟩; have hP6 := hP5.kept ho5 (fun hh => hh); have hQ6 := Blk.kept hQ ho5 (fun hh => hh); obtain ⟨p0, p1, p2⟩ := Sb.facts (q := ⟨ra, rb, rc⟩) hP6; obtain ⟨r0, r1, r2⟩ := Sb.facts (q := ⟨ra, rb, rc⟩) hQ6; have l5 := hP6.lt; have l6 := hQ6.lt)
        )
      go_ret
      exact ⟨rfl, ((hx1.below (Nat.le_refl _) (fun _ _ hh => hh)).trans (bW.mono hx1s)).trans (ho5.below (Nat.le_trans hx1s bW.size) (fun _ _ hh => hh))⟩
  · obtain ⟨m, rfl⟩ : ∃ m, m = l := ⟨_, rfl⟩
    have hml := hlen
    have hsm := hs
    clear hs hlen
    obtain ⟨⟨⟨ra, rb, rc⟩, rd⟩, hr⟩ : ∃ r, apG m ⟨sa, sb, sc⟩ = r := ⟨_, rfl⟩
    have hA := fun (W : World) (h : Sq encP 2 W W.heap.size A m) => Apply_any ⟨sa, sb, sc⟩ A cap m W h (by rw [hml]; omega)
    have hD : ∀ (W : World) (A : Option Addr) (cap k : Nat), k = (m ++ m).length → Sq encP 2 W W.heap.size A (m ++ m) → Calls Try.prog 6 #[stV sa sb sc, .slice A k cap] W fun x w' => x = .returned (apV (⟨ra, rb, rc⟩, rd)) ∧ Only Nil W w' := by
      intro W A cap k hk h
      subst hk
      have := Apply_any ⟨sa, sb, sc⟩ A cap (m ++ m) W h (by simp; rw [hml]; omega)
      rw [apG_twice m ⟨sa, sb, sc⟩, hr] at this
      exact this
    have hsrc : ∀ (W : World), Sq encP 2 W w.heap.size A m → Src Try.prog 2 24 (.slice A len cap) m.length (m.flatMap encP) W := by
      intro W h
      have := Src.sq (P := Try.prog) (tx := 24) Try.underlying24 cap h (fun _ _ => rfl) (fun hA => List.eq_nil_of_length_eq_zero (by have := hnil hA; omega)) (by intro x _ u hu; simp [encP] at hu; rcases hu with rfl | rfl <;> rfl) (by decide)
      have e : Value.slice A m.length cap = .slice A len cap := by rw [hml]
      rw [e] at this
      exact this
    rw [hr, hml] at hA
    unfold apV at hA hD
    have hmm : m.length ≤ 100 := by rw [hml]; omega
    clear hr hml
    have hx0 := (Only.refl Nil w).alloc (.cells #[.int .i64 sa, .int .i64 sb, .int .i64 sc] 23)
    have hB0 : Sb (w.alloc (.cells #[.int .i64 sa, .int .i64 sb, .int .i64 sc] 23)) w.heap.size ⟨sa, sb, sc⟩ := Blk.new _ _ _
    go_enter Try.func5, Try.ntmps5
    go_wp2_with (first
      | (go_at_call 6; (with_reducible refine (hA _ (hsm.go hx0)).mono ?_); rintro e w1 ⟨rfl, ho1⟩; have hB1 := Blk.kept hB0 ho1 (fun hh => hh); obtain ⟨c0, c1, c2⟩ := Sb.facts (q := ⟨sa, sb, sc⟩) hB1; have z1 := hB1.lt; have hx1 := (hx0.trans ho1).alloc (.cells #[.int .i64 ra, .int .i64 rb, .int .i64 rc] 23); have hP1 := Blk.new w1 23 #[.int .i64 ra, .int .i64 rb, .int .i64 rc])
      )
    have hR1 := Blk.alloc hB1 (.cells #[.int .i64 ra, .int .i64 rb, .int .i64 rc] 23)
    have hg5 := hP1.lt
    have hg0 := hR1.lt
    have hx1s := hx1.size
    have HD := Lib.hid hD
    have HS := Lib.hid hsrc
    clear hD hsrc hA hnil c0 c1 c2 z1
    generalize (w1.alloc (.cells #[.int .i64 ra, .int .i64 rb, .int .i64 rc] 23)) = W1 at *
    generalize w1.heap.size = g5 at *
    have hsm1 := hsm.kept hx1 (Nat.le_refl _) (fun _ _ hh => hh)
    have oA : Ow encP 2 (W1.alloc (.cells #[] 35)).drew W1.heap.size 35 (.slice (some ⟨W1.heap.size, 0, none⟩) 0 0) ([] : List Pr) := Ow.drew (Ow.lit (enc := encP) (sz := 2) (e := 35) (base := W1.heap.size) W1 (cs := #[]) [] rfl rfl (by simp [maxLen]) (Nat.le_refl _))
    have oB : Ow encP 2 ((W1.alloc (.cells #[.int .i64 0, .int .i64 0, .int .i64 0] 23)).alloc (.cells #[] 35)).drew W1.heap.size 35 (.slice (some ⟨W1.heap.size + 1, 0, none⟩) 0 0) ([] : List Pr) := by
      have := Ow.drew (Ow.lit (enc := encP) (sz := 2) (e := 35) (base := W1.heap.size) (W1.alloc (.cells #[.int .i64 0, .int .i64 0, .int .i64 0] 23)) (cs := #[]) [] rfl rfl (by simp [maxLen]) (by simp))
      simpa using this
    have oC : Ow encP 2 ((W1.alloc (.cells #[] 35)).alloc (.cells #[.int .i64 0, .int .i64 0, .int .i64 0] 23)).drew W1.heap.size 35 (.slice (some ⟨W1.heap.size, 0, none⟩) 0 0) ([] : List Pr) := Ow.drew (Ow.alloc (Ow.lit (enc := encP) (sz := 2) (e := 35) (base := W1.heap.size) W1 (cs := #[]) [] rfl rfl (by simp [maxLen]) (Nat.le_refl _)) (.cells #[.int .i64 0, .int .i64 0, .int .i64 0] 23))
    have b0 : Below W1.heap.size W1 W1.drew := (Only.refl Nil W1).drew.below (Nat.le_refl _) (fun _ _ hh => hh)
    have bZ : Below W1.heap.size W1 (W1.alloc (.cells #[.int .i64 0, .int .i64 0, .int .i64 0] 23)).drew := ((Only.refl Nil W1).alloc (.cells #[.int .i64 0, .int .i64 0, .int .i64 0] 23)).drew.below (Nat.le_refl _) (fun _ _ hh => hh)
    have bA : Below W1.heap.size W1 (W1.alloc (.cells #[] 35)).drew := ((Only.refl Nil W1).alloc (.cells #[] 35)).drew.below (Nat.le_refl _) (fun _ _ hh => hh)
    have bB : Below W1.heap.size W1 ((W1.alloc (.cells #[.int .i64 0, .int .i64 0, .int .i64 0] 23)).alloc (.cells #[] 35)).drew := (((Only.refl Nil W1).alloc (.cells #[.int .i64 0, .int .i64 0, .int .i64 0] 23)).alloc (.cells #[] 35)).drew.below (Nat.le_refl _) (fun _ _ hh => hh)
    have bC : Below W1.heap.size W1 ((W1.alloc (.cells #[] 35)).alloc (.cells #[.int .i64 0, .int .i64 0, .int .i64 0] 23)).drew := (((Only.refl Nil W1).alloc (.cells #[] 35)).alloc (.cells #[.int .i64 0, .int .i64 0, .int .i64 0] 23)).drew.below (Nat.le_refl _) (fun _ _ hh => hh)
    have n0 : W1.heap.size ≠ w.heap.size := by omega
    have n1 : W1.heap.size + 1 ≠ w.heap.size := by omega
    have zC : Blk ((W1.alloc (.cells #[] 35)).alloc (.cells #[.int .i64 0, .int .i64 0, .int .i64 0] 23)).drew (W1.heap.size + 1) 23 #[.int .i64 0, .int .i64 0, .int .i64 0] := Blk.drew (by simpa using Blk.new (W1.alloc (.cells #[] 35)) 23 #[.int .i64 0, .int .i64 0, .int .i64 0])
    have e00 := Lib.hid (show ([] : List Pr).length + m.length = m.length by simp)
    have s0 := Lib.hid (Sb.facts (q := ⟨sa, sb, sc⟩) (Blk.below hR1 b0 hg0))
    have sZ := Lib.hid (Sb.facts (q := ⟨sa, sb, sc⟩) (Blk.below hR1 bZ hg0))
    have sA := Lib.hid (Sb.facts (q := ⟨sa, sb, sc⟩) (Blk.below hR1 bA hg0))
    have sB := Lib.hid (Sb.facts (q := ⟨sa, sb, sc⟩) (Blk.below hR1 bB hg0))
    have sC := Lib.hid (Sb.facts (q := ⟨sa, sb, sc⟩) (Blk.below hR1 bC hg0))
    go_region_held3 (fun w' => w'.cell? ⟨w.heap.size, 0, none⟩ = some (.int .i64 sa) ∧ w'.cell? ⟨w.heap.size, 1, none⟩ = some (.int .i64 sb) ∧ w'.cell? ⟨w.heap.size, 2, none⟩ = some (.int .i64 sc)) (with_reducible (first | exact s4.out | exact s4'.out | exact s3.out | exact s3'.out | exact s2.out | exact s2'.out | exact sC.out | exact sB.out | exact sA.out | exact sZ.out | exact s0.out | exact s4r.out | exact ⟨far3 s4.out.1 n0, far3 s4.out.2.1 n0, far3 s4.out.2.2 n0⟩ | exact ⟨far3 s4.out.1 n1, far3 s4.out.2.1 n1, far3 s4.out.2.2 n1⟩ | exact ⟨far3 s4.out.1 n2, far3 s4.out.2.1 n2, far3 s4.out.2.2 n2⟩ | exact ⟨far3 s4.out.1 n3, far3 s4.out.2.1 n3, far3 s4.out.2.2 n3⟩)) (first
      | (refine step_app (enc := encP) (by rfl) (.tmp 22) (.tmp 23) _ _ (by rfl) W1.heap.size 35 Try.underlying24 pr_info (by rfl) _ [] (by rfl) oA _ m (by rfl) (HS.out _ (hsm1.below (Below.mono bA hx1s))) (by simp; omega) (by decide) (Below.size bA) ?_; intro A2 c2 w2 hown2 ho2 hg2; have hown2s : Ow encP 2 w2 W1.heap.size 35 (.slice A2 m.length c2) ([] ++ m) := (by have h := hown2; rw [e00.out] at h; exact h); have o2 := Ow.src ho2 (l := []) (e := 35) (enc := encP) (sz := 2) (base := W1.heap.size) oA; have b2 := Below.trans bA (ho2.below (Below.size bA) (fun i hi hh => by have := (o2.lt hh).1; omega)); have n2 : w2.heap.size ≠ w.heap.size := (by have := b2.size; omega); have s2 := Lib.hid (Sb.facts (q := ⟨sa, sb, sc⟩) (Blk.below hR1 b2 hg0)); have s2' := Lib.hid (Sb.facts (q := ⟨sa, sb, sc⟩) (Blk.below hR1 (b2.alloc b2.size (.cells #[.int .i64 0, .int .i64 0, .int .i64 0] 23)) hg0)))
      | (refine step_app (enc := encP) (by rfl) (.tmp 22) (.tmp 23) _ _ (by rfl) W1.heap.size 35 Try.underlying24 pr_info (by rfl) _ [] (by rfl) oC _ m (by rfl) (HS.out _ (hsm1.below (Below.mono bC hx1s))) (by simp; omega) (by decide) (Below.size bC) ?_; intro A2 c2 w2 hown2 ho2 hg2; have hown2s : Ow encP 2 w2 W1.heap.size 35 (.slice A2 m.length c2) ([] ++ m) := (by have h := hown2; rw [e00.out] at h; exact h); have o2 := Ow.src ho2 (l := []) (e := 35) (enc := encP) (sz := 2) (base := W1.heap.size) oC; have b2 := Below.trans bC (ho2.below (Below.size bC) (fun i hi hh => by have := (o2.lt hh).1; omega)); have n2 : w2.heap.size ≠ w.heap.size := (by have := b2.size; omega); have s2 := Lib.hid (Sb.facts (q := ⟨sa, sb, sc⟩) (Blk.below hR1 b2 hg0)); have s2' := Lib.hid (Sb.facts (q := ⟨sa, sb, sc⟩) (Blk.below hR1 (b2.alloc b2.size (.cells #[.int .i64 0, .int .i64 0, .int .i64 0] 23)) hg0)); have hz2 := Blk.kept zC ho2 (o2.ne zC (by decide)))
      | (refine step_app (enc := encP) (by rfl) (.tmp 22) (.tmp 23) _ _ (by rfl) W1.heap.size 35 Try.underlying24 pr_info (by rfl) _ [] (by rfl) oB _ m (by rfl) (HS.out _ (hsm1.below (Below.mono bB hx1s))) (by simp; omega) (by decide) (Below.size bB) ?_; intro A2 c2 w2 hown2 ho2 hg2; have hown2s : Ow encP 2 w2 W1.heap.size 35 (.slice A2 m.length c2) ([] ++ m) := (by have h := hown2; rw [e00.out] at h; exact h); have o2 := Ow.src ho2 (l := []) (e := 35) (enc := encP) (sz := 2) (base := W1.heap.size) oB; have b2 := Below.trans bB (ho2.below (Below.size bB) (fun i hi hh => by have := (o2.lt hh).1; omega)); have n2 : w2.heap.size ≠ w.heap.size := (by have := b2.size; omega); have s2 := Lib.hid (Sb.facts (q := ⟨sa, sb, sc⟩) (Blk.below hR1 b2 hg0)); have s2' := Lib.hid (Sb.facts (q := ⟨sa, sb, sc⟩) (Blk.below hR1 (b2.alloc b2.size (.cells #[.int .i64 0, .int .i64 0, .int .i64 0] 23)) hg0)); have hz2 := Blk.kept (Blk.drew (Blk.alloc (Blk.new W1 23 #[.int .i64 0, .int .i64 0, .int .i64 0]) (.cells #[] 35))) ho2 (o2.ne (Blk.drew (Blk.alloc (Blk.new W1 23 #[.int .i64 0, .int .i64 0, .int .i64 0]) (.cells #[] 35))) (by decide)))
      | (refine step_app (enc := encP) (by rfl) (.tmp 24) (.tmp 25) _ _ (by rfl) W1.heap.size 35 Try.underlying24 pr_info (by rfl) _ ([] ++ m) (by rfl) hown2 _ m (by rfl) (HS.out _ (hsm1.below (Below.mono b2 hx1s))) (by simp; omega) (by decide) (Below.size b2) ?_; intro A3 c3 w3 hown3 ho3 hg3; have o3 := Ow.src ho3 (l := ([] ++ m)) (e := 35) (enc := encP) (sz := 2) (base := W1.heap.size) hown2; have b3 := Below.trans b2 (ho3.below (Below.size b2) (fun i hi hh => by have := (o3.lt hh).1; omega)); have n3 : w3.heap.size ≠ w.heap.size := (by have := b3.size; omega); have s3 := Lib.hid (Sb.facts (q := ⟨sa, sb, sc⟩) (Blk.below hR1 b3 hg0)); have s3' := Lib.hid (Sb.facts (q := ⟨sa, sb, sc⟩) (Blk.below hR1 (b3.alloc b3.size (.cells #[.int .i64 0, .int .i64 0, .int .i64 0] 23)) hg0)); have hz3 := Blk.kept hz2 ho3 (o3.ne hz2 (by decide)))
      | (refine step_app (enc := encP) (by rfl) (.tmp 24) (.tmp 25) _ _ (by rfl) W1.heap.size 35 Try.underlying24 pr_info (by rfl) _ ([] ++ m) (by rfl) hown2 _ m (by rfl) (HS.out _ (hsm1.below (Below.mono b2 hx1s))) (by simp; omega) (by decide) (Below.size b2) ?_; intro A3 c3 w3 hown3 ho3 hg3; have o3 := Ow.src ho3 (l := ([] ++ m)) (e := 35) (enc := encP) (sz := 2) (base := W1.heap.size) hown2; have b3 := Below.trans b2 (ho3.below (Below.size b2) (fun i hi hh => by have := (o3.lt hh).1; omega)); have n3 : w3.heap.size ≠ w.heap.size := (by have := b3.size; omega); have s3 := Lib.hid (Sb.facts (q := ⟨sa, sb, sc⟩) (Blk.below hR1 b3 hg0)); have s3' := Lib.hid (Sb.facts (q := ⟨sa, sb, sc⟩) (Blk.below hR1 (b3.alloc b3.size (.cells #[.int .i64 0, .int .i64 0, .int .i64 0] 23)) hg0)))
      | (refine step_app (enc := encP) (by rfl) (.tmp 24) (.tmp 25) _ _ (by rfl) W1.heap.size 35 Try.underlying24 pr_info (by rfl) _ ([] ++ m) (by rfl) (hown2s.alloc (.cells #[.int .i64 0, .int .i64 0, .int .i64 0] 23)) _ m (by rfl) (HS.out _ (hsm1.below (Below.mono (b2.alloc b2.size (.cells #[.int .i64 0, .int .i64 0, .int .i64 0] 23)) hx1s))) (by simp; omega) (by decide) (Below.size (b2.alloc b2.size (.cells #[.int .i64 0, .int .i64 0, .int .i64 0] 23))) ?_; intro A3 c3 w3 hown3 ho3 hg3; have o3 := Ow.src ho3 (l := ([] ++ m)) (e := 35) (enc := encP) (sz := 2) (base := W1.heap.size) (hown2s.alloc (.cells #[.int .i64 0, .int .i64 0, .int .i64 0] 23)); have b3 := Below.trans (b2.alloc b2.size (.cells #[.int .i64 0, .int .i64 0, .int .i64 0] 23)) (ho3.below (Below.size (b2.alloc b2.size (.cells #[.int .i64 0, .int .i64 0, .int .i64 0] 23))) (fun i hi hh => by have := (o3.lt hh).1; omega)); have n3 : w3.heap.size ≠ w.heap.size := (by have := b3.size; omega); have s3 := Lib.hid (Sb.facts (q := ⟨sa, sb, sc⟩) (Blk.below hR1 b3 hg0)); have s3' := Lib.hid (Sb.facts (q := ⟨sa, sb, sc⟩) (Blk.below hR1 (b3.alloc b3.size (.cells #[.int .i64 0, .int .i64 0, .int .i64 0] 23)) hg0)); have hz3 := Blk.kept (Blk.new w2 23 #[.int .i64 0, .int .i64 0, .int .i64 0]) ho3 (o3.ne (Blk.new w2 23 #[.int .i64 0, .int .i64 0, .int .i64 0]) (by decide)))
      | (go_at_call 6; (with_reducible refine (HD.out _ _ _ _ (by simp) (Ow.sq hown3 (fun _ _ => rfl) rfl)).mono ?_); rintro e w4 ⟨rfl, ho4⟩; have b4 := Below.trans b3 (ho4.below (Below.size b3) (fun _ _ hh => hh)); have s4 := Lib.hid (Sb.facts (q := ⟨sa, sb, sc⟩) (Blk.below hR1 b4 hg0)); have s4' := Lib.hid (Sb.facts (q := ⟨sa, sb, sc⟩) (Blk.below hR1 (b4.alloc b4.size (.cells #[.int .i64 0, .int .i64 0, .int .i64 0] 23)) hg0)); have s4r := Lib.hid (Sb.facts (q := ⟨sa, sb, sc⟩) (Blk.below hR1 (b4.alloc b4.size (.cells #[.int .i64 ra, .int .i64 rb, .int .i64 rc] 23)) hg0)); have hz4 := Blk.kept hz3 ho4 (fun hh => hh); obtain ⟨x0, x1, x2⟩ := Sb.facts (q := ⟨0, 0, 0⟩) hz4; obtain ⟨u0, u1, u2⟩ := Sb.loose (q := ⟨0, 0, 0⟩) hz4; have zl := hz4.lt)
      | (go_at_call 6; (with_reducible refine (HD.out _ _ _ _ (by simp) (Ow.sq (hown3.alloc (.cells #[.int .i64 0, .int .i64 0, .int .i64 0] 23)) (fun _ _ => rfl) rfl)).mono ?_); rintro e w4 ⟨rfl, ho4⟩; have b4 := Below.trans (b3.alloc b3.size (.cells #[.int .i64 0, .int .i64 0, .int .i64 0] 23)) (ho4.below (Below.size (b3.alloc b3.size (.cells #[.int .i64 0, .int .i64 0, .int .i64 0] 23))) (fun _ _ hh => hh)); have s4 := Lib.hid (Sb.facts (q := ⟨sa, sb, sc⟩) (Blk.below hR1 b4 hg0)); have s4' := Lib.hid (Sb.facts (q := ⟨sa, sb, sc⟩) (Blk.below hR1 (b4.alloc b4.size (.cells #[.int .i64 0, .int .i64 0, .int .i64 0] 23)) hg0)); have s4r := Lib.hid (Sb.facts (q := ⟨sa, sb, sc⟩) (Blk.below hR1 (b4.alloc b4.size (.cells #[.int .i64 ra, .int .i64 rb, .int .i64 rc] 23)) hg0)); have hz4 := Blk.kept (Blk.new w3 23 #[.int .i64 0, .int .i64 0, .int .i64 0]) ho4 (fun hh => hh); obtain ⟨x0, x1, x2⟩ := Sb.facts (q := ⟨0, 0, 0⟩) hz4; obtain ⟨u0, u1, u2⟩ := Sb.loose (q := ⟨0, 0, 0⟩) hz4; have zl := hz4.lt)
      | (go_at_call 6; (with_reducible refine (HD.out _ _ _ _ (by simp) (Ow.sq hown3 (fun _ _ => rfl) rfl)).mono ?_); rintro e w4 ⟨rfl, ho4⟩; have b4 := Below.trans b3 (ho4.below (Below.size b3) (fun _ _ hh => hh)); have s4 := Lib.hid (Sb.facts (q := ⟨sa, sb, sc⟩) (Blk.below hR1 b4 hg0)); have s4' := Lib.hid (Sb.facts (q := ⟨sa, sb, sc⟩) (Blk.below hR1 (b4.alloc b4.size (.cells #[.int .i64 0, .int .i64 0, .int .i64 0] 23)) hg0)); have s4r := Lib.hid (Sb.facts (q := ⟨sa, sb, sc⟩) (Blk.below hR1 (b4.alloc b4.size (.cells #[.int .i64 ra, .int .i64 rb, .int .i64 rc] 23)) hg0)))
      )
    ·
      have hQ : Sb _ w4.heap.size ⟨ra, rb, rc⟩ := Blk.new w4 23 #[.int .i64 ra, .int .i64 rb, .int .i64 rc]
      have bW := b4.alloc b4.size (.cells #[.int .i64 ra, .int .i64 rb, .int .i64 rc] 23)
      have hP5 := Blk.below hP1 bW hg5
      go_wp2_with (first
        | (go_at_call 9; (with_reducible refine (awake_any _).mono ?_); rintro e w5 ⟨rfl, ho5⟩; have hP6 := hP5.kept ho5 (fun hh => hh); have hQ6 := Blk.kept hQ ho5 (fun hh => hh); obtain ⟨p0, p1, p2⟩ := Sb.facts (q := ⟨ra, rb, rc⟩) hP6; obtain ⟨r0, r1, r2⟩ := Sb.facts (q := ⟨ra, rb, rc⟩) hQ6; have l5 := hP6.lt; have l6 := hQ6.lt)
        )
      go_ret
      exact ⟨rfl, ((hx1.below (Nat.le_refl _) (fun _ _ hh => hh)).trans (bW.mono hx1s)).trans (ho5.below (Nat.le_trans hx1s bW.size) (fun _ _ hh => hh))⟩
    ·
      have hQ := Sb.put (q := ⟨0, 0, 0⟩) hz4 ra rb rc
      have bW := Below.put (g := w3.heap.size) b4 (b3.size) (.int .i64 ra) (.int .i64 rb) (.int .i64 rc)
      have hP5 := Blk.below hP1 bW hg5
      go_wp2_with (first
        | (go_at_call 9; (with_reducible refine (awake_any _).mono ?_); rintro e w5 ⟨rfl, ho5⟩; have hP6 := hP5.kept ho5 (fun hh => hh); have hQ6 := Blk.kept hQ ho5 (fun hh => hh); obtain ⟨p0, p1, p2⟩ := Sb.facts (q := ⟨ra, rb, rc⟩) hP6; obtain ⟨r0, r1, r2⟩ := Sb.facts (q := ⟨ra, rb, rc⟩) hQ6; have l5 := hP6.lt; have l6 := hQ6.lt)
        )
      go_ret
      exact ⟨rfl, ((hx1.below (Nat.le_refl _) (fun _ _ hh => hh)).trans (bW.mono hx1s)).trans (ho5.below (Nat.le_trans hx1s bW.size) (fun _ _ hh => hh))⟩
    ·
      have hQ := Sb.put (q := ⟨0, 0, 0⟩) hz4 ra rb rc
      have bW := Below.put (g := w2.heap.size) b4 (b2.size) (.int .i64 ra) (.int .i64 rb) (.int .i64 rc)
      have hP5 := Blk.below hP1 bW hg5
      go_wp2_with (first
        | (go_at_call 9; (with_reducible refine (awake_any _).mono ?_); rintro e w5 ⟨rfl, ho5⟩; have hP6 := hP5.kept ho5 (fun hh => hh); have hQ6 := Blk.kept hQ ho5 (fun hh => hh); obtain ⟨p0, p1, p2⟩ := Sb.facts (q := ⟨ra, rb, rc⟩) hP6; obtain ⟨r0, r1, r2⟩ := Sb.facts (q := ⟨ra, rb, rc⟩) hQ6; have l5 := hP6.lt; have l6 := hQ6.lt)
        )
      go_ret
      exact ⟨rfl, ((hx1.below (Nat.le_refl _) (fun _ _ hh => hh)).trans (bW.mono hx1s)).trans (ho5.below (Nat.le_trans hx1s bW.size) (fun _ _ hh => hh))⟩
    ·
      have hQ := Sb.put (q := ⟨0, 0, 0⟩) hz4 ra rb rc
      have bW := Below.put (g := W1.heap.size + 1) b4 (Nat.le_succ _) (.int .i64 ra) (.int .i64 rb) (.int .i64 rc)
      have hP5 := Blk.below hP1 bW hg5
      go_wp2_with (first
        | (go_at_call 9; (with_reducible refine (awake_any _).mono ?_); rintro e w5 ⟨rfl, ho5⟩; have hP6 := hP5.kept ho5 (fun hh => hh); have hQ6 := Blk.kept hQ ho5 (fun hh => hh); obtain ⟨p0, p1, p2⟩ := Sb.facts (q := ⟨ra, rb, rc⟩) hP6; obtain ⟨r0, r1, r2⟩ := Sb.facts (q := ⟨ra, rb, rc⟩) hQ6; have l5 := hP6.lt; have l6 := hQ6.lt)
        )
      go_ret
      exact ⟨rfl, ((hx1.below (Nat.le_refl _) (fun _ _ hh => hh)).trans (bW.mono hx1s)).trans (ho5.below (Nat.le_trans hx1s bW.size) (fun _ _ hh => hh))⟩
    ·
      have hQ := Sb.put (q := ⟨0, 0, 0⟩) hz4 ra rb rc
      have bW := Below.put (g := W1.heap.size) b4 (Nat.le_refl _) (.int .i64 ra) (.int .i64 rb) (.int .i64 rc)
      have hP5 := Blk.below hP1 bW hg5
      go_wp2_with (first
        | (go_at_call 9; (with_reducible refine (awake_any _).mono ?_); rintro e w5 ⟨rfl, ho5⟩; have hP6 := hP5.kept ho5 (fun hh => hh); have hQ6 := Blk.kept hQ ho5 (fun hh => hh); obtain ⟨p0, p1, p2⟩ := Sb.facts (q := ⟨ra, rb, rc⟩) hP6; obtain ⟨r0, r1, r2⟩ := Sb.facts (q := ⟨ra, rb, rc⟩) hQ6; have l5 := hP6.lt; have l6 := hQ6.lt)
        )
      go_ret
      exact ⟨rfl, ((hx1.below (Nat.le_refl _) (fun _ _ hh => hh)).trans (bW.mono hx1s)).trans (ho5.below (Nat.le_trans hx1s bW.size) (fun _ _ hh => hh))⟩
/-! The step from the walk to the statement of ParamsOnce. -/
namespace frParamsOnce
open Go.ChangeShapes Go.WideShapes Go.ChangeAt Go.RowKit
set_option linter.unusedVariables false
theorem own : ownKnob Try.prog.godebug = none := by kernel_rfl
theorem laidOut : laidOutB Try.prog = true := by kernel_rfl
theorem shape0 : Kd.ok Try.prog (.agg [.int .i64, .int .i64, .int .i64]) 23 = true := by kernel_rfl
theorem shape1 : Kd.ok Try.prog (.slc (.agg [.int .i64, .int .i64])) 24 = true := by kernel_rfl
set_option maxRecDepth 100000 in
theorem contract (H : Type) (enc : TypeId × Value → H) (W : World) (base : Nat) (args : Array Value) (ds gs : List (DataW H)) (before : List MemPlace)
    (hval : ∀ (j : Nat) t v, Try.f5.params[j]? = some t → args[j]? = some v → Value.okWide Try.prog W .any base t v)
    (hW : DataW.Whole enc Try.prog Try.f5.params.toList Rows.paramsOnceSpec.vars false W args.toList ds gs before) :
    Calls Try.prog 5 args W fun e W' => ∃ v, e = .returned v ∧ Rows.paramsOnceSpec.post enc Try.prog Try.f5 false true false false W args v W' := by
  have hW' := hW
  obtain ⟨p, q, hA0, hV, rfl, hfz, hnd⟩ := hW
  have hA : DataW.TrodAll enc Try.prog W 0 (fun _ => true) true Try.f5.params.toList args.toList ds p := hA0
  rw [Try.params5] at hA hval
  obtain ⟨v0, vs0, d0, ds0, p0, q0, hargs, rfl, rfl, h0, r0⟩ := trodAll_cons hA
  obtain ⟨v1, vs1, d1, ds1, p1, q1, rfl, rfl, rfl, h1, r1⟩ := trodAll_cons r0
  obtain ⟨rfl, rfl, rfl⟩ := trodAll_nil r1
  obtain rfl : args = #[v0, v1] := by cases args; simp_all
  obtain ⟨rfl, rfl⟩ := trodVars_none hV
  have k0 := Kd.fit _ shape0 (hval 0 23 v0 rfl rfl) h0
  have lt0 : ∀ x ∈ p0, x.block < W.heap.size := by obtain ⟨m, hm⟩ := h0; exact DataW.trod_lt m _ _ _ hm
  have k1 := Kd.fit _ shape1 (hval 1 24 v1 rfl rfl) h1
  have lt1 : ∀ x ∈ p1, x.block < W.heap.size := by obtain ⟨m, hm⟩ := h1; exact DataW.trod_lt m _ _ _ hm
  refine (paramsOnce_walk v0 v1 W k0 k1).mono fun e W' ⟨he, bel⟩ => ?_
  subst he
  exact ⟨_, rfl, _, _, _, [], _, [], hW', trodAll_mk1 (shut_bool Try.underlying4 _), (trodAll_cons_mk (Below.trod laidOut (by kernel_rfl) (of_decide_eq_true (by kernel_rfl)) h0 bel lt0) (trodAll_cons_mk (Below.trod laidOut (by kernel_rfl) (of_decide_eq_true (by kernel_rfl)) h1 bel lt1) trodAll_mk0)), rfl, bel.frame _, fun h => by cases h⟩
set_option maxRecDepth 100000 in
theorem lifted (os : Os) (started : os.Started) (H : Type) (enc : TypeId × Value → H) :
    ReturnsInHanded {} Try.checked os 5 .any (Rows.paramsOnceSpec.pre6 enc Try.prog Try.f5 Rows.paramsOnceRow.domain false) (Rows.paramsOnceSpec.post enc Try.prog Try.f5 false true false false) := by
  refine returnsInHanded_of_change (C := Try.checked) own started (by kernel_rfl) Try.func5
    (ChangeSpec.witness6 (enc := enc) (C := Try.checked) false ⟨#[], #[.agg #[.int .i64 0, .int .i64 0, .int .i64 0], .slice none 0 0], []⟩ 8 (by kernel_rfl) (by kernel_rfl) (by kernel_rfl) (by kernel_rfl)) ?_
  intro W base args ds gs before hval hW _ _
  exact contract H enc W base args ds gs before hval hW
theorem over : Rows.paramsOnceRow.holds Try.pinned (OpenSpec.ofChange Rows.paramsOnceSpec) :=
  OpenClaim.holds_of_wide 5 Try.f5 rfl rfl rfl rfl rfl rfl rfl ⟨rfl, rfl, rfl, rfl, rfl⟩ rfl rfl rfl rfl rfl (by kernel_rfl) Try.func5 (by kernel_rfl)
    (of_decide_eq_true (by kernel_rfl)) (by unfold Func.isWrapper; first | (rw [if_pos (by decide +kernel)]; kernel_rfl) | (rw [if_neg (by decide +kernel)]; exact ⟨rfl, rfl⟩))
    (fun os started H enc _ => lifted os started H enc)
theorem proved : Rows.ParamsOnceSaid := over
end frParamsOnce
end Go.Proofs.Ytggpkgjkhonheaa
