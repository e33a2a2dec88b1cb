/- The document's answer for settings, and what differs. -/

import Derived.Test.YtjbemhfhhedlpaaParams
namespace Go.Proofs.Ytjbemhfhhedlpaa
open Go.RowKit
set_option maxHeartbeats 4000000 in
theorem RApply_any (s : St) (A : Option Addr) (cap : Nat) (l : List Pr) (w : World) (hl : Sq encP 2 w w.heap.size A l) (hlen : l.length ≤ 9223372036854775807) :
    Calls Try.prog 10 #[stV s.a s.b s.c, .slice A l.length cap] w fun x w' => x = .returned (apV (apG l s)) ∧ Only Nil w w' := by
  obtain ⟨r, hr⟩ : ∃ r, r = apG l s := ⟨_, rfl⟩
  rw [← hr]
  have ha0 : Hid (apG l s = r) := Lib.hid hr.symm
  clear hr
  go_enter Try.func10, Try.ntmps10
  go_wp2
  go_loopw [6] (fun kk wr => ∃ (k : Nat) (q : St), k ≤ l.length ∧ kk = .int .i64 k ∧ Hid (apG (l.drop k) q = r) ∧ Below w.heap.size w wr ∧ Sb wr w.heap.size q ∧ Sb wr (w.heap.size + 1) ⟨0, 0, 0⟩) (fun kk _ => l.length - (intOf kk).toNat)
  case atStart =>
    refine ⟨0, s, Nat.zero_le _, rfl, ha0, ((Below.refl _ _).alloc (Nat.le_refl _) _).alloc (by simp) _, (Blk.new _ _ _).alloc _, ?_⟩
    have := Blk.new (w.alloc (.cells #[.int .i64 s.a, .int .i64 s.b, .int .i64 s.c] 27)) 27 #[.int .i64 0, .int .i64 0, .int .i64 0]
    simpa using this
  case round =>
    obtain ⟨k, q, hk, rfl, ha, hB, h1, h2⟩ := hrel
    obtain ⟨c0, c1, c2⟩ := Sb.facts h1
    obtain ⟨f0, f1, f2⟩ := Sb.loose h1
    obtain ⟨d0, d1, d2⟩ := Sb.facts h2
    obtain ⟨e0, e1, e2⟩ := Sb.loose h2
    have hz1 := h2.lt
    have hz0 := h1.lt
    by_cases hlt : k < l.length
    · obtain ⟨b, off, p, rfl, hb, hx, hd, hc⟩ := hl.at_ hlt
      obtain ⟨ID, V⟩ := p
      have hd' := Lib.hid hd
      clear hd
      have p0 := (hB.cell (p := ⟨b, _, none⟩) hb).trans (hc 0 (by decide))
      have p1 := (hB.cell (p := ⟨b, _, none⟩) hb).trans (hc 1 (by decide))
      simp [encP] at p0 p1
      clear hc hx
      by_cases hv : V < 0
      · have hR := Lib.hid (apG_bad hd'.out (.inl hv) ha.out)
        go_wp2
        have hS := Sb.put h2 0 0 0
        obtain ⟨k0, k1, k2⟩ := Sb.facts (q := ⟨0, 0, 0⟩) hS
        refine bodyPost_ret (v := .tuple #[.agg #[.int .i64 0, .int .i64 0, .int .i64 0], .int .i64 4]) (by simp [results, Try.results10, go_sem, k0, k1, k2]) rfl ⟨?_, ?_⟩
        · rw [hR.out]
        · exact Only.of_below (Below.put hB (by omega) _ _ _)
      · by_cases hv2 : 2147483647 < V
        · have hR := Lib.hid (apG_bad hd'.out (.inr hv2) ha.out)
          go_wp2
          have hS := Sb.put h2 0 0 0
          obtain ⟨k0, k1, k2⟩ := Sb.facts (q := ⟨0, 0, 0⟩) hS
          refine bodyPost_ret (v := .tuple #[.agg #[.int .i64 0, .int .i64 0, .int .i64 0], .int .i64 4]) (by simp [results, Try.results10, go_sem, k0, k1, k2]) rfl ⟨?_, ?_⟩
          · rw [hR.out]
          · exact Only.of_below (Below.put hB (by omega) _ _ _)
        · have hR := Lib.hid (apG_good hd'.out (fun hh => hh.elim hv hv2) ha.out)
          obtain ⟨qa, qb, qc⟩ := q
          dsimp only at c0 c1 c2
          by_cases i1 : ID = 1
          · subst i1
            go_wp2
            go_roundw
            case rel => exact ⟨k + 1, ⟨V, qb, qc⟩, by omega, by go_num, hR, Below.put hB (Nat.le_refl _) _ _ _, Sb.put (q := ⟨qa, qb, qc⟩) h1 _ _ _, Sb.away (q := ⟨0, 0, 0⟩) h2 (by omega) _ _ _⟩
            case measure => simp [intOf]; omega
          by_cases i2 : ID = 2
          · subst i2
            go_wp2
            go_roundw
            case rel => exact ⟨k + 1, ⟨qa, V, qc⟩, by omega, by go_num, hR, Below.put hB (Nat.le_refl _) _ _ _, Sb.put (q := ⟨qa, qb, qc⟩) h1 _ _ _, Sb.away (q := ⟨0, 0, 0⟩) h2 (by omega) _ _ _⟩
            case measure => simp [intOf]; omega
          by_cases i3 : ID = 3
          · subst i3
            go_wp2
            go_roundw
            case rel => exact ⟨k + 1, ⟨qa, qb, V⟩, by omega, by go_num, hR, Below.put hB (Nat.le_refl _) _ _ _, Sb.put (q := ⟨qa, qb, qc⟩) h1 _ _ _, Sb.away (q := ⟨0, 0, 0⟩) h2 (by omega) _ _ _⟩
            case measure => simp [intOf]; omega
          have hw : St.wth ⟨qa, qb, qc⟩ ⟨ID, V⟩ = ⟨qa, qb, qc⟩ := by simp [St.wth, pw1, pw2, pw3, i1, i2, i3]
          rw [hw] at hR
          clear hw
          go_wp2
          go_roundw
          case rel => exact ⟨k + 1, ⟨qa, qb, qc⟩, by omega, by go_num, hR, hB, h1, h2⟩
          case measure => simp [intOf]; omega
    · have hR := Lib.hid (apG_end (by omega) ha.out)
      go_wp2
      have hS := Sb.put h2 q.a q.b q.c
      obtain ⟨k0, k1, k2⟩ := Sb.facts (q := ⟨q.a, q.b, q.c⟩) hS
      refine bodyPost_ret (v := .tuple #[.agg #[.int .i64 q.a, .int .i64 q.b, .int .i64 q.c], .int .i64 0]) (by simp [results, Try.results10, go_sem, k0, k1, k2]) rfl ⟨?_, ?_⟩
      · rw [hR.out]
      · exact Only.of_below (Below.put hB (by omega) _ _ _)

def allP (t : St) : List Pr := [⟨1, t.a⟩, ⟨2, t.b⟩, ⟨3, t.c⟩]
def chg (f : St) (p : Pr) : Bool := decide (f.wth p ≠ f)
def dpre (f t : St) (k : Nat) : List Pr := ((allP t).take k).filter (chg f)
theorem dpre_len (f t : St) (k : Nat) : (dpre f t k).length ≤ 3 := by
  unfold dpre
  have h1 := List.length_filter_le (chg f) ((allP t).take k)
  have h2 : ((allP t).take k).length ≤ 3 := by simp [allP]; omega
  omega
theorem dpre_in {f t : St} {k : Nat} {p : Pr} (hp : (allP t)[k]? = some p) (h : chg f p = true) : dpre f t (k + 1) = dpre f t k ++ [p] := by
  unfold dpre
  rw [List.take_add_one, hp, List.filter_append]
  simp [h]
theorem dpre_out {f t : St} {k : Nat} {p : Pr} (hp : (allP t)[k]? = some p) (h : chg f p = false) : dpre f t (k + 1) = dpre f t k := by
  unfold dpre
  rw [List.take_add_one, hp, List.filter_append]
  simp [h]
set_option maxHeartbeats 4000000 in
theorem changes1_any (I tb fb : Nat) (f t : St) (w : World) (hI : Blk w I 3 #[.int .i64 1, .int .i64 2, .int .i64 3]) (ht : Sb w tb t) (hf : Sb w fb f) :
    Calls Try.prog 23 #[.slice (some ⟨I, 0, none⟩) 3 3, .pointer (some ⟨tb, 0, none⟩), .pointer (some ⟨fb, 0, none⟩)] w fun x w' => ∃ A cap, x = .returned (.slice A (dpre f t 3).length cap) ∧ Ow encP 2 w' w.heap.size 50 (.slice A (dpre f t 3).length cap) (dpre f t 3) ∧ Only Nil w w' := by
  obtain ⟨x, y, z⟩ := t
  obtain ⟨a, b, c⟩ := f
  go_enter Try.func23, Try.ntmps23
  go_wp2
  go_loopw [5, 11] (fun ll kk wr => ∃ (k : Nat), k ≤ 3 ∧ kk = .int .i64 k ∧ Ow encP 2 wr w.heap.size 50 ll (dpre ⟨a, b, c⟩ ⟨x, y, z⟩ k) ∧ Below w.heap.size w wr) (fun _ kk _ => 3 - (intOf kk).toNat)
  case atStart => exact ⟨0, by omega, rfl, Ow.nil, Below.refl _ _⟩
  case round =>
    obtain ⟨k, hk, rfl, hO, hB⟩ := hrel
    have hI1 := hI.below hB hI.lt
    have ht1 := ht.below hB ht.lt
    have hf1 := hf.below hB hf.lt
    obtain ⟨AL, capL, rfl, hcl, hml⟩ := hO.form
    have i0 := hI1.cell 0
    have i1 := hI1.cell 1
    have i2 := hI1.cell 2
    obtain ⟨c0, c1, c2⟩ := Sb.facts hf1
    obtain ⟨d0, d1, d2⟩ := Sb.facts ht1
    have z0 := ht1.lt
    have z1 := hf1.lt
    have hk' : k = 0 ∨ k = 1 ∨ k = 2 ∨ k = 3 := by omega
    rcases hk' with rfl | rfl | rfl | rfl
    ·
      have hfd : ∀ W : World, Calls Try.prog 24 #[stV x y z, .int .i64 1] W fun e w' => e = .returned (.int .i64 x) ∧ Only Nil W w' := fun W => field_any x y z 1 W
      have hwt : ∀ W : World, Calls Try.prog 25 #[stV a b c, .agg #[.int .i64 1, .int .i64 x]] W fun e w' => e = .returned (stV x b c) ∧ Only Nil W w' := fun W => with_any a b c 1 x W
      have hL3 := dpre_len ⟨a, b, c⟩ ⟨x, y, z⟩ 0
      by_cases hne : x = a
      · have hdp := Lib.hid (dpre_out (f := ⟨a, b, c⟩) (t := ⟨x, y, z⟩) (k := 0) (p := ⟨1, x⟩) rfl (by simp [chg, St.wth, pw1, pw2, pw3]; exact hne))
        have hb1 : (x == a) = true := by simpa using hne
        have hb2 : decide (x = a) = true := by simpa using hne
        clear hne
        generalize dpre ⟨a, b, c⟩ ⟨x, y, z⟩ 0 = L at *
        go_wp2_with (first
          | (go_at_call 24; (with_reducible refine (hfd _).mono ?_); rintro e w1 ⟨rfl, ho1⟩; have hf2 := Blk.alloc (Blk.kept hf1 ho1 (fun hh => hh)) (.cells #[.int .i64 1, .int .i64 x] 50); have hP2 := Blk.new w1 50 #[.int .i64 1, .int .i64 x])
          )
        go_region_held3 (fun w' => w'.cell? ⟨fb, 0, none⟩ = some (.int .i64 a) ∧ w'.cell? ⟨fb, 1, none⟩ = some (.int .i64 b) ∧ w'.cell? ⟨fb, 2, none⟩ = some (.int .i64 c) ∧ w'.cell? ⟨w1.heap.size, 0, none⟩ = some (.int .i64 1) ∧ w'.cell? ⟨w1.heap.size, 1, none⟩ = some (.int .i64 x)) (first | exact ⟨hf3.cell 0, hf3.cell 1, hf3.cell 2, hP3.cell 0, hP3.cell 1⟩ | exact ⟨hf2.cell 0, hf2.cell 1, hf2.cell 2, hP2.cell 0, hP2.cell 1⟩) (first
          | (go_at_call 25; (with_reducible refine (hwt _).mono ?_); rintro e w3 ⟨rfl, ho3⟩; have hf3 := Blk.kept (Blk.drew hf2) ho3 (fun hh => hh); have hP3 := Blk.kept (Blk.drew hP2) ho3 (fun hh => hh); have hall := ((ho1.alloc (.cells #[.int .i64 1, .int .i64 x] 50)).drew).trans ho3)
          )
        go_wp2
        go_roundw
        case rel => exact ⟨0 + 1, by omega, rfl, by rw [hdp.out]; exact hO.kept hall (fun _ _ hh => hh), hB.trans (hall.below hB.size (fun _ _ hh => hh))⟩
        case measure => simp [intOf]
      · have hdp := Lib.hid (dpre_in (f := ⟨a, b, c⟩) (t := ⟨x, y, z⟩) (k := 0) (p := ⟨1, x⟩) rfl (by simp [chg, St.wth, pw1, pw2, pw3]; exact hne))
        have hb1 : (x == a) = false := by simpa using hne
        have hb2 : decide (x = a) = false := by simpa using hne
        clear hne
        generalize dpre ⟨a, b, c⟩ ⟨x, y, z⟩ 0 = L at *
        go_wp2_with (first
          | (go_at_call 24; (with_reducible refine (hfd _).mono ?_); rintro e w1 ⟨rfl, ho1⟩; have hf2 := Blk.alloc (Blk.kept hf1 ho1 (fun hh => hh)) (.cells #[.int .i64 1, .int .i64 x] 50); have hP2 := Blk.new w1 50 #[.int .i64 1, .int .i64 x])
          )
        go_region_held3 (fun w' => w'.cell? ⟨fb, 0, none⟩ = some (.int .i64 a) ∧ w'.cell? ⟨fb, 1, none⟩ = some (.int .i64 b) ∧ w'.cell? ⟨fb, 2, none⟩ = some (.int .i64 c) ∧ w'.cell? ⟨w1.heap.size, 0, none⟩ = some (.int .i64 1) ∧ w'.cell? ⟨w1.heap.size, 1, none⟩ = some (.int .i64 x)) (first | exact ⟨hf3.cell 0, hf3.cell 1, hf3.cell 2, hP3.cell 0, hP3.cell 1⟩ | exact ⟨hf2.cell 0, hf2.cell 1, hf2.cell 2, hP2.cell 0, hP2.cell 1⟩) (first
          | (go_at_call 25; (with_reducible refine (hwt _).mono ?_); rintro e w3 ⟨rfl, ho3⟩; have hf3 := Blk.kept (Blk.drew hf2) ho3 (fun hh => hh); have hP3 := Blk.kept (Blk.drew hP2) ho3 (fun hh => hh); have hall := ((ho1.alloc (.cells #[.int .i64 1, .int .i64 x] 50)).drew).trans ho3)
          )
        go_wp2_with (first
          | (at_builtin
             refine wpList_app rfl (.tmp 25) (.tmp 27) _ _ rfl w.heap.size 50 Try.underlying33 pr_info rfl _ L rfl ((hO.kept hall (fun _ _ hh => hh)).alloc _) _ [⟨1, x⟩] rfl (Src.one (enc := encP) Try.underlying33 ⟨1, x⟩ 1 rfl (Blk.new w3 _ _) rfl (by simp [encP, Value.oneCell'])) (by simp; omega) (by decide) (by have := hB.size; have := hall.size; simp; omega) ?_
             intro A6 c6 w6 hown6 ho6 hg6
             have hB6 := ((hB.trans (hall.below hB.size (fun _ _ hh => hh))).alloc (by have := hB.size; have := hall.size; omega) (.cells #[.int .i64 1, .int .i64 x] 50)).trans (ho6.below (by have := hB.size; have := hall.size; simp; omega) (fun i hi hh => by have := (hO.lt hh).1; omega)))
          )
        go_roundw
        case rel => exact ⟨0 + 1, by omega, rfl, by rw [hdp.out]; exact hown6, hB6⟩
        case measure => simp [intOf]
    ·
      have hfd : ∀ W : World, Calls Try.prog 24 #[stV x y z, .int .i64 2] W fun e w' => e = .returned (.int .i64 y) ∧ Only Nil W w' := fun W => field_any x y z 2 W
      have hwt : ∀ W : World, Calls Try.prog 25 #[stV a b c, .agg #[.int .i64 2, .int .i64 y]] W fun e w' => e = .returned (stV a y c) ∧ Only Nil W w' := fun W => with_any a b c 2 y W
      have hL3 := dpre_len ⟨a, b, c⟩ ⟨x, y, z⟩ 1
      by_cases hne : y = b
      · have hdp := Lib.hid (dpre_out (f := ⟨a, b, c⟩) (t := ⟨x, y, z⟩) (k := 1) (p := ⟨2, y⟩) rfl (by simp [chg, St.wth, pw1, pw2, pw3]; exact hne))
        have hb1 : (y == b) = true := by simpa using hne
        have hb2 : decide (y = b) = true := by simpa using hne
        clear hne
        generalize dpre ⟨a, b, c⟩ ⟨x, y, z⟩ 1 = L at *
        go_wp2_with (first
          | (go_at_call 24; (with_reducible refine (hfd _).mono ?_); rintro e w1 ⟨rfl, ho1⟩; have hf2 := Blk.alloc (Blk.kept hf1 ho1 (fun hh => hh)) (.cells #[.int .i64 2, .int .i64 y] 50); have hP2 := Blk.new w1 50 #[.int .i64 2, .int .i64 y])
          )
        go_region_held3 (fun w' => w'.cell? ⟨fb, 0, none⟩ = some (.int .i64 a) ∧ w'.cell? ⟨fb, 1, none⟩ = some (.int .i64 b) ∧ w'.cell? ⟨fb, 2, none⟩ = some (.int .i64 c) ∧ w'.cell? ⟨w1.heap.size, 0, none⟩ = some (.int .i64 2) ∧ w'.cell? ⟨w1.heap.size, 1, none⟩ = some (.int .i64 y)) (first | exact ⟨hf3.cell 0, hf3.cell 1, hf3.cell 2, hP3.cell 0, hP3.cell 1⟩ | exact ⟨hf2.cell 0, hf2.cell 1, hf2.cell 2, hP2.cell 0, hP2.cell 1⟩) (first
          | (go_at_call 25; (with_reducible refine (hwt _).mono ?_); rintro e w3 ⟨rfl, ho3⟩; have hf3 := Blk.kept (Blk.drew hf2) ho3 (fun hh => hh); have hP3 := Blk.kept (Blk.drew hP2) ho3 (fun hh => hh); have hall := ((ho1.alloc (.cells #[.int .i64 2, .int .i64 y] 50)).drew).trans ho3)
          )
        go_wp2
        go_roundw
        case rel => exact ⟨1 + 1, by omega, rfl, by rw [hdp.out]; exact hO.kept hall (fun _ _ hh => hh), hB.trans (hall.below hB.size (fun _ _ hh => hh))⟩
        case measure => simp [intOf]
      · have hdp := Lib.hid (dpre_in (f := ⟨a, b, c⟩) (t := ⟨x, y, z⟩) (k := 1) (p := ⟨2, y⟩) rfl (by simp [chg, St.wth, pw1, pw2, pw3]; exact hne))
        have hb1 : (y == b) = false := by simpa using hne
        have hb2 : decide (y = b) = false := by simpa using hne
        clear hne
        generalize dpre ⟨a, b, c⟩ ⟨x, y, z⟩ 1 = L at *
        go_wp2_with (first
          | (go_at_call 24; (with_reducible refine (hfd _).mono ?_); rintro e w1 ⟨rfl, ho1⟩; have hf2 := Blk.alloc (Blk.kept hf1 ho1 (fun hh => hh)) (.cells #[.int .i64 2, .int .i64 y] 50); have hP2 := Blk.new w1 50 #[.int .i64 2, .int .i64 y])
          )
        go_region_held3 (fun w' => w'.cell? ⟨fb, 0, none⟩ = some (.int .i64 a) ∧ w'.cell? ⟨fb, 1, none⟩ = some (.int .i64 b) ∧ w'.cell? ⟨fb, 2, none⟩ = some (.int .i64 c) ∧ w'.cell? ⟨w1.heap.size, 0, none⟩ = some (.int .i64 2) ∧ w'.cell? ⟨w1.heap.size, 1, none⟩ = some (.int .i64 y)) (first | exact ⟨hf3.cell 0, hf3.cell 1, hf3.cell 2, hP3.cell 0, hP3.cell 1⟩ | exact ⟨hf2.cell 0, hf2.cell 1, hf2.cell 2, hP2.cell 0, hP2.cell 1⟩) (first
          | (go_at_call 25; (with_reducible refine (hwt _).mono ?_); rintro e w3 ⟨rfl, ho3⟩; have hf3 := Blk.kept (Blk.drew hf2) ho3 (fun hh => hh); have hP3 := Blk.kept (Blk.drew hP2) ho3 (fun hh => hh); have hall := ((ho1.alloc (.cells #[.int .i64 2, .int .i64 y] 50)).drew).trans ho3)
          )
        go_wp2_with (first
          | (at_builtin
             refine wpList_app rfl (.tmp 25) (.tmp 27) _ _ rfl w.heap.size 50 Try.underlying33 pr_info rfl _ L rfl ((hO.kept hall (fun _ _ hh => hh)).alloc _) _ [⟨2, y⟩] rfl (Src.one (enc := encP) Try.underlying33 ⟨2, y⟩ 1 rfl (Blk.new w3 _ _) rfl (by simp [encP, Value.oneCell'])) (by simp; omega) (by decide) (by have := hB.size; have := hall.size; simp; omega) ?_
             intro A6 c6 w6 hown6 ho6 hg6
             have hB6 := ((hB.trans (hall.below hB.size (fun _ _ hh => hh))).alloc (by have := hB.size; have := hall.size; omega) (.cells #[.int .i64 2, .int .i64 y] 50)).trans (ho6.below (by have := hB.size; have := hall.size; simp; omega) (fun i hi hh => by have := (hO.lt hh).1; omega)))
          )
        go_roundw
        case rel => exact ⟨1 + 1, by omega, rfl, by rw [hdp.out]; exact hown6, hB6⟩
        case measure => simp [intOf]
    ·
      have hfd : ∀ W : World, Calls Try.prog 24 #[stV x y z, .int .i64 3] W fun e w' => e = .returned (.int .i64 z) ∧ Only Nil W w' := fun W => field_any x y z 3 W
      have hwt : ∀ W : World, Calls Try.prog 25 #[stV a b c, .agg #[.int .i64 3, .int .i64 z]] W fun e w' => e = .returned (stV a b z) ∧ Only Nil W w' := fun W => with_any a b c 3 z W
      have hL3 := dpre_len ⟨a, b, c⟩ ⟨x, y, z⟩ 2
      by_cases hne : z = c
      · have hdp := Lib.hid (dpre_out (f := ⟨a, b, c⟩) (t := ⟨x, y, z⟩) (k := 2) (p := ⟨3, z⟩) rfl (by simp [chg, St.wth, pw1, pw2, pw3]; exact hne))
        have hb1 : (z == c) = true := by simpa using hne
        have hb2 : decide (z = c) = true := by simpa using hne
        clear hne
        generalize dpre ⟨a, b, c⟩ ⟨x, y, z⟩ 2 = L at *
        go_wp2_with (first
          | (go_at_call 24; (with_reducible refine (hfd _).mono ?_); rintro e w1 ⟨rfl, ho1⟩; have hf2 := Blk.alloc (Blk.kept hf1 ho1 (fun hh => hh)) (.cells #[.int .i64 3, .int .i64 z] 50); have hP2 := Blk.new w1 50 #[.int .i64 3, .int .i64 z])
          )
        go_region_held3 (fun w' => w'.cell? ⟨fb, 0, none⟩ = some (.int .i64 a) ∧ w'.cell? ⟨fb, 1, none⟩ = some (.int .i64 b) ∧ w'.cell? ⟨fb, 2, none⟩ = some (.int .i64 c) ∧ w'.cell? ⟨w1.heap.size, 0, none⟩ = some (.int .i64 3) ∧ w'.cell? ⟨w1.heap.size, 1, none⟩ = some (.int .i64 z)) (first | exact ⟨hf3.cell 0, hf3.cell 1, hf3.cell 2, hP3.cell 0, hP3.cell 1⟩ | exact ⟨hf2.cell 0, hf2.cell 1, hf2.cell 2, hP2.cell 0, hP2.cell 1⟩) (first
          | (go_at_call 25; (with_reducible refine (hwt _).mono ?_); rintro e w3 ⟨rfl, ho3⟩; have hf3 := Blk.kept (Blk.drew hf2) ho3 (fun hh => hh); have hP3 := Blk.kept (Blk.drew hP2) ho3 (fun hh => hh); have hall := ((ho1.alloc (.cells #[.int .i64 3, .int .i64 z] 50)).drew).trans ho3)
          )
        go_wp2
        go_roundw
        case rel => exact ⟨2 + 1, by omega, rfl, by rw [hdp.out]; exact hO.kept hall (fun _ _ hh => hh), hB.trans (hall.below hB.size (fun _ _ hh => hh))⟩
        case measure => simp [intOf]
      · have hdp := Lib.hid (dpre_in (f := ⟨a, b, c⟩) (t := ⟨x, y, z⟩) (k := 2) (p := ⟨3, z⟩) rfl (by simp [chg, St.wth, pw1, pw2, pw3]; exact hne))
        have hb1 : (z == c) = false := by simpa using hne
        have hb2 : decide (z = c) = false := by simpa using hne
        clear hne
        generalize dpre ⟨a, b, c⟩ ⟨x, y, z⟩ 2 = L at *
        go_wp2_with (first
          | (go_at_call 24; (with_reducible refine (hfd _).mono ?_); rintro e w1 ⟨rfl, ho1⟩; have hf2 := Blk.alloc (Blk.kept hf1 ho1 (fun hh => hh)) (.cells #[.int .i64 3, .int .i64 z] 50); have hP2 := Blk.new w1 50 #[.int .i64 3, .int .i64 z])
          )
        go_region_held3 (fun w' => w'.cell? ⟨fb, 0, none⟩ = some (.int .i64 a) ∧ w'.cell? ⟨fb, 1, none⟩ = some (.int .i64 b) ∧ w'.cell? ⟨fb, 2, none⟩ = some (.int .i64 c) ∧ w'.cell? ⟨w1.heap.size, 0, none⟩ = some (.int .i64 3) ∧ w'.cell? ⟨w1.heap.size, 1, none⟩ = some (.int .i64 z)) (first | exact ⟨hf3.cell 0, hf3.cell 1, hf3.cell 2, hP3.cell 0, hP3.cell 1⟩ | exact ⟨hf2.cell 0, hf2.cell 1, hf2.cell 2, hP2.cell 0, hP2.cell 1⟩) (first
          | (go_at_call 25; (with_reducible refine (hwt _).mono ?_); rintro e w3 ⟨rfl, ho3⟩; have hf3 := Blk.kept (Blk.drew hf2) ho3 (fun hh => hh); have hP3 := Blk.kept (Blk.drew hP2) ho3 (fun hh => hh); have hall := ((ho1.alloc (.cells #[.int .i64 3, .int .i64 z] 50)).drew).trans ho3)
          )
        go_wp2_with (first
          | (at_builtin
             refine wpList_app rfl (.tmp 25) (.tmp 27) _ _ rfl w.heap.size 50 Try.underlying33 pr_info rfl _ L rfl ((hO.kept hall (fun _ _ hh => hh)).alloc _) _ [⟨3, z⟩] rfl (Src.one (enc := encP) Try.underlying33 ⟨3, z⟩ 1 rfl (Blk.new w3 _ _) rfl (by simp [encP, Value.oneCell'])) (by simp; omega) (by decide) (by have := hB.size; have := hall.size; simp; omega) ?_
             intro A6 c6 w6 hown6 ho6 hg6
             have hB6 := ((hB.trans (hall.below hB.size (fun _ _ hh => hh))).alloc (by have := hB.size; have := hall.size; omega) (.cells #[.int .i64 3, .int .i64 z] 50)).trans (ho6.below (by have := hB.size; have := hall.size; simp; omega) (fun i hi hh => by have := (hO.lt hh).1; omega)))
          )
        go_roundw
        case rel => exact ⟨2 + 1, by omega, rfl, by rw [hdp.out]; exact hown6, hB6⟩
        case measure => simp [intOf]
    · go_wp2
      go_ret
      exact ⟨AL, capL, rfl, hO, Only.of_below hB⟩
def ChPost (w : World) (f t : St) (x : Ending) (w' : World) : Prop := ∃ tb fb, x = .returned (.func (.func 23) #[] #[.pointer (some ⟨tb, 0, none⟩), .pointer (some ⟨fb, 0, none⟩)]) ∧ Only Nil w w' ∧ Sb w' tb t ∧ Sb w' fb f
theorem changes_any (f t : St) (w : World) : Calls Try.prog 21 #[stV f.a f.b f.c, stV t.a t.b t.c] w (ChPost w f t) := by
  have hmf := mkf Try.prog
  go_enter Try.func21, Try.ntmps21
  go_wp2
  go_ret
  refine ⟨_, _, rfl, ((Only.refl _ _).alloc _).alloc _, ?_, (Blk.new _ _ _).alloc _⟩
  have := Blk.new (w.alloc (.cells #[.int .i64 f.a, .int .i64 f.b, .int .i64 f.c] 27)) 27 #[.int .i64 t.a, .int .i64 t.b, .int .i64 t.c]
  simpa using this
def DiffPost (w : World) (f t : St) (x : Ending) (w' : World) : Prop := ∃ A cap, x = .returned (.slice A (dpre f t 3).length cap) ∧ Ow encP 2 w' w.heap.size 50 (.slice A (dpre f t 3).length cap) (dpre f t 3) ∧ Only Nil w w'
theorem dpre_same (f : St) : dpre f f 3 = [] := by
  obtain ⟨a, b, c⟩ := f
  simp [dpre, allP, chg, St.wth, pw1, pw2, pw3]
set_option maxHeartbeats 2000000 in
theorem Diff_any (f t : St) (w : World) : Calls Try.prog 18 #[stV f.a f.b f.c, stV t.a t.b t.c] w (DiffPost w f t) := by
  obtain ⟨a, b, c⟩ := f
  obtain ⟨x, y, z⟩ := t
  by_cases h1 : a = x
  · by_cases h2 : b = y
    · by_cases h3 : c = z
      · subst h1 h2 h3
        have he := Lib.hid (dpre_same ⟨a, b, c⟩)
        go_enter Try.func18, Try.ntmps18
        go_wp2
        go_ret
        exact ⟨none, 0, by rw [he.out]; rfl, by rw [he.out]; exact Ow.nil, ((Only.refl _ _).alloc _).alloc _⟩
      · have hb1 : (c == z) = false := by simpa using h3
        have hb2 : decide (c = z) = false := by simpa using h3
        clear h3
        subst h1 h2
        go_enter Try.func18, Try.ntmps18
        go_wp2_with (first
          | (go_at_call 21; (with_reducible refine (changes_any ⟨a, b, c⟩ ⟨a, b, z⟩ _).mono ?_); rintro e w1 ⟨tb, fb, rfl, ho1, ht1, hf1⟩; have ht2 := Blk.alloc ht1 (.cells #[.int .i64 1, .int .i64 2, .int .i64 3] 3); have hf2 := Blk.alloc hf1 (.cells #[.int .i64 1, .int .i64 2, .int .i64 3] 3))
          | (go_at_call 23; (with_reducible refine (changes1_any _ tb fb ⟨a, b, c⟩ ⟨a, b, z⟩ _ (Blk.new w1 3 _) ht2 hf2).mono ?_); rintro e w2 ⟨A, cap, rfl, hO, ho2⟩)
          )
        go_ret
        have hz := ho1.size
        exact ⟨A, cap, rfl, hO.mono (by simp at hz ⊢; omega), ((((Only.refl _ _).alloc _).alloc _).trans ho1 |>.alloc _).trans ho2⟩
    · have hb1 : (b == y) = false := by simpa using h2
      have hb2 : decide (b = y) = false := by simpa using h2
      clear h2
      subst h1
      go_enter Try.func18, Try.ntmps18
      go_wp2_with (first
        | (go_at_call 21; (with_reducible refine (changes_any ⟨a, b, c⟩ ⟨a, y, z⟩ _).mono ?_); rintro e w1 ⟨tb, fb, rfl, ho1, ht1, hf1⟩; have ht2 := Blk.alloc ht1 (.cells #[.int .i64 1, .int .i64 2, .int .i64 3] 3); have hf2 := Blk.alloc hf1 (.cells #[.int .i64 1, .int .i64 2, .int .i64 3] 3))
        | (go_at_call 23; (with_reducible refine (changes1_any _ tb fb ⟨a, b, c⟩ ⟨a, y, z⟩ _ (Blk.new w1 3 _) ht2 hf2).mono ?_); rintro e w2 ⟨A, cap, rfl, hO, ho2⟩)
        )
      go_ret
      have hz := ho1.size
      exact ⟨A, cap, rfl, hO.mono (by simp at hz ⊢; omega), ((((Only.refl _ _).alloc _).alloc _).trans ho1 |>.alloc _).trans ho2⟩
  · have hb1 : (a == x) = false := by simpa using h1
    have hb2 : decide (a = x) = false := by simpa using h1
    clear h1
    go_enter Try.func18, Try.ntmps18
    go_wp2_with (first
      | (go_at_call 21; (with_reducible refine (changes_any ⟨a, b, c⟩ ⟨x, y, z⟩ _).mono ?_); rintro e w1 ⟨tb, fb, rfl, ho1, ht1, hf1⟩; have ht2 := Blk.alloc ht1 (.cells #[.int .i64 1, .int .i64 2, .int .i64 3] 3); have hf2 := Blk.alloc hf1 (.cells #[.int .i64 1, .int .i64 2, .int .i64 3] 3))
      | (go_at_call 23; (with_reducible refine (changes1_any _ tb fb ⟨a, b, c⟩ ⟨x, y, z⟩ _ (Blk.new w1 3 _) ht2 hf2).mono ?_); rintro e w2 ⟨A, cap, rfl, hO, ho2⟩)
      )
    go_ret
    have hz := ho1.size
    exact ⟨A, cap, rfl, hO.mono (by simp at hz ⊢; omega), ((((Only.refl _ _).alloc _).alloc _).trans ho1 |>.alloc _).trans ho2⟩
end Go.Proofs.Ytjbemhfhhedlpaa
