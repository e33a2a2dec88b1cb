/- What Ack does to a shake of the call's own. -/
import Derived.Test.YtjbemhfhhedlpaaShake2
namespace Go.Proofs.Ytjbemhfhhedlpaa
open Go.RowKit

section
variable {b base : Nat} {v : Value} {hd m : St} {L : List St}
theorem Ack_none (w : World) (k : Sk w b base v hd m []) : Calls Try.prog 7 #[.pointer (some ⟨b, 0, none⟩)] w fun x w' => x = .returned (.tuple #[stV 0 0 0, stV 0 0 0, .int .i64 1]) ∧ Only Nil w w' := by
  obtain ⟨A, cap, rfl, hc, hm⟩ := k.own.form
  have c6 := k.blk.cell 6
  have z := k.blk.lt
  go_enter Try.func7, Try.ntmps7
  go_wp2
  exact bodyPost_ret (v := .tuple #[stV 0 0 0, stV 0 0 0, .int .i64 1]) (by simp [results, Try.results7, go_sem]) rfl ⟨rfl, ((Only.refl _ _).alloc _).alloc _⟩
theorem src_drop {W : World} {v : Value} {L : List St} (ho : Ow encS 3 W base 27 v L) {bb off n cap : Nat} (hv : v = .slice (some ⟨bb, off, none⟩) n cap) (t : St) (M : List St) (hL : L = t :: M) :
    Src Try.prog 3 28 (.slice (if cap = 1 then some ⟨bb, off, none⟩ else some ⟨bb, off + 3, none⟩) (n - 1) (cap - 1)) M.length (M.flatMap encS) W := by
  subst hL
  have hn : n = (t :: M).length := by obtain ⟨A', c', h1, _⟩ := ho.form; rw [hv] at h1; injection h1
  have hd := ho.drop (fun _ _ => rfl) hv (k := 1) (by simp)
  rw [show List.drop 1 (t :: M) = M from rfl] at hd
  have e : (⟨bb, off, none⟩ : Addr).add 3 = ⟨bb, off + 3, none⟩ := rfl
  have hs := hd.sq (fun _ _ => rfl) rfl
  simp only [Nat.one_mul, Option.map_some, e] at hs hd
  have hn1 : n - 1 = M.length := by rw [hn]; simp
  have := Src.sq (P := Try.prog) (tx := 28) Try.underlying28 (cap - 1) hs (fun _ _ => rfl) (fun hA => by split at hA <;> cases hA) (by intro x _ u hu; simp [encS] at hu; rcases hu with rfl | rfl | rfl <;> rfl) (by decide)
  rw [hn1]
  exact this
set_option maxHeartbeats 4000000 in
theorem Ack_ok (w : World) (t : St) (M : List St) (k : Sk w b base v hd m (t :: M)) (hM : M.length ≤ 100) : Calls Try.prog 7 #[.pointer (some ⟨b, 0, none⟩)] w fun x w' => ∃ v', x = .returned (.tuple #[stV hd.a hd.b hd.c, stV t.a t.b t.c, .int .i64 0]) ∧ Sk w' b base v' t m M ∧ Below base w w' ∧ Only (Tch b v) w w' ∧ ∀ g, v'.ownBlock = some g → w.heap.size ≤ g := by
  have hsz : base ≤ w.heap.size := by have := k.hb; have := k.blk.lt; omega
  obtain ⟨A, cap, rfl, hc, hm⟩ := k.own.form
  have hs := k.own.sq (fun _ _ => rfl) rfl
  obtain ⟨bb, off, x, rfl, hb1, hx, _, hcs⟩ := hs.at_ (k := 0) (by simp)
  simp at hx
  subst hx
  have f0 := hcs 0 (by decide)
  have f1 := hcs 1 (by decide)
  have f2 := hcs 2 (by decide)
  simp [encS] at f0 f1 f2
  obtain ⟨⟨c0, c1, c2⟩, _, c6⟩ := Sk.facts w k
  have z := k.blk.lt
  have hO := k.own
  have hn : (t :: M).length = M.length + 1 := by simp
  have hne : bb ≠ b := by
    have := k.own.ne k.blk (by decide)
    intro e
    exact this (by rw [e]; rfl)
  generalize (t :: M).length = n at *
  have hnz : ((n : Int) == 0) = false := by simp; omega
  have hn1 : 1 ≤ n := by omega
  have hn2 : (1 : Int) ≤ n := by omega
  have hn3 : n ≤ 101 := by omega
  have z0 := k.blk.frozen 0
  have z1 := k.blk.frozen 1
  have z2 := k.blk.frozen 2
  have z6 := k.blk.frozen 6
  have HN := Lib.hid hn
  have hneb := k.own.ne k.blk (by decide)
  clear hcs hs hn
  have hX : Only Nil w (((w.alloc (.cells #[.int .i64 0, .int .i64 0, .int .i64 0] 27)).alloc (.cells #[.int .i64 0, .int .i64 0, .int .i64 0] 27)).alloc (.cells #[.int .i64 hd.a, .int .i64 hd.b, .int .i64 hd.c] 27)) := (((Only.refl _ _).alloc _).alloc _).alloc _
  have hR2 : Sb (((w.alloc (.cells #[.int .i64 0, .int .i64 0, .int .i64 0] 27)).alloc (.cells #[.int .i64 0, .int .i64 0, .int .i64 0] 27)).alloc (.cells #[.int .i64 hd.a, .int .i64 hd.b, .int .i64 hd.c] 27)) w.heap.size ⟨0, 0, 0⟩ := ((Blk.new _ _ _).alloc _).alloc _
  have hR3 : Sb (((w.alloc (.cells #[.int .i64 0, .int .i64 0, .int .i64 0] 27)).alloc (.cells #[.int .i64 0, .int .i64 0, .int .i64 0] 27)).alloc (.cells #[.int .i64 hd.a, .int .i64 hd.b, .int .i64 hd.c] 27)) (w.heap.size + 1) ⟨0, 0, 0⟩ := by
    have := (Blk.new (w.alloc (.cells #[.int .i64 0, .int .i64 0, .int .i64 0] 27)) 27 #[.int .i64 0, .int .i64 0, .int .i64 0]).alloc (.cells #[.int .i64 hd.a, .int .i64 hd.b, .int .i64 hd.c] 27)
    simpa using this
  have hR5 : Sb (((w.alloc (.cells #[.int .i64 0, .int .i64 0, .int .i64 0] 27)).alloc (.cells #[.int .i64 0, .int .i64 0, .int .i64 0] 27)).alloc (.cells #[.int .i64 hd.a, .int .i64 hd.b, .int .i64 hd.c] 27)) (w.heap.size + 1 + 1) hd := by
    have := Blk.new ((w.alloc (.cells #[.int .i64 0, .int .i64 0, .int .i64 0] 27)).alloc (.cells #[.int .i64 0, .int .i64 0, .int .i64 0] 27)) 27 #[.int .i64 hd.a, .int .i64 hd.b, .int .i64 hd.c]
    simpa using this
  have hOX := hO.kept hX (fun _ _ hh => hh)
  have hBX := k.blk.kept hX (fun hh => hh)
  have hBeX := hX.below hsz (fun _ _ hh => hh)
  have c6X : (((w.alloc (.cells #[.int .i64 0, .int .i64 0, .int .i64 0] 27)).alloc (.cells #[.int .i64 0, .int .i64 0, .int .i64 0] 27)).alloc (.cells #[.int .i64 hd.a, .int .i64 hd.b, .int .i64 hd.c] 27)).cell? ⟨b, 6, none⟩ = some (.slice (some ⟨bb, off, none⟩) n cap) := hBX.cell 6
  have hBeX2 := hX.below (Nat.le_refl _) (fun _ _ hh => hh)
  have f0X : (((w.alloc (.cells #[.int .i64 0, .int .i64 0, .int .i64 0] 27)).alloc (.cells #[.int .i64 0, .int .i64 0, .int .i64 0] 27)).alloc (.cells #[.int .i64 hd.a, .int .i64 hd.b, .int .i64 hd.c] 27)).cell? ⟨bb, off, none⟩ = some (.int .i64 t.a) := (hBeX2.cell (p := ⟨bb, off, none⟩) hb1).trans f0
  have f1X : (((w.alloc (.cells #[.int .i64 0, .int .i64 0, .int .i64 0] 27)).alloc (.cells #[.int .i64 0, .int .i64 0, .int .i64 0] 27)).alloc (.cells #[.int .i64 hd.a, .int .i64 hd.b, .int .i64 hd.c] 27)).cell? ⟨bb, off + 1, none⟩ = some (.int .i64 t.b) := (hBeX2.cell (p := ⟨bb, off + 1, none⟩) hb1).trans f1
  have f2X : (((w.alloc (.cells #[.int .i64 0, .int .i64 0, .int .i64 0] 27)).alloc (.cells #[.int .i64 0, .int .i64 0, .int .i64 0] 27)).alloc (.cells #[.int .i64 hd.a, .int .i64 hd.b, .int .i64 hd.c] 27)).cell? ⟨bb, off + 2, none⟩ = some (.int .i64 t.c) := (hBeX2.cell (p := ⟨bb, off + 2, none⟩) hb1).trans f2
  have z0X : (((w.alloc (.cells #[.int .i64 0, .int .i64 0, .int .i64 0] 27)).alloc (.cells #[.int .i64 0, .int .i64 0, .int .i64 0] 27)).alloc (.cells #[.int .i64 hd.a, .int .i64 hd.b, .int .i64 hd.c] 27)).frozen? ⟨b, 0, none⟩ = false := hBX.frozen 0
  have z1X : (((w.alloc (.cells #[.int .i64 0, .int .i64 0, .int .i64 0] 27)).alloc (.cells #[.int .i64 0, .int .i64 0, .int .i64 0] 27)).alloc (.cells #[.int .i64 hd.a, .int .i64 hd.b, .int .i64 hd.c] 27)).frozen? ⟨b, 1, none⟩ = false := hBX.frozen 1
  have z2X : (((w.alloc (.cells #[.int .i64 0, .int .i64 0, .int .i64 0] 27)).alloc (.cells #[.int .i64 0, .int .i64 0, .int .i64 0] 27)).alloc (.cells #[.int .i64 hd.a, .int .i64 hd.b, .int .i64 hd.c] 27)).frozen? ⟨b, 2, none⟩ = false := hBX.frozen 2
  have z6X : (((w.alloc (.cells #[.int .i64 0, .int .i64 0, .int .i64 0] 27)).alloc (.cells #[.int .i64 0, .int .i64 0, .int .i64 0] 27)).alloc (.cells #[.int .i64 hd.a, .int .i64 hd.b, .int .i64 hd.c] 27)).frozen? ⟨b, 6, none⟩ = false := hBX.frozen 6
  have c0X : (((w.alloc (.cells #[.int .i64 0, .int .i64 0, .int .i64 0] 27)).alloc (.cells #[.int .i64 0, .int .i64 0, .int .i64 0] 27)).alloc (.cells #[.int .i64 hd.a, .int .i64 hd.b, .int .i64 hd.c] 27)).cell? ⟨b, 0, none⟩ = some (.int .i64 hd.a) := hBX.cell 0
  have c1X : (((w.alloc (.cells #[.int .i64 0, .int .i64 0, .int .i64 0] 27)).alloc (.cells #[.int .i64 0, .int .i64 0, .int .i64 0] 27)).alloc (.cells #[.int .i64 hd.a, .int .i64 hd.b, .int .i64 hd.c] 27)).cell? ⟨b, 1, none⟩ = some (.int .i64 hd.b) := hBX.cell 1
  have c2X : (((w.alloc (.cells #[.int .i64 0, .int .i64 0, .int .i64 0] 27)).alloc (.cells #[.int .i64 0, .int .i64 0, .int .i64 0] 27)).alloc (.cells #[.int .i64 hd.a, .int .i64 hd.b, .int .i64 hd.c] 27)).cell? ⟨b, 2, none⟩ = some (.int .i64 hd.c) := hBX.cell 2
  have n2 : w.heap.size ≠ b := by omega
  have n3 : w.heap.size + 1 ≠ b := by omega
  have n5 : w.heap.size + 1 + 1 ≠ b := by omega
  have n25 : w.heap.size ≠ w.heap.size + 1 + 1 := by omega
  have n35 : w.heap.size + 1 ≠ w.heap.size + 1 + 1 := by omega
  have n23 : w.heap.size ≠ w.heap.size + 1 := by omega
  have hzX : base ≤ (((((w.alloc (.cells #[.int .i64 0, .int .i64 0, .int .i64 0] 27)).alloc (.cells #[.int .i64 0, .int .i64 0, .int .i64 0] 27)).alloc (.cells #[.int .i64 hd.a, .int .i64 hd.b, .int .i64 hd.c] 27)).setCell ⟨b, 0, none⟩ (.int .i64 t.a)).setCell ⟨b, 1, none⟩ (.int .i64 t.b) |>.setCell ⟨b, 2, none⟩ (.int .i64 t.c)).heap.size := by simp; omega
  go_enter Try.func7, Try.ntmps7
  go_wp2_with (first
    | (at_builtin
       refine wpList_app rfl (.const (.slice none 0 0)) (.tmp 38) _ _ rfl base 27 Try.underlying28 st_info rfl _ [] rfl Ow.nil _ M rfl (src_drop (((hOX.set hneb 0 (.int .i64 t.a)).set hneb 1 (.int .i64 t.b)).set hneb 2 (.int .i64 t.c)) rfl t M rfl) (by simp; omega) (by decide) hzX ?_
       intro A6 c6' w6 hown6 ho6 hg6
       have hnil : ∀ g, ¬ ownB (.slice none 0 0) g := fun g hh => by unfold ownB at hh; simp [Value.ownBlock] at hh
       have hB6 := (((hBX.set 0 (.int .i64 t.a)).set 1 (.int .i64 t.b)).set 2 (.int .i64 t.c)).kept ho6 (hnil _)
       have hR26 : Sb _ _ _ := Blk.kept (((Blk.far hR2 (p := ⟨b, 0, none⟩) n2 (.int .i64 t.a)).far (p := ⟨b, 1, none⟩) n2 (.int .i64 t.b)).far (p := ⟨b, 2, none⟩) n2 (.int .i64 t.c)) ho6 (hnil _)
       have hR36 : Sb _ _ _ := Blk.kept (((Blk.far hR3 (p := ⟨b, 0, none⟩) n3 (.int .i64 t.a)).far (p := ⟨b, 1, none⟩) n3 (.int .i64 t.b)).far (p := ⟨b, 2, none⟩) n3 (.int .i64 t.c)) ho6 (hnil _)
       have hR56 : Sb _ _ _ := Blk.kept (((Blk.far hR5 (p := ⟨b, 0, none⟩) n5 (.int .i64 t.a)).far (p := ⟨b, 1, none⟩) n5 (.int .i64 t.b)).far (p := ⟨b, 2, none⟩) n5 (.int .i64 t.c)) ho6 (hnil _)
       have hBe6 := (((hBeX.setCell (p := ⟨b, 0, none⟩) k.hb (.int .i64 t.a)).setCell (p := ⟨b, 1, none⟩) k.hb (.int .i64 t.b)).setCell (p := ⟨b, 2, none⟩) k.hb (.int .i64 t.c)).trans (ho6.below hzX (fun i _ => hnil i))
       have hg7 : ∀ g, (Value.slice A6 (0 + M.length) c6').ownBlock = some g → g = w.heap.size + 1 + 1 + 1 := fun g hg => by have := (hg6 g hg).resolve_left (hnil g); simpa using this
       have d6 := hB6.cell 6
       have q6 := hB6.frozen 6)
    )
  all_goals
    have hl0 : 0 + M.length = M.length := by omega
    simp only [List.length_nil, List.nil_append, hl0] at hown6 hg7
    have hne6 := hown6.ne hB6 (by decide)
    have hB8 := hB6.set 6 (.slice A6 M.length c6')
    have hO8 := hown6.set hne6 6 (.slice A6 M.length c6')
    have hR28 := Blk.far hR26 (p := ⟨b, 6, none⟩) n2 (.slice A6 M.length c6')
    have hR38 := Blk.far hR36 (p := ⟨b, 6, none⟩) n3 (.slice A6 M.length c6')
    have hR58 := Blk.far hR56 (p := ⟨b, 6, none⟩) n5 (.slice A6 M.length c6')
    have hBe8 := hBe6.setCell (p := ⟨b, 6, none⟩) k.hb (.slice A6 M.length c6')
    have hT8 : Only (Tch b (.slice (some ⟨bb, off, none⟩) n cap)) w _ := ((((((hX.of_nil _).setCell (p := ⟨b, 0, none⟩) (fun _ => .inl rfl) (.int .i64 t.a)).setCell (p := ⟨b, 1, none⟩) (fun _ => .inl rfl) (.int .i64 t.b)).setCell (p := ⟨b, 2, none⟩) (fun _ => .inl rfl) (.int .i64 t.c)).trans_new ho6 (fun i _ hh => absurd hh (hnil i))) : Only (Tch b (.slice (some ⟨bb, off, none⟩) n cap)) w w6).setCell (p := ⟨b, 6, none⟩) (fun _ => .inl rfl) (.slice A6 M.length c6')
    clear d6 q6 hB6 hR26 hR36 hR56 hown6
    generalize (w6.setCell ⟨b, 6, none⟩ (.slice A6 M.length c6')) = w8 at *
    have h0 : w8.cell? ⟨w.heap.size + 1 + 1, 0, none⟩ = some (.int .i64 hd.a) := hR58.cell 0
    have h1 : w8.cell? ⟨w.heap.size + 1 + 1, 1, none⟩ = some (.int .i64 hd.b) := hR58.cell 1
    have h2 : w8.cell? ⟨w.heap.size + 1 + 1, 2, none⟩ = some (.int .i64 hd.c) := hR58.cell 2
    have t0 : w8.cell? ⟨b, 0, none⟩ = some (.int .i64 t.a) := hB8.cell 0
    have t1 : w8.cell? ⟨b, 1, none⟩ = some (.int .i64 t.b) := hB8.cell 1
    have t2 : w8.cell? ⟨b, 2, none⟩ = some (.int .i64 t.c) := hB8.cell 2
    obtain ⟨u0, u1, u2⟩ := Sb.loose (q := ⟨0, 0, 0⟩) hR28
    obtain ⟨v0, v1, v2⟩ := Sb.loose (q := ⟨0, 0, 0⟩) hR38
    obtain ⟨p0, p1, p2⟩ := Sb.facts (q := ⟨0, 0, 0⟩) hR28
    obtain ⟨q0, q1, q2⟩ := Sb.facts (q := ⟨0, 0, 0⟩) hR38
    have l2 := hR28.lt
    have l3 := hR38.lt
    go_region
    all_goals
      go_wp2
      have hg2 : (Value.slice A6 M.length c6').ownBlock ≠ some w.heap.size := fun hh => by
        have := hg7 _ hh
        omega
      have hg3 : (Value.slice A6 M.length c6').ownBlock ≠ some (w.heap.size + 1) := fun hh => by
        have := hg7 _ hh
        omega
      obtain ⟨k0, k1, k2⟩ := Sb.facts (q := hd) (Blk.drew (Sb.away (Sb.put (q := ⟨0, 0, 0⟩) hR28 hd.a hd.b hd.c) n23 (.int .i64 t.a) (.int .i64 t.b) (.int .i64 t.c)))
      obtain ⟨j0, j1, j2⟩ := Sb.facts (q := t) (Blk.drew (Sb.put (Sb.away (q := ⟨0, 0, 0⟩) hR38 n23.symm (.int .i64 hd.a) (.int .i64 hd.b) (.int .i64 hd.c)) t.a t.b t.c))
      have hB9 := (((((hB8.far (p := ⟨w.heap.size, 0, none⟩) n2.symm (.int .i64 hd.a)).far (p := ⟨w.heap.size, 1, none⟩) n2.symm (.int .i64 hd.b)).far (p := ⟨w.heap.size, 2, none⟩) n2.symm (.int .i64 hd.c)).far (p := ⟨w.heap.size + 1, 0, none⟩) n3.symm (.int .i64 t.a)).far (p := ⟨w.heap.size + 1, 1, none⟩) n3.symm (.int .i64 t.b)).far (p := ⟨w.heap.size + 1, 2, none⟩) n3.symm (.int .i64 t.c)
      have hO9 := (((((hO8.set hg2 0 (.int .i64 hd.a)).set hg2 1 (.int .i64 hd.b)).set hg2 2 (.int .i64 hd.c)).set hg3 0 (.int .i64 t.a)).set hg3 1 (.int .i64 t.b)).set hg3 2 (.int .i64 t.c)
      have hBe9 := Below.put (g := w.heap.size + 1) (Below.put hBe8 hsz (.int .i64 hd.a) (.int .i64 hd.b) (.int .i64 hd.c)) (by omega) (.int .i64 t.a) (.int .i64 t.b) (.int .i64 t.c)
      have hT9 := (((((hT8.setNew (Nat.le_refl _) 0 (.int .i64 hd.a)).setNew (Nat.le_refl _) 1 (.int .i64 hd.b)).setNew (Nat.le_refl _) 2 (.int .i64 hd.c)).setNew (Nat.le_succ _) 0 (.int .i64 t.a)).setNew (Nat.le_succ _) 1 (.int .i64 t.b)).setNew (Nat.le_succ _) 2 (.int .i64 t.c)
      exact bodyPost_ret (v := .tuple #[stV hd.a hd.b hd.c, stV t.a t.b t.c, .int .i64 0]) (by simp [results, Try.results7, go_sem, k0, k1, k2, j0, j1, j2]) rfl ⟨rfl, _, ⟨hB9.drew, hO9.drew, k.hb⟩, hBe9.drew, hT9.drew, fun g hg => by have := hg7 g hg; omega⟩
end
end Go.Proofs.Ytjbemhfhhedlpaa
