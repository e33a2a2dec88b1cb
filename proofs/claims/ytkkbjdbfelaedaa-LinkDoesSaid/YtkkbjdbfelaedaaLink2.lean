/- What goes ahead into a link, and what is pulled out of it. -/
import Derived.Test.YtkkbjdbfelaedaaLink
namespace Go.Proofs.Ytkkbjdbfelaedaa
open Go.RowKit

theorem ret_int {k : IntKind} {a b : Int} (h : a = b) : Ending.returned (.int k a) = .returned (.int k b) := by rw [h]
theorem Only.src {S : Nat → Prop} {w0 W w1 : World} (_ : Only S W w1) (h : Only Nil w0 W) : Only Nil w0 W := h
theorem hmk2 (n m : Nat) (hn : n + m ≤ 2000000) (w : World) : (Instr.makeSlice 40 (.int .i64 0) (.int .i64 ((n : Int) + m))).run Try.prog w = .ok (.slice (some ⟨w.heap.size, 0, none⟩) 0 (n + m)) (w.alloc (.cells (madeCells #[.int .u8 0] (n + m)) 5)) := by
  obtain ⟨i, hi, hz, hs, hb⟩ := info_parts u8_info
  have := run_make (P := Try.prog) w 40 5 i (.int .u8 0) Try.underlying40 hi hz .i64 .i64 0 ((n + m : Nat) : Int) (by omega) (by omega) (by rw [hb]; omega) (by omega)
  rw [hs] at this
  rw [← Int.natCast_add]
  simp only [Value.cells, Int.toNat_zero, Int.toNat_natCast, Nat.mul_one] at this
  exact this
section
variable {w : World} {b base : Nat} {v : Value} {L : List UInt8} {lim came took : Int}
set_option maxHeartbeats 4000000 in
theorem Ahead_ok (S : ByteArray) (w : World) (h : Lk w b base v L lim came took) (h0 : 0 ≤ lim) (h1 : lim ≤ 1048576) (hf : (L.length : Int) + S.size ≤ lim) (k0 : 0 ≤ came) (k1 : came ≤ 10000000) :
    Calls Try.prog 10 #[.pointer (some ⟨b, 0, none⟩), .string S] w (LkPost w b base (.int .i64 0) (S.data.toList ++ L) lim (came + S.size) took) := by
  have hsz := h.sz
  have hSl : S.data.toList.length = S.size := by simp
  obtain ⟨A, cap, rfl, hc, hm⟩ := h.own.form
  obtain ⟨c0, c1, c2, c3⟩ := h.facts
  have hO := h.own
  have hB := h.blk
  have hBl := hB.lt
  have hf' : decide (lim - (L.length : Int) < (S.size : Int)) = false := by simp; omega
  have hmk := hmk2 S.size L.length (by omega)
  have hA : A = none → L = [] := by
    intro hA
    subst hA
    rcases hO.2 with ⟨_, h2⟩ | ⟨g, off, cap', cur, hv, _⟩
    · exact h2
    · cases hv
  go_enter Try.func10, Try.ntmps10
  go_wp2
  go_quiet (fail)
  go_wp2_with (first
    | (at_builtin
       refine wpList_app rfl (.tmp 32) (.tmp 33) _ _ rfl base 5 Try.underlying40 u8_info rfl _ [] rfl (Ow.made (enc := encB) (sz := 1) _ _ (S.size + L.length) (by simp [maxLen]; omega) (by rw [size_madeCells, Nat.mul_one]) (by simpa using hsz)) _ S.data.toList rfl (Src.str Try.underlying9 S) (by simp; omega) (by decide) (by simp; omega) ?_
       intro A6 c6 w6 hown6 ho6 hg6
       rw [List.length_nil, Nat.zero_add, hSl, List.nil_append] at hown6
       have hx5 := Only.src ho6 (w0 := w) (by first | exact ((Only.refl Nil w).drewN _).alloc _ | exact ((Only.refl Nil w).alloc _).drewN _)
       have hn6 : ∀ g, g < w.heap.size → ¬ ownB (.slice (some ⟨w.heap.size, 0, none⟩) 0 (S.size + L.length)) g := by intro g hg hh; unfold ownB at hh; simp [Value.ownBlock] at hh; omega
       have hB6 := (hB.kept hx5 (fun hh => hh)).kept ho6 (by intro hh; exact hn6 b hBl hh)
       have hO6 := (hO.kept hx5 (fun _ _ hh => hh)).kept ho6 (by intro g hg hh; exact hn6 g (hO.lt hg).2 hh)
       have d0 := hB6.cell 0
       have hT6 : Oth w w6 := fun g t cs hb h1 h2 => ((Blk.kept hb hx5 (fun hh => hh)).kept ho6 (by intro hh; exact hn6 g hb.lt hh))
       have hBe6 := (hx5.below hsz (fun _ _ hh => hh)).trans (ho6.below (by simp; omega) (fun i hi hh => hn6 i (by omega) hh)))
    | (at_builtin
       refine wpList_app rfl (.tmp 36) (.tmp 40) _ _ rfl base 5 Try.underlying40 u8_info rfl _ S.data.toList rfl hown6 _ L rfl (Src.sq Try.underlying40 cap (hO6.sq encB_len rfl) encB_len hA (by intro x _ u hu; simp [encB] at hu; subst hu; rfl) (by decide)) (by simp; omega) (by decide) (Nat.le_trans hsz hBe6.size) ?_
       intro A7 c7 w7 hown7 ho7 hg7
       rw [hSl] at hown7
       have hne6 : (Value.slice A6 S.size c6).ownBlock ≠ some b := hown6.ne hB6 (by decide)
       have hB7 := hB6.kept ho7 hne6
       have d02 := hB7.cell 0
       have d22 := hB7.cell 2
       have g0 := hB7.frozen 0
       have g2 := hB7.frozen 2
       have hT7 := hT6.own hown6 ho7
       have hBe7 := hBe6.trans (ho7.below (Nat.le_trans hsz hBe6.size) (fun i hi hh => by have := (hown6.lt hh).1; omega)))
    )
  go_ret
  have hne7 := hown7.ne hB7 (by decide)
  exact ⟨_, rfl, ⟨Blk.set (Blk.set hB7 0 _) 2 _, (hown7.set hne7 0 _).set hne7 2 _, h.hb⟩, (hBe7.setCell (p := ⟨b, 0, none⟩) h.hb _).setCell (p := ⟨b, 2, none⟩) h.hb _, (hT7.set hB7 0 _).set (hB7.set 0 _) 2 _⟩

/-- how many of so many bytes come -/
def cnt (n : Int) (m : Nat) : Nat := if n ≤ 0 then 0 else if n < (m : Int) then n.toNat else m
def CtPost (w : World) (b : Nat) (x : Ending) (w' : World) : Prop := ∃ g, x = .returned (.func (.func 16) #[] #[.pointer (some ⟨g, 0, none⟩)]) ∧ Only Nil w w' ∧ Blk w' g 23 #[.pointer (some ⟨b, 0, none⟩)]
theorem counter_any (b : Nat) (w : World) : Calls Try.prog 15 #[.pointer (some ⟨b, 0, none⟩)] w (CtPost w b) := by
  have hmf := mkf Try.prog
  go_enter Try.func15, Try.ntmps15
  go_wp2
  go_ret
  exact ⟨w.heap.size, rfl, (Only.refl _ _).alloc _, Blk.new _ _ _⟩
set_option maxHeartbeats 1000000 in
theorem counter1_any (g : Nat) (n : Int) (w : World) (hg : Blk w g 23 #[.pointer (some ⟨b, 0, none⟩)]) (h : Lk w b base v L lim came took) (hl : L.length ≤ 1048576) :
    Calls Try.prog 16 #[.int .i64 n, .pointer (some ⟨g, 0, none⟩)] w fun x w' => x = .returned (.int .i64 (cnt n L.length)) ∧ w = w' := by
  have cg : w.cell? ⟨g, 0, none⟩ = some (.pointer (some ⟨b, 0, none⟩)) := hg.cell 0
  have hlen := fun (W : World) (h : Lk W b base v L lim came took) => Len_any W h
  generalize hm : L.length = m at hlen hl
  have hc1 : n ≤ 0 → cnt n m = 0 := fun h => by unfold cnt; rw [if_pos h]
  have hc2 : 0 < n → n < m → (cnt n m : Int) = n := fun h h2 => by unfold cnt; rw [if_neg (by omega), if_pos h2]; omega
  have hc3 : 0 < n → (m : Int) ≤ n → cnt n m = m := fun h h2 => by unfold cnt; rw [if_neg (by omega), if_neg (by omega)]
  clear hm
  by_cases n0 : n ≤ 0
  · rw [hc1 n0]
    clear hc1 hc2 hc3
    go_enter Try.func16, Try.ntmps16
    go_wp2_with (first
      | (go_at_call 14; (with_reducible refine (hlen _ h).mono ?_); rintro e w1 ⟨rfl, rfl⟩)
      )
    all_goals
      go_ret
      exact ⟨by first | rfl | (refine ret_int ?_; omega), rfl⟩
  · by_cases n1 : n < (m : Int)
    · have e := hc2 (by omega) n1
      have e' := Lib.hid e
      clear hc1 hc2 hc3 e
      generalize ((cnt n m : Nat) : Int) = C at e'
      go_enter Try.func16, Try.ntmps16
      go_wp2_with (first
        | (go_at_call 14; (with_reducible refine (hlen _ h).mono ?_); rintro e w1 ⟨rfl, rfl⟩)
        )
      all_goals
        go_ret
        exact ⟨by rw [e'.out]; first | rfl | (refine ret_int ?_; omega), rfl⟩
    · rw [hc3 (by omega) (by omega)]
      clear hc1 hc2 hc3
      go_enter Try.func16, Try.ntmps16
      go_wp2_with (first
        | (go_at_call 14; (with_reducible refine (hlen _ h).mono ?_); rintro e w1 ⟨rfl, rfl⟩)
        )
      all_goals
        go_ret
        exact ⟨by first | rfl | (refine ret_int ?_; omega), rfl⟩
theorem Pull_nil (n : Int) (w : World) (hz : ∀ (g : Nat) (W : World), Blk W g 23 #[.pointer none] → Calls Try.prog 16 #[.int .i64 n, .pointer (some ⟨g, 0, none⟩)] W fun x w' => x = .returned (.int .i64 0) ∧ W = w')
    (hc : ∀ W : World, Calls Try.prog 15 #[.pointer none] W fun x w' => ∃ g, x = .returned (.func (.func 16) #[] #[.pointer (some ⟨g, 0, none⟩)]) ∧ Only Nil W w' ∧ Blk w' g 23 #[.pointer none]) :
    Calls Try.prog 9 #[.pointer none, .int .i64 n] w fun x w' => x = .returned (.string noS) ∧ Only Nil w w' := by
  go_enter Try.func9, Try.ntmps9
  go_wp2_with (first
    | (go_at_call 15; (with_reducible refine (hc _).mono ?_); rintro e w1 ⟨g, rfl, ho1, hG⟩)
    | (go_at_call 16; (with_reducible refine (hz g _ hG).mono ?_); rintro e w2 ⟨rfl, rfl⟩)
    )
  go_ret
  exact ⟨rfl, ho1⟩
theorem counter_nil (w : World) : Calls Try.prog 15 #[.pointer none] w fun x w' => ∃ g, x = .returned (.func (.func 16) #[] #[.pointer (some ⟨g, 0, none⟩)]) ∧ Only Nil w w' ∧ Blk w' g 23 #[.pointer none] := by
  have hmf := mkf Try.prog
  go_enter Try.func15, Try.ntmps15
  go_wp2
  go_ret
  exact ⟨w.heap.size, rfl, (Only.refl _ _).alloc _, Blk.new _ _ _⟩
theorem counter1_nil (g : Nat) (n : Int) (w : World) (hg : Blk w g 23 #[.pointer none]) : Calls Try.prog 16 #[.int .i64 n, .pointer (some ⟨g, 0, none⟩)] w fun x w' => x = .returned (.int .i64 0) ∧ w = w' := by
  have cg : w.cell? ⟨g, 0, none⟩ = some (.pointer none) := hg.cell 0
  go_enter Try.func16, Try.ntmps16
  go_wp2_with (first
    | (go_at_call 14; (with_reducible refine (Len_nil _).mono ?_); rintro e w1 ⟨rfl, rfl⟩)
    )
  all_goals
    go_ret
    exact ⟨by first | rfl | (refine ret_int ?_; omega), rfl⟩
set_option maxHeartbeats 1000000 in
theorem Pull_none (n : Int) (w : World) (h : Lk w b base v L lim came took) (hl : L.length ≤ 1048576) (hk : cnt n L.length = 0) :
    Calls Try.prog 9 #[.pointer (some ⟨b, 0, none⟩), .int .i64 n] w (LkPost w b base (.string noS) L lim came took) := by
  have hc1 : ∀ (g : Nat) (W : World), Blk W g 23 #[.pointer (some ⟨b, 0, none⟩)] → Lk W b base v L lim came took → Calls Try.prog 16 #[.int .i64 n, .pointer (some ⟨g, 0, none⟩)] W fun x w' => x = .returned (.int .i64 0) ∧ W = w' := fun g W hg h => by
    have := counter1_any g n W hg h hl
    rw [hk] at this
    exact this
  have HC := Lib.hid hc1
  clear hc1 hk
  go_enter Try.func9, Try.ntmps9
  go_wp2_with (first
    | (go_at_call 15; (with_reducible refine (counter_any b _).mono ?_); rintro e w1 ⟨g, rfl, ho1, hG⟩; have hK1 := h.kept ho1)
    | (go_at_call 16; (with_reducible refine (HC.out g _ hG hK1).mono ?_); rintro e w2 ⟨rfl, rfl⟩)
    )
  go_ret
  exact ⟨_, rfl, hK1, ho1.below h.sz (fun _ _ hh => hh), Oth.of_nil ho1⟩
set_option maxHeartbeats 4000000 in
theorem Pull_some (n : Int) (k : Nat) (w : World) (h : Lk w b base v L lim came took) (hl : L.length ≤ 1048576) (hk : cnt n L.length = k) (k1 : 1 ≤ k) (kL : k ≤ L.length) (t0 : 0 ≤ took) (t1 : took ≤ 10000000) :
    Calls Try.prog 9 #[.pointer (some ⟨b, 0, none⟩), .int .i64 n] w (LkPost w b base (.string (strOf (L.take k))) (L.drop k) lim came (took + k)) := by
  have hc1 : ∀ (g : Nat) (W : World), Blk W g 23 #[.pointer (some ⟨b, 0, none⟩)] → Lk W b base v L lim came took → Calls Try.prog 16 #[.int .i64 n, .pointer (some ⟨g, 0, none⟩)] W fun x w' => x = .returned (.int .i64 k) ∧ W = w' := fun g W hg h => by
    have := counter1_any g n W hg h hl
    rw [hk] at this
    exact this
  have HC := Lib.hid hc1
  clear hc1 hk
  obtain ⟨A, cap, rfl, hcap, hm⟩ := h.own.form
  unfold maxLen at hm
  obtain ⟨a0, rfl⟩ : ∃ a0, A = some a0 := by
    rcases h.own.2 with ⟨_, h2⟩ | ⟨g, off, cap', cur, hv, _⟩
    · rw [h2] at kL; simp at kL; omega
    · injection hv with hv; exact ⟨_, hv⟩
  obtain ⟨g0, o0, s0⟩ := a0
  obtain rfl : s0 = none := by
    rcases h.own.2 with ⟨h2, _⟩ | ⟨g, off, cap', cur, hv, _⟩
    · cases h2
    · injection hv with hv; injection hv with hv; injection hv
  have hkL' : (k : Int) ≤ L.length := by omega
  have hd : Ow encB 1 w base 5 _ (L.drop k) := h.own.drop encB_len rfl kL
  by_cases hkl : k = L.length
  · have hdr : L.drop k = [] := List.drop_eq_nil_of_le (by omega)
    have hdr' := Lib.hid hdr
    clear hdr hd
    subst hkl
    by_cases hck : cap = L.length
    · subst hck
      go_enter Try.func9, Try.ntmps9
      go_wp2_with (first
        | (go_at_call 15; (with_reducible refine (counter_any b _).mono ?_); rintro e w1 ⟨g, rfl, ho1, hG⟩; have hK1 := h.kept ho1; obtain ⟨c0, c1, c2, c3⟩ := hK1.facts; have hstr := (hK1.own.take encB_len rfl kL).str (P := Try.prog) 40 5 9 Try.underlying40 Try.underlying5 Try.underlying9; have f0 := hK1.blk.frozen 0; have f3 := hK1.blk.frozen 3)
        | (go_at_call 16; (with_reducible refine (HC.out g _ hG hK1).mono ?_); rintro e w2 ⟨rfl, rfl⟩)
        )
      have hBe := ho1.below h.sz (fun _ _ hh => hh)
      go_ret
      exact ⟨_, by rw [List.take_length]; rfl, ⟨Blk.set (Blk.set (Blk.set hK1.blk 3 _) 0 _) 0 _, by rw [hdr'.out]; exact Ow.nil, h.hb⟩, ((hBe.setCell (p := ⟨b, 3, none⟩) h.hb _).setCell (p := ⟨b, 0, none⟩) h.hb _).setCell (p := ⟨b, 0, none⟩) h.hb _, (((Oth.of_nil ho1).set hK1.blk 3 _).set (hK1.blk.set 3 _) 0 _).set (Blk.set (hK1.blk.set 3 _) 0 _) 0 _⟩
    · have hck2 : L.length < cap := by omega
      go_enter Try.func9, Try.ntmps9
      go_wp2_with (first
        | (go_at_call 15; (with_reducible refine (counter_any b _).mono ?_); rintro e w1 ⟨g, rfl, ho1, hG⟩; have hK1 := h.kept ho1; obtain ⟨c0, c1, c2, c3⟩ := hK1.facts; have hstr := (hK1.own.take encB_len rfl kL).str (P := Try.prog) 40 5 9 Try.underlying40 Try.underlying5 Try.underlying9; have f0 := hK1.blk.frozen 0; have f3 := hK1.blk.frozen 3)
        | (go_at_call 16; (with_reducible refine (HC.out g _ hG hK1).mono ?_); rintro e w2 ⟨rfl, rfl⟩)
        )
      have hBe := ho1.below h.sz (fun _ _ hh => hh)
      go_ret
      exact ⟨_, by rw [List.take_length]; rfl, ⟨Blk.set (Blk.set (Blk.set hK1.blk 3 _) 0 _) 0 _, by rw [hdr'.out]; exact Ow.nil, h.hb⟩, ((hBe.setCell (p := ⟨b, 3, none⟩) h.hb _).setCell (p := ⟨b, 0, none⟩) h.hb _).setCell (p := ⟨b, 0, none⟩) h.hb _, (((Oth.of_nil ho1).set hK1.blk 3 _).set (hK1.blk.set 3 _) 0 _).set (Blk.set (hK1.blk.set 3 _) 0 _) 0 _⟩
  · have hck : ¬ cap = k := by omega
    rw [if_neg hck] at hd
    simp only [Option.map_some, Addr.add_lit, Nat.mul_one] at hd
    have hck2 : k < cap := by omega
    have hkl2 : k < L.length := by omega
    go_enter Try.func9, Try.ntmps9
    go_wp2_with (first
      | (go_at_call 15; (with_reducible refine (counter_any b _).mono ?_); rintro e w1 ⟨g, rfl, ho1, hG⟩; have hK1 := h.kept ho1; obtain ⟨c0, c1, c2, c3⟩ := hK1.facts; have hstr := (hK1.own.take encB_len rfl kL).str (P := Try.prog) 40 5 9 Try.underlying40 Try.underlying5 Try.underlying9; have f0 := hK1.blk.frozen 0; have f3 := hK1.blk.frozen 3)
      | (go_at_call 16; (with_reducible refine (HC.out g _ hG hK1).mono ?_); rintro e w2 ⟨rfl, rfl⟩)
      )
    have hBe := ho1.below h.sz (fun _ _ hh => hh)
    go_ret
    have hd1 := hd.kept ho1 (fun _ _ hh => hh)
    have hne : (Value.slice (some ⟨g0, o0 + k, none⟩) (L.length - k) (cap - k)).ownBlock ≠ some b := hd1.ne hK1.blk (by decide)
    exact ⟨_, rfl, ⟨Blk.set (Blk.set hK1.blk 3 _) 0 _, (hd1.set hne 3 _).set hne 0 _, h.hb⟩, (hBe.setCell (p := ⟨b, 3, none⟩) h.hb _).setCell (p := ⟨b, 0, none⟩) h.hb _, ((Oth.of_nil ho1).set hK1.blk 3 _).set (hK1.blk.set 3 _) 0 _⟩
end
end Go.Proofs.Ytkkbjdbfelaedaa
