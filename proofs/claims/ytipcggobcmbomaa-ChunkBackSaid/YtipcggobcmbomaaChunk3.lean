/- A joiner of the call's own: what each call answers. -/
import Derived.Test.YtipcggobcmbomaaChunk2
import Derived.Deep.AppendLies
namespace Go.Proofs.Ytipcggobcmbomaa
open Go.RowKit

structure Jn (w : World) (b base : Nat) (most : Int) (v : Value) (L : List UInt8) (br : Bool) : Prop where
  blk : Blk w b 48 #[.int .i64 most, v, .bool br]
  own : Ow encB 1 w base 5 v L
  hb : base ≤ b
/-- blocks of other types than a joiner's, or bytes, stay -/
def Oth (w w' : World) : Prop := ∀ g t cs, Blk w g t cs → 48 ≠ t → 5 ≠ t → Blk w' g t cs
theorem Oth.refl (w : World) : Oth w w := fun _ _ _ h _ _ => h
theorem Oth.of_nil {w w' : World} (ho : Only Nil w w') : Oth w w' := fun _ _ _ h _ _ => h.kept ho (fun hh => hh)
theorem Oth.trans {w w' w'' : World} (h : Oth w w') (k : Oth w' w'') : Oth w w'' := fun g t cs hb h1 h2 => k g t cs (h g t cs hb h1 h2) h1 h2
theorem Oth.drew {w w' : World} (h : Oth w w') : Oth w w'.drew := h
theorem Oth.own {w0 w w' : World} {base : Nat} {v : Value} {L : List UInt8} (h : Oth w0 w) (hO : Ow encB 1 w base 5 v L) (ho : Only (ownB v) w w') : Oth w0 w' := fun g t cs hb h1 h2 => by
  have hb' := h g t cs hb h1 h2
  exact hb'.kept ho (hO.ne hb' h2)
theorem Oth.set {w0 w : World} {b : Nat} {cs : Array Value} (h : Oth w0 w) (hB : Blk w b 48 cs) (i : Nat) (u : Value) : Oth w0 (w.setCell ⟨b, i, none⟩ u) := fun g t cs' hb h1 h2 => by
  have hb' := h g t cs' hb h1 h2
  refine hb'.far (p := ⟨b, i, none⟩) (fun e => ?_) u
  simp only at e
  subst e
  unfold Blk at hb' hB
  rw [hb'] at hB
  injection hB with hB
  injection hB with _ h3
  exact h1 h3.symm
section
variable {w w' : World} {b base : Nat} {most : Int} {v : Value} {L : List UInt8} {br : Bool}
theorem Jn.kept (h : Jn w b base most v L br) (ho : Only Nil w w') : Jn w' b base most v L br := ⟨h.blk.kept ho (fun hh => hh), h.own.kept ho (fun _ _ hh => hh), h.hb⟩
theorem Jn.sz (h : Jn w b base most v L br) : base ≤ w.heap.size := by have := h.hb; have := h.blk.lt; omega
theorem Jn.facts (h : Jn w b base most v L br) : w.cell? ⟨b, 0, none⟩ = some (.int .i64 most) ∧ w.cell? ⟨b, 1, none⟩ = some v ∧ w.cell? ⟨b, 2, none⟩ = some (.bool br) ∧ w.frozen? ⟨b, 1, none⟩ = false ∧ w.frozen? ⟨b, 2, none⟩ = false :=
  ⟨h.blk.cell 0, h.blk.cell 1, h.blk.cell 2, h.blk.frozen 1, h.blk.frozen 2⟩
theorem New_any (most : Int) (w : World) (h0 : 0 ≤ most) (h1 : most ≤ 65536) : Calls Try.prog 12 #[.int .i64 most] w fun x w' => ∃ b, x = .returned (.tuple #[.pointer (some ⟨b, 0, none⟩), .int .i64 0]) ∧ Only Nil w w' ∧ Jn w' b w.heap.size most (.slice none 0 0) [] false := by
  go_enter Try.func12, Try.ntmps12
  go_wp2
  go_ret2
  exact ⟨_, rfl, (Only.refl _ _).alloc _, Blk.new _ _ _, Ow.nil, Nat.le_refl _⟩
theorem New_out (most : Int) (w : World) (h : most < 0 ∨ 65536 < most) : Calls Try.prog 12 #[.int .i64 most] w fun x w' => x = .returned (.tuple #[.pointer none, .int .i64 3]) ∧ w = w' := by
  by_cases h0 : most < 0
  · clear h
    go_enter Try.func12, Try.ntmps12
    go_wp2
    go_ret2
    exact ⟨rfl, rfl⟩
  · have h1 : 65536 < most := by omega
    clear h
    go_enter Try.func12, Try.ntmps12
    go_wp2
    go_ret2
    exact ⟨rfl, rfl⟩
theorem Broken_any (w : World) (h : Jn w b base most v L br) : Calls Try.prog 15 #[.pointer (some ⟨b, 0, none⟩)] w fun x w' => x = .returned (.bool br) ∧ w = w' := by
  obtain ⟨c0, c1, c2, _, _⟩ := h.facts
  go_enter Try.func15, Try.ntmps15
  go_wp2
  go_ret
  exact ⟨rfl, rfl⟩
theorem Broken_nil (w : World) : Calls Try.prog 15 #[.pointer none] w fun x w' => x = .returned (.bool true) ∧ w = w' := by
  go_enter Try.func15, Try.ntmps15
  go_wp2
  go_ret
  exact ⟨rfl, rfl⟩
theorem Kept_any (w : World) (h : Jn w b base most v L br) : Calls Try.prog 14 #[.pointer (some ⟨b, 0, none⟩)] w fun x w' => x = .returned (.int .i64 L.length) ∧ w = w' := by
  obtain ⟨A, cap, rfl, hc, hm⟩ := h.own.form
  obtain ⟨c0, c1, c2, _, _⟩ := h.facts
  go_enter Try.func14, Try.ntmps14
  go_wp2
  go_ret
  exact ⟨rfl, rfl⟩
theorem Kept_nil (w : World) : Calls Try.prog 14 #[.pointer none] w fun x w' => x = .returned (.int .i64 0) ∧ w = w' := by
  go_enter Try.func14, Try.ntmps14
  go_wp2
  go_ret
  exact ⟨rfl, rfl⟩
def AdPost (w : World) (b base : Nat) (most : Int) (s : ByteArray) (is : Bool) (e : Int) (L : List UInt8) (br : Bool) (x : Ending) (w' : World) : Prop :=
  ∃ v, x = .returned (.tuple #[.string s, .bool is, .int .i64 e]) ∧ Jn w' b base most v L br ∧ Below base w w' ∧ Oth w w'
theorem breaks_any (e : Int) (w : World) (h : Jn w b base most v L br) : Calls Try.prog 18 #[.pointer (some ⟨b, 0, none⟩), .int .i64 e] w (AdPost w b base most noS false e [] true) := by
  obtain ⟨c0, c1, c2, f1, f2⟩ := h.facts
  have hB := (h.blk.set 1 (.slice none 0 0)).set 2 (.bool true)
  have hT := ((Oth.refl w).set h.blk 1 (.slice none 0 0)).set (h.blk.set 1 _) 2 (.bool true)
  go_enter Try.func18, Try.ntmps18
  go_wp2
  go_ret3
  exact ⟨.slice none 0 0, rfl, ⟨hB, Ow.nil, h.hb⟩, ((Below.refl _ _).setCell (p := ⟨b, 1, none⟩) h.hb _).setCell (p := ⟨b, 2, none⟩) h.hb _, hT⟩
theorem Add_nil (S : ByteArray) (w : World) : Calls Try.prog 13 #[.pointer none, .string S] w fun x w' => x = .returned (.tuple #[.string noS, .bool false, .int .i64 1]) ∧ w = w' := by
  go_enter Try.func13, Try.ntmps13
  go_wp2
  go_ret3
  exact ⟨rfl, rfl⟩
theorem Add_broken (S : ByteArray) (w : World) (h : Jn w b base most v L true) : Calls Try.prog 13 #[.pointer (some ⟨b, 0, none⟩), .string S] w (AdPost w b base most noS false 11 L true) := by
  obtain ⟨c0, c1, c2, f1, f2⟩ := h.facts
  go_enter Try.func13, Try.ntmps13
  go_wp2
  go_ret3
  exact ⟨v, rfl, h, Below.refl _ _, Oth.refl _⟩
theorem Add_none (S : ByteArray) (w : World) (h : Jn w b base most v L false) (hS : S.size = 0) : Calls Try.prog 13 #[.pointer (some ⟨b, 0, none⟩), .string S] w (AdPost w b base most noS false 6 [] true) := by
  obtain ⟨c0, c1, c2, f1, f2⟩ := h.facts
  have hb := Lib.hid (fun W (k : Jn W b base most v L false) => breaks_any 6 W k)
  have e1 : S.toList = [] := by
    have : S = noS := by
      apply ByteArray.ext
      exact Array.eq_empty_of_size_eq_zero hS
    subst this
    rw [ByteArray.toList_eq]
  go_enter Try.func13, Try.ntmps13
  go_wp2_with (first
    | (go_at_call 18; (with_reducible refine (hb.out _ h).mono ?_); rintro e w1 ⟨v', rfl, hJ, hB, hT⟩)
    )
  go_ret3
  exact ⟨v', rfl, hJ, hB, hT⟩
theorem nonempty (S : ByteArray) (hS : 0 < S.size) : S.toList.isEmpty = false := by
  rw [ByteArray.toList_eq]
  cases h : S.data.toList with
  | nil =>
    have := congrArg List.length h
    rw [Array.length_toList] at this
    have h2 : S.size = 0 := this
    omega
  | cons _ _ => rfl
theorem Add_form (S : ByteArray) (w : World) (h : Jn w b base most v L false) (hS : 0 < S.size) (hc : 1 < (S[0]'hS).toNat) : Calls Try.prog 13 #[.pointer (some ⟨b, 0, none⟩), .string S] w (AdPost w b base most noS false 6 [] true) := by
  obtain ⟨c0, c1, c2, f1, f2⟩ := h.facts
  have hb := Lib.hid (fun W (k : Jn W b base most v L false) => breaks_any 6 W k)
  have e1 := nonempty S hS
  have e2 : (((S[0]'hS).toNat : Int) != 0) = true := by simp; omega
  have e3 : (((S[0]'hS).toNat : Int) != 1) = true := by simp; omega
  go_enter Try.func13, Try.ntmps13
  go_wp2_with (first
    | (go_at_call 18; (with_reducible refine (hb.out _ h).mono ?_); rintro e w1 ⟨v', rfl, hJ, hB, hT⟩)
    )
  go_ret3
  exact ⟨v', rfl, hJ, hB, hT⟩
theorem Add_big (S : ByteArray) (w : World) (h : Jn w b base most v L false) (hS : 0 < S.size) (hc : (S[0]'hS).toNat ≤ 1) (hs : S.size ≤ 100000) (hl : L.length ≤ 100000) (m0 : 0 ≤ most) (m1 : most ≤ 65536) (hbig : most < (L.length : Int) + S.size - 1) :
    Calls Try.prog 13 #[.pointer (some ⟨b, 0, none⟩), .string S] w (AdPost w b base most noS false 4 [] true) := by
  obtain ⟨A, cap, rfl, hcp, hm⟩ := h.own.form
  obtain ⟨c0, c1, c2, f1, f2⟩ := h.facts
  have hb := Lib.hid (fun W (k : Jn W b base most (.slice A L.length cap) L false) => breaks_any 4 W k)
  have e1 := nonempty S hS
  have e2 : (((S[0]'hS).toNat : Int) != 0 && ((S[0]'hS).toNat : Int) != 1) = false := by
    rcases Nat.lt_or_ge (S[0]'hS).toNat 1 with h1 | h1
    · have : (S[0]'hS).toNat = 0 := by omega
      rw [this]; rfl
    · have : (S[0]'hS).toNat = 1 := by omega
      rw [this]; rfl
  have ew1 : IntKind.i64.wrap ((S.size : Int) - 1) = (S.size : Int) - 1 := IntWalk.i64_in _ (by omega)
  have ew2 : IntKind.i64.wrap (most - (L.length : Int)) = most - (L.length : Int) := IntWalk.i64_in _ (by omega)
  have hd : decide (most - (L.length : Int) < (S.size : Int) - 1) = true := by simp; omega
  by_cases h0 : (S[0]'hS).toNat = 0
  all_goals
    go_enter Try.func13, Try.ntmps13
    go_wp2_with (first
      | (go_at_call 18; (with_reducible refine (hb.out _ h).mono ?_); rintro e w1 ⟨v', rfl, hJ, hB, hT⟩)
      )
    go_quiet (fail)
    go_wp2_with (first
      | (go_at_call 18; (with_reducible refine (hb.out _ (h.kept ((Only.refl Nil w).drewN _))).mono ?_); rintro e w1 ⟨v', rfl, hJ, hB, hT⟩)
      )
    go_ret3
    exact ⟨v', rfl, hJ, (((Only.refl Nil w).drewN _).below h.sz (fun _ _ hh => hh)).trans hB, (Oth.of_nil ((Only.refl Nil w).drewN _)).trans hT⟩
set_option maxHeartbeats 2000000 in
theorem Add_more (S : ByteArray) (w : World) (h : Jn w b base most v L false) (hS : 0 < S.size) (hc : (S[0]'hS).toNat = 1) (hs : S.size ≤ 100000) (hl : L.length ≤ 100000) (m0 : 0 ≤ most) (m1 : most ≤ 65536) (hbig : (L.length : Int) + S.size - 1 ≤ most) :
    Calls Try.prog 13 #[.pointer (some ⟨b, 0, none⟩), .string S] w (AdPost w b base most noS false 0 (L ++ S.data.toList.tail) false) := by
  have hsz := h.sz
  have hO := h.own
  have hB := h.blk
  have hhb := h.hb
  obtain ⟨A, cap, rfl, hcp, hm⟩ := h.own.form
  obtain ⟨c0, c1, c2, f1, f2⟩ := h.facts
  have e1 := nonempty S hS
  have ew1 : IntKind.i64.wrap ((S.size : Int) - 1) = (S.size : Int) - 1 := IntWalk.i64_in _ (by omega)
  have ew2 : IntKind.i64.wrap (most - (L.length : Int)) = most - (L.length : Int) := IntWalk.i64_in _ (by omega)
  have hd : decide (most - (L.length : Int) < (S.size : Int) - 1) = false := by simp; omega
  have hne := hO.ne hB (by decide)
  have hZ : (S.extract 1 S.size).size = S.size - 1 := by simp
  have hSl : (S.extract 1 S.size).data.toList.length = S.size - 1 := by rw [ByteArray.toList_size', hZ]
  have hSd : (S.extract 1 S.size).data.toList = S.data.toList.tail := by rw [ext_on, strOf_toList, List.drop_one]
  obtain ⟨m, hm⟩ : ∃ m, m = L.length + (S.size - 1) := ⟨_, rfl⟩
  have HM := Lib.hid hm
  have HL := Lib.hid hSl
  have HD := Lib.hid hSd
  have hSi : (1 : Int) ≤ S.size := by omega
  clear hm hSl hSd hZ
  have e2 : (((S[0]'hS).toNat : Int) != 1) = false := by rw [hc]; rfl
  have e3 : (((S[0]'hS).toNat : Int) == 1) = true := by rw [hc]; rfl
  have e4 : (((S[0]'hS).toNat : Int) != 0) = true := by rw [hc]; rfl
  clear hc
  go_enter Try.func13, Try.ntmps13
  go_wp2
  go_quiet (fail)
  go_wp2
  have hnq := ((Only.refl Nil w).drewN nq).drew
  have hOd := hO.kept hnq (fun _ _ hh => hh)
  have hBd := hB.kept hnq (fun hh => hh)
  go_region_law (first
    | (refine step_app2 (by rfl) (.tmp 58) (.tmp 60) _ _ (by rfl) base 5 Try.underlying46 u8_info (by rfl) _ L (by rfl) hOd _ (S.extract 1 S.size).data.toList (by rfl) (Src.str Try.underlying9 _) (by rw [HL.out]; omega) (by decide) (by simpa using hsz) m (by rw [HL.out, HM.out]) (L ++ S.data.toList.tail) (by rw [HD.out]) ?_; intro A6 c6 w6 hown6 ho6 hg6; have hB6 := hBd.kept ho6 hne; have d1 := hB6.cell 1; have q1 := hB6.frozen 1; have hne6 := hown6.ne hB6 (by decide); have d2 := hB6.cell 2)
    )
  go_wp2
  go_ret3
  exact ⟨.slice A6 m c6, rfl, ⟨hB6.set 1 _, hown6.set hne6 1 _, hhb⟩, ((hnq.below hsz (fun _ _ hh => hh)).trans (ho6.below (by simpa using hsz) (fun i hi hh => by have := (hOd.lt hh).1; omega))).setCell (p := ⟨b, 1, none⟩) hhb _, ((Oth.of_nil hnq).own hOd ho6).set hB6 1 _⟩
set_option maxHeartbeats 2000000 in
theorem Add_last (S : ByteArray) (w : World) (h : Jn w b base most v L false) (hS : 0 < S.size) (hc : (S[0]'hS).toNat = 0) (hs : S.size ≤ 100000) (hl : L.length ≤ 100000) (m0 : 0 ≤ most) (m1 : most ≤ 65536) (hbig : (L.length : Int) + S.size - 1 ≤ most) :
    Calls Try.prog 13 #[.pointer (some ⟨b, 0, none⟩), .string S] w (AdPost w b base most (strOf (L ++ S.data.toList.tail)) true 0 [] false) := by
  have hsz := h.sz
  have hO := h.own
  have hB := h.blk
  have hhb := h.hb
  obtain ⟨A, cap, rfl, hcp, hm⟩ := h.own.form
  obtain ⟨c0, c1, c2, f1, f2⟩ := h.facts
  have e1 := nonempty S hS
  have ew1 : IntKind.i64.wrap ((S.size : Int) - 1) = (S.size : Int) - 1 := IntWalk.i64_in _ (by omega)
  have ew2 : IntKind.i64.wrap (most - (L.length : Int)) = most - (L.length : Int) := IntWalk.i64_in _ (by omega)
  have hd : decide (most - (L.length : Int) < (S.size : Int) - 1) = false := by simp; omega
  have hne := hO.ne hB (by decide)
  have hZ : (S.extract 1 S.size).size = S.size - 1 := by simp
  have hSl : (S.extract 1 S.size).data.toList.length = S.size - 1 := by rw [ByteArray.toList_size', hZ]
  have hSd : (S.extract 1 S.size).data.toList = S.data.toList.tail := by rw [ext_on, strOf_toList, List.drop_one]
  obtain ⟨m, hm⟩ : ∃ m, m = L.length + (S.size - 1) := ⟨_, rfl⟩
  have HM := Lib.hid hm
  have HL := Lib.hid hSl
  have HD := Lib.hid hSd
  have hSi : (1 : Int) ≤ S.size := by omega
  clear hm hSl hSd hZ
  have e2 : (((S[0]'hS).toNat : Int) != 0) = false := by rw [hc]; rfl
  have e3 : (((S[0]'hS).toNat : Int) == 1) = false := by rw [hc]; rfl
  clear hc
  go_enter Try.func13, Try.ntmps13
  go_wp2
  go_quiet (fail)
  go_wp2
  have hnq := ((Only.refl Nil w).drewN nq).drew
  have hOd := hO.kept hnq (fun _ _ hh => hh)
  have hBd := hB.kept hnq (fun hh => hh)
  go_region_law (first
    | (refine step_app2 (by rfl) (.tmp 58) (.tmp 60) _ _ (by rfl) base 5 Try.underlying46 u8_info (by rfl) _ L (by rfl) hOd _ (S.extract 1 S.size).data.toList (by rfl) (Src.str Try.underlying9 _) (by rw [HL.out]; omega) (by decide) (by simpa using hsz) m (by rw [HL.out, HM.out]) (L ++ S.data.toList.tail) (by rw [HD.out]) ?_; intro A6 c6 w6 hown6 ho6 hg6; have hB6 := hBd.kept ho6 hne; have d1 := hB6.cell 1; have q1 := hB6.frozen 1; have hne6 := hown6.ne hB6 (by decide); have d2 := hB6.cell 2)
    )
  have hstr := (hown6.set hne6 1 (.slice A6 m c6)).str (P := Try.prog) 46 5 9 Try.underlying46 Try.underlying5 Try.underlying9
  have hB7 := hB6.set 1 (.slice A6 m c6)
  have q7 := hB7.frozen 1
  go_wp2
  go_ret3
  exact ⟨.slice none 0 0, rfl, ⟨hB7.set 1 (.slice none 0 0), Ow.nil, hhb⟩, (((hnq.below hsz (fun _ _ hh => hh)).trans (ho6.below (by simpa using hsz) (fun i hi hh => by have := (hOd.lt hh).1; omega))).setCell (p := ⟨b, 1, none⟩) hhb _).setCell (p := ⟨b, 1, none⟩) hhb _, (((Oth.of_nil hnq).own hOd ho6).set hB6 1 _).set hB7 1 _⟩
end
end Go.Proofs.Ytipcggobcmbomaa
