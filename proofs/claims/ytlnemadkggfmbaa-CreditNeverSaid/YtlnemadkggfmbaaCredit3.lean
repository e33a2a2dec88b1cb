/- What Open does to a ledger that has room. -/
import Derived.Test.YtlnemadkggfmbaaCredit2
import Derived.Deep.RegionLaw
import Derived.Deep.DeepCutAuto
namespace Go.Proofs.Ytlnemadkggfmbaa
open Go.RowKit

/-- what a call leaves -/
def LPost (w : World) (b cb base : Nat) (v : Value) (L : List Gn) (r : Value) (C' S' : Int) (L' : List Gn) (x : Ending) (w' : World) : Prop :=
  ∃ v', x = .returned r ∧ Lg w' b cb base C' S' v' L' ∧ Only (Ft b cb v L) w w'
theorem cpy_up {α : Type} (I : List α) (z : α) (r : Nat) (h : r ≤ I.length) : cpy (I ++ [z]) (r + 1) r (min (I.length + 1 - r) (I.length + 1 - (r + 1))) = I.take r ++ ((I ++ [z]).drop r).take 1 ++ I.drop r := by
  have e : min (I.length + 1 - r) (I.length + 1 - (r + 1)) = I.length - r := by omega
  rw [e]
  unfold cpy
  have e1 : (I ++ [z]).take (r + 1) = I.take r ++ ((I ++ [z]).drop r).take 1 := by
    rw [List.take_add, List.take_append_of_le_length h]
  have e2 : ((I ++ [z]).drop r).take (I.length - r) = I.drop r := by
    rw [List.drop_append_of_le_length h, List.take_left' (by simp)]
  have e3 : (I ++ [z]).drop (r + 1 + (I.length - r)) = [] := List.drop_of_length_le (by simp; omega)
  rw [e1, e2, e3, List.append_nil]
theorem ins_up {α : Type} (I : List α) (z y : α) (r : Nat) (h : r ≤ I.length) : (cpy (I ++ [z]) (r + 1) r (min (I.length + 1 - r) (I.length + 1 - (r + 1)))).set r y = I.take r ++ y :: I.drop r := by
  rw [cpy_up I z r h]
  obtain ⟨x, hx⟩ : ∃ x, ((I ++ [z]).drop r).take 1 = [x] := List.length_eq_one_iff.1 (by simp; omega)
  rw [hx, List.append_assoc]
  have hl : (I.take r).length = r := by rw [List.length_take]; omega
  rw [List.set_append_right _ _ (by omega), hl, Nat.sub_self]
  rfl
theorem len_up {α : Type} (I : List α) (z : α) (r : Nat) (h : r ≤ I.length) : (cpy (I ++ [z]) (r + 1) r (min (I.length + 1 - r) (I.length + 1 - (r + 1)))).length = I.length + 1 := by
  rw [cpy_length _ _ _ _ (by simp; omega) (by simp; omega)]
  simp
/-- three cells of an element are written -/
theorem Ow.put3 {w : World} {base : Nat} {e : TypeId} {g o n cap : Nat} {l : List Ac} (h : Ow encA 3 w base e (.slice (some ⟨g, o, none⟩) n cap) l) (i : Nat) (hi : i < l.length) (y : Ac) :
    Ow encA 3 (((w.setCell ⟨g, o + i * 3, none⟩ (.int .i64 y.id)).setCell ⟨g, o + i * 3 + 1, none⟩ (.int .i64 y.s)).setCell ⟨g, o + i * 3 + 2, none⟩ (.pointer y.p)) base e (.slice (some ⟨g, o, none⟩) n cap) (l.set i y) := by
  obtain ⟨x, hx⟩ : ∃ x, l[i]? = some x := ⟨_, List.getElem?_eq_getElem hi⟩
  have h1 := h.putC encA_len i 0 hx (by decide) ⟨y.id, x.s, x.p⟩ (.int .i64 y.id) rfl
  have h2 := h1.putC encA_len i 1 (x := ⟨y.id, x.s, x.p⟩) (by simp [hi]) (by decide) ⟨y.id, y.s, x.p⟩ (.int .i64 y.s) rfl
  have h3 := h2.putC encA_len i 2 (x := ⟨y.id, y.s, x.p⟩) (by simp [hi]) (by decide) y (.pointer y.p) rfl
  simpa using h3
theorem Only.weaken' {S S' : Nat → Prop} {w w' : World} (h : Only S w w') (hs : ∀ i, S i → S' i) : Only S' w w' := h.weaken fun i _ hi => hs i hi
section
variable {w w' : World} {b cb base : Nat} {C S : Int} {v : Value} {L : List Gn}
theorem Open_arg (id n : Int) (w : World) (hid : id < 1 ∨ 2147483647 < id) : Calls Try.prog 11 #[.pointer (some ⟨b, 0, none⟩), .int .i64 id, .int .i64 n] w fun e w' => e = .returned (.int .i64 2) ∧ w = w' := by
  by_cases h1 : id < 1
  · clear hid
    go_enter Try.func11, Try.ntmps11
    go_wp2
    go_ret
    exact ⟨rfl, rfl⟩
  · have h2 : 2147483647 < id := by omega
    clear hid
    go_enter Try.func11, Try.ntmps11
    go_wp2
    go_ret
    exact ⟨rfl, rfl⟩
theorem Open_range (id n : Int) (w : World) (h1 : 1 ≤ id) (h2 : id ≤ 2147483647) (hn : ¬ (0 ≤ n ∧ n ≤ 2147483647)) : Calls Try.prog 11 #[.pointer (some ⟨b, 0, none⟩), .int .i64 id, .int .i64 n] w fun e w' => e = .returned (.int .i64 3) ∧ w = w' := by
  have HN := fun W => new_bad n W hn
  clear hn
  go_enter Try.func11, Try.ntmps11
  go_wp2_with (first
    | (go_at_call 20; (with_reducible refine (HN _).mono ?_); rintro e w1 ⟨rfl, rfl⟩)
    )
  go_ret
  exact ⟨rfl, rfl⟩
theorem Open_there (i : Nat) (x : Gn) (id n : Int) (w : World) (h : Lg w b cb base C S v L) (hl : L.length ≤ 1000) (hr : rise L) (hx : L[i]? = some x) (hid : x.id = id) (h1 : 1 ≤ id) (h2 : id ≤ 2147483647) (hn : 0 ≤ n ∧ n ≤ 2147483647) :
    Calls Try.prog 11 #[.pointer (some ⟨b, 0, none⟩), .int .i64 id, .int .i64 n] w fun e w' => e = .returned (.int .i64 8) ∧ Only Nil w w' := by
  have hP := Lib.hid (fun W (k : Lg W b cb base C S v L) => place_in i x id W k hl hr hx hid)
  have HN := Lib.hid fun W => new_any n W hn
  clear hn hx hr hid
  go_enter Try.func11, Try.ntmps11
  go_wp2_with (first
    | (go_at_call 20; (with_reducible refine (HN.out _).mono ?_); rintro e w1 ⟨b', rfl, hb', ho1, hW1⟩; have h1 := h.kept ho1)
    | (go_at_call 30; (with_reducible refine (hP.out _ h1).mono ?_); rintro e w2 ⟨rfl, ho2⟩)
    )
  go_ret
  exact ⟨rfl, ho1.trans ho2⟩
theorem Open_full (id n : Int) (w : World) (h : Lg w b cb base C S v L) (hl : L.length ≤ 1000) (ho : outL L id) (hf : 64 ≤ L.length) (h1 : 1 ≤ id) (h2 : id ≤ 2147483647) (hn : 0 ≤ n ∧ n ≤ 2147483647) :
    Calls Try.prog 11 #[.pointer (some ⟨b, 0, none⟩), .int .i64 id, .int .i64 n] w fun e w' => e = .returned (.int .i64 16) ∧ Only Nil w w' := by
  obtain ⟨A, cap, rfl, hcp, hm⟩ := h.own.form
  rw [List.length_map] at h hcp
  have hP := Lib.hid (fun W (k : Lg W b cb base C S (.slice A L.length cap) L) => place_out id W k hl ho)
  have HN := Lib.hid fun W => new_any n W hn
  generalize L.length = k at *
  clear hn ho
  go_enter Try.func11, Try.ntmps11
  go_wp2_with (first
    | (go_at_call 20; (with_reducible refine (HN.out _).mono ?_); rintro e w1 ⟨b', rfl, hb', ho1, hW1⟩; have h1 := h.kept ho1)
    | (go_at_call 30; (with_reducible refine (hP.out _ h1).mono ?_); rintro e w2 ⟨r, rfl, hr, ho2⟩; have h2 := h1.kept ho2; have k2 := h2.blk.cell 2)
    )
  go_ret
  exact ⟨rfl, ho1.trans ho2⟩
def OpPost (w : World) (b cb base : Nat) (C S : Int) (v : Value) (L : List Gn) (id n : Int) (x : Ending) (w' : World) : Prop :=
  ∃ (r wb : Nat), Pc L id r ∧ LPost w b cb base v L (.int .i64 0) C S (L.take r ++ ⟨id, 0, n, wb⟩ :: L.drop r) x w'
theorem op_nd {L : List Gn} {cb wb r : Nat} {id n : Int} (h : (cb :: L.map (·.b)).Nodup) (h1 : wb ≠ cb) (h2 : ∀ x ∈ L, x.b ≠ wb) : (cb :: (L.take r ++ ⟨id, 0, n, wb⟩ :: L.drop r).map (·.b)).Nodup := by
  have e : (cb :: (L.take r ++ ⟨id, 0, n, wb⟩ :: L.drop r).map (·.b)).Perm (wb :: cb :: L.map (·.b)) := by
    have e1 : ((L.take r ++ (⟨id, 0, n, wb⟩ : Gn) :: L.drop r)).Perm ((⟨id, 0, n, wb⟩ : Gn) :: L) := by
      have := List.perm_middle (a := (⟨id, 0, n, wb⟩ : Gn)) (l₁ := L.take r) (l₂ := L.drop r)
      rwa [List.take_append_drop] at this
    exact ((e1.map (·.b)).cons cb).trans (List.Perm.swap _ _ _)
  refine e.nodup_iff.2 (List.nodup_cons.2 ⟨?_, h⟩)
  simp only [List.mem_cons, List.mem_map, not_or, not_exists, not_and]
  exact ⟨h1, fun x hx => h2 x hx⟩
theorem op_map {L : List Gn} {r wb : Nat} {id n : Int} : acs (L.take r ++ ⟨id, 0, n, wb⟩ :: L.drop r) = (acs L).take r ++ ⟨id, 0, some ⟨wb, 0, none⟩⟩ :: (acs L).drop r := by
  simp [acs, List.map_take, List.map_drop, Gn.ac]
set_option maxRecDepth 100000 in
set_option maxHeartbeats 4000000 in
theorem Open_new (id n : Int) (w : World) (h : Lg w b cb base C S v L) (ho : outL L id) (hf : L.length < 64) (h1 : 1 ≤ id) (h2 : id ≤ 2147483647) (hn : 0 ≤ n ∧ n ≤ 2147483647) :
    Calls Try.prog 11 #[.pointer (some ⟨b, 0, none⟩), .int .i64 id, .int .i64 n] w (OpPost w b cb base C S v L id n) := by
  obtain ⟨A, cap, rfl, hcp, hm⟩ := h.own.form
  have hsz := h.sz
  rw [List.length_map] at h hcp
  have hP := Lib.hid (fun W (k : Lg W b cb base C S (.slice A L.length cap) L) => place_out id W k (by omega) ho)
  have HN := Lib.hid fun W => new_any n W hn
  have HL : Hid ((acs L).length = L.length) := Lib.hid (by simp [acs])
  have HF := Lib.hid (⟨h.nd, h.hb, h.hc, h.hw⟩ : (cb :: L.map (·.b)).Nodup ∧ base ≤ b ∧ base ≤ cb ∧ ∀ x ∈ L, base ≤ x.b)
  have HW := Lib.hid (fun x (hx : x ∈ L) => (h.wins x hx).lt)
  have Hc := Lib.hid h.conn.lt
  generalize hk : L.length = k at *
  have HK := Lib.hid hk
  clear hn ho hk
  go_enter Try.func11, Try.ntmps11
  go_wp2_with (first
    | (go_at_call 20; (with_reducible refine (HN.out _).mono ?_); rintro e w1 ⟨wb, rfl, hb', ho1, hW1⟩; have h1 := h.kept ho1)
    | (go_at_call 30; (with_reducible refine (hP.out _ h1).mono ?_); rintro e w2 ⟨r, rfl, hr, ho2⟩; have h2 := h1.kept ho2; have k2 := h2.blk.cell 2; have hW2 := Blk.kept hW1 ho2 (fun hh => hh); have ho12 := ho1.trans ho2; have hN1 := Blk.new w2 61 #[.int .i64 0, .int .i64 0, .pointer none]; have t1 := Src.one (P := Try.prog) (enc := encA) (tx := 52) Try.underlying52 (⟨0, 0, none⟩ : Ac) 1 rfl hN1 rfl (encA_one _); have hO1 := h2.own.alloc (.cells #[.int .i64 0, .int .i64 0, .pointer none] 61); have hB1 := h2.blk.alloc (.cells #[.int .i64 0, .int .i64 0, .pointer none] 61); have hne1 := hO1.ne hB1 (by decide); have hx1 := ho12.alloc (.cells #[.int .i64 0, .int .i64 0, .pointer none] 61))
    | (at_builtin
       refine wpList_app2 rfl (.tmp 48) (.tmp 50) _ _ rfl base 61 Try.underlying52 acc_info rfl _ (acs L) rfl hO1 _ [(⟨0, 0, none⟩ : Ac)] rfl t1 (by rw [la2' HL.out]; omega) (by decide) (Nat.le_trans hsz hx1.size) (k + 1) (la2' HL.out) _ rfl ?_
       intro A6 c6 w6 hown6 ho6 hg6
       have hB6 := hB1.kept ho6 hne1
       have d1 := hB6.cell 2
       have q1 := hB6.frozen 2)
    )
  have hne6 := hown6.ne hB6 (by decide)
  have hB7 := hB6.set 2 (.slice A6 (k + 1) c6)
  have hO7 := hown6.set hne6 2 (.slice A6 (k + 1) c6)
  have hz6 : Only (fun i => i = b ∨ (Value.slice A k cap).ownBlock = some i) w2 w6 := (((Only.refl Nil w2).alloc _).of_nil _).trans_new ho6 (fun i _ hh => .inr hh)
  have hz7 := hz6.setCell (p := ⟨b, 2, none⟩) (fun _ => .inl rfl) (.slice A6 (k + 1) c6)
  clear d1 q1 hB6 hown6 t1 hN1 hO1 hB1 hne1 hx1 ho6 hz6 k2 h1 hW1 hP HN h
  generalize w6.setCell ⟨b, 2, none⟩ (.slice A6 (k + 1) c6) = w7 at *
  obtain ⟨g6, o6, x6, rfl, _, _, _, _⟩ := (hO7.sqn (fun x _ => encA_len x)).at_ (k := 0) (by simp)
  have HG : Hid (g6 < w2.heap.size → g6 = b ∨ (Value.slice A k cap).ownBlock = some g6) := Lib.hid fun hlt => by
    rcases hg6 g6 rfl with h9 | h9
    · exact .inr h9
    · simp at h9
      omega
  have hl0 : (acs L).length = k := HL.out
  have hrI : r ≤ k := by have := hr.1; have := HK.out; omega
  have hp : Hid (Pc L id r) := Lib.hid hr
  have hI1 := Lib.hid (ins_up (acs L) ⟨0, 0, none⟩ ⟨id, 0, some ⟨wb, 0, none⟩⟩ r (by omega))
  have lI1 := len_up (acs L) ⟨0, 0, none⟩ r (by omega)
  rw [hl0] at hI1 lI1
  clear hr hl0 hg6
  have b1 : w7.drew.cell? ⟨b, 2, none⟩ = some (.slice (some ⟨g6, o6, none⟩) (k + 1) c6) := hB7.cell 2
  have ew : IntKind.i64.wrap ((r : Int) + 1) = (r : Int) + 1 := IntWalk.i64_in _ (by omega)
  have er : (r : Int) + 1 ≤ ((k + 1 : Nat) : Int) := by omega
  have er0 : (r : Int) ≤ ((k + 1 : Nat) : Int) := by omega
  have hc6 : k + 1 ≤ c6 := hO7.len.2.1
  have er2 : (0 : Int) ≤ (r : Int) + 1 := by omega
  have er3 : (r : Int) + 1 ≤ (k : Int) + 1 := by omega
  have er4 : (r : Int) ≤ (k : Int) + 1 := by omega
  go_region_held3 (fun w' => w'.cell? ⟨b, 2, none⟩ = some (.slice (some ⟨g6, o6, none⟩) (k + 1) c6)) (with_reducible (first | exact b1 | exact b1n)) (first
    | (refine step_cpyN (enc := encA) (by rfl) (.tmp 60) (.tmp 66) _ _ (by rfl) 61 Try.underlying52 acc_size encA_len encA_one hO7.drew _ _ _ _ _ _ (by rfl) (by rfl) (r + 1) r (by omega) (by omega) (by omega) (by omega) (by intro _; rw [if_neg (by omega)]; simp [Addr.add_lit]) (by intro _; rw [if_neg (by omega)]; simp [Addr.add_lit]) ?_; intro w10 h10 h11; have hB10 := Blk.kept hB7.drew h11.out hne6; have b1n : w10.cell? ⟨b, 2, none⟩ = some (.slice (some ⟨g6, o6, none⟩) (k + 1) c6) := hB10.cell 2)
    )
  all_goals
    have hO10 := h10.out
    have hz10 : Only (fun i => i = b ∨ (Value.slice A k cap).ownBlock = some i) w2 w10 := (hz7.drew).trans_new h11.out (fun i hi hh => by
      unfold ownB at hh
      simp [Value.ownBlock] at hh
      subst hh
      exact HG.out hi)
    generalize cpy (acs L ++ [⟨0, 0, none⟩]) (r + 1) r (min (k + 1 - r) (k + 1 - (r + 1))) = I1 at hO10 hI1 lI1
    clear h10 h11 b1 b1n hB7 hO7 hz7
    obtain ⟨_, _, x1, e1, _, hx1, _, hc1⟩ := (hO10.sqn (fun x _ => encA_len x)).at_ (k := r) (by omega)
    injection e1 with e1
    injection e1 with e1 e2
    subst e1 e2
    have y0 : w10.cell? ⟨g6, o6 + r * 3, none⟩ = some (.int .i64 x1.id) := hc1 0 (by decide)
    have y1 : w10.cell? ⟨g6, o6 + r * 3 + 1, none⟩ = some (.int .i64 x1.s) := hc1 1 (by decide)
    have y2 : w10.cell? ⟨g6, o6 + r * 3 + 2, none⟩ = some (.pointer x1.p) := hc1 2 (by decide)
    have z0 := hO10.frzN (o6 + r * 3)
    have z1 := hO10.frzN (o6 + r * 3 + 1)
    have z2 := hO10.frzN (o6 + r * 3 + 2)
    have k1 : w10.cell? ⟨b, 2, none⟩ = some (.slice (some ⟨g6, o6, none⟩) (k + 1) c6) := hB10.cell 2
    have es1 : (r : Int) < (k : Int) + 1 := by omega
    clear hc1 hx1
    go_wp2
    all_goals
      go_ret
      have p1 := hO10.put3 r (by omega) ⟨id, 0, some ⟨wb, 0, none⟩⟩
      rw [hI1.out, ← op_map (n := n)] at p1
      have hn6b : g6 ≠ b := fun e => hne6 (by rw [e]; rfl)
      have q1 := ((hB10.far (p := ⟨g6, o6 + r * 3, none⟩) hn6b.symm (.int .i64 id)).far (p := ⟨g6, o6 + r * 3 + 1, none⟩) hn6b.symm (.int .i64 0)).far (p := ⟨g6, o6 + r * 3 + 2, none⟩) hn6b.symm (.pointer (some ⟨wb, 0, none⟩))
      have hz11 := ((hz10.setCell (p := ⟨g6, o6 + r * 3, none⟩) HG.out (.int .i64 id)).setCell (p := ⟨g6, o6 + r * 3 + 1, none⟩) HG.out (.int .i64 0)).setCell (p := ⟨g6, o6 + r * 3 + 2, none⟩) HG.out (.pointer (some ⟨wb, 0, none⟩))
      obtain ⟨f1, f2, f3, f4⟩ := HF.out
      have hwin : ∀ {g : Nat} {m : Int}, Win w2 g m → ¬ (g = b ∨ (Value.slice A k cap).ownBlock = some g) := fun {g m} hg hh => by
        rcases hh with rfl | hh
        · exact absurd (hg.inj h2.blk).1 (by decide)
        · obtain ⟨cs, hcs⟩ := h2.own.blkOf hh
          exact absurd (hg.inj hcs).1 (by decide)
      have hw12 := ho1.size
      refine ⟨r, wb, hp.out, _, rfl, ⟨q1, h2.conn.kept hz11 (hwin h2.conn), p1, fun x hx => ?_, op_nd f1 (by have := Hc.out; omega) (fun x hx => by have := HW.out x hx; omega), f2, f3, fun x hx => ?_⟩, (ho12.of_nil _).trans (hz11.weaken' ?_)⟩
      · simp only [List.mem_append, List.mem_cons] at hx
        rcases hx with hx | rfl | hx
        · have := h2.wins x (List.mem_of_mem_take hx)
          exact this.kept hz11 (hwin this)
        · exact hW2.kept hz11 (hwin hW2)
        · have := h2.wins x (List.mem_of_mem_drop hx)
          exact this.kept hz11 (hwin this)
      · simp only [List.mem_append, List.mem_cons] at hx
        rcases hx with hx | rfl | hx
        · exact f4 x (List.mem_of_mem_take hx)
        · show base ≤ wb
          omega
        · exact f4 x (List.mem_of_mem_drop hx)
      · rintro i (rfl | hh)
        · exact .inl rfl
        · exact .inr (.inr (.inl (by rw [HK.out]; exact hh)))
end
end Go.Proofs.Ytlnemadkggfmbaa
