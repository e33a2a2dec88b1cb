/- For every list of choices: what one side sends the other one receives, in order, and at last both are in states that belong together (the statement LifeSides, as its card is given). No condition. -/
import Derived.Test.YtcidpnkdefmaoaaDoorCards
import Derived.Test.YtcidpnkdefmaoaaDoorTie
import Derived.Test.YtcidpnkdefmaoaaDoorAwake12
import Derived.Test.YtcidpnkdefmaoaaDoorSeq
import Derived.Deep.DeepHandedRow
namespace Go.Proofs.YtcidpnkdefmaoaaDoor
open Go.RowKit

def encI (z : Int) : List Value := [.int .i64 z]
structure Sd where
  s : Int
  t : Int
  a : List Int
  b : List Int
deriving DecidableEq
def Sd.s0 (x : Sd) : Sd := if nxE x.s 2 = 0 then ⟨evS x.s 2, x.t, x.a, x.b ++ [3]⟩ else x
def Sd.s1 (x : Sd) : Sd := if nxE x.s 4 = 0 then ⟨evS x.s 4, x.t, x.a, x.b ++ [5]⟩ else x
def Sd.s2 (x : Sd) : Sd := if nxE x.t 2 = 0 then ⟨x.s, evS x.t 2, x.a ++ [3], x.b⟩ else x
def Sd.s3 (x : Sd) : Sd := if nxE x.t 4 = 0 then ⟨x.s, evS x.t 4, x.a ++ [5], x.b⟩ else x
def Sd.s4 (x : Sd) : Sd := match x.b with | [] => x | e :: r => ⟨x.s, evS x.t e, x.a, r⟩
def Sd.s5 (x : Sd) : Sd := match x.a with | [] => x | e :: r => ⟨evS x.s e, x.t, r, x.b⟩
def Sd.all (x : Sd) : List Sd := [x.s0, x.s1, x.s2, x.s3, x.s4, x.s5]
def addNew (l : List Sd) : List Sd → List Sd
  | [] => l
  | x :: r => addNew (if x ∈ l then l else l ++ [x]) r
def grow : Nat → List Sd → List Sd
  | 0, l => l
  | n + 1, l => grow n (addNew l (l.flatMap Sd.all))
def reach : List Sd := grow 9 [⟨1, 0, [], [1]⟩]
def Sd.fin (x : Sd) : Bool :=
  let s := x.a.foldl evS x.s
  let t := x.b.foldl evS x.t
  (s == t && (s == 1 || s == 4)) || (s == 2 && t == 3) || (s == 3 && t == 2)
theorem reach_ok : (reach.all fun x => x.all.all (fun y => decide (y ∈ reach)) && x.fin && decide (x.a.length ≤ 4) && decide (x.b.length ≤ 4) && decide (0 ≤ x.s ∧ x.s ≤ 4 ∧ 0 ≤ x.t ∧ x.t ≤ 4)) = true := by decide +kernel
theorem reach_all {x : Sd} (h : x ∈ reach) : (x.s0 ∈ reach ∧ x.s1 ∈ reach ∧ x.s2 ∈ reach ∧ x.s3 ∈ reach ∧ x.s4 ∈ reach ∧ x.s5 ∈ reach) ∧ x.fin = true ∧ x.a.length ≤ 4 ∧ x.b.length ≤ 4 ∧ 0 ≤ x.s ∧ x.s ≤ 4 ∧ 0 ≤ x.t ∧ x.t ≤ 4 := by
  have := List.all_eq_true.1 reach_ok x h
  simp only [Bool.and_eq_true, decide_eq_true_eq, Sd.all, List.all_cons, List.all_nil, and_true] at this
  obtain ⟨⟨⟨⟨⟨h0, h1, h2, h3, h4, h5⟩, hf⟩, ha⟩, hb⟩, h6, h7, h8, h9⟩ := this
  exact ⟨⟨h0, h1, h2, h3, h4, h5⟩, hf, ha, hb, h6, h7, h8, h9⟩
theorem int_info : (Tryd.prog.info? 3).map (fun i => (i.zero, i.size, i.bytes)) = some (some (.int .i64 0), 1, 8) := by kernel_rfl
/-- two slices of the call's own, in different blocks -/
def Apart (u v : Value) : Prop := ∀ g, u.ownBlock = some g → v.ownBlock = some g → False

theorem fin_cases {s t : Int} {la lb : List Int} (h : Sd.fin ⟨s, t, la, lb⟩ = true) : (la.foldl evS s = 1 ∧ lb.foldl evS t = 1) ∨ (la.foldl evS s = 4 ∧ lb.foldl evS t = 4) ∨ (la.foldl evS s = 2 ∧ lb.foldl evS t = 3) ∨ (la.foldl evS s = 3 ∧ lb.foldl evS t = 2) := by
  unfold Sd.fin at h
  simp only [Bool.or_eq_true, Bool.and_eq_true, beq_iff_eq] at h
  omega
structure Inv (w0 : World) (b c : Nat) (x : Sd) (vb va : Value) (w : World) : Prop where
  F : Fol w
  La : Lf w b x.s
  Lb : Lf w c x.t
  ob : Ow encI 1 w w0.heap.size 3 vb x.b
  oa : Ow encI 1 w w0.heap.size 3 va x.a
  ap : Apart vb va
  B : Below w0.heap.size w0 w
section
variable {w0 w w' : World} {b c : Nat} {x : Sd} {vb va : Value} {S : Int}
theorem encI_len {l : List Int} : ∀ x ∈ l, (encI x).length = 1 := fun _ _ => rfl
theorem Inv.evA (h : Inv w0 b c x vb va w) (ho : Only (One b) w w') (hL : Lf w' b S) (hb : w0.heap.size ≤ b) (hbc : c ≠ b) (h0 : 0 < w0.heap.size) : Inv w0 b c ⟨S, x.t, x.a, x.b⟩ vb va w' :=
  ⟨Fol.kept h.F ho (by unfold One; omega), hL, Blk.kept h.Lb ho hbc, h.ob.kept ho (fun g hg hh => h.ob.ne h.La (by decide) (by rw [hg, hh])), h.oa.kept ho (fun g hg hh => h.oa.ne h.La (by decide) (by rw [hg, hh])), h.ap,
    h.B.trans (ho.below h.B.size (fun i hi hh => by unfold One at hh; omega))⟩
theorem Inv.evB (h : Inv w0 b c x vb va w) (ho : Only (One c) w w') (hL : Lf w' c S) (hc : w0.heap.size ≤ c) (hbc : b ≠ c) (h0 : 0 < w0.heap.size) : Inv w0 b c ⟨x.s, S, x.a, x.b⟩ vb va w' :=
  ⟨Fol.kept h.F ho (by unfold One; omega), Blk.kept h.La ho hbc, hL, h.ob.kept ho (fun g hg hh => h.ob.ne h.Lb (by decide) (by rw [hg, hh])), h.oa.kept ho (fun g hg hh => h.oa.ne h.Lb (by decide) (by rw [hg, hh])), h.ap,
    h.B.trans (ho.below h.B.size (fun i hi hh => by unfold One at hh; omega))⟩
theorem Inv.alloc (h : Inv w0 b c x vb va w) (o : Obj) : Inv w0 b c x vb va (w.alloc o) :=
  ⟨Fol.kept h.F ((Only.refl Nil w).alloc o) (fun hh => hh), Blk.alloc h.La o, Blk.alloc h.Lb o, h.ob.alloc o, h.oa.alloc o, h.ap, h.B.alloc h.B.size o⟩
theorem Inv.setB {vb' : Value} {lb : List Int} (h : Inv w0 b c x vb va w) (ho : Only (ownB vb) w w') (hn : Ow encI 1 w' w0.heap.size 3 vb' lb) (hg : ∀ g, vb'.ownBlock = some g → vb.ownBlock = some g ∨ g = w.heap.size) (h0 : 0 < w0.heap.size) :
    Inv w0 b c ⟨x.s, x.t, x.a, lb⟩ vb' va w' :=
  ⟨Fol.kept h.F ho (fun hh => by have := (h.ob.lt hh).1; omega), Blk.kept h.La ho (h.ob.ne h.La (by decide)), Blk.kept h.Lb ho (h.ob.ne h.Lb (by decide)), hn, h.oa.kept ho (fun g h1 h2 => h.ap g h2 h1),
    fun g h1 h2 => by
      rcases hg g h1 with h3 | h3
      · exact h.ap g h3 h2
      · have := (h.oa.lt h2).2
        omega,
    h.B.trans (ho.below h.B.size (fun i hi hh => by have := (h.ob.lt hh).1; omega))⟩
theorem Inv.setA {va' : Value} {la : List Int} (h : Inv w0 b c x vb va w) (ho : Only (ownB va) w w') (hn : Ow encI 1 w' w0.heap.size 3 va' la) (hg : ∀ g, va'.ownBlock = some g → va.ownBlock = some g ∨ g = w.heap.size) (h0 : 0 < w0.heap.size) :
    Inv w0 b c ⟨x.s, x.t, la, x.b⟩ vb va' w' :=
  ⟨Fol.kept h.F ho (fun hh => by have := (h.oa.lt hh).1; omega), Blk.kept h.La ho (h.oa.ne h.La (by decide)), Blk.kept h.Lb ho (h.oa.ne h.Lb (by decide)), h.ob.kept ho (fun g h1 h2 => h.ap g h1 h2), hn,
    fun g h1 h2 => by
      rcases hg g h2 with h3 | h3
      · exact h.ap g h1 h3
      · have := (h.ob.lt h1).2
        omega,
    h.B.trans (ho.below h.B.size (fun i hi hh => by have := (h.oa.lt hh).1; omega))⟩
theorem own_cut {A : Option Addr} {n n' cap cap' k m g : Nat} (h : (Value.slice (if cap = k then A else A.map (·.add m)) n cap').ownBlock = some g) : (Value.slice A n' cap).ownBlock = some g := by
  match A with
  | none => split at h <;> simp [Value.ownBlock] at h
  | some a =>
    split at h
    · exact h
    · simp only [Option.map_some, Value.ownBlock, Option.some.injEq] at h ⊢
      rw [← h]
      unfold Addr.add
      split <;> rfl
theorem Inv.cutB {A : Option Addr} {n cap : Nat} (h : Inv w0 b c x (.slice A n cap) va w) (hk : 1 ≤ x.b.length) : Inv w0 b c ⟨x.s, x.t, x.a, x.b.drop 1⟩ (.slice (if cap = 1 then A else A.map (·.add (1 * 1))) (n - 1) (cap - 1)) va w :=
  ⟨h.F, h.La, h.Lb, h.ob.drop encI_len rfl hk, h.oa, fun g h1 h2 => h.ap g (own_cut h1) h2, h.B⟩
theorem Inv.cutA {A : Option Addr} {n cap : Nat} (h : Inv w0 b c x vb (.slice A n cap) w) (hk : 1 ≤ x.a.length) : Inv w0 b c ⟨x.s, x.t, x.a.drop 1, x.b⟩ vb (.slice (if cap = 1 then A else A.map (·.add (1 * 1))) (n - 1) (cap - 1)) w :=
  ⟨h.F, h.La, h.Lb, h.ob, h.oa.drop encI_len rfl hk, fun g h1 h2 => h.ap g h1 (own_cut h2), h.B⟩
end

set_option maxRecDepth 100000 in
set_option maxHeartbeats 8000000 in
theorem lifeSides_walk (v0 : Value) (w : World) (h0 : Kd.Fit w (.slc (.int .u8)) v0) (hT : Tab w 0 tab_life_follows) :
    Calls Tryd.prog 5 #[v0] w fun e w' => e = .returned (.bool true) ∧ Below w.heap.size w w' := by
  obtain ⟨A, len, cap, rfl, hl⟩ := Kd.slc_fit h0
  clear h0
  have hlt0 := hT.lt
  go_enter Tryd.func5, Tryd.ntmps5
  go_wp2_with (first
    | (go_at_call 10; (with_reducible refine (New_any _).mono ?_); rintro e w1 ⟨b, rfl, hb, ho1, hL1⟩; have t1 := Fol.kept hT ho1 (fun hh => hh))
    | (go_at_call 10; (with_reducible refine (New_any _).mono ?_); rintro e w2 ⟨c, rfl, hc, ho2, hL2⟩; have t2 := Fol.kept t1 ho2 (fun hh => hh); have hL12 := Blk.kept hL1 ho2 (fun hh => hh))
    | (go_at_call 8; (with_reducible refine (awake_any _ t2).mono ?_); rintro e w3 ⟨rfl, ho3⟩; have t3 := Fol.kept t2 ho3 (fun hh => hh); have hL13 := Blk.kept hL12 ho3 (fun hh => hh); have hL23 := Blk.kept hL2 ho3 (fun hh => hh))
    | (go_at_call 11; (with_reducible refine (Event_at b 0 0 0 1 _ t3 hL13 (by decide) (by decide)).mono ?_); rintro e w4 ⟨rfl, ho4, hL14⟩)
    )
  go_loopw [5, 6, 7] (fun tb ta ii wr => ∃ (k : Nat) (x : Sd), k ≤ len ∧ ii = .int .i64 k ∧ x ∈ reach ∧ Inv w b c x tb ta wr) (fun _ _ ii _ => len - (intOf ii).toNat)
  case atStart =>
    refine ⟨0, ⟨1, 0, [], [1]⟩, Nat.zero_le _, rfl, by decide +kernel, ?_⟩
    have hB4 : Below w.heap.size w w4 := ((ho1.trans ho2).trans ho3).below (Nat.le_refl _) (fun _ _ hh => hh) |>.trans (ho4.below (by have := ho1.size; have := ho2.size; have := ho3.size; omega) (fun i hi hh => by unfold One at hh; omega))
    have hx4 : w.heap.size ≤ w4.heap.size := hB4.size
    have hbc : b < c := by have := hL1.lt; omega
    have hF4 := Fol.kept t3 ho4 (by unfold One; omega)
    have hc4 := Blk.kept hL23 ho4 (by unfold One; omega)
    have ha1 := (Only.refl Nil w4).alloc (.cells #[.int .i64 1] 3)
    have ha2 := ha1.alloc (.cells #[] 3)
    have hz : (w4.alloc (.cells #[.int .i64 1] 3)).heap.size = w4.heap.size + 1 := by simp
    refine ⟨Fol.kept hF4 ha2 (fun hh => hh), Blk.kept hL14 ha2 (fun hh => hh), Blk.kept hc4 ha2 (fun hh => hh), (Ow.lit w4 [1] rfl rfl (by simp [maxLen]) hx4).alloc _, ?_, ?_, hB4.trans (ha2.below hB4.size (fun _ _ hh => hh))⟩
    · have := Ow.lit (enc := encI) (sz := 1) (e := 3) (base := w.heap.size) (w4.alloc (.cells #[.int .i64 1] 3)) (cs := #[]) [] rfl rfl (by simp [maxLen]) (by omega)
      rw [hz] at this
      exact this
    · intro g h1 h2
      simp [Value.ownBlock] at h1 h2
      omega
  case round =>
    obtain ⟨k, x, hk, rfl, hx, hI⟩ := hrel
    have hbc : b < c := by have := hL1.lt; omega
    obtain ⟨hrs, hfin, hla, hlb, s0, s4, t0, t4⟩ := reach_all hx
    obtain ⟨s, t, la, lb⟩ := x
    obtain ⟨AB, capB, rfl, hcb, hmb⟩ := hI.ob.form
    obtain ⟨AA, capA, rfl, hca, hma⟩ := hI.oa.form
    dsimp only at *
    have hmax : len ≤ 9223372036854775807 := Nat.le_trans hl.1 hl.2.1
    by_cases hlt : k < len
    · by_cases h100 : k < 200
      · obtain ⟨b', off, rfl, hb', cs, hcl, hcs, his⟩ := hl.at (by decide) hlt
        obtain ⟨z, rfl, hz⟩ := his
        have hc0 := hcs 0 (by decide)
        simp [Kd.cells] at hc0
        obtain ⟨z0, z255⟩ := u8_of hz
        have f0 := (hI.B.cell (p := ⟨b', off + k, none⟩) hb').trans hc0
        have hz6 : z % 6 = 0 ∨ z % 6 = 1 ∨ z % 6 = 2 ∨ z % 6 = 3 ∨ z % 6 = 4 ∨ z % 6 = 5 := by omega
        clear hz hcl hcs hc0
        rcases hz6 with h6 | h6 | h6 | h6 | h6 | h6
        ·
          by_cases hE : nxE s 2 = 0
          · have hev := fun (W : World) (hf : Fol W) (hl : Lf W b s) => Event_at b s 2 0 (evS s 2) W hf hl hE rfl
            have hr := hrs.1
            unfold Sd.s0 at hr
            dsimp only at hr
            rw [if_pos hE] at hr
            generalize evS s 2 = S at hev hr
            go_wp2_with (first
              | (go_at_call 11; (with_reducible refine (hev _ hI.F hI.La).mono ?_); rintro e w5 ⟨rfl, ho5, hL5⟩; have hI5 := (hI.evA ho5 hL5 hb (by omega) hlt0).alloc (.cells #[.int .i64 3] 3))
              | (at_builtin
                 refine wpList_app rfl (.tmp 51) (.tmp 52) _ _ rfl w.heap.size 3 Tryd.underlying28 int_info rfl _ lb rfl hI5.ob _ [3] rfl (Src.one (enc := encI) Tryd.underlying28 3 1 rfl (Blk.new w5 _ _) rfl (by simp [encI, Value.oneCell'])) (by simp; omega) (by decide) hI5.B.size ?_
                 intro A6 c6 w6 hown6 ho6 hg6
                 have hI6 := hI5.setB ho6 hown6 hg6 hlt0)
              )
            go_roundw
            case rel => exact ⟨k + 1, ⟨S, t, la, lb ++ [3]⟩, by omega, by go_num, hr, hI6⟩
            case measure => simp [intOf]; omega
          · have hE' : (nxE s 2 == 0) = false := by simpa using hE
            have hev := fun (W : World) (hf : Fol W) (hl : Lf W b s) => Event_at b s 2 (nxE s 2) s W hf hl rfl (by unfold evS; rw [if_neg hE])
            clear hE hrs
            generalize nxE s 2 = E at hev hE'
            go_wp2_with (first
              | (go_at_call 11; (with_reducible refine (hev _ hI.F hI.La).mono ?_); rintro e w5 ⟨rfl, ho5, hL5⟩; have hI5 := hI.evA ho5 hL5 hb (by omega) hlt0)
              )
            go_roundw
            case rel => exact ⟨k + 1, ⟨s, t, la, lb⟩, by omega, by go_num, hx, hI5⟩
            case measure => simp [intOf]; omega
        ·
          by_cases hE : nxE s 4 = 0
          · have hev := fun (W : World) (hf : Fol W) (hl : Lf W b s) => Event_at b s 4 0 (evS s 4) W hf hl hE rfl
            have hr := hrs.2.1
            unfold Sd.s1 at hr
            dsimp only at hr
            rw [if_pos hE] at hr
            generalize evS s 4 = S at hev hr
            go_wp2_with (first
              | (go_at_call 11; (with_reducible refine (hev _ hI.F hI.La).mono ?_); rintro e w5 ⟨rfl, ho5, hL5⟩; have hI5 := (hI.evA ho5 hL5 hb (by omega) hlt0).alloc (.cells #[.int .i64 5] 3))
              | (at_builtin
                 refine wpList_app rfl (.tmp 59) (.tmp 60) _ _ rfl w.heap.size 3 Tryd.underlying28 int_info rfl _ lb rfl hI5.ob _ [5] rfl (Src.one (enc := encI) Tryd.underlying28 5 1 rfl (Blk.new w5 _ _) rfl (by simp [encI, Value.oneCell'])) (by simp; omega) (by decide) hI5.B.size ?_
                 intro A6 c6 w6 hown6 ho6 hg6
                 have hI6 := hI5.setB ho6 hown6 hg6 hlt0)
              )
            go_roundw
            case rel => exact ⟨k + 1, ⟨S, t, la, lb ++ [5]⟩, by omega, by go_num, hr, hI6⟩
            case measure => simp [intOf]; omega
          · have hE' : (nxE s 4 == 0) = false := by simpa using hE
            have hev := fun (W : World) (hf : Fol W) (hl : Lf W b s) => Event_at b s 4 (nxE s 4) s W hf hl rfl (by unfold evS; rw [if_neg hE])
            clear hE hrs
            generalize nxE s 4 = E at hev hE'
            go_wp2_with (first
              | (go_at_call 11; (with_reducible refine (hev _ hI.F hI.La).mono ?_); rintro e w5 ⟨rfl, ho5, hL5⟩; have hI5 := hI.evA ho5 hL5 hb (by omega) hlt0)
              )
            go_roundw
            case rel => exact ⟨k + 1, ⟨s, t, la, lb⟩, by omega, by go_num, hx, hI5⟩
            case measure => simp [intOf]; omega
        ·
          by_cases hE : nxE t 2 = 0
          · have hev := fun (W : World) (hf : Fol W) (hl : Lf W c t) => Event_at c t 2 0 (evS t 2) W hf hl hE rfl
            have hr := hrs.2.2.1
            unfold Sd.s2 at hr
            dsimp only at hr
            rw [if_pos hE] at hr
            generalize evS t 2 = S at hev hr
            go_wp2_with (first
              | (go_at_call 11; (with_reducible refine (hev _ hI.F hI.Lb).mono ?_); rintro e w5 ⟨rfl, ho5, hL5⟩; have hI5 := (hI.evB ho5 hL5 (by omega) (by omega) hlt0).alloc (.cells #[.int .i64 3] 3))
              | (at_builtin
                 refine wpList_app rfl (.tmp 67) (.tmp 68) _ _ rfl w.heap.size 3 Tryd.underlying28 int_info rfl _ la rfl hI5.oa _ [3] rfl (Src.one (enc := encI) Tryd.underlying28 3 1 rfl (Blk.new w5 _ _) rfl (by simp [encI, Value.oneCell'])) (by simp; omega) (by decide) hI5.B.size ?_
                 intro A6 c6 w6 hown6 ho6 hg6
                 have hI6 := hI5.setA ho6 hown6 hg6 hlt0)
              )
            go_roundw
            case rel => exact ⟨k + 1, ⟨s, S, la ++ [3], lb⟩, by omega, by go_num, hr, hI6⟩
            case measure => simp [intOf]; omega
          · have hE' : (nxE t 2 == 0) = false := by simpa using hE
            have hev := fun (W : World) (hf : Fol W) (hl : Lf W c t) => Event_at c t 2 (nxE t 2) t W hf hl rfl (by unfold evS; rw [if_neg hE])
            clear hE hrs
            generalize nxE t 2 = E at hev hE'
            go_wp2_with (first
              | (go_at_call 11; (with_reducible refine (hev _ hI.F hI.Lb).mono ?_); rintro e w5 ⟨rfl, ho5, hL5⟩; have hI5 := hI.evB ho5 hL5 (by omega) (by omega) hlt0)
              )
            go_roundw
            case rel => exact ⟨k + 1, ⟨s, t, la, lb⟩, by omega, by go_num, hx, hI5⟩
            case measure => simp [intOf]; omega
        ·
          by_cases hE : nxE t 4 = 0
          · have hev := fun (W : World) (hf : Fol W) (hl : Lf W c t) => Event_at c t 4 0 (evS t 4) W hf hl hE rfl
            have hr := hrs.2.2.2.1
            unfold Sd.s3 at hr
            dsimp only at hr
            rw [if_pos hE] at hr
            generalize evS t 4 = S at hev hr
            go_wp2_with (first
              | (go_at_call 11; (with_reducible refine (hev _ hI.F hI.Lb).mono ?_); rintro e w5 ⟨rfl, ho5, hL5⟩; have hI5 := (hI.evB ho5 hL5 (by omega) (by omega) hlt0).alloc (.cells #[.int .i64 5] 3))
              | (at_builtin
                 refine wpList_app rfl (.tmp 75) (.tmp 76) _ _ rfl w.heap.size 3 Tryd.underlying28 int_info rfl _ la rfl hI5.oa _ [5] rfl (Src.one (enc := encI) Tryd.underlying28 5 1 rfl (Blk.new w5 _ _) rfl (by simp [encI, Value.oneCell'])) (by simp; omega) (by decide) hI5.B.size ?_
                 intro A6 c6 w6 hown6 ho6 hg6
                 have hI6 := hI5.setA ho6 hown6 hg6 hlt0)
              )
            go_roundw
            case rel => exact ⟨k + 1, ⟨s, S, la ++ [5], lb⟩, by omega, by go_num, hr, hI6⟩
            case measure => simp [intOf]; omega
          · have hE' : (nxE t 4 == 0) = false := by simpa using hE
            have hev := fun (W : World) (hf : Fol W) (hl : Lf W c t) => Event_at c t 4 (nxE t 4) t W hf hl rfl (by unfold evS; rw [if_neg hE])
            clear hE hrs
            generalize nxE t 4 = E at hev hE'
            go_wp2_with (first
              | (go_at_call 11; (with_reducible refine (hev _ hI.F hI.Lb).mono ?_); rintro e w5 ⟨rfl, ho5, hL5⟩; have hI5 := hI.evB ho5 hL5 (by omega) (by omega) hlt0)
              )
            go_roundw
            case rel => exact ⟨k + 1, ⟨s, t, la, lb⟩, by omega, by go_num, hx, hI5⟩
            case measure => simp [intOf]; omega
        · rcases lb with _ | ⟨e, r⟩
          · go_wp2
            go_roundw
            case rel => exact ⟨k + 1, ⟨s, t, la, []⟩, by omega, by go_num, hx, hI⟩
            case measure => simp [intOf]; omega
          · have hr := hrs.2.2.2.2.1
            unfold Sd.s4 at hr
            dsimp only at hr
            have hev := fun (W : World) (hf : Fol W) (hl : Lf W c t) => Event_at c t e (nxE t e) (evS t e) W hf hl rfl rfl
            generalize nxE t e = E at hev
            generalize evS t e = S at hev hr
            obtain ⟨bq, offq, xq, rfl, hbq, hxq, _, hcq⟩ := (hI.ob.sq encI_len rfl).at_ (k := 0) (by simp)
            simp at hxq
            subst hxq
            have f1 : wr.cell? ⟨bq, offq, none⟩ = some (.int .i64 e) := by simpa [encI] using hcq 0 (by decide)
            go_wp2_with (first
              | (go_at_call 11; (with_reducible refine (hev _ hI.F hI.Lb).mono ?_); rintro e w5 ⟨rfl, ho5, hL5⟩; have hI5 := (hI.evB ho5 hL5 (by omega) (by omega) hlt0).cutB (by simp))
              )
            go_roundw
            case rel => exact ⟨k + 1, ⟨s, S, la, r⟩, by omega, by go_num, hr, hI5⟩
            case measure => simp [intOf]; omega
        · rcases la with _ | ⟨e, r⟩
          · go_wp2
            go_roundw
            case rel => exact ⟨k + 1, ⟨s, t, [], lb⟩, by omega, by go_num, hx, hI⟩
            case measure => simp [intOf]; omega
          · have hr := hrs.2.2.2.2.2
            unfold Sd.s5 at hr
            dsimp only at hr
            have hev := fun (W : World) (hf : Fol W) (hl : Lf W b s) => Event_at b s e (nxE s e) (evS s e) W hf hl rfl rfl
            generalize nxE s e = E at hev
            generalize evS s e = S at hev hr
            obtain ⟨bq, offq, xq, rfl, hbq, hxq, _, hcq⟩ := (hI.oa.sq encI_len rfl).at_ (k := 0) (by simp)
            simp at hxq
            subst hxq
            have f1 : wr.cell? ⟨bq, offq, none⟩ = some (.int .i64 e) := by simpa [encI] using hcq 0 (by decide)
            go_wp2_with (first
              | (go_at_call 11; (with_reducible refine (hev _ hI.F hI.La).mono ?_); rintro e w5 ⟨rfl, ho5, hL5⟩; have hI5 := (hI.evA ho5 hL5 hb (by omega) hlt0).cutA (by simp))
              )
            go_roundw
            case rel => exact ⟨k + 1, ⟨S, t, r, lb⟩, by omega, by go_num, hr, hI5⟩
            case measure => simp [intOf]; omega
      ·
        clear hrs hx
        have hfc := fin_cases hfin
        clear hfin
        go_wp2
        go_loopw [8] (fun jj wq => ∃ (j : Nat), j ≤ lb.length ∧ jj = .int .i64 j ∧ Inv w b c ⟨s, (lb.take j).foldl evS t, la, lb⟩ (.slice AB lb.length capB) (.slice AA la.length capA) wq) (fun jj _ => lb.length - (intOf jj).toNat)
        case atStart => exact ⟨0, Nat.zero_le _, rfl, hI⟩
        case round =>
          clear hI
          obtain ⟨j, hj, rfl, hI⟩ := hrel
          by_cases hjl : j < lb.length
          · obtain ⟨bq, offq, x, rfl, hbq, hxq, _, hcq⟩ := (hI.ob.sq encI_len rfl).at_ hjl
            have f1 := hcq 0 (by decide)
            simp [encI] at f1
            have hnx : (lb.take (j + 1)).foldl evS t = evS ((lb.take j).foldl evS t) x := by rw [List.take_add_one, hxq, List.foldl_append]; rfl
            have hev := fun (W : World) (T : Int) (hf : Fol W) (hl : Lf W c T) => Event_at c T x (nxE T x) (evS T x) W hf hl rfl rfl
            generalize (lb.take j).foldl evS t = T0 at hnx hI
            have HX := Lib.hid hnx
            clear hnx
            go_wp2_with (first
              | (go_at_call 11; (with_reducible refine (hev _ T0 hI.F hI.Lb).mono ?_); rintro e w5 ⟨rfl, ho5, hL5⟩; have hI5 := hI.evB ho5 hL5 (by omega) (by omega) hlt0)
              )
            go_roundw
            case rel => exact ⟨j + 1, by omega, by go_num, by rw [HX.out]; exact hI5⟩
            case measure => simp [intOf]; omega
          · have hjn : j = lb.length := by omega
            subst hjn
            rw [List.take_length] at hI
            generalize lb.foldl evS t = T at hI hfc
            go_wp2
            go_loopw [9] (fun jj wu => ∃ (j : Nat), j ≤ la.length ∧ jj = .int .i64 j ∧ Inv w b c ⟨(la.take j).foldl evS s, T, la, lb⟩ (.slice AB lb.length capB) (.slice AA la.length capA) wu) (fun jj _ => la.length - (intOf jj).toNat)
            case atStart => exact ⟨0, Nat.zero_le _, rfl, hI⟩
            case round =>
              clear hI
              obtain ⟨j, hj, rfl, hI⟩ := hrel
              by_cases hjl2 : j < la.length
              · obtain ⟨bq, offq, x, rfl, hbq, hxq, _, hcq⟩ := (hI.oa.sq encI_len rfl).at_ hjl2
                have f1 := hcq 0 (by decide)
                simp [encI] at f1
                have hnx : (la.take (j + 1)).foldl evS s = evS ((la.take j).foldl evS s) x := by rw [List.take_add_one, hxq, List.foldl_append]; rfl
                have hev := fun (W : World) (T : Int) (hf : Fol W) (hl : Lf W b T) => Event_at b T x (nxE T x) (evS T x) W hf hl rfl rfl
                generalize (la.take j).foldl evS s = T0 at hnx hI
                have HX := Lib.hid hnx
                clear hnx
                go_wp2_with (first
                  | (go_at_call 11; (with_reducible refine (hev _ T0 hI.F hI.La).mono ?_); rintro e w5 ⟨rfl, ho5, hL5⟩; have hI5 := hI.evA ho5 hL5 hb (by omega) hlt0)
                  )
                go_roundw
                case rel => exact ⟨j + 1, by omega, by go_num, by rw [HX.out]; exact hI5⟩
                case measure => simp [intOf]; omega
              · have hjn : j = la.length := by omega
                subst hjn
                rw [List.take_length] at hI
                generalize la.foldl evS s = S at hI hfc
                rcases hfc with ⟨rfl, rfl⟩ | ⟨rfl, rfl⟩ | ⟨rfl, rfl⟩ | ⟨rfl, rfl⟩
                all_goals
                  go_wp2_with (first
                    | (go_at_call 12; (with_reducible refine (State_any b _ _ hI.La).mono ?_); rintro e w5 ⟨rfl, rfl⟩)
                    | (go_at_call 12; (with_reducible refine (State_any c _ _ hI.Lb).mono ?_); rintro e w5 ⟨rfl, rfl⟩)
                    )
                  go_ret
                  exact ⟨rfl, hI.B⟩
    ·
      clear hrs hx
      have hfc := fin_cases hfin
      clear hfin
      go_wp2
      go_loopw [8] (fun jj wq => ∃ (j : Nat), j ≤ lb.length ∧ jj = .int .i64 j ∧ Inv w b c ⟨s, (lb.take j).foldl evS t, la, lb⟩ (.slice AB lb.length capB) (.slice AA la.length capA) wq) (fun jj _ => lb.length - (intOf jj).toNat)
      case atStart => exact ⟨0, Nat.zero_le _, rfl, hI⟩
      case round =>
        clear hI
        obtain ⟨j, hj, rfl, hI⟩ := hrel
        by_cases hjl : j < lb.length
        · obtain ⟨bq, offq, x, rfl, hbq, hxq, _, hcq⟩ := (hI.ob.sq encI_len rfl).at_ hjl
          have f1 := hcq 0 (by decide)
          simp [encI] at f1
          have hnx : (lb.take (j + 1)).foldl evS t = evS ((lb.take j).foldl evS t) x := by rw [List.take_add_one, hxq, List.foldl_append]; rfl
          have hev := fun (W : World) (T : Int) (hf : Fol W) (hl : Lf W c T) => Event_at c T x (nxE T x) (evS T x) W hf hl rfl rfl
          generalize (lb.take j).foldl evS t = T0 at hnx hI
          have HX := Lib.hid hnx
          clear hnx
          go_wp2_with (first
            | (go_at_call 11; (with_reducible refine (hev _ T0 hI.F hI.Lb).mono ?_); rintro e w5 ⟨rfl, ho5, hL5⟩; have hI5 := hI.evB ho5 hL5 (by omega) (by omega) hlt0)
            )
          go_roundw
          case rel => exact ⟨j + 1, by omega, by go_num, by rw [HX.out]; exact hI5⟩
          case measure => simp [intOf]; omega
        · have hjn : j = lb.length := by omega
          subst hjn
          rw [List.take_length] at hI
          generalize lb.foldl evS t = T at hI hfc
          go_wp2
          go_loopw [9] (fun jj wu => ∃ (j : Nat), j ≤ la.length ∧ jj = .int .i64 j ∧ Inv w b c ⟨(la.take j).foldl evS s, T, la, lb⟩ (.slice AB lb.length capB) (.slice AA la.length capA) wu) (fun jj _ => la.length - (intOf jj).toNat)
          case atStart => exact ⟨0, Nat.zero_le _, rfl, hI⟩
          case round =>
            clear hI
            obtain ⟨j, hj, rfl, hI⟩ := hrel
            by_cases hjl2 : j < la.length
            · obtain ⟨bq, offq, x, rfl, hbq, hxq, _, hcq⟩ := (hI.oa.sq encI_len rfl).at_ hjl2
              have f1 := hcq 0 (by decide)
              simp [encI] at f1
              have hnx : (la.take (j + 1)).foldl evS s = evS ((la.take j).foldl evS s) x := by rw [List.take_add_one, hxq, List.foldl_append]; rfl
              have hev := fun (W : World) (T : Int) (hf : Fol W) (hl : Lf W b T) => Event_at b T x (nxE T x) (evS T x) W hf hl rfl rfl
              generalize (la.take j).foldl evS s = T0 at hnx hI
              have HX := Lib.hid hnx
              clear hnx
              go_wp2_with (first
                | (go_at_call 11; (with_reducible refine (hev _ T0 hI.F hI.La).mono ?_); rintro e w5 ⟨rfl, ho5, hL5⟩; have hI5 := hI.evA ho5 hL5 hb (by omega) hlt0)
                )
              go_roundw
              case rel => exact ⟨j + 1, by omega, by go_num, by rw [HX.out]; exact hI5⟩
              case measure => simp [intOf]; omega
            · have hjn : j = la.length := by omega
              subst hjn
              rw [List.take_length] at hI
              generalize la.foldl evS s = S at hI hfc
              rcases hfc with ⟨rfl, rfl⟩ | ⟨rfl, rfl⟩ | ⟨rfl, rfl⟩ | ⟨rfl, rfl⟩
              all_goals
                go_wp2_with (first
                  | (go_at_call 12; (with_reducible refine (State_any b _ _ hI.La).mono ?_); rintro e w5 ⟨rfl, rfl⟩)
                  | (go_at_call 12; (with_reducible refine (State_any c _ _ hI.Lb).mono ?_); rintro e w5 ⟨rfl, rfl⟩)
                  )
                go_ret
                exact ⟨rfl, hI.B⟩
/-! The step from the walk to the statement of LifeSides. -/
namespace frLifeSides
open Go.ChangeShapes Go.WideShapes Go.ChangeAt Go.RowKit
set_option linter.unusedVariables false
theorem own : ownKnob Tryd.prog.godebug = none := by kernel_rfl
theorem laidOut : laidOutB Tryd.prog = true := by kernel_rfl
theorem shape0 : Kd.ok Tryd.prog (.slc (.int .u8)) 34 = true := by kernel_rfl
theorem tabs {W : World} (h : laidMetH Tryd.prog Rows.lifeSidesRow.laid W) : Tab W 0 tab_life_follows := by
  have h0 : laidMet Tryd.prog [("paternoster/life.follows", Rows.laid_paternoster_life_follows)] W := h
  obtain ⟨t0, h1⟩ := Tab.of_var tab_life_follows_g tab_life_follows_ty tab_life_follows_ok tab_life_follows_vals (by decide) h0
  exact t0
set_option maxRecDepth 100000 in
theorem contract (H : Type) (enc : TypeId × Value → H) (W : World) (base : Nat) (args : Array Value) (ds gs : List (DataW H)) (before : List MemPlace)
    (hval : ∀ (j : Nat) t v, Tryd.f5.params[j]? = some t → args[j]? = some v → Value.okWide Tryd.prog W .any base t v)
    (hW : DataW.Whole enc Tryd.prog Tryd.f5.params.toList Rows.lifeSidesSpec.vars false W args.toList ds gs before) (hL : laidMetH Tryd.prog Rows.lifeSidesRow.laid W) :
    Calls Tryd.prog 5 args W fun e W' => ∃ v, e = .returned v ∧ Rows.lifeSidesSpec.post enc Tryd.prog Tryd.f5 false true false false W args v W' := by
  have hT := tabs hL
  have hW' := hW
  obtain ⟨p, q, hA0, hV, rfl, hfz, hnd⟩ := hW
  have hA : DataW.TrodAll enc Tryd.prog W 0 (fun _ => true) true Tryd.f5.params.toList args.toList ds p := hA0
  rw [Tryd.params5] at hA hval
  obtain ⟨v0, vs0, d0, ds0, p0, q0, hargs, rfl, rfl, h0, r0⟩ := trodAll_cons hA
  obtain ⟨rfl, rfl, rfl⟩ := trodAll_nil r0
  obtain rfl : args = #[v0] := by cases args; simp_all
  obtain ⟨rfl, rfl⟩ := trodVars_none hV
  have k0 := Kd.fit _ shape0 (hval 0 34 v0 rfl rfl) h0
  have lt0 : ∀ x ∈ p0, x.block < W.heap.size := by obtain ⟨m, hm⟩ := h0; exact DataW.trod_lt m _ _ _ hm
  refine (lifeSides_walk v0 W k0 hT).mono fun e W' ⟨he, bel⟩ => ?_
  subst he
  exact ⟨_, rfl, _, _, _, [], _, [], hW', trodAll_mk1 (shut_bool Tryd.underlying4 _), (trodAll_cons_mk (Below.trod laidOut (by kernel_rfl) (of_decide_eq_true (by kernel_rfl)) h0 bel lt0) trodAll_mk0), rfl, bel.frame _, fun h => by cases h⟩
noncomputable def laidWorld (os : Os) : World := { World.holding Tryd.prog os ⟨#[], #[], []⟩ with heap := ((World.holding Tryd.prog os ⟨#[], #[], []⟩).heap.modify 0 fun | .cells _ t frozen => .cells tab_life_follows t frozen | o => o) }
theorem laid_met (os : Os) : laidMet Tryd.prog Rows.lifeSidesRow.laid ((laidWorld os).forCall (fun _ _ => 0) ⟨#[], #[.slice none 0 0], []⟩).memory :=
  laidMet_of_run' 8 (by kernel_rfl) (by kernel_rfl)
theorem reads (os : Os) {H : Type} (enc : TypeId × Value → H) : ∃ places, DataW.whole enc Tryd.prog ((laidWorld os).forCall (fun _ _ => 0) ⟨#[], #[.slice none 0 0], []⟩).memory Tryd.f5.params.toList Rows.lifeSidesSpec.vars false (#[.slice none 0 0] : Array Value).toList 8 = some ([.nil], [], places) :=
  ⟨[], by kernel_rfl⟩
set_option maxRecDepth 100000 in
theorem lifted (os : Os) (started : os.Started) (H : Type) (enc : TypeId × Value → H) (F : Stop.Interp) :
    ReturnsInHanded {} Tryd.checked os 5 .any ((OpenSpec.ofChange Rows.lifeSidesSpec).preRow enc Tryd.prog Tryd.f5 Rows.lifeSidesRow.domain false Rows.lifeSidesRow.laid) (((OpenSpec.ofChange Rows.lifeSidesSpec).at F).post enc Tryd.prog Tryd.f5 false true false false) := by
  obtain ⟨places, hx⟩ := reads os enc
  refine returnsInHanded_of_row (C := Tryd.checked) (s := (OpenSpec.ofChange Rows.lifeSidesSpec)) own started (by kernel_rfl) Tryd.func5
    (witness_row_at (enc := enc) (C := Tryd.checked) false (laidWorld os) #[.slice none 0 0] rfl (by kernel_rfl) (by kernel_rfl) (by kernel_rfl)
      (OpenSpec.preRow_of_cond 8 hx (by kernel_rfl) (fun k hk => by cases hk) (by kernel_rfl) (laid_met os))) ?_
  intro W base args ds gs before hval hW _ _ _ hL _ _
  exact contract H enc W base args ds gs before hval hW hL
theorem said : Rows.LifeSidesSaid :=
  OpenClaim.holds_of_cond 5 Tryd.f5 rfl rfl rfl rfl rfl rfl rfl ⟨rfl, rfl, rfl, rfl, rfl⟩ rfl rfl rfl rfl rfl (by kernel_rfl) Tryd.func5 (by kernel_rfl)
    (of_decide_eq_true (by kernel_rfl)) (by unfold Func.isWrapper; first | (rw [if_pos (by decide +kernel)]; kernel_rfl) | (rw [if_neg (by decide +kernel)]; exact ⟨rfl, rfl⟩))
    (fun os started H enc _ F => by rw [OpenClaim.pre_eq_preRow]; exact lifted os started H enc F)
theorem plain (f : FuncId) (fn : Func) (hf : Tryd.pinned.checked.prog.funcNamed "paternoster/paternosterlaw12.LifeSides" = some f) (hfn : Tryd.pinned.checked.prog.funcs[f]? = some fn) :
    false = Tryd.pinned.checked.prog.looks [] ∧ ∀ (j : Nat) t, fn.params[j]? = some t → Tryd.pinned.checked.prog.wantsStandIn t = false := by
  obtain rfl : f = 5 := Option.some.inj ((show Tryd.prog.funcNamed "paternoster/paternosterlaw12.LifeSides" = some 5 by kernel_rfl).symm.trans hf) |>.symm
  obtain rfl : fn = Tryd.f5 := (Option.some.inj (Tryd.func5.symm.trans hfn)).symm
  refine ⟨by kernel_rfl, fun j t ht => ?_⟩
  rw [Tryd.params5] at ht
  have hm : t ∈ [34] := by simpa using Array.mem_of_getElem? ht
  simp only [List.mem_cons, List.not_mem_nil, or_false] at hm
  subst hm
  exact (show Tryd.prog.wantsStandIn 34 = false by kernel_rfl)
theorem proved : Rows.LifeSidesCardSaid :=
  Claim7.holds_tied_plain_at .later [] _ _ _ _ said (fun _ h => by cases h) (by kernel_rfl) (fun _ h => by cases h) lifeSides_row_tie rfl ⟨rfl, rfl⟩ (by kernel_rfl) rfl plain (by kernel_rfl)
end frLifeSides
end Go.Proofs.YtcidpnkdefmaoaaDoor
