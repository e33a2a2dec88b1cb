/- For every count and every number: each number is one side's, and what one side uses the other takes, once (the statement IdsApart, as it is given). No condition. -/
import Derived.Test.YtijifepncfffdaaL11None
namespace Go.Proofs.Ytijifepncfffdaa
open Go.RowKit

/-- the greatest number that the other side has used behind k rounds -/
def lastB (k : Nat) : Int := if k = 0 then 0 else 2 * (k : Int) - 1

set_option maxRecDepth 100000 in
set_option maxHeartbeats 8000000 in
theorem idsApart_walk (v0 v1 : Value) (w : World) (h0 : Kd.Fit w (.int .u8) v0) (h1 : Kd.Fit w (.int .i64) v1) :
    Calls Try.prog 4 #[v0, v1] w fun e w' => e = .returned (.bool true) ∧ Below w.heap.size w w' := by
  obtain ⟨n, rfl, hn⟩ := Kd.int_fit h0
  obtain ⟨x, rfl, hx⟩ := Kd.int_fit h1
  obtain ⟨n1, n2⟩ := u8_of hn
  clear hn hx h0 h1
  have hs0 : sideOk 0 := ⟨by omega, by omega⟩
  have hs1 : sideOk 1 := ⟨by omega, by omega⟩
  go_enter Try.func4, Try.ntmps4
  go_wp2_with (first
    | (go_at_call 6; (with_reducible refine (New_any 0 _ hs0).mono ?_); rintro e w1 ⟨a, rfl, ha, ho1, hA1⟩)
    | (go_at_call 6; (with_reducible refine (New_any 1 _ hs1).mono ?_); rintro e w2 ⟨b, rfl, hb, ho2, hB2⟩; have hA2 := hA1.kept ho2 (fun hh => hh); have hab : a < b := by have := hA1.lt; omega)
    | (go_at_call 7; (with_reducible refine (awake_any _).mono ?_); rintro e w3 ⟨rfl, ho3⟩; have hA3 := hA2.kept ho3 (fun hh => hh); have hB3 := hB2.kept ho3 (fun hh => hh))
    )
  have hsz3 : w.heap.size ≤ w3.heap.size := Nat.le_trans (Nat.le_trans ho1.size ho2.size) ho3.size
  go_loopw [9] (fun i wr => ∃ (k : Nat), (k : Int) ≤ n ∧ i = .int .i64 k ∧ Ids wr a 0 (2 * (k : Int) + 1) (2 * (k : Int)) ∧ Ids wr b 1 (2 * (k : Int) + 2) (lastB k) ∧ Below w.heap.size w wr) (fun i _ => (n - intOf i).toNat)
  case atStart => exact ⟨0, by omega, rfl, hA3, hB3, ((ho1.trans ho2).trans ho3).below (Nat.le_refl _) (fun _ _ hh => hh)⟩
  case round =>
    obtain ⟨k, hk, rfl, hA, hB, hL⟩ := hrel
    by_cases hlt : (k : Int) < n
    · have okA : idsOk (2 * (k : Int) + 1) (2 * (k : Int)) := ⟨by omega, by omega, by omega, by omega⟩
      have okB : idsOk (2 * (k : Int) + 2) (lastB k) := by unfold lastB; refine ⟨by omega, by omega, ?_, ?_⟩ <;> split <;> omega
      have u1 := fun (W : World) (h : Ids W a 0 (2 * (k : Int) + 1) (2 * (k : Int))) => Use_any a _ _ _ W h okA
      have u2 := fun (W : World) (h : Ids W b 1 (2 * (k : Int) + 2) (lastB k)) => Use_any b _ _ _ W h okB
      have e1 : useK (2 * (k : Int) + 1) = 2 * (k : Int) + 1 := by unfold useK; omega
      have e2 : useE (2 * (k : Int) + 1) = 0 := by unfold useE; omega
      have e3 : useK (2 * (k : Int) + 2) = 2 * (k : Int) + 2 := by unfold useK; omega
      have e4 : useE (2 * (k : Int) + 2) = 0 := by unfold useE; omega
      rw [e1, e2] at u1
      rw [e3, e4] at u2
      clear e1 e2 e3 e4
      have p1 : peerB 1 (lastB k) (2 * (k : Int) + 1) = true := by
        unfold peerB ofB lastB
        simp only [Bool.and_eq_true, decide_eq_true_eq, beq_iff_eq]
        refine ⟨⟨⟨by omega, by omega⟩, by omega⟩, ?_⟩
        split <;> omega
      have p2 : peerB 0 (2 * (k : Int)) (2 * (k : Int) + 2) = true := by
        unfold peerB ofB
        simp only [Bool.and_eq_true, decide_eq_true_eq, beq_iff_eq]
        refine ⟨⟨⟨by omega, by omega⟩, by omega⟩, by omega⟩
      have p3 : peerB 1 (2 * (k : Int) + 1) (2 * (k : Int) + 1) = false := by
        unfold peerB
        simp
      have c1 := fun (W : World) (h : Ids W b 1 (useN (2 * (k : Int) + 2)) (lastB k)) => Peer_yes b 1 _ _ _ W h hs1 p1
      have c2 := fun (W : World) (h : Ids W a 0 (useN (2 * (k : Int) + 1)) (2 * (k : Int))) => Peer_yes a 0 _ _ _ W h hs0 p2
      have c3 := fun (W : World) (h : Ids W b 1 (useN (2 * (k : Int) + 2)) (2 * (k : Int) + 1)) => Peer_no b 1 _ _ _ W h hs1 p3
      clear p1 p2 p3
      have hba : ¬ One b a := by unfold One; omega
      have hab' : ¬ One a b := by unfold One; omega
      go_wp2_with (first
        | (go_at_call 11; (with_reducible refine (u1 _ hA).mono ?_); rintro e x1 ⟨rfl, g1, hA1⟩; have hB1 := hB.kept g1 hab')
        | (go_at_call 11; (with_reducible refine (u2 _ hB1).mono ?_); rintro e x2 ⟨rfl, g2, hB2⟩; have hA2 := hA1.kept g2 hba)
        | (go_at_call 8; (with_reducible refine (c1 _ hB2).mono ?_); rintro e x3 ⟨rfl, g3, hB3⟩; have hA3 := hA2.kept g3 hba)
        | (go_at_call 8; (with_reducible refine (c2 _ hA3).mono ?_); rintro e x4 ⟨rfl, g4, hA4⟩; have hB4 := hB3.kept g4 hab')
        | (go_at_call 8; (with_reducible refine (c3 _ hB4).mono ?_); rintro e x5 ⟨rfl, g5, hB5⟩; have hA5 := hA4.kept g5 hba)
        )
      go_roundw
      case rel =>
        refine ⟨k + 1, by omega, by go_num, ?_, ?_, ?_⟩
        · have q1 : 2 * ((k + 1 : Nat) : Int) + 1 = useN (2 * (k : Int) + 1) := by unfold useN; omega
          have q2 : 2 * ((k + 1 : Nat) : Int) = 2 * (k : Int) + 2 := by omega
          rw [q1, q2]
          exact hA5
        · have q1 : 2 * ((k + 1 : Nat) : Int) + 2 = useN (2 * (k : Int) + 2) := by unfold useN; omega
          have q2 : lastB (k + 1) = 2 * (k : Int) + 1 := by unfold lastB; rw [if_neg (by omega)]; omega
          rw [q1, q2]
          exact hB5
        · have z1 := hL.size
          have z2 := g1.size
          have z3 := g2.size
          have z4 := g3.size
          have z5 := g4.size
          have ga : w.heap.size ≤ a := ha
          have gb : w.heap.size ≤ b := by omega
          exact ((((hL.trans (g1.below (by omega) (fun i hi h => by unfold One at h; omega))).trans (g2.below (by omega) (fun i hi h => by unfold One at h; omega))).trans (g3.below (by omega) (fun i hi h => by unfold One at h; omega))).trans (g4.below (by omega) (fun i hi h => by unfold One at h; omega))).trans (g5.below (by omega) (fun i hi h => by unfold One at h; omega))
      case measure => simp [intOf]; omega
    · have m0 := fun (W : World) (h : Ids W a 0 (2 * (k : Int) + 1) (2 * (k : Int))) => Mine_any a _ _ _ x W h hs0
      have m1 := fun (W : World) (h : Ids W b 1 (2 * (k : Int) + 2) (lastB k)) => Mine_any b _ _ _ x W h hs1
      have t0 := fun (W : World) (h : Ids W a 0 (2 * (k : Int) + 1) (2 * (k : Int))) => Past_any a _ _ _ x W h hs0
      have t1 := fun (W : World) (h : Ids W b 1 (2 * (k : Int) + 2) (lastB k)) => Past_any b _ _ _ x W h hs1
      have hpp : pastB 1 (2 * (k : Int) + 2) (lastB k) x = pastB 0 (2 * (k : Int) + 1) (2 * (k : Int)) x := by
        unfold pastB ofB lastB
        rw [Bool.eq_iff_iff]
        by_cases hk0 : k = 0
        · simp [hk0]
          repeat' split
          all_goals (try simp)
          all_goals omega
        · simp [hk0]
          repeat' split
          all_goals (try simp)
          all_goals omega
      rw [hpp] at t1
      clear hpp
      have hq : (ofB 0 x = true ∧ ofB 1 x = false ∧ 1 ≤ x ∧ x ≤ 2147483647) ∨ (ofB 0 x = false ∧ ofB 1 x = true ∧ 1 ≤ x ∧ x ≤ 2147483647) ∨ (ofB 0 x = false ∧ ofB 1 x = false ∧ x < 1) ∨ (ofB 0 x = false ∧ ofB 1 x = false ∧ 1 ≤ x ∧ 2147483647 < x) := by
        unfold ofB
        simp
        omega
      generalize pastB 0 (2 * (k : Int) + 1) (2 * (k : Int)) x = P at t0 t1
      generalize ofB 0 x = q0 at m0 hq
      generalize ofB 1 x = q1 at m1 hq
      rcases hq with ⟨rfl, rfl, o1, o2⟩ | ⟨rfl, rfl, o1, o2⟩ | ⟨rfl, rfl, o1⟩ | ⟨rfl, rfl, o1, o2⟩
      all_goals
        go_wp2_with (first
          | (go_at_call 14; (with_reducible refine (m0 _ hA).mono ?_); rintro e x1 ⟨rfl, g1⟩; have hA := hA.kept g1 (fun hh => hh); have hB := hB.kept g1 (fun hh => hh); have hL := hL.trans (g1.below hL.size (fun _ _ hh => hh)))
          | (go_at_call 14; (with_reducible refine (m1 _ hB).mono ?_); rintro e x1 ⟨rfl, g1⟩; have hA := hA.kept g1 (fun hh => hh); have hB := hB.kept g1 (fun hh => hh); have hL := hL.trans (g1.below hL.size (fun _ _ hh => hh)))
          | (go_at_call 15; (with_reducible refine (t0 _ hA).mono ?_); rintro e x1 ⟨rfl, g1⟩; have hA := hA.kept g1 (fun hh => hh); have hB := hB.kept g1 (fun hh => hh); have hL := hL.trans (g1.below hL.size (fun _ _ hh => hh)))
          | (go_at_call 15; (with_reducible refine (t1 _ hB).mono ?_); rintro e x1 ⟨rfl, g1⟩; have hA := hA.kept g1 (fun hh => hh); have hB := hB.kept g1 (fun hh => hh); have hL := hL.trans (g1.below hL.size (fun _ _ hh => hh)))
          )
        go_ret
        exact ⟨by first | rfl | (simp; omega), hL⟩
/-! The step from the walk to the statement of IdsApart. -/
namespace frIdsApart
open Go.ChangeShapes Go.WideShapes Go.ChangeAt Go.RowKit
set_option linter.unusedVariables false
theorem own : ownKnob Try.prog.godebug = none := by kernel_rfl
theorem laidOut : laidOutB Try.prog = true := by kernel_rfl
theorem shape0 : Kd.ok Try.prog (.int .u8) 5 = true := by kernel_rfl
theorem shape1 : Kd.ok Try.prog (.int .i64) 3 = true := by kernel_rfl
set_option maxRecDepth 100000 in
theorem contract (H : Type) (enc : TypeId × Value → H) (W : World) (base : Nat) (args : Array Value) (ds gs : List (DataW H)) (before : List MemPlace)
    (hval : ∀ (j : Nat) t v, Try.f4.params[j]? = some t → args[j]? = some v → Value.okWide Try.prog W .any base t v)
    (hW : DataW.Whole enc Try.prog Try.f4.params.toList Rows.idsApartSpec.vars false W args.toList ds gs before) :
    Calls Try.prog 4 args W fun e W' => ∃ v, e = .returned v ∧ Rows.idsApartSpec.post enc Try.prog Try.f4 false true false false W args v W' := by
  have hW' := hW
  obtain ⟨p, q, hA0, hV, rfl, hfz, hnd⟩ := hW
  have hA : DataW.TrodAll enc Try.prog W 0 (fun _ => true) true Try.f4.params.toList args.toList ds p := hA0
  rw [Try.params4] at hA hval
  obtain ⟨v0, vs0, d0, ds0, p0, q0, hargs, rfl, rfl, h0, r0⟩ := trodAll_cons hA
  obtain ⟨v1, vs1, d1, ds1, p1, q1, rfl, rfl, rfl, h1, r1⟩ := trodAll_cons r0
  obtain ⟨rfl, rfl, rfl⟩ := trodAll_nil r1
  obtain rfl : args = #[v0, v1] := by cases args; simp_all
  obtain ⟨rfl, rfl⟩ := trodVars_none hV
  have k0 := Kd.fit _ shape0 (hval 0 5 v0 rfl rfl) h0
  have lt0 : ∀ x ∈ p0, x.block < W.heap.size := by obtain ⟨m, hm⟩ := h0; exact DataW.trod_lt m _ _ _ hm
  have k1 := Kd.fit _ shape1 (hval 1 3 v1 rfl rfl) h1
  have lt1 : ∀ x ∈ p1, x.block < W.heap.size := by obtain ⟨m, hm⟩ := h1; exact DataW.trod_lt m _ _ _ hm
  refine (idsApart_walk v0 v1 W k0 k1).mono fun e W' ⟨he, bel⟩ => ?_
  subst he
  exact ⟨_, rfl, _, _, _, [], _, [], hW', trodAll_mk1 (shut_bool Try.underlying4 _), (trodAll_cons_mk (Below.trod laidOut (by kernel_rfl) (of_decide_eq_true (by kernel_rfl)) h0 bel lt0) (trodAll_cons_mk (Below.trod laidOut (by kernel_rfl) (of_decide_eq_true (by kernel_rfl)) h1 bel lt1) trodAll_mk0)), rfl, bel.frame _, fun h => by cases h⟩
set_option maxRecDepth 100000 in
theorem lifted (os : Os) (started : os.Started) (H : Type) (enc : TypeId × Value → H) :
    ReturnsInHanded {} Try.checked os 4 .any (Rows.idsApartSpec.pre6 enc Try.prog Try.f4 Rows.idsApartRow.domain false) (Rows.idsApartSpec.post enc Try.prog Try.f4 false true false false) := by
  refine returnsInHanded_of_change (C := Try.checked) own started (by kernel_rfl) Try.func4
    (ChangeSpec.witness6 (enc := enc) (C := Try.checked) false ⟨#[], #[.int .u8 0, .int .i64 0], []⟩ 8 (by kernel_rfl) (by kernel_rfl) (by kernel_rfl) (by kernel_rfl)) ?_
  intro W base args ds gs before hval hW _ _
  exact contract H enc W base args ds gs before hval hW
theorem over : Rows.idsApartRow.holds Try.pinned (OpenSpec.ofChange Rows.idsApartSpec) :=
  OpenClaim.holds_of_wide 4 Try.f4 rfl rfl rfl rfl rfl rfl rfl ⟨rfl, rfl, rfl, rfl, rfl⟩ rfl rfl rfl rfl rfl (by kernel_rfl) Try.func4 (by kernel_rfl)
    (of_decide_eq_true (by kernel_rfl)) (by unfold Func.isWrapper; first | (rw [if_pos (by decide +kernel)]; kernel_rfl) | (rw [if_neg (by decide +kernel)]; exact ⟨rfl, rfl⟩))
    (fun os started H enc _ => lifted os started H enc)
theorem proved : Rows.IdsApartSaid := over
end frIdsApart
end Go.Proofs.Ytijifepncfffdaa
