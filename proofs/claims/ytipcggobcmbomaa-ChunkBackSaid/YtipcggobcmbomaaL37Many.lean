/- For every length and every size: how many pieces there are (the statement ChunkMany, as it is given). No condition. -/
import Derived.Test.YtipcggobcmbomaaAwake37
namespace Go.Proofs.Ytipcggobcmbomaa
open Go.RowKit

theorem mny_facts {K n : Nat} (hK : 1 ≤ K) : 1 ≤ mny K n ∧ (mny K n - 1) * K ≤ n ∧ n ≤ mny K n * K ∧ (0 < n → (mny K n - 1) * K < n) := by
  unfold mny
  split
  · subst n
    simp
  · rename_i hn
    have h1 := Nat.div_mul_le_self (n - 1) K
    have h2 : n - 1 < ((n - 1) / K + 1) * K := (Nat.div_lt_iff_lt_mul (by omega)).1 (Nat.lt_succ_self _)
    rw [Nat.add_sub_cancel]
    exact ⟨Nat.le_add_left 1 _, by omega, by omega, fun _ => by omega⟩
set_option maxRecDepth 100000 in
set_option maxHeartbeats 4000000 in
theorem chunkMany_walk (v0 v1 : Value) (w : World) (h0 : Kd.Fit w (.int .i64) v0) (h1 : Kd.Fit w (.int .i64) v1) :
    Calls Try.prog 4 #[v0, v1] w fun e w' => e = .returned (.bool true) ∧ Below w.heap.size w w' := by
  obtain ⟨n, rfl, -⟩ := Kd.int_fit h0
  obtain ⟨s, rfl, -⟩ := Kd.int_fit h1
  clear h0 h1
  by_cases a1 : s < 2
  · have hout : (s < 2 ∨ 256 < s) ∨ n < 0 ∨ 65536 < n := .inl (.inl a1)
    have hM := Lib.hid (fun W => Many_out n s W hout)
    clear hout
    go_enter Try.func4, Try.ntmps4
    go_wp2_with (first
      | (go_at_call 8; (with_reducible refine (hM.out _).mono ?_); rintro e w1 ⟨rfl, rfl⟩)
      | (go_at_call 9; (with_reducible refine (awake_any _).mono ?_); rintro e w2 ⟨rfl, hb⟩)
      )
    go_ret
    exact ⟨rfl, hb⟩
  by_cases a2 : 256 < s
  · have hout : (s < 2 ∨ 256 < s) ∨ n < 0 ∨ 65536 < n := .inl (.inr a2)
    have hM := Lib.hid (fun W => Many_out n s W hout)
    clear hout
    go_enter Try.func4, Try.ntmps4
    go_wp2_with (first
      | (go_at_call 8; (with_reducible refine (hM.out _).mono ?_); rintro e w1 ⟨rfl, rfl⟩)
      | (go_at_call 9; (with_reducible refine (awake_any _).mono ?_); rintro e w2 ⟨rfl, hb⟩)
      )
    go_ret
    exact ⟨rfl, hb⟩
  by_cases a3 : n < 0
  · have hout : (s < 2 ∨ 256 < s) ∨ n < 0 ∨ 65536 < n := .inr (.inl a3)
    have hM := Lib.hid (fun W => Many_out n s W hout)
    clear hout
    go_enter Try.func4, Try.ntmps4
    go_wp2_with (first
      | (go_at_call 8; (with_reducible refine (hM.out _).mono ?_); rintro e w1 ⟨rfl, rfl⟩)
      | (go_at_call 9; (with_reducible refine (awake_any _).mono ?_); rintro e w2 ⟨rfl, hb⟩)
      )
    go_ret
    exact ⟨rfl, hb⟩
  by_cases a4 : 65536 < n
  · have hout : (s < 2 ∨ 256 < s) ∨ n < 0 ∨ 65536 < n := .inr (.inr a4)
    have hM := Lib.hid (fun W => Many_out n s W hout)
    clear hout
    go_enter Try.func4, Try.ntmps4
    go_wp2_with (first
      | (go_at_call 8; (with_reducible refine (hM.out _).mono ?_); rintro e w1 ⟨rfl, rfl⟩)
      | (go_at_call 9; (with_reducible refine (awake_any _).mono ?_); rintro e w2 ⟨rfl, hb⟩)
      )
    go_ret
    exact ⟨rfl, hb⟩
  obtain ⟨K, rfl⟩ : ∃ K : Nat, s = (K : Int) + 1 := ⟨(s - 1).toNat, by omega⟩
  obtain ⟨n, rfl⟩ : ∃ m : Nat, n = m := ⟨n.toNat, by omega⟩
  have hM := Lib.hid (fun W => Many_in n K W (by omega) (by omega) (by omega))
  obtain ⟨hm1, f1, f2, f3⟩ := mny_facts (n := n) (show 1 ≤ K by omega)
  have hml := mny_le K n (by omega)
  obtain ⟨p, hp⟩ : ∃ p, (mny K n - 1) * K = p := ⟨_, rfl⟩
  obtain ⟨q, hq⟩ : ∃ q, mny K n * K = q := ⟨_, rfl⟩
  have hqp : q = p + K := by rw [← hp, ← hq, Nat.sub_mul, Nat.one_mul]; have := Nat.mul_le_mul_right K hm1; omega
  have HQP := Lib.hid hqp
  rw [hp] at f1 f3
  rw [hq] at f2
  have g1 : (p : Int) ≤ n := by omega
  have g2 : (n : Int) ≤ q := by omega
  have g4 : (q : Int) ≤ 70000 := by omega
  have g5 : (1 : Int) ≤ mny K n := by omega
  have hP1 : ((mny K n : Int) - 1) * (K : Int) = (p : Int) := by rw [← hp]; push_cast [Int.natCast_sub hm1]; rfl
  have hQ1 : (mny K n : Int) * (K : Int) = (q : Int) := by rw [← hq]; push_cast; rfl
  clear hqp hp hq
  generalize mny K n = m at *
  by_cases n0 : n = 0
  · have g6 : ((n : Int) == 0) = true := by simp; omega
    clear f3 n0
    go_enter Try.func4, Try.ntmps4
    go_wp2_with (first
      | (go_at_call 8; (with_reducible refine (hM.out _).mono ?_); rintro e w1 ⟨rfl, rfl⟩)
      | (go_at_call 9; (with_reducible refine (awake_any _).mono ?_); rintro e w2 ⟨rfl, hb⟩)
      )
    go_ret
    exact ⟨rfl, hb⟩
  · have g3 : (p : Int) < n := by have := f3 (by omega); omega
    have g6 : ((n : Int) == 0) = false := by simp; omega
    clear f3 n0
    go_enter Try.func4, Try.ntmps4
    go_wp2_with (first
      | (go_at_call 8; (with_reducible refine (hM.out _).mono ?_); rintro e w1 ⟨rfl, rfl⟩)
      | (go_at_call 9; (with_reducible refine (awake_any _).mono ?_); rintro e w2 ⟨rfl, hb⟩)
      )
    go_ret
    exact ⟨rfl, hb⟩
/-! The step from the walk to the statement of ChunkMany. -/
namespace frChunkMany
open Go.ChangeShapes Go.WideShapes Go.ChangeAt Go.RowKit
set_option linter.unusedVariables false
theorem own : ownKnob Try.prog.godebug = none := by kernel_rfl
theorem laidOut : laidOutB Try.prog = true := by kernel_rfl
theorem shape0 : Kd.ok Try.prog (.int .i64) 3 = true := by kernel_rfl
theorem shape1 : Kd.ok Try.prog (.int .i64) 3 = true := by kernel_rfl
set_option maxRecDepth 100000 in
theorem contract (H : Type) (enc : TypeId × Value → H) (W : World) (base : Nat) (args : Array Value) (ds gs : List (DataW H)) (before : List MemPlace)
    (hval : ∀ (j : Nat) t v, Try.f4.params[j]? = some t → args[j]? = some v → Value.okWide Try.prog W .any base t v)
    (hW : DataW.Whole enc Try.prog Try.f4.params.toList Rows.chunkManySpec.vars false W args.toList ds gs before) :
    Calls Try.prog 4 args W fun e W' => ∃ v, e = .returned v ∧ Rows.chunkManySpec.post enc Try.prog Try.f4 false true false false W args v W' := by
  have hW' := hW
  obtain ⟨p, q, hA0, hV, rfl, hfz, hnd⟩ := hW
  have hA : DataW.TrodAll enc Try.prog W 0 (fun _ => true) true Try.f4.params.toList args.toList ds p := hA0
  rw [Try.params4] at hA hval
  obtain ⟨v0, vs0, d0, ds0, p0, q0, hargs, rfl, rfl, h0, r0⟩ := trodAll_cons hA
  obtain ⟨v1, vs1, d1, ds1, p1, q1, rfl, rfl, rfl, h1, r1⟩ := trodAll_cons r0
  obtain ⟨rfl, rfl, rfl⟩ := trodAll_nil r1
  obtain rfl : args = #[v0, v1] := by cases args; simp_all
  obtain ⟨rfl, rfl⟩ := trodVars_none hV
  have k0 := Kd.fit _ shape0 (hval 0 3 v0 rfl rfl) h0
  have lt0 : ∀ x ∈ p0, x.block < W.heap.size := by obtain ⟨m, hm⟩ := h0; exact DataW.trod_lt m _ _ _ hm
  have k1 := Kd.fit _ shape1 (hval 1 3 v1 rfl rfl) h1
  have lt1 : ∀ x ∈ p1, x.block < W.heap.size := by obtain ⟨m, hm⟩ := h1; exact DataW.trod_lt m _ _ _ hm
  refine (chunkMany_walk v0 v1 W k0 k1).mono fun e W' ⟨he, bel⟩ => ?_
  subst he
  exact ⟨_, rfl, _, _, _, [], _, [], hW', trodAll_mk1 (shut_bool Try.underlying4 _), (trodAll_cons_mk (Below.trod laidOut (by kernel_rfl) (of_decide_eq_true (by kernel_rfl)) h0 bel lt0) (trodAll_cons_mk (Below.trod laidOut (by kernel_rfl) (of_decide_eq_true (by kernel_rfl)) h1 bel lt1) trodAll_mk0)), rfl, bel.frame _, fun h => by cases h⟩
set_option maxRecDepth 100000 in
theorem lifted (os : Os) (started : os.Started) (H : Type) (enc : TypeId × Value → H) :
    ReturnsInHanded {} Try.checked os 4 .any (Rows.chunkManySpec.pre6 enc Try.prog Try.f4 Rows.chunkManyRow.domain false) (Rows.chunkManySpec.post enc Try.prog Try.f4 false true false false) := by
  refine returnsInHanded_of_change (C := Try.checked) own started (by kernel_rfl) Try.func4
    (ChangeSpec.witness6 (enc := enc) (C := Try.checked) false ⟨#[], #[.int .i64 0, .int .i64 0], []⟩ 8 (by kernel_rfl) (by kernel_rfl) (by kernel_rfl) (by kernel_rfl)) ?_
  intro W base args ds gs before hval hW _ _
  exact contract H enc W base args ds gs before hval hW
theorem over : Rows.chunkManyRow.holds Try.pinned (OpenSpec.ofChange Rows.chunkManySpec) :=
  OpenClaim.holds_of_wide 4 Try.f4 rfl rfl rfl rfl rfl rfl rfl ⟨rfl, rfl, rfl, rfl, rfl⟩ rfl rfl rfl rfl rfl (by kernel_rfl) Try.func4 (by kernel_rfl)
    (of_decide_eq_true (by kernel_rfl)) (by unfold Func.isWrapper; first | (rw [if_pos (by decide +kernel)]; kernel_rfl) | (rw [if_neg (by decide +kernel)]; exact ⟨rfl, rfl⟩))
    (fun os started H enc _ => lifted os started H enc)
theorem proved : Rows.ChunkManySaid := over
end frChunkMany
end Go.Proofs.Ytipcggobcmbomaa
