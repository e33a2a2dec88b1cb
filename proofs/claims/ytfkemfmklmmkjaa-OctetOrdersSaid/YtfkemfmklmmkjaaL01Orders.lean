/- For all numbers, and every width: numbers are in order as their bytes are (the statement OctetOrders, as it is given). No condition. -/
import Derived.Test.YtfkemfmklmmkjaaAwake01
namespace Go.Proofs.Ytfkemfmklmmkjaa
open Go.RowKit

theorem toList_strOf (l : List UInt8) : (strOf l).toList = l := by rw [ByteArray.toList_eq]; rfl
theorem emod_step (a : Int) (M : Int) (hM : 0 < M) : a % (M * 256) = M * (a / M % 256) + a % M := by
  have h1 := Int.emod_add_mul_ediv a (M * 256)
  have h2 := Int.emod_add_mul_ediv a M
  have h3 := Int.emod_add_mul_ediv (a / M) 256
  have h4 : a / (M * 256) = a / M / 256 := by rw [Int.ediv_ediv_of_nonneg (Int.le_of_lt hM)]
  rw [h4] at h1
  have h5 : M * 256 * (a / M / 256) = M * (256 * (a / M / 256)) := by rw [Int.mul_assoc]
  have h6 : M * (a / M) = M * (a / M % 256) + M * (256 * (a / M / 256)) := by rw [← Int.mul_add, h3]
  omega
theorem numB_less (a b : Int) : ∀ k : Nat, Op.bytesLess (numB a k) (numB b k) = decide (a % 256 ^ k < b % 256 ^ k) ∧ (numB a k == numB b k) = decide (a % 256 ^ k = b % 256 ^ k)
  | 0 => by simp [numB, Op.bytesLess]
  | k + 1 => by
    obtain ⟨i1, i2⟩ := numB_less a b k
    have hM : (0 : Int) < 256 ^ k := Int.pow_pos (by decide)
    have ea := emod_step a (256 ^ k) hM
    have eb := emod_step b (256 ^ k) hM
    have ba := byteAt_toNat a k
    have bb := byteAt_toNat b k
    have ra := Int.emod_nonneg a (Int.ne_of_gt hM)
    have rb := Int.emod_nonneg b (Int.ne_of_gt hM)
    have sa := Int.emod_lt_of_pos a hM
    have sb := Int.emod_lt_of_pos b hM
    have hl : decide (byteAt a k < byteAt b k) = decide ((byteAt a k).toNat < (byteAt b k).toNat) := by rw [Bool.eq_iff_iff]; simp [UInt8.lt_iff_toNat_lt]
    have hb : (byteAt a k == byteAt b k) = decide ((byteAt a k).toNat = (byteAt b k).toNat) := by rw [Bool.eq_iff_iff]; simp [← UInt8.toNat_inj]
    rw [Int.pow_succ, ea, eb, ← ba, ← bb]
    generalize (256 : Int) ^ k = M at *
    generalize a % M = u at *
    generalize b % M = v at *
    show ((decide (byteAt a k < byteAt b k) || (byteAt a k == byteAt b k && Op.bytesLess (numB a k) (numB b k))) = _) ∧ ((byteAt a k :: numB a k) == (byteAt b k :: numB b k)) = _
    rw [i1, List.cons_beq_cons, i2]
    rw [hb, hl]
    clear hb hl
    generalize (byteAt a k).toNat = x at *
    generalize (byteAt b k).toNat = y at *
    rcases Nat.lt_trichotomy x y with h | h | h
    · have h1 : M * ((x : Int) + 1) ≤ M * (y : Int) := Int.mul_le_mul_of_nonneg_left (by omega) (Int.le_of_lt hM)
      rw [Int.mul_add, Int.mul_one] at h1
      have n1 : ¬ x = y := by omega
      have n2 : M * (x : Int) + u < M * (y : Int) + v := by omega
      have n3 : ¬ M * (x : Int) + u = M * (y : Int) + v := by omega
      simp [h, n1, n2, n3]
    · subst h
      have n2 : (M * (x : Int) + u < M * (x : Int) + v) = (u < v) := by apply propext; omega
      have n3 : (M * (x : Int) + u = M * (x : Int) + v) = (u = v) := by apply propext; omega
      simp [n2, n3]
    · have h1 : M * ((y : Int) + 1) ≤ M * (x : Int) := Int.mul_le_mul_of_nonneg_left (by omega) (Int.le_of_lt hM)
      rw [Int.mul_add, Int.mul_one] at h1
      have n0 : ¬ x < y := by omega
      have n1 : ¬ x = y := by omega
      have n2 : ¬ M * (x : Int) + u < M * (y : Int) + v := by omega
      have n3 : ¬ M * (x : Int) + u = M * (y : Int) + v := by omega
      simp [n0, n1, n2, n3]
theorem lay_one_fit {a : Int} {k : Nat} (k1 : 1 ≤ k) (k4 : k ≤ 4) (h : layE [⟨a, k, noS⟩] = 0) : layS [⟨a, k, noS⟩] = strOf (numB a k) ∧ a % 256 ^ k = a := by
  refine ⟨?_, ?_⟩
  · unfold layS
    rw [if_pos h]
    show strOf (bytesOf ⟨a, k, noS⟩ ++ []) = _
    rw [List.append_nil]
    unfold bytesOf
    rw [if_neg (by show ¬ (k : Int) = 0; omega)]
    rfl
  · unfold layE chkAll at h
    have hc : chkE' ⟨a, k, noS⟩ = 0 := by
      by_cases e : chkE' ⟨a, k, noS⟩ = 0
      · exact e
      · rw [if_neg e, if_neg e] at h
        exact h
    unfold chkE' at hc
    dsimp only at hc
    rw [if_neg (by omega)] at hc
    have hb : chkB ⟨a, k, noS⟩ = false := by
      cases hq : chkB ⟨a, k, noS⟩
      · rfl
      · rw [hq, if_pos ⟨by omega, rfl⟩] at hc
        cases hc
    unfold chkB at hb
    dsimp only at hb
    simp only [Bool.or_eq_false_iff, decide_eq_false_iff_not, bne_eq_false_iff_eq] at hb
    have hk : k = 1 ∨ k = 2 ∨ k = 3 ∨ k = 4 := by omega
    rcases hk with rfl | rfl | rfl | rfl <;> simp [capN] at hb ⊢ <;> omega
theorem lay_one (a : Int) (k : Nat) (ha : i64Ok a) (hk : 1 ≤ k) (h4 : k ≤ 4) (W : World) (A : Option Addr) (cap : Nat) (h : Sq encPc 3 W W.heap.size A [⟨a, k, noS⟩]) :
    Calls Try.prog 16 #[.slice A 1 cap] W fun x w' => x = .returned (.tuple #[.string (layS [⟨a, k, noS⟩]), .int .i64 (layE [⟨a, k, noS⟩])]) ∧ Only Nil W w' := by
  refine Lay_known A cap 1 _ _ _ W h ?_ rfl (by simp) rfl rfl
  intro p hp
  simp at hp
  subst hp
  exact pc_ok ha (by omega) (by decide)
set_option maxHeartbeats 4000000 in
theorem octetOrders_walk (v0 v1 v2 : Value) (w : World) (h0 : Kd.Fit w (.int .i64) v0) (h1 : Kd.Fit w (.int .i64) v1) (h2 : Kd.Fit w (.int .u8) v2) :
    Calls Try.prog 5 #[v0, v1, v2] w fun e w' => e = .returned (.bool true) ∧ Below w.heap.size w w' := by
  obtain ⟨a, rfl, ha⟩ := Kd.int_fit h0
  obtain ⟨b, rfl, hb⟩ := Kd.int_fit h1
  obtain ⟨z, rfl, hz⟩ := Kd.int_fit h2
  have ha := i64Ok_of ha
  have hb := i64Ok_of hb
  obtain ⟨z0, z1⟩ := u8_of hz
  clear h0 h1 h2 hz
  obtain ⟨k, hk⟩ : ∃ k : Nat, (k : Int) = z % 4 + 1 := ⟨(z % 4 + 1).toNat, by omega⟩
  have k1 : 1 ≤ k := by omega
  have k4 : k ≤ 4 := by omega
  have hA := fun (W : World) (A : Option Addr) (cap : Nat) (h : Sq encPc 3 W W.heap.size A [⟨a, k, noS⟩]) => lay_one a k ha k1 k4 W A cap h
  have hB := fun (W : World) (A : Option Addr) (cap : Nat) (h : Sq encPc 3 W W.heap.size A [⟨b, k, noS⟩]) => lay_one b k hb k1 k4 W A cap h
  rw [hk] at hA hB
  by_cases hE : layE [⟨a, z % 4 + 1, noS⟩] = 0
  · by_cases hF : layE [⟨b, z % 4 + 1, noS⟩] = 0
    · obtain ⟨eS, ea⟩ := lay_one_fit (a := a) k1 k4 (by rw [hk]; exact hE)
      obtain ⟨eT, eb⟩ := lay_one_fit (a := b) k1 k4 (by rw [hk]; exact hF)
      rw [hk] at eS eT
      have hq : Op.bytesLess (layS [⟨a, z % 4 + 1, noS⟩]).toList (layS [⟨b, z % 4 + 1, noS⟩]).toList = decide (a < b) := by
        rw [eS, eT, toList_strOf, toList_strOf, (numB_less a b k).1, ea, eb]
      have hs : ((layS [⟨a, z % 4 + 1, noS⟩]).toList == (layS [⟨b, z % 4 + 1, noS⟩]).toList) = (a == b) := by
        rw [eS, eT, toList_strOf, toList_strOf, (numB_less a b k).2, ea, eb, Bool.eq_iff_iff]
        simp
      clear eS eT ea eb
      rw [hE] at hA
      rw [hF] at hB
      have HA := Lib.hid hA
      have HB := Lib.hid hB
      clear hA hB
      generalize layS [⟨a, z % 4 + 1, noS⟩] = S at HA hq hs
      generalize layS [⟨b, z % 4 + 1, noS⟩] = T at HB hq hs
      clear hE hF hk
      go_enter Try.func5, Try.ntmps5
      go_wp2_with (first
        | (go_at_call 18; (with_reducible refine (U_any a _ _).mono ?_); rintro e w1 ⟨rfl, ho1⟩; have hP1 := Blk.sq (enc := encPc) (sz := 3) (l := [⟨a, z % 4 + 1, noS⟩]) (Blk.new w1 40 #[.int .i64 a, .int .i64 (z % 4 + 1), .string noS]) rfl encPc_len)
        | (go_at_call 16; (with_reducible refine (HA.out _ _ _ hP1).mono ?_); rintro e w3 ⟨rfl, ho3⟩; have hx3 := (ho1.alloc (.cells #[.int .i64 a, .int .i64 (z % 4 + 1), .string noS] 40)).trans ho3; clear hP1 HA ho1)
        | (go_at_call 18; (with_reducible refine (U_any b _ _).mono ?_); rintro e w1 ⟨rfl, ho1⟩; have hP2 := Blk.sq (enc := encPc) (sz := 3) (l := [⟨b, z % 4 + 1, noS⟩]) (Blk.new w1 40 #[.int .i64 b, .int .i64 (z % 4 + 1), .string noS]) rfl encPc_len)
        | (go_at_call 16; (with_reducible refine (HB.out _ _ _ hP2).mono ?_); rintro e w4 ⟨rfl, ho4⟩; have hx4 := (hx3.trans (ho1.alloc (.cells #[.int .i64 b, .int .i64 (z % 4 + 1), .string noS] 40))).trans ho4)
        | (go_at_call 14; (with_reducible refine (awake_any _).mono ?_); rintro e w5 ⟨rfl, ho5⟩)
        )
      go_ret
      exact ⟨rfl, (hx4.trans ho5).below (Nat.le_refl _) (fun _ _ hh => hh)⟩
    · have HA := Lib.hid hA
      have HB := Lib.hid hB
      clear hA hB
      generalize layS [⟨a, z % 4 + 1, noS⟩] = S at HA
      generalize layS [⟨b, z % 4 + 1, noS⟩] = T at HB
      generalize layE [⟨a, z % 4 + 1, noS⟩] = E at HA hE
      generalize layE [⟨b, z % 4 + 1, noS⟩] = F at HB hF
      have hF1 : (F != 0) = true := by simpa using hF
      have hE1 : (E != 0) = false := by simpa using hE
      clear hE hF hk
      go_enter Try.func5, Try.ntmps5
      go_wp2_with (first
        | (go_at_call 18; (with_reducible refine (U_any a _ _).mono ?_); rintro e w1 ⟨rfl, ho1⟩; have hP1 := Blk.sq (enc := encPc) (sz := 3) (l := [⟨a, z % 4 + 1, noS⟩]) (Blk.new w1 40 #[.int .i64 a, .int .i64 (z % 4 + 1), .string noS]) rfl encPc_len)
        | (go_at_call 16; (with_reducible refine (HA.out _ _ _ hP1).mono ?_); rintro e w3 ⟨rfl, ho3⟩; have hx3 := (ho1.alloc (.cells #[.int .i64 a, .int .i64 (z % 4 + 1), .string noS] 40)).trans ho3; clear hP1 HA ho1)
        | (go_at_call 18; (with_reducible refine (U_any b _ _).mono ?_); rintro e w1 ⟨rfl, ho1⟩; have hP2 := Blk.sq (enc := encPc) (sz := 3) (l := [⟨b, z % 4 + 1, noS⟩]) (Blk.new w1 40 #[.int .i64 b, .int .i64 (z % 4 + 1), .string noS]) rfl encPc_len)
        | (go_at_call 16; (with_reducible refine (HB.out _ _ _ hP2).mono ?_); rintro e w4 ⟨rfl, ho4⟩; have hx4 := (hx3.trans (ho1.alloc (.cells #[.int .i64 b, .int .i64 (z % 4 + 1), .string noS] 40))).trans ho4)
        | (go_at_call 14; (with_reducible refine (awake_any _).mono ?_); rintro e w5 ⟨rfl, ho5⟩)
        )
      go_ret
      exact ⟨rfl, (hx4.trans ho5).below (Nat.le_refl _) (fun _ _ hh => hh)⟩
  · have HA := Lib.hid hA
    have HB := Lib.hid hB
    clear hA hB
    generalize layS [⟨a, z % 4 + 1, noS⟩] = S at HA
    generalize layS [⟨b, z % 4 + 1, noS⟩] = T at HB
    generalize layE [⟨a, z % 4 + 1, noS⟩] = E at HA hE
    generalize layE [⟨b, z % 4 + 1, noS⟩] = F at HB
    have hE1 : (E != 0) = true := by simpa using hE
    clear hE hk
    go_enter Try.func5, Try.ntmps5
    go_wp2_with (first
      | (go_at_call 18; (with_reducible refine (U_any a _ _).mono ?_); rintro e w1 ⟨rfl, ho1⟩; have hP1 := Blk.sq (enc := encPc) (sz := 3) (l := [⟨a, z % 4 + 1, noS⟩]) (Blk.new w1 40 #[.int .i64 a, .int .i64 (z % 4 + 1), .string noS]) rfl encPc_len)
      | (go_at_call 16; (with_reducible refine (HA.out _ _ _ hP1).mono ?_); rintro e w3 ⟨rfl, ho3⟩; have hx3 := (ho1.alloc (.cells #[.int .i64 a, .int .i64 (z % 4 + 1), .string noS] 40)).trans ho3; clear hP1 HA ho1)
      | (go_at_call 18; (with_reducible refine (U_any b _ _).mono ?_); rintro e w1 ⟨rfl, ho1⟩; have hP2 := Blk.sq (enc := encPc) (sz := 3) (l := [⟨b, z % 4 + 1, noS⟩]) (Blk.new w1 40 #[.int .i64 b, .int .i64 (z % 4 + 1), .string noS]) rfl encPc_len)
      | (go_at_call 16; (with_reducible refine (HB.out _ _ _ hP2).mono ?_); rintro e w4 ⟨rfl, ho4⟩; have hx4 := (hx3.trans (ho1.alloc (.cells #[.int .i64 b, .int .i64 (z % 4 + 1), .string noS] 40))).trans ho4)
      | (go_at_call 14; (with_reducible refine (awake_any _).mono ?_); rintro e w5 ⟨rfl, ho5⟩)
      )
    go_ret
    exact ⟨rfl, (hx4.trans ho5).below (Nat.le_refl _) (fun _ _ hh => hh)⟩
/-! The step from the walk to the statement of OctetOrders. -/
namespace frOctetOrders
open Go.ChangeShapes Go.WideShapes Go.ChangeAt Go.RowKit
set_option linter.unusedVariables false
theorem own : ownKnob Try.prog.godebug = none := by kernel_rfl
theorem laidOut : laidOutB Try.prog = true := by kernel_rfl
theorem shape0 : Kd.ok Try.prog (.int .i64) 3 = true := by kernel_rfl
theorem shape1 : Kd.ok Try.prog (.int .i64) 3 = true := by kernel_rfl
theorem shape2 : Kd.ok Try.prog (.int .u8) 5 = true := by kernel_rfl
set_option maxRecDepth 100000 in
theorem contract (H : Type) (enc : TypeId × Value → H) (W : World) (base : Nat) (args : Array Value) (ds gs : List (DataW H)) (before : List MemPlace)
    (hval : ∀ (j : Nat) t v, Try.f5.params[j]? = some t → args[j]? = some v → Value.okWide Try.prog W .any base t v)
    (hW : DataW.Whole enc Try.prog Try.f5.params.toList Rows.octetOrdersSpec.vars false W args.toList ds gs before) :
    Calls Try.prog 5 args W fun e W' => ∃ v, e = .returned v ∧ Rows.octetOrdersSpec.post enc Try.prog Try.f5 false true false false W args v W' := by
  have hW' := hW
  obtain ⟨p, q, hA0, hV, rfl, hfz, hnd⟩ := hW
  have hA : DataW.TrodAll enc Try.prog W 0 (fun _ => true) true Try.f5.params.toList args.toList ds p := hA0
  rw [Try.params5] at hA hval
  obtain ⟨v0, vs0, d0, ds0, p0, q0, hargs, rfl, rfl, h0, r0⟩ := trodAll_cons hA
  obtain ⟨v1, vs1, d1, ds1, p1, q1, rfl, rfl, rfl, h1, r1⟩ := trodAll_cons r0
  obtain ⟨v2, vs2, d2, ds2, p2, q2, rfl, rfl, rfl, h2, r2⟩ := trodAll_cons r1
  obtain ⟨rfl, rfl, rfl⟩ := trodAll_nil r2
  obtain rfl : args = #[v0, v1, v2] := by cases args; simp_all
  obtain ⟨rfl, rfl⟩ := trodVars_none hV
  have k0 := Kd.fit _ shape0 (hval 0 3 v0 rfl rfl) h0
  have lt0 : ∀ x ∈ p0, x.block < W.heap.size := by obtain ⟨m, hm⟩ := h0; exact DataW.trod_lt m _ _ _ hm
  have k1 := Kd.fit _ shape1 (hval 1 3 v1 rfl rfl) h1
  have lt1 : ∀ x ∈ p1, x.block < W.heap.size := by obtain ⟨m, hm⟩ := h1; exact DataW.trod_lt m _ _ _ hm
  have k2 := Kd.fit _ shape2 (hval 2 5 v2 rfl rfl) h2
  have lt2 : ∀ x ∈ p2, x.block < W.heap.size := by obtain ⟨m, hm⟩ := h2; exact DataW.trod_lt m _ _ _ hm
  refine (octetOrders_walk v0 v1 v2 W k0 k1 k2).mono fun e W' ⟨he, bel⟩ => ?_
  subst he
  exact ⟨_, rfl, _, _, _, [], _, [], hW', trodAll_mk1 (shut_bool Try.underlying4 _), (trodAll_cons_mk (Below.trod laidOut (by kernel_rfl) (of_decide_eq_true (by kernel_rfl)) h0 bel lt0) (trodAll_cons_mk (Below.trod laidOut (by kernel_rfl) (of_decide_eq_true (by kernel_rfl)) h1 bel lt1) (trodAll_cons_mk (Below.trod laidOut (by kernel_rfl) (of_decide_eq_true (by kernel_rfl)) h2 bel lt2) trodAll_mk0))), rfl, bel.frame _, fun h => by cases h⟩
set_option maxRecDepth 100000 in
theorem lifted (os : Os) (started : os.Started) (H : Type) (enc : TypeId × Value → H) :
    ReturnsInHanded {} Try.checked os 5 .any (Rows.octetOrdersSpec.pre6 enc Try.prog Try.f5 Rows.octetOrdersRow.domain false) (Rows.octetOrdersSpec.post enc Try.prog Try.f5 false true false false) := by
  refine returnsInHanded_of_change (C := Try.checked) own started (by kernel_rfl) Try.func5
    (ChangeSpec.witness6 (enc := enc) (C := Try.checked) false ⟨#[], #[.int .i64 0, .int .i64 0, .int .u8 0], []⟩ 8 (by kernel_rfl) (by kernel_rfl) (by kernel_rfl) (by kernel_rfl)) ?_
  intro W base args ds gs before hval hW _ _
  exact contract H enc W base args ds gs before hval hW
theorem over : Rows.octetOrdersRow.holds Try.pinned (OpenSpec.ofChange Rows.octetOrdersSpec) :=
  OpenClaim.holds_of_wide 5 Try.f5 rfl rfl rfl rfl rfl rfl rfl ⟨rfl, rfl, rfl, rfl, rfl⟩ rfl rfl rfl rfl rfl (by kernel_rfl) Try.func5 (by kernel_rfl)
    (of_decide_eq_true (by kernel_rfl)) (by unfold Func.isWrapper; first | (rw [if_pos (by decide +kernel)]; kernel_rfl) | (rw [if_neg (by decide +kernel)]; exact ⟨rfl, rfl⟩))
    (fun os started H enc _ => lifted os started H enc)
theorem proved : Rows.OctetOrdersSaid := over
end frOctetOrders
end Go.Proofs.Ytfkemfmklmmkjaa
