/- The moves of a stream, and their data, in order; of a trace in two parts as of the whole (the statement TraceParts). No condition. -/
import Derived.Test.YtamocachpjljdaaTrace7
namespace Go.Proofs.Ytamocachpjljdaa
open Go.RowKit

theorem Kd.four {w : World} {v : Value} (h : Kd.Fit w (.agg [.slc (.agg [.int .i64, .int .i64, .int .i64, .str, .bool]), .int .i64, .int .i64, .int .u8]) v) : ∃ (L : List Mv) (A : Option Addr) (cap : Nat) (wt st a : Int), v = .agg #[.slice A L.length cap, .int .i64 wt, .int .i64 st, .int .u8 a] ∧ 0 ≤ a ∧ a ≤ 255 ∧ L.length ≤ cap ∧ cap ≤ maxLen ∧ Sq encM 5 w w.heap.size A L := by
  obtain ⟨cs, rfl, hc⟩ := h
  obtain ⟨v0, c0, rfl, i0, hc⟩ := Kd.headL rfl hc
  obtain ⟨v1, c1, rfl, i1, hc⟩ := Kd.headL rfl hc
  obtain ⟨v2, c2, rfl, i2, hc⟩ := Kd.headL rfl hc
  obtain ⟨v3, c3, rfl, i3, hc⟩ := Kd.headL rfl hc
  obtain rfl := Kd.end_ hc
  obtain ⟨L, A, cap, rfl, hcp, hm, _, hS⟩ := Kd.moves (v := v0) i0
  obtain ⟨wt, rfl, _⟩ := Kd.int_is i1
  obtain ⟨st, rfl, _⟩ := Kd.int_is i2
  obtain ⟨a, rfl, ha⟩ := Kd.int_is i3
  have := u8_of ha
  exact ⟨L, A, cap, wt, st, a, rfl, this.1, this.2, hcp, hm, hS⟩
theorem dataM_snoc {L : List Mv} {k : Nat} {x : Mv} (wt st : Int) (h : L[k]? = some x) : dataM (L.take (k + 1)) wt st = if x.st = st then (if x.wh = wt then dataM (L.take k) wt st ++ x.s.data.toList else dataM (L.take k) wt st) else dataM (L.take k) wt st := by
  show dM (ofM (L.take (k + 1)) st) wt = _
  rw [ofM_snoc st h]
  by_cases e : x.st = st
  · rw [if_pos e, if_pos e]
    show (List.filter _ (ofM (L.take k) st ++ [x])).flatMap _ = _
    rw [List.filter_append]
    by_cases e2 : x.wh = wt
    · simp [e2]; rfl
    · simp [e2]; rfl
  · rw [if_neg e, if_neg e]
    rfl
theorem dataM_parts (L : List Mv) (k : Nat) (wt st : Int) : dataM L wt st = dataM (L.take k) wt st ++ dataM (L.drop k) wt st := by
  conv => lhs; rw [← List.take_append_drop k L]
  unfold dataM ofM
  rw [List.filter_append, List.filter_append, List.flatMap_append]
set_option maxRecDepth 100000 in
set_option maxHeartbeats 4000000 in
theorem traceParts_walk (v0 : Value) (w : World) (h0 : Kd.Fit w (.agg [.slc (.agg [.int .i64, .int .i64, .int .i64, .str, .bool]), .int .i64, .int .i64, .int .u8]) v0) : Calls Try.prog 6 #[v0] w fun e w' => e = .returned (.bool true) ∧ Below w.heap.size w w' := by
  obtain ⟨L, A, cap, wt, st, a, rfl, a0, a255, hc, hm, hS⟩ := Kd.four h0
  have hLc := hc
  have HAL := Lib.hid (fun W (h : Only Nil w W) (h3 : L.length ≤ 1000) => Of_any A cap L st W (hS.go h) hc h3)
  have HLI := Lib.hid (fun W (h : Only Nil w W) => light_any A cap L W (hS.go h) hc)
  unfold LtPost at HLI
  unfold maxLen at hm
  have hb0 := Blk.new w 39 #[.slice A L.length cap, .int .i64 wt, .int .i64 st, .int .u8 a]
  have hx0 := (Only.refl Nil w).alloc (.cells #[.slice A L.length cap, .int .i64 wt, .int .i64 st, .int .u8 a] 39)
  obtain ⟨n, hn⟩ : ∃ n, n = L.length := ⟨_, rfl⟩
  have HN := Lib.hid hn
  have HS := Lib.hid hS
  rw [← hn] at hc HLI HAL hb0 hx0 ⊢
  have c0 := hb0.cell 0
  have c1 := hb0.cell 1
  have c2 := hb0.cell 2
  have c3 := hb0.cell 3
  have zb := hb0.lt
  have HX0 := Lib.hid hx0
  clear h0 hS hn hb0 hx0
  go_enter Try.func6, Try.ntmps6
  go_wp2
  go_region
  go_wp2_with (first
    | (go_at_call 7; (with_reducible refine (HLI.out _ (HX0.out.drew)).mono ?_); rintro e w1 ⟨q, rfl, hq, ho1⟩; have HO1 := Lib.hid ((HX0.out.drew).trans ho1); have HQ := Lib.hid hq; clear hq ho1)
    | (go_at_call 8; (with_reducible refine (awake_any _).mono ?_); rintro e w2 ⟨rfl, ho2⟩; have HO2 := Lib.hid (HO1.out.trans ho2); clear ho2)
    )
  · go_ret
    exact ⟨rfl, HO2.out.below (Nat.le_refl _) (fun _ _ hh => hh)⟩
  obtain rfl : q = true := by cases q <;> simp_all
  try simp only [Bool.not_true]
  have hLM : L.length ≤ 300 ∧ ∀ m ∈ L, m.s.size ≤ 400 := of_decide_eq_true (HQ.out rfl)
  have h300 : n ≤ 300 := by rw [HN.out]; exact hLM.1
  have H4 := Lib.hid hLM.2
  clear hLM hLc HQ
  go_loopw [7, 8, 9] (fun ov ds ii wr => ∃ (k m : Nat) (AO : Option Addr) (cO : Nat) (X : ByteArray), k ≤ n ∧ m ≤ k ∧ ii = .int .i64 k ∧ ov = .slice AO m cO ∧ ds = .string X ∧ Ow encM 5 wr w.heap.size 28 (.slice AO m cO) (ofM (L.take k) st) ∧ Hid (X = strOf (dataM (L.take k) wt st)) ∧ X.size ≤ k * 400 ∧ Only Nil w wr) (fun _ _ ii _ => n - (intOf ii).toNat)
  case atStart => exact ⟨0, 0, none, 0, noS, Nat.zero_le _, Nat.zero_le _, rfl, rfl, rfl, Ow.nil, Lib.hid rfl, by decide, HO1.out⟩
  case round =>
    obtain ⟨k, m, AO, cO, X, hk, hmk, rfl, rfl, rfl, hO, hX, hXs, ho⟩ := hrel
    by_cases hlt : k < n
    · have hlt' : (k : Int) < n := by omega
      obtain ⟨b, o, x, rfl, hb, hx, f0, f1, f2, f3, f4⟩ := mv_at (HS.out.go ho) (k := k) (by rw [← HN.out]; exact hlt)
      have HSN := Lib.hid (ofM_snoc st hx)
      have HSX := Lib.hid (dataM_snoc wt st hx)
      have HX := Lib.hid hx
      have hxs := H4.out x (List.mem_of_getElem? hx)
      have HO := Lib.hid ho
      have HW := Lib.hid hO
      have HM := Lib.hid hO.len.1
      by_cases hst : x.st = st
      · have HSN2 : Hid (ofM (L.take k) st ++ [x] = ofM (L.take (k + 1)) st) := Lib.hid (by rw [HSN.out, if_pos hst])
        have HL1 : Hid ((ofM (L.take k) st).length + [x].length = m + 1) := Lib.hid (by rw [← HM.out]; rfl)
        have hO4 := Lib.hid (hO.alloc (.cells (mvC x) 28))
        have HO4 := Lib.hid (ho.alloc (.cells (mvC x) 28))
        have HN4 : Hid (Blk (wr.alloc (.cells (mvC x) 28)) wr.heap.size 28 (mvC x)) := Lib.hid (Blk.new wr 28 (mvC x))
        have T14 := Lib.hid (Src.one (P := Try.prog) (enc := encM) (tx := 22) Try.underlying22 x 1 rfl HN4.out rfl (encM_one _))
        by_cases hwt : x.wh = wt
        · have HX2 : Hid (X ++ x.s = strOf (dataM (L.take (k + 1)) wt st)) := Lib.hid (by
            rw [HSX.out, if_pos hst, if_pos hwt, hX.out]
            apply ByteArray.ext
            apply Array.toList_inj.1
            simp [strOf, ByteArray.data_append])
          have HXZ : Hid ((X ++ x.s).size ≤ (k + 1) * 400) := Lib.hid (by rw [ByteArray.size_append]; omega)
          have hz : X.size + x.s.size ≤ 9223372036854775807 := by omega
          obtain ⟨wh, en, st', nn, s⟩ := x
          simp only at f0 f1 f2 f3 f4 hst hwt hxs hz
          clear HSN HSX hx ho hO hX
          dsimp only [mvC] at hO4 HO4 HN4
          subst hst hwt
          go_wp2_with (first
            | (at_builtin
               refine wpList_app2 rfl (.tmp 36) (.tmp 41) _ _ rfl w.heap.size 28 Try.underlying22 mv_info rfl _ (ofM (L.take k) st') rfl hO4.out _ [⟨wh, en, st', nn, s⟩] rfl T14.out (by rw [HL1.out]; omega) (by decide) HO4.out.size (m + 1) HL1.out _ HSN2.out ?_
               intro A6 c6 w6 hown6 ho6 hg6
               have HO6 := Lib.hid (HO4.out.own_nil hO4.out ho6)
               obtain ⟨hb', q0, q1, q2, q3, q4⟩ := mv_known (HS.out.go HO6.out) HX.out
               clear ho6 hg6)
            )
          go_roundw
          case rel => exact ⟨k + 1, m + 1, A6, c6, X ++ s, by omega, by omega, by go_num, rfl, rfl, hown6, HX2, HXZ.out, HO6.out⟩
          case measure => simp [intOf]; omega
        · have HX2 : Hid (X = strOf (dataM (L.take (k + 1)) wt st)) := Lib.hid (by rw [HSX.out, if_pos hst, if_neg hwt, hX.out])
          have hwt2 : (x.wh == wt) = false := by rw [beq_eq_false_iff_ne]; exact hwt
          obtain ⟨wh, en, st', nn, s⟩ := x
          simp only at f0 f1 f2 f3 f4 hst hwt hwt2 hxs
          clear HSN HSX hx ho hO hX
          dsimp only [mvC] at hO4 HO4 HN4
          subst hst
          go_wp2_with (first
            | (at_builtin
               refine wpList_app2 rfl (.tmp 36) (.tmp 41) _ _ rfl w.heap.size 28 Try.underlying22 mv_info rfl _ (ofM (L.take k) st') rfl hO4.out _ [⟨wh, en, st', nn, s⟩] rfl T14.out (by rw [HL1.out]; omega) (by decide) HO4.out.size (m + 1) HL1.out _ HSN2.out ?_
               intro A6 c6 w6 hown6 ho6 hg6
               have HO6 := Lib.hid (HO4.out.own_nil hO4.out ho6)
               obtain ⟨hb', q0, q1, q2, q3, q4⟩ := mv_known (HS.out.go HO6.out) HX.out
               clear ho6 hg6)
            )
          go_roundw
          case rel => exact ⟨k + 1, m + 1, A6, c6, X, by omega, by omega, by go_num, rfl, rfl, hown6, HX2, by omega, HO6.out⟩
          case measure => simp [intOf]; omega
      · have HSN2 : Hid (ofM (L.take (k + 1)) st = ofM (L.take k) st) := Lib.hid (by rw [HSN.out, if_neg hst])
        have HX2 : Hid (X = strOf (dataM (L.take (k + 1)) wt st)) := Lib.hid (by rw [HSX.out, if_neg hst, hX.out])
        have hst2 : (x.st == st) = false := by rw [beq_eq_false_iff_ne]; exact hst
        obtain ⟨wh, en, st', nn, s⟩ := x
        simp only at f0 f1 f2 f3 f4 hst hst2
        clear HSN HSX hx ho hO hX
        go_wp2
        go_roundw
        case rel => exact ⟨k + 1, m, AO, cO, X, by omega, by omega, by go_num, rfl, rfl, by rw [HSN2.out]; exact HW.out, HX2, by omega, HO.out⟩
        case measure => simp [intOf]; omega
    · obtain rfl : k = n := by omega
      have hlt' : ¬ (k : Int) < k := by omega
      obtain ⟨kk, hkk, hke⟩ : ∃ kk : Nat, kk ≤ k ∧ a % ((k : Int) + 1) = kk := ⟨(a % ((k : Int) + 1)).toNat, by
        have h1 := Int.emod_lt_of_pos a (show (0 : Int) < (k : Int) + 1 by omega)
        have h2 := Int.emod_nonneg a (show (k : Int) + 1 ≠ 0 by omega)
        omega, by
        have h2 := Int.emod_nonneg a (show (k : Int) + 1 ≠ 0 by omega)
        omega⟩
      have hT : L.take k = L := List.take_of_length_le (by rw [← HN.out]; exact Nat.le_refl _)
      rw [hT] at hO hX
      have HO := Lib.hid ho
      have HW := Lib.hid hO
      have HM := Lib.hid hO.len.1
      have HOF := Lib.hid (fun W (h : Only Nil w W) => HAL.out W h (by omega))
      rw [← HM.out] at HOF
      have HSM : Hid (∀ W A2 c2, Ow encM 5 W 0 28 (.slice A2 m c2) (ofM L st) → ∀ A3 c3, Ow encM 5 W 0 28 (.slice A3 m c3) (ofM L st) → Calls Try.prog 15 #[.slice A2 m c2, .slice A3 m c3] W fun x w' => x = .returned (.bool true) ∧ Only Nil W w') := Lib.hid (fun W A2 c2 h2 A3 c3 h3 => by
        have := Same_any A2 A3 c2 c3 (ofM L st) (ofM L st) W (h2.sqn encM_len) (h3.sqn encM_len) (by rw [← h2.len.1]; exact h2.len.2.1) (by rw [← h3.len.1]; exact h3.len.2.1) h2.len.2.2
        rw [← h2.len.1] at this
        simpa using this)
      obtain ⟨D1, hD1⟩ : ∃ D, D = strOf (dataM (L.take kk) wt st) := ⟨_, rfl⟩
      obtain ⟨D2, hD2⟩ : ∃ D, D = strOf (dataM (L.drop kk) wt st) := ⟨_, rfl⟩
      have hXD : X = D1 ++ D2 := by
        rw [hX.out, hD1, hD2, dataM_parts L kk]
        apply ByteArray.ext
        apply Array.toList_inj.1
        simp [strOf, ByteArray.data_append]
      subst hXD
      have HD1 := Lib.hid (fun W (h : Only Nil w W) => Data_any A cap L wt st W (HS.out.go h) (by rw [← HN.out]; exact hc) (by rw [← HN.out]; exact h300) H4.out)
      rw [← HN.out, ← hX.out] at HD1
      have HDA : Hid (∀ W, Only Nil w W → Calls Try.prog 17 #[.slice A kk cap, .int .i64 wt, .int .i64 st] W fun x w' => x = .returned (.string D1) ∧ Only Nil W w') := Lib.hid (fun W h => by
        have hl : (L.take kk).length = kk := by rw [List.length_take]; have := HN.out; omega
        have := Data_any A cap (L.take kk) wt st W ((HS.out.go h).take kk) (by rw [hl]; omega) (by rw [hl]; omega) (fun m hm => H4.out m (List.mem_of_mem_take hm))
        rw [hl, ← hD1] at this
        exact this)
      have HDB : Hid (∀ W, Only Nil w W → ∀ A' n' c', Sq encM 5 W W.heap.size A' (L.drop kk) → n' = k - kk → n' ≤ c' → Calls Try.prog 17 #[.slice A' n' c', .int .i64 wt, .int .i64 st] W fun x w' => x = .returned (.string D2) ∧ Only Nil W w') := Lib.hid (fun W h A' n' c' hs hn' hc' => by
        have hl : (L.drop kk).length = n' := by rw [List.length_drop, hn']; have := HN.out; omega
        have := Data_any A' c' (L.drop kk) wt st W hs (by rw [hl]; exact hc') (by rw [hl]; omega) (fun m hm => H4.out m (List.mem_of_mem_drop hm))
        rw [hl, ← hD2] at this
        exact this)
      have HSD : Hid (∀ W, Only Nil w W → ∀ A', A' = A.map (·.add (kk * 5)) → Sq encM 5 W W.heap.size A' (L.drop kk)) := Lib.hid (fun W h A' e => (HS.out.go h).dropped kk (fun _ => e))
      have HSE : Hid (∀ W A', ¬ kk < L.length → Sq encM 5 W W.heap.size A' (L.drop kk)) := Lib.hid (fun W A' h => by
        rw [List.drop_eq_nil_of_le (by omega)]
        exact Sq.nil)
      have hz2 : ¬ 9223372036854775807 < D1.size + D2.size := by
        rw [ByteArray.size_append] at hXs
        omega
      clear hT hO ho hX hXs hD1 hD2 HAL HLI
      have hk1 : (0 : Int) ≤ kk := by omega
      have hk2 : (kk : Int) ≤ k := by omega
      have hk3 : (kk : Int) ≤ cap := by omega
      go_wp2
      by_cases hcj : cap = kk
      all_goals try subst hcj
      all_goals go_region_held3 (fun _ => True) (exact trivial) (first
        | (go_at_call 8; (with_reducible refine (awake_any _).mono ?_); rintro e w2 ⟨rfl, ho2⟩; have HO2 := Lib.hid (HO.out.drew.trans ho2); have HWX := Lib.hid (HW.out.drew.kept ho2 (fun _ _ hh => hh)))
        | (go_at_call 16; have _t := HO2; (with_reducible refine (HOF.out _ HO2.out).mono ?_); rintro e w3 ⟨A3, c3, rfl, hO3, ho3⟩; have HO3 := Lib.hid (HO2.out.trans ho3); have HWY := Lib.hid (HWX.out.kept ho3 (fun _ _ hh => hh)); have HW3 := Lib.hid hO3)
        | (go_at_call 15; have _t := HO3; (with_reducible refine (HSM.out _ _ _ (HW3.out.mono (Nat.zero_le _)) _ _ (HWY.out.mono (Nat.zero_le _))).mono ?_); rintro e w4 ⟨rfl, ho4⟩; have HO4 := Lib.hid (HO3.out.trans ho4))
        | (go_at_call 17; (with_reducible refine (HD1.out _ HO4.out).mono ?_); rintro e w5 ⟨rfl, ho5⟩; have HO5 := Lib.hid (HO4.out.trans ho5))
        | (go_at_call 17; have _t := HO5; (with_reducible refine (HDA.out _ HO5.out).mono ?_); rintro e w6 ⟨rfl, ho6⟩; have HO6 := Lib.hid (HO5.out.trans ho6))
        | (go_at_call 17; have _t := HO6; (with_reducible refine (HDB.out _ HO6.out _ _ _ (by first | exact HSE.out _ _ (by have := HN.out; omega) | exact HSD.out _ HO6.out _ rfl) (by omega) (by omega)).mono ?_); rintro e w7 ⟨rfl, ho7⟩; have HO7 := Lib.hid (HO6.out.trans ho7))
        )
      all_goals
        go_wp2
        go_ret
        exact ⟨rfl, HO7.out.below (Nat.le_refl _) (fun _ _ hh => hh)⟩
/-! The step from the walk to the statement of TraceParts. -/
namespace frTraceParts
open Go.ChangeShapes Go.WideShapes Go.ChangeAt Go.RowKit
set_option linter.unusedVariables false
theorem own : ownKnob Try.prog.godebug = none := by kernel_rfl
theorem laidOut : laidOutB Try.prog = true := by kernel_rfl
theorem shape0 : Kd.ok Try.prog (.agg [.slc (.agg [.int .i64, .int .i64, .int .i64, .str, .bool]), .int .i64, .int .i64, .int .u8]) 39 = true := by kernel_rfl
set_option maxRecDepth 100000 in
theorem contract (H : Type) (enc : TypeId × Value → H) (W : World) (base : Nat) (args : Array Value) (ds gs : List (DataW H)) (before : List MemPlace)
    (hval : ∀ (j : Nat) t v, Try.f6.params[j]? = some t → args[j]? = some v → Value.okWide Try.prog W .any base t v)
    (hW : DataW.Whole enc Try.prog Try.f6.params.toList Rows.tracePartsSpec.vars false W args.toList ds gs before) :
    Calls Try.prog 6 args W fun e W' => ∃ v, e = .returned v ∧ Rows.tracePartsSpec.post enc Try.prog Try.f6 false true false false W args v W' := by
  have hW' := hW
  obtain ⟨p, q, hA0, hV, rfl, hfz, hnd⟩ := hW
  have hA : DataW.TrodAll enc Try.prog W 0 (fun _ => true) true Try.f6.params.toList args.toList ds p := hA0
  rw [Try.params6] at hA hval
  obtain ⟨v0, vs0, d0, ds0, p0, q0, hargs, rfl, rfl, h0, r0⟩ := trodAll_cons hA
  obtain ⟨rfl, rfl, rfl⟩ := trodAll_nil r0
  obtain rfl : args = #[v0] := by cases args; simp_all
  obtain ⟨rfl, rfl⟩ := trodVars_none hV
  have k0 := Kd.fit _ shape0 (hval 0 39 v0 rfl rfl) h0
  have lt0 : ∀ x ∈ p0, x.block < W.heap.size := by obtain ⟨m, hm⟩ := h0; exact DataW.trod_lt m _ _ _ hm
  refine (traceParts_walk v0 W k0).mono fun e W' ⟨he, bel⟩ => ?_
  subst he
  exact ⟨_, rfl, _, _, _, [], _, [], hW', trodAll_mk1 (shut_bool Try.underlying4 _), (trodAll_cons_mk (Below.trod laidOut (by kernel_rfl) (of_decide_eq_true (by kernel_rfl)) h0 bel lt0) trodAll_mk0), rfl, bel.frame _, fun h => by cases h⟩
set_option maxRecDepth 100000 in
theorem lifted (os : Os) (started : os.Started) (H : Type) (enc : TypeId × Value → H) :
    ReturnsInHanded {} Try.checked os 6 .any (Rows.tracePartsSpec.pre6 enc Try.prog Try.f6 Rows.tracePartsRow.domain false) (Rows.tracePartsSpec.post enc Try.prog Try.f6 false true false false) := by
  refine returnsInHanded_of_change (C := Try.checked) own started (by kernel_rfl) Try.func6
    (ChangeSpec.witness6 (enc := enc) (C := Try.checked) false ⟨#[], #[.agg #[.slice none 0 0, .int .i64 0, .int .i64 0, .int .u8 0]], []⟩ 8 (by kernel_rfl) (by kernel_rfl) (by kernel_rfl) (by kernel_rfl)) ?_
  intro W base args ds gs before hval hW _ _
  exact contract H enc W base args ds gs before hval hW
theorem over : Rows.tracePartsRow.holds Try.pinned (OpenSpec.ofChange Rows.tracePartsSpec) :=
  OpenClaim.holds_of_wide 6 Try.f6 rfl rfl rfl rfl rfl rfl rfl ⟨rfl, rfl, rfl, rfl, rfl⟩ rfl rfl rfl rfl rfl (by kernel_rfl) Try.func6 (by kernel_rfl)
    (of_decide_eq_true (by kernel_rfl)) (by unfold Func.isWrapper; first | (rw [if_pos (by decide +kernel)]; kernel_rfl) | (rw [if_neg (by decide +kernel)]; exact ⟨rfl, rfl⟩))
    (fun os started H enc _ => lifted os started H enc)
theorem proved : Rows.TracePartsSaid := over
end frTraceParts
end Go.Proofs.Ytamocachpjljdaa
