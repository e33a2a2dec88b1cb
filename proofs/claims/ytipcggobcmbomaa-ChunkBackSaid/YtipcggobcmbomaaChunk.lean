/- Pieces of a message: how many, which. -/
import Derived.Test.YtipcggobcmbomaaRows
import Derived.Test.YtipcggobcmbomaaApp
import Derived.Test.YtipcggobcmbomaaCopy
import Derived.Test.YtipcggobcmbomaaCopyS
import Derived.Deep.RegionLaw
import Derived.Deep.DeepCutAuto
namespace Go.Proofs.Ytipcggobcmbomaa
open Go.RowKit

/-- so many pieces -/
def mny (K n : Nat) : Nat := if n = 0 then 1 else (n - 1) / K + 1
/-- piece i -/
def pc (K : Nat) (L : List UInt8) (i : Nat) : List UInt8 := (if (i + 1) * K < L.length then 1 else 0) :: (L.drop (i * K)).take K
theorem may_in (s : Int) (w : World) (h0 : 2 ≤ s) (h1 : s ≤ 256) : Calls Try.prog 16 #[.int .i64 s] w fun x w' => x = .returned (.bool true) ∧ w = w' := by
  go_enter Try.func16, Try.ntmps16
  go_wp2
  go_ret
  exact ⟨rfl, rfl⟩
theorem may_out (s : Int) (w : World) (h : s < 2 ∨ 256 < s) : Calls Try.prog 16 #[.int .i64 s] w fun x w' => x = .returned (.bool false) ∧ w = w' := by
  by_cases h0 : s < 2
  · clear h
    go_enter Try.func16, Try.ntmps16
    go_wp2
    go_ret
    exact ⟨rfl, rfl⟩
  · have h1 : decide (s ≤ 256) = false := by simp; omega
    clear h
    go_enter Try.func16, Try.ntmps16
    go_wp2
    go_ret
    exact ⟨rfl, rfl⟩
theorem Many_out (n s : Int) (w : World) (h : (s < 2 ∨ 256 < s) ∨ n < 0 ∨ 65536 < n) : Calls Try.prog 8 #[.int .i64 n, .int .i64 s] w fun x w' => x = .returned (.int .i64 0) ∧ w = w' := by
  by_cases h0 : s < 2 ∨ 256 < s
  · have hm := fun W => may_out s W h0
    clear h
    go_enter Try.func8, Try.ntmps8
    go_wp2_with (first
      | (go_at_call 16; (with_reducible refine (hm _).mono ?_); rintro e w1 ⟨rfl, rfl⟩)
      )
    go_ret
    exact ⟨rfl, rfl⟩
  · have hm := fun W => may_in s W (by omega) (by omega)
    by_cases h1 : n < 0
    · clear h
      go_enter Try.func8, Try.ntmps8
      go_wp2_with (first
        | (go_at_call 16; (with_reducible refine (hm _).mono ?_); rintro e w1 ⟨rfl, rfl⟩)
        )
      go_ret
      exact ⟨rfl, rfl⟩
    · have h2 : 65536 < n := by omega
      clear h
      go_enter Try.func8, Try.ntmps8
      go_wp2_with (first
        | (go_at_call 16; (with_reducible refine (hm _).mono ?_); rintro e w1 ⟨rfl, rfl⟩)
        )
      go_ret
      exact ⟨rfl, rfl⟩
theorem Many_in (n K : Nat) (w : World) (h0 : 1 ≤ K) (h1 : K ≤ 255) (hn : n ≤ 65536) : Calls Try.prog 8 #[.int .i64 n, .int .i64 ((K : Int) + 1)] w fun x w' => x = .returned (.int .i64 (mny K n)) ∧ w = w' := by
  have hm := fun W => may_in ((K : Int) + 1) W (by omega) (by omega)
  by_cases h2 : n = 0
  · subst h2
    go_enter Try.func8, Try.ntmps8
    go_wp2_with (first
      | (go_at_call 16; (with_reducible refine (hm _).mono ?_); rintro e w1 ⟨rfl, rfl⟩)
      )
    go_ret
    exact ⟨rfl, rfl⟩
  · have hne : ((n : Int) == 0) = false := by simp; omega
    have hM : Hid ((((n - 1) / K + 1 : Nat) : Int) = ((n : Int) - 1) / K + 1) := Lib.hid (by
      have e : ((n : Int) - 1) = ((n - 1 : Nat) : Int) := by omega
      rw [e]
      push_cast
      rfl)
    have hb : ((n : Int) - 1) / K ≤ 65536 := Int.le_trans (Int.ediv_le_self _ (by omega)) (by omega)
    have hb0 : 0 ≤ ((n : Int) - 1) / K := Int.ediv_nonneg (by omega) (by omega)
    go_enter Try.func8, Try.ntmps8
    go_wp2_with (first
      | (go_at_call 16; (with_reducible refine (hm _).mono ?_); rintro e w1 ⟨rfl, rfl⟩)
      )
    go_ret
    exact ⟨by unfold mny; rw [if_neg h2, hM.out]; rfl, rfl⟩
theorem cutter_any (X : ByteArray) (s : Int) (w : World) : Calls Try.prog 17 #[.string X, .int .i64 s] w fun x w' => ∃ gM gS, x = .returned (.func (.func 19) #[] #[.pointer (some ⟨gS, 0, none⟩), .pointer (some ⟨gM, 0, none⟩)]) ∧ Only Nil w w' ∧ Blk w' gM 9 #[.string X] ∧ Blk w' gS 3 #[.int .i64 s] := by
  have hmf := mkf Try.prog
  go_enter Try.func17, Try.ntmps17
  go_wp2
  go_ret
  have h1 := Blk.new (w.alloc (.cells #[.string X] 9)) 3 #[.int .i64 s]
  exact ⟨w.heap.size, w.heap.size + 1, rfl, ((Only.refl _ _).alloc _).alloc _, (Blk.new _ _ _).alloc _, by simpa using h1⟩
theorem u8_info : (Try.prog.info? 5).map (fun i => (i.zero, i.size, i.bytes)) = some (some (.int .u8 0), 1, 1) := by kernel_rfl
theorem u8_size : (Try.prog.info? 5).map (·.size) = some 1 := by kernel_rfl
theorem made_zeroB (n : Nat) : (madeCells #[.int .u8 0] n).toList = (List.replicate n (0 : UInt8)).flatMap encB := by
  unfold madeCells
  apply List.ext_getElem?
  intro k
  by_cases hk : k < n
  · have := flat_at (enc := encB) (sz := 1) (fun _ _ => rfl) (l := List.replicate n (0 : UInt8)) (i := k) (x := 0) (by rw [List.getElem?_replicate]; simp [hk]) (j := 0) (by decide)
    rw [Nat.mul_one, Nat.add_zero] at this
    rw [this]
    simp [hk, Nat.mod_one, encB]
  · rw [List.getElem?_eq_none (by simp; omega), List.getElem?_eq_none (by rw [flat1 (enc := encB) (fun _ => rfl)]; simp; omega)]
theorem hmakeB (n : Nat) (hn : n ≤ 100000) (w : World) : (Instr.makeSlice 46 (.int .i64 (n : Int)) (.int .i64 (n : Int))).run Try.prog w = .ok (.slice (some ⟨w.heap.size, 0, none⟩) n n) (w.alloc (.cells (madeCells #[.int .u8 0] n) 5)) := by
  obtain ⟨i, hi, hz, hs, hb⟩ := info_parts u8_info
  have := run_make (P := Try.prog) w 46 5 i (.int .u8 0) Try.underlying46 hi hz .i64 .i64 n n (by omega) (by omega) (by rw [hb]; omega) (by omega)
  rw [hs] at this
  simpa [Value.cells] using this
theorem made_own (n : Nat) (hn : n ≤ 100000) (w : World) : Ow encB 1 (w.alloc (.cells (madeCells #[.int .u8 0] n) 5)) w.heap.size 5 (.slice (some ⟨w.heap.size, 0, none⟩) n n) (List.replicate n 0) := by
  have := Ow.lit (enc := encB) (sz := 1) (e := 5) (base := w.heap.size) w (List.replicate n (0 : UInt8)) (made_zeroB n) (by rw [flat1 (enc := encB) (fun _ => rfl)]; simp) (by simp [maxLen]; omega) (Nat.le_refl _)
  simpa using this
theorem ext_mid (X : ByteArray) (F T : Nat) : (X.extract F T).data.toList = (X.data.toList.drop F).take (T - F) := by simp
theorem ByteArray.toList_size' (S : ByteArray) : S.data.toList.length = S.size := by simp
theorem fl_at (fl : UInt8) (M : Nat) (S : List UInt8) (hS : S.length = M - 1) (hM : 1 ≤ M) : (((List.replicate M (0 : UInt8)).set 0 0).set 0 fl).take 1 ++ (S ++ (((List.replicate M (0 : UInt8)).set 0 0).set 0 fl).drop (1 + S.length)) = fl :: S := by
  obtain ⟨m, rfl⟩ : ∃ m, M = m + 1 := ⟨M - 1, by omega⟩
  rw [List.replicate_succ, List.set_cons_zero, List.set_cons_zero]
  simp at hS ⊢
  omega
theorem cutter1_at (X : ByteArray) (K i F T M : Nat) (fl : UInt8) (gM gS : Nat) (w : World) (h0 : 1 ≤ K) (h1 : K ≤ 255) (hX : X.size ≤ 65536) (hF : (i : Int) * K = F) (hFT : F ≤ T) (hTX : T ≤ X.size) (hM0 : M + F = 1 + T)
    (hT : (F + K < X.size ∧ T = F + K ∧ fl = 1) ∨ (X.size ≤ F + K ∧ T = X.size ∧ fl = 0)) (hM : Blk w gM 9 #[.string X]) (hS : Blk w gS 3 #[.int .i64 ((K : Int) + 1)]) :
    Calls Try.prog 19 #[.int .i64 i, .pointer (some ⟨gS, 0, none⟩), .pointer (some ⟨gM, 0, none⟩)] w fun x w' => x = .returned (.string (strOf (fl :: (X.data.toList.drop F).take (T - F)))) ∧ Only Nil w w' := by
  have c0 := hM.cell 0
  have c1 := hS.cell 0
  have z0 := hM.lt
  have z1 := hS.lt
  have e2 : (1 : Int) + T - F = M := by omega
  have hmk := hmakeB M (by omega)
  have hOw := made_own M (by omega) w
  have hM1 := hM.alloc (.cells (madeCells #[.int .u8 0] M) 5)
  have hon := (Only.refl Nil w).alloc (.cells (madeCells #[.int .u8 0] M) 5)
  have HE := Lib.hid hM0
  have hMp : 1 ≤ M := by omega
  clear hM0 hM hS
  rcases hT with ⟨hlt, hTe, rfl⟩ | ⟨hge, rfl, rfl⟩
  · have e1 : (F : Int) + ((K : Int) + 1) - 1 = T := by omega
    have hm1 : (T : Int) < X.size := by omega
    have hTe' := Lib.hid hTe
    clear hTe hlt
    go_enter Try.func19, Try.ntmps19
    go_upto_region 4 with fail
    obtain ⟨gg, hgg⟩ : ∃ gg, gg = w.heap.size := ⟨_, rfl⟩
    rw [← hgg] at hOw
    have hgl : gg < (w.alloc (.cells (madeCells #[.int .u8 0] M) 5)).heap.size := by simp; omega
    have hne : gM ≠ gg := by omega
    simp only [← hgg]
    have HG := Lib.hid hgg
    have hgz : w.heap.size ≤ gg := by omega
    clear hgg
    generalize (w.alloc (.cells (madeCells #[.int .u8 0] M) 5)) = wb at *
    obtain ⟨_, _, y0, e0, _, hy0, _, hc0⟩ := (hOw.sq (fun _ _ => rfl) rfl).at_ (k := 0) (by simp; omega)
    injection e0 with e0
    injection e0 with e4 e5
    subst e4 e5
    have k0 : wb.cell? ⟨gg, 0, none⟩ = some (.int .u8 y0.toNat) := by simpa [encB] using hc0 0 (by decide)
    have f0 : wb.frozen? ⟨gg, 0, none⟩ = false := by simpa using hOw.frz 0
    have hO1 := hOw.put1 (fun _ => rfl) 0 (by simp; omega) (0 : UInt8) (.int .u8 0) rfl
    have m0 := hM1.cell 0
    have mi : (0 : Int) < M := by omega
    clear hc0 hy0
    go_wp2
    have hO2 := Ow.drew (hO1.put1 (fun _ => rfl) 0 (by simp; omega) (1 : UInt8) (.int .u8 1) rfl)
    have hM2 := Blk.drew ((hM1.far (p := ⟨gg, 0, none⟩) hne (.int .u8 0)).far (p := ⟨gg, 0, none⟩) hne (.int .u8 1))
    have hn2 := Only.drew ((hon.setNew hgz 0 (.int .u8 0)).setNew hgz 0 (.int .u8 1))
    have b1 : ((wb.setCell ⟨gg, 0, none⟩ (.int .u8 0)).setCell ⟨gg, 0, none⟩ (.int .u8 1)).drew.cell? ⟨gM, 0, none⟩ = some (.string X) := hM2.cell 0
    have hmi : (1 : Int) ≤ M := by omega
    have hFi : (F : Int) ≤ (T : Nat) := by omega
    have hTi : ((T : Nat) : Int) ≤ X.size := by omega
    have hSz : (X.extract F T).size = M - 1 := by rw [ByteArray.size_extract]; have := HE.out; omega
    have hSd : (X.extract F T).data.toList = (X.data.toList.drop F).take (T - F) := ext_mid X F T
    have hfl := fl_at (1 : UInt8) M (X.extract F T).data.toList (by rw [ByteArray.toList_size', hSz]) hMp
    rw [ByteArray.toList_size'] at hfl
    have HFL := Lib.hid hfl
    have HSZ := Lib.hid hSz
    have HSD := Lib.hid hSd
    have hSle : (X.extract F T).size ≤ M - 1 := by omega
    clear hSz hSd hfl k0 f0 m0 hO1 hOw hM1 hon hmk
    go_region_held3 (fun w' => w'.cell? ⟨gM, 0, none⟩ = some (.string X)) (with_reducible (first | exact b1 | exact b1n)) (first
      | (refine step_cpyS (by rfl) (.tmp 33) (.tmp 37) _ _ (by rfl) 5 Try.underlying46 u8_size hO2 _ _ _ (X.extract F T) (by rfl) (by rfl) 1 (by omega) (by omega) hSle (by intro _; rw [if_neg (by omega)]; simp [Addr.add_lit]) _ HFL.out ?_; intro w10 h10 h11; have b1n : w10.cell? ⟨gM, 0, none⟩ = some (.string X) := (hM2.kept h11.out (fun hh => by simp [ownB, Value.ownBlock] at hh; omega)).cell 0)
      )
    have hstr := h10.out.str (P := Try.prog) 46 5 9 Try.underlying46 Try.underlying5 Try.underlying9
    have hfin := hn2.trans_new h11.out (fun i hi hh => by simp [ownB, Value.ownBlock] at hh; omega)
    go_wp2
    all_goals go_ret
    all_goals exact ⟨by rw [← HSD.out]; rfl, hfin⟩
  · rcases Nat.eq_or_lt_of_le hge with heq | hgt
    · have e1 : (F : Int) + ((K : Int) + 1) - 1 = (X.size : Int) := by omega
      clear heq
      clear hge
      go_enter Try.func19, Try.ntmps19
      go_upto_region 4 with fail
      obtain ⟨gg, hgg⟩ : ∃ gg, gg = w.heap.size := ⟨_, rfl⟩
      rw [← hgg] at hOw
      have hgl : gg < (w.alloc (.cells (madeCells #[.int .u8 0] M) 5)).heap.size := by simp; omega
      have hne : gM ≠ gg := by omega
      simp only [← hgg]
      have HG := Lib.hid hgg
      have hgz : w.heap.size ≤ gg := by omega
      clear hgg
      generalize (w.alloc (.cells (madeCells #[.int .u8 0] M) 5)) = wb at *
      obtain ⟨_, _, y0, e0, _, hy0, _, hc0⟩ := (hOw.sq (fun _ _ => rfl) rfl).at_ (k := 0) (by simp; omega)
      injection e0 with e0
      injection e0 with e4 e5
      subst e4 e5
      have k0 : wb.cell? ⟨gg, 0, none⟩ = some (.int .u8 y0.toNat) := by simpa [encB] using hc0 0 (by decide)
      have f0 : wb.frozen? ⟨gg, 0, none⟩ = false := by simpa using hOw.frz 0
      have hO1 := hOw.put1 (fun _ => rfl) 0 (by simp; omega) (0 : UInt8) (.int .u8 0) rfl
      have m0 := hM1.cell 0
      have mi : (0 : Int) < M := by omega
      clear hc0 hy0
      go_wp2
      have hO2 := Ow.drew (show Ow encB 1 (wb.setCell ⟨gg, 0, none⟩ (.int .u8 0)) gg 5 (.slice (some ⟨gg, 0, none⟩) M M) (((List.replicate M (0 : UInt8)).set 0 0).set 0 0) from by rw [List.set_set]; exact hO1)
      have hM2 := Blk.drew (hM1.far (p := ⟨gg, 0, none⟩) hne (.int .u8 0))
      have hn2 := Only.drew (hon.setNew hgz 0 (.int .u8 0))
      have b1 : (wb.setCell ⟨gg, 0, none⟩ (.int .u8 0)).drew.cell? ⟨gM, 0, none⟩ = some (.string X) := hM2.cell 0
      have hmi : (1 : Int) ≤ M := by omega
      have hFi : (F : Int) ≤ (X.size : Nat) := by omega
      have hTi : ((X.size : Nat) : Int) ≤ X.size := by omega
      have hSz : (X.extract F X.size).size = M - 1 := by rw [ByteArray.size_extract]; have := HE.out; omega
      have hSd : (X.extract F X.size).data.toList = (X.data.toList.drop F).take (X.size - F) := ext_mid X F X.size
      have hfl := fl_at (0 : UInt8) M (X.extract F X.size).data.toList (by rw [ByteArray.toList_size', hSz]) hMp
      rw [ByteArray.toList_size'] at hfl
      have HFL := Lib.hid hfl
      have HSZ := Lib.hid hSz
      have HSD := Lib.hid hSd
      have hSle : (X.extract F X.size).size ≤ M - 1 := by omega
      clear hSz hSd hfl k0 f0 m0 hO1 hOw hM1 hon hmk
      go_region_held3 (fun w' => w'.cell? ⟨gM, 0, none⟩ = some (.string X)) (with_reducible (first | exact b1 | exact b1n)) (first
        | (refine step_cpyS (by rfl) (.tmp 33) (.tmp 37) _ _ (by rfl) 5 Try.underlying46 u8_size hO2 _ _ _ (X.extract F X.size) (by rfl) (by rfl) 1 (by omega) (by omega) hSle (by intro _; rw [if_neg (by omega)]; simp [Addr.add_lit]) _ HFL.out ?_; intro w10 h10 h11; have b1n : w10.cell? ⟨gM, 0, none⟩ = some (.string X) := (hM2.kept h11.out (fun hh => by simp [ownB, Value.ownBlock] at hh; omega)).cell 0)
        )
      have hstr := h10.out.str (P := Try.prog) 46 5 9 Try.underlying46 Try.underlying5 Try.underlying9
      have hfin := hn2.trans_new h11.out (fun i hi hh => by simp [ownB, Value.ownBlock] at hh; omega)
      go_wp2
      all_goals go_ret
      all_goals exact ⟨by rw [← HSD.out]; rfl, hfin⟩
    · have e1 : (F : Int) + ((K : Int) + 1) - 1 = ((F + K : Nat) : Int) := by omega
      have e3 : (X.size : Int) < ((F + K : Nat) : Int) := by omega
      clear hgt
      generalize F + K = FK at *
      clear hge
      go_enter Try.func19, Try.ntmps19
      go_upto_region 4 with fail
      obtain ⟨gg, hgg⟩ : ∃ gg, gg = w.heap.size := ⟨_, rfl⟩
      rw [← hgg] at hOw
      have hgl : gg < (w.alloc (.cells (madeCells #[.int .u8 0] M) 5)).heap.size := by simp; omega
      have hne : gM ≠ gg := by omega
      simp only [← hgg]
      have HG := Lib.hid hgg
      have hgz : w.heap.size ≤ gg := by omega
      clear hgg
      generalize (w.alloc (.cells (madeCells #[.int .u8 0] M) 5)) = wb at *
      obtain ⟨_, _, y0, e0, _, hy0, _, hc0⟩ := (hOw.sq (fun _ _ => rfl) rfl).at_ (k := 0) (by simp; omega)
      injection e0 with e0
      injection e0 with e4 e5
      subst e4 e5
      have k0 : wb.cell? ⟨gg, 0, none⟩ = some (.int .u8 y0.toNat) := by simpa [encB] using hc0 0 (by decide)
      have f0 : wb.frozen? ⟨gg, 0, none⟩ = false := by simpa using hOw.frz 0
      have hO1 := hOw.put1 (fun _ => rfl) 0 (by simp; omega) (0 : UInt8) (.int .u8 0) rfl
      have m0 := hM1.cell 0
      have mi : (0 : Int) < M := by omega
      clear hc0 hy0
      go_wp2
      have hO2 := Ow.drew (show Ow encB 1 (wb.setCell ⟨gg, 0, none⟩ (.int .u8 0)) gg 5 (.slice (some ⟨gg, 0, none⟩) M M) (((List.replicate M (0 : UInt8)).set 0 0).set 0 0) from by rw [List.set_set]; exact hO1)
      have hM2 := Blk.drew (hM1.far (p := ⟨gg, 0, none⟩) hne (.int .u8 0))
      have hn2 := Only.drew (hon.setNew hgz 0 (.int .u8 0))
      have b1 : (wb.setCell ⟨gg, 0, none⟩ (.int .u8 0)).drew.cell? ⟨gM, 0, none⟩ = some (.string X) := hM2.cell 0
      have hmi : (1 : Int) ≤ M := by omega
      have hFi : (F : Int) ≤ (X.size : Nat) := by omega
      have hTi : ((X.size : Nat) : Int) ≤ X.size := by omega
      have hSz : (X.extract F X.size).size = M - 1 := by rw [ByteArray.size_extract]; have := HE.out; omega
      have hSd : (X.extract F X.size).data.toList = (X.data.toList.drop F).take (X.size - F) := ext_mid X F X.size
      have hfl := fl_at (0 : UInt8) M (X.extract F X.size).data.toList (by rw [ByteArray.toList_size', hSz]) hMp
      rw [ByteArray.toList_size'] at hfl
      have HFL := Lib.hid hfl
      have HSZ := Lib.hid hSz
      have HSD := Lib.hid hSd
      have hSle : (X.extract F X.size).size ≤ M - 1 := by omega
      clear hSz hSd hfl k0 f0 m0 hO1 hOw hM1 hon hmk
      go_region_held3 (fun w' => w'.cell? ⟨gM, 0, none⟩ = some (.string X)) (with_reducible (first | exact b1 | exact b1n)) (first
        | (refine step_cpyS (by rfl) (.tmp 33) (.tmp 37) _ _ (by rfl) 5 Try.underlying46 u8_size hO2 _ _ _ (X.extract F X.size) (by rfl) (by rfl) 1 (by omega) (by omega) hSle (by intro _; rw [if_neg (by omega)]; simp [Addr.add_lit]) _ HFL.out ?_; intro w10 h10 h11; have b1n : w10.cell? ⟨gM, 0, none⟩ = some (.string X) := (hM2.kept h11.out (fun hh => by simp [ownB, Value.ownBlock] at hh; omega)).cell 0)
        )
      have hstr := h10.out.str (P := Try.prog) 46 5 9 Try.underlying46 Try.underlying5 Try.underlying9
      have hfin := hn2.trans_new h11.out (fun i hi hh => by simp [ownB, Value.ownBlock] at hh; omega)
      go_wp2
      all_goals go_ret
      all_goals exact ⟨by rw [← HSD.out]; rfl, hfin⟩
end Go.Proofs.Ytipcggobcmbomaa
