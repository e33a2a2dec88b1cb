/- Claims: what each gets, what is left. -/
import Derived.Test.YtfmeidnpcbfloaaShare7
import Derived.Test.YtfmeidnpcbfloaaApp
import Derived.Deep.RegionLaw
namespace Go.Proofs.Ytfmeidnpcbfloaa
open Go.RowKit

theorem layK_get (P : List Int) : ∀ (k i : Nat), k ≤ 256 → i < k → (layK P k).getD i 0 = P.getD i 0
  | 0, _, _, h => absurd h (Nat.not_lt_zero _)
  | k + 1, i, hk, h => by
    rw [layK, getD_set (by rw [layK_len]; omega)]
    by_cases e : i = k
    · subst e
      rw [if_pos rfl]
    · rw [if_neg e]
      exact layK_get P k i (by omega) (by omega)
theorem wantC_bd (x : Int) : 0 ≤ wantC x ∧ wantC x ≤ 2147483647 := by
  unfold wantC
  split <;> split <;> omega
theorem wghtC_bd (x : Int) : 1 ≤ wghtC x ∧ wghtC x ≤ 256 := by
  unfold wghtC
  split <;> split <;> omega
theorem z256_get (i : Nat) : z256.getD i 0 = 0 := by
  unfold z256
  rw [List.getD_eq_getElem?_getD, List.getElem?_replicate]
  split <;> rfl
theorem ok0 (whole : Int) (L : List Cm) (h0 : 0 ≤ whole) (h1 : whole ≤ 2147483647) (hn : L.length ≤ 256) : Ok whole L.length (layK (wts L) L.length) (layK (wgs L) L.length) z256 := by
  refine ⟨hn, h0, h1, fun i hi => ?_, fun i hi => ?_⟩
  · rw [layK_get _ _ _ hn hi, wgs_at (List.getElem?_eq_getElem hi)]
    exact wghtC_bd _
  · rw [layK_get _ _ _ hn hi, wts_at (List.getElem?_eq_getElem hi), z256_get]
    have := wantC_bd (L[i]).wt
    exact ⟨Int.le_refl _, this.1, this.2⟩
/-- all that is shared out -/
def shOut (whole : Int) (L : List Cm) : Int × List Int := shareS L.length (layK (wts L) L.length) (layK (wgs L) L.length) (whole, z256)
theorem shOut_ok (whole : Int) (L : List Cm) (h0 : 0 ≤ whole) (h1 : whole ≤ 2147483647) (hn : L.length ≤ 256) :
    Ok (shOut whole L).1 L.length (layK (wts L) L.length) (layK (wgs L) L.length) (shOut whole L).2 ∧ (shOut whole L).2.length = 256 ∧ ((shOut whole L).1 = 0 ∨ wantK (layK (wts L) L.length) (layK (wgs L) L.length) (shOut whole L).2 L.length = 0) :=
  shareS_ok whole.toNat whole z256 (by omega) (ok0 whole L h0 h1 hn) z256_len
section
variable {w : World} {A : Option Addr} {cap : Nat} {whole : Int} {L : List Cm}
set_option maxHeartbeats 1000000 in
theorem shared_any (w : World) (hS : Sq encC 2 w w.heap.size A L) (hc : L.length ≤ cap) (h0 : 0 ≤ whole) (h1 : whole ≤ 2147483647) (hn : L.length ≤ 256) :
    Calls Try.prog 15 #[.int .i64 whole, .slice A L.length cap] w fun x w' => ∃ b, x = .returned (.tuple #[.pointer (some ⟨b, 0, none⟩), .int .i64 0]) ∧ w.heap.size ≤ b ∧ Ts w' b (shOut whole L).1 L.length (layK (wts L) L.length) (layK (wgs L) L.length) (shOut whole L).2 ∧ Only Nil w w' := by
  have HL := Lib.hid (lay_any A cap whole L w hS hc hn)
  have HSh := Lib.hid (fun W b (q : Ts W b whole L.length (layK (wts L) L.length) (layK (wgs L) L.length) z256) => share_any W q (ok0 whole L h0 h1 hn))
  obtain ⟨R, hR⟩ : ∃ R, R = shOut whole L := ⟨_, rfl⟩
  rw [show shareS L.length (layK (wts L) L.length) (layK (wgs L) L.length) (whole, z256) = R from hR.symm] at HSh
  rw [← hR]
  generalize layK (wts L) L.length = WW at *
  generalize layK (wgs L) L.length = VV at *
  obtain ⟨n, hn'⟩ : ∃ n, n = L.length := ⟨_, rfl⟩
  rw [← hn'] at HL HSh hc hn ⊢
  have t1 : ¬ whole < 0 := by omega
  have t2 : ¬ 2147483647 < whole := by omega
  have t3 : ¬ (256 : Int) < n := by omega
  unfold ShPost at HSh
  clear hS hR hn'
  go_enter Try.func15, Try.ntmps15
  go_wp2_with (first
    | (go_at_call 20; (with_reducible refine (HL.out).mono ?_); rintro e w1 ⟨b, rfl, hb, hT1, ho1⟩; have HT1 := Lib.hid hT1; have HO1 := Lib.hid ho1; clear hT1 ho1)
    | (go_at_call 21; (with_reducible refine (HSh.out _ _ HT1.out).mono ?_); rintro e w2 ⟨rfl, hT2, ho2⟩; have HT2 := Lib.hid hT2; have HO2 := Lib.hid (HO1.out.trans_new ho2 (fun i hi hh => by unfold One at hh; omega)); clear hT2 ho2)
    )
  go_ret2
  exact ⟨b, rfl, hb, HT2.out, HO2.out⟩
theorem Left_any (w : World) (hS : Sq encC 2 w w.heap.size A L) (hc : L.length ≤ cap) (h0 : 0 ≤ whole) (h1 : whole ≤ 2147483647) (hn : L.length ≤ 256) :
    Calls Try.prog 9 #[.int .i64 whole, .slice A L.length cap] w fun x w' => x = .returned (.int .i64 (shOut whole L).1) ∧ Only Nil w w' := by
  have HSh := Lib.hid (shared_any w hS hc h0 h1 hn)
  generalize shOut whole L = R at *
  generalize layK (wts L) L.length = WW at *
  generalize layK (wgs L) L.length = VV at *
  generalize L.length = n at *
  clear hS
  go_enter Try.func9, Try.ntmps9
  go_wp2_with (first
    | (go_at_call 15; (with_reducible refine (HSh.out).mono ?_); rintro e w1 ⟨b, rfl, hb, hT1, ho1⟩; have c0 := hT1.at0; have zb := hT1.lt; have HO1 := Lib.hid ho1; clear hT1 ho1)
    )
  go_ret
  exact ⟨rfl, HO1.out⟩
set_option maxRecDepth 100000 in
set_option maxHeartbeats 2000000 in
theorem Share_any (w : World) (hS : Sq encC 2 w w.heap.size A L) (hc : L.length ≤ cap) (h0 : 0 ≤ whole) (h1 : whole ≤ 2147483647) (hn : L.length ≤ 256) :
    Calls Try.prog 8 #[.int .i64 whole, .slice A L.length cap] w fun x w' => ∃ A' c', x = .returned (.tuple #[.slice A' L.length c', .int .i64 0]) ∧ Ow encZ 1 w' w.heap.size 3 (.slice A' L.length c') ((shOut whole L).2.take L.length) ∧ Only Nil w w' := by
  have HSh := Lib.hid (shared_any w hS hc h0 h1 hn)
  have hlen := (shOut_ok whole L h0 h1 hn).2.1
  generalize shOut whole L = R at *
  generalize layK (wts L) L.length = WW at *
  generalize layK (wgs L) L.length = VV at *
  generalize L.length = n at *
  obtain ⟨l, G⟩ := R
  simp only at hlen HSh ⊢
  have htl : (G.take n).length = n := by rw [List.length_take]; omega
  have HTL := Lib.hid htl
  have n256 : (n : Int) ≤ 256 := by omega
  have n0 : (0 : Int) ≤ n := by omega
  clear hS htl
  go_enter Try.func8, Try.ntmps8
  go_wp2_with (first
    | (go_at_call 15; (with_reducible refine (HSh.out).mono ?_); rintro e w1 ⟨b, rfl, hb, hT1, ho1⟩; have HT1 := Lib.hid hT1; have c1 := hT1.drew.at1; have zb := hT1.lt; have HO1 := Lib.hid ho1; clear hT1 ho1)
    )
  have hsq : Sq encZ 1 w1.drew w1.drew.heap.size (some ⟨b, 514, none⟩) (G.take n) := fun _ => ⟨b, 514, rfl, HT1.out.drew.lt, fun i x hx j hj => by
    obtain rfl : j = 0 := by omega
    have hi : i < n := by have := (List.getElem?_eq_some_iff.1 hx).1; rw [HTL.out] at this; exact this
    have hg := HT1.out.drew.atG (i := i) (by omega)
    rw [List.getElem?_take_of_lt hi] at hx
    rw [List.getD_eq_getElem?_getD, hx] at hg
    simpa [encZ] using hg⟩
  have HSR := Lib.hid (Src.sqn (P := Try.prog) (tx := 24) Try.underlying24 256 n hsq (fun _ _ => rfl) (fun x _ => encZ_one x) (by decide) HTL.out)
  have HM1 : Hid (([] : List Int).length + (G.take n).length ≤ 1000000000) := Lib.hid (by rw [HTL.out]; simp; omega)
  have HM2 : Hid (([] : List Int).length + (G.take n).length = n) := Lib.hid (by rw [HTL.out]; simp)
  clear hsq
  go_region_law (first
    | (refine step_app2 (by rfl) (.const (.slice none 0 0)) (.tmp 24) _ _ (by rfl) w.heap.size 3 Try.underlying24 int_info (by rfl) _ ([] : List Int) (by rfl) Ow.nil _ (G.take n) (by rfl) HSR.out HM1.out (by decide) HO1.out.drew.size n HM2.out (G.take n) rfl ?_; intro A9 c9 w9 hown9 ho9 hg9; have HO9 := Lib.hid (HO1.out.drew.own_nil (Ow.nil (enc := encZ) (sz := 1) (e := 3)) ho9); have HW9 := Lib.hid hown9; clear ho9 hg9 hown9)
    )
  all_goals
    go_wp2
    go_ret2
    exact ⟨A9, c9, rfl, HW9.out, HO9.out⟩
end
end Go.Proofs.Ytfmeidnpcbfloaa
