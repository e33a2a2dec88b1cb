/- What the calls of a sender of bytes do. -/
import Derived.Test.YtjhjfgelcbphjaaDoorTx
namespace Go.Proofs.YtjhjfgelcbphjaaDoor
open Go.RowKit

section
variable {w w' : World} {b r g base c F : Nat} {row L : List UInt8} {A S : Int} {en ou : Bool}
def TPost (w : World) (b r g base c : Nat) (v : Value) (L : List UInt8) (A S : Int) (en ou : Bool) (x : Ending) (w' : World) : Prop := ∃ (F' : Nat) (row' : List UInt8), x = .returned v ∧ Tb w' b r g base c F' row' L A S en ou ∧ Only (RThr b r g) w w'
set_option maxHeartbeats 2000000 in
theorem TOffer_b (X : ByteArray) (w : World) (h : Tb w b r g base c F row L A S false ou) (k : Nat) (hk : k = min X.size (c - L.length)) (a0 : 0 ≤ A) (a1 : A ≤ 1000000000000) :
    Calls Tryd.prog 54 #[.pointer (some ⟨b, 0, none⟩), .string X] w (TPost w b r g base c (.tuple #[.int .i64 k, .int .i64 0]) (L ++ X.data.toList.take k) (A + k) S false ou) := by
  have hW := Lib.hid (Write_any X w h.ring)
  rw [← hk] at hW
  obtain ⟨c0, c1, c2, c3, c4, c7, c8, zb⟩ := h.facts
  have hbig := h.ring.big
  have hk2 : (k : Int) ≤ 65536 := by omega
  have hner := Lib.hid h.ner
  have hneg := Lib.hid h.neg
  have H := Lib.hid h
  clear h hk
  go_enter Tryd.func54, Tryd.ntmps54
  go_wp2_with (first
    | (go_at_call 79; (with_reducible refine (hW.out).mono ?_); rintro e w1 ⟨row1, rfl, hR1, ho1⟩; have hB1 := H.out.blk.kept ho1 (fun hh => by rcases hh with hh | hh; exact hner.out hh; exact hneg.out hh); have d0 := hB1.cell 0; have zd := hB1.lt; have f0 := hB1.frozen 0; have HB1 := Lib.hid hB1; have HR1 := Lib.hid hR1; have HO1 := Lib.hid ho1; clear hB1 hR1 ho1)
    )
  go_ret2
  have hT1 : Tb w1 b r g base c F row1 (L ++ X.data.toList.take k) A S false ou := ⟨HB1.out, HR1.out, H.out.hb⟩
  exact ⟨F, row1, rfl, hT1.put 0 _ rfl, HO1.out.thr2.thrB 0 _⟩
theorem TEnd_b (w : World) (h : Tb w b r g base c F row L A S false ou) : Calls Tryd.prog 65 #[.pointer (some ⟨b, 0, none⟩)] w (TPost w b r g base c (.int .i64 0) L A S true ou) := by
  obtain ⟨c0, c1, c2, c3, c4, c7, c8, zb⟩ := h.facts
  have f7 := h.blk.frozen 7
  have H := Lib.hid h
  clear h
  go_enter Tryd.func65, Tryd.ntmps65
  go_wp2
  go_ret
  exact ⟨F, row, rfl, H.out.put 7 _ rfl, (Only.refl _ _).thrB 7 _⟩
theorem TReady_b (n : Int) (w : World) (h : Tb w b r g base c F row L A S en ou) (hAS : A = S + L.length) (s0 : 0 ≤ S) (a1 : A ≤ 1000000000000) (hl : 0 < L.length) (hn : 0 < n) : Calls Tryd.prog 85 #[.pointer (some ⟨b, 0, none⟩), .int .i64 n] w fun x w' => x = .returned (.bool true) ∧ Only Nil w w' := by
  have hW := Lib.hid (Waiting_any A S 0 w (Int.le_refl _) s0 (by omega) a1 (by omega))
  obtain ⟨c0, c1, c2, c3, c4, c7, c8, zb⟩ := h.facts
  have H := Lib.hid h
  have hne : ¬ A - S - 0 = 0 := by omega
  obtain ⟨q, hq⟩ : ∃ q, q = A - S - 0 := ⟨_, rfl⟩
  rw [← hq] at hW hne
  clear h hAS s0 a1 hl hq
  go_enter Tryd.func85, Tryd.ntmps85
  go_wp2_with (first
    | (go_at_call 33; (with_reducible refine (hW.out).mono ?_); rintro e w1 ⟨rfl, ho1⟩; have d3 := (H.out.blk.kept ho1 (fun hh => hh)).cell 3; have zd := (H.out.blk.kept ho1 (fun hh => hh)).lt)
    )
  go_ret
  exact ⟨rfl, ho1⟩
theorem cutter_any (w : World) : Calls Tryd.prog 86 #[.pointer (some ⟨b, 0, none⟩)] w fun x w' => ∃ k, x = .returned (.func (.func 102) #[] #[.pointer (some ⟨k, 0, none⟩)]) ∧ Only Nil w w' ∧ Blk w' k 34 #[.pointer (some ⟨b, 0, none⟩)] := by
  have hmf := mkf Tryd.prog
  go_enter Tryd.func86, Tryd.ntmps86
  go_wp2
  go_ret
  exact ⟨_, rfl, (Only.refl _ _).alloc _, Blk.new _ _ _⟩
/-- what goes out of bytes: at most so many -/
def outN (n : Int) (m : Nat) : Nat := cnt (if n ≤ 256 then n else 256) m
theorem outN_le (n : Int) (m : Nat) : outN n m ≤ m := by unfold outN cnt; omega
def CtPost (w : World) (b r g base c : Nat) (row L : List UInt8) (A S : Int) (en ou : Bool) (n : Int) (x : Ending) (w' : World) : Prop :=
  ∃ F', x = .returned (.tuple #[.string (strOf (L.take (outN n L.length))), .int .i64 (outN n L.length)]) ∧ Tb w' b r g base c F' row (L.drop (outN n L.length)) A S en ou ∧ Only (RThr b r g) w w'
theorem cutter1_b (n : Int) (k : Nat) (w : World) (h : Tb w b r g base c F row L A S en ou) (hk : Blk w k 34 #[.pointer (some ⟨b, 0, none⟩)]) : Calls Tryd.prog 102 #[.int .i64 n, .pointer (some ⟨k, 0, none⟩)] w (CtPost w b r g base c row L A S en ou n) := by
  have e0 := hk.cell 0
  have ze := hk.lt
  obtain ⟨c0, c1, c2, c3, c4, c7, c8, zb⟩ := h.facts
  have hner := Lib.hid h.ner
  have hneg := Lib.hid h.neg
  have hsz : (strOf (L.take (outN n L.length))).size = outN n L.length := by
    rw [strOf_size, List.length_take]
    have := outN_le n L.length
    omega
  have HSZ := Lib.hid hsz
  have hR := Lib.hid (Read_any (if n ≤ 256 then n else 256) w h.ring)
  rw [show cnt (if n ≤ 256 then n else 256) L.length = outN n L.length from rfl] at hR
  have H := Lib.hid h
  obtain ⟨X, hX⟩ : ∃ X, X = strOf (L.take (outN n L.length)) := ⟨_, rfl⟩
  have HX := Lib.hid hX
  rw [← hX] at hR HSZ
  obtain ⟨m, hm⟩ : ∃ m, m = outN n L.length := ⟨_, rfl⟩
  have HM := Lib.hid hm
  rw [← hm] at hR HSZ
  clear h hk hsz hX hm
  by_cases hn : n ≤ 256
  · rw [if_pos hn] at hR
    have hn' : ¬ (256 : Int) < n := by omega
    go_enter Tryd.func102, Tryd.ntmps102
    go_wp2_with (first
      | (go_at_call 73; (with_reducible refine (hR.out).mono ?_); rintro e w1 ⟨F1, rfl, hR1, ho1⟩; have HR1 := Lib.hid hR1; have HO1 := Lib.hid ho1; have hsz := HSZ.out; clear hR1 ho1)
      )
    go_ret2
    refine ⟨F1, ?_, ⟨H.out.blk.kept HO1.out (fun hh => hner.out hh), HM.out ▸ HR1.out, H.out.hb⟩, HO1.out.thr1⟩
    rw [← HX.out, ← HM.out]
    rfl
  · rw [if_neg hn] at hR
    have hn' : (256 : Int) < n := by omega
    go_enter Tryd.func102, Tryd.ntmps102
    go_wp2_with (first
      | (go_at_call 73; (with_reducible refine (hR.out).mono ?_); rintro e w1 ⟨F1, rfl, hR1, ho1⟩; have HR1 := Lib.hid hR1; have HO1 := Lib.hid ho1; have hsz := HSZ.out; clear hR1 ho1)
      )
    go_ret2
    refine ⟨F1, ?_, ⟨H.out.blk.kept HO1.out (fun hh => hner.out hh), HM.out ▸ HR1.out, H.out.hb⟩, HO1.out.thr1⟩
    rw [← HX.out, ← HM.out]
    rfl
theorem TTold_b (w : World) (h : Tb w b r g base c F row L A S en ou) : Calls Tryd.prog 32 #[.pointer (some ⟨b, 0, none⟩)] w fun x w' => x = .returned (.agg #[.int .i64 A, .int .i64 S, .int .i64 0]) ∧ Only Nil w w' := by
  obtain ⟨c0, c1, c2, c3, c4, c7, c8, zb⟩ := h.facts
  clear h
  go_enter Tryd.func32, Tryd.ntmps32
  go_wp2
  exact bodyPost_ret (v := .agg #[.int .i64 A, .int .i64 S, .int .i64 0]) (by simp [results, Tryd.results32, go_sem]) rfl ⟨rfl, (Only.refl _ _).alloc _⟩
set_option maxRecDepth 100000 in
set_option maxHeartbeats 4000000 in
theorem TTake_b (n : Int) (w : World) (h : Tb w b r g base c F row L A S en ou) (hAS : A = S + L.length) (s0 : 0 ≤ S) (a1 : A ≤ 1000000000000) (hl : 0 < L.length) (hn : 0 < n) (oo : Bool) (hoo : oo = (en && decide (L.length = outN n L.length))) :
    Calls Tryd.prog 63 #[.pointer (some ⟨b, 0, none⟩), .int .i64 n] w (TPost w b r g base c (.tuple #[.string (strOf (L.take (outN n L.length))), .bool oo, .bool true]) (L.drop (outN n L.length)) A (S + outN n L.length) en oo) := by
  have hle := outN_le n L.length
  have hRd := Lib.hid (TReady_b n w h hAS s0 a1 hl hn)
  have hCt := Lib.hid (fun W k (ho : Only Nil w W) (hk : Blk W k 34 #[.pointer (some ⟨b, 0, none⟩)]) => cutter1_b n k W (h.kept ho) hk)
  unfold CtPost at hCt
  have hWa := Lib.hid (fun W => Waiting_any A (S + outN n L.length) 0 W (Int.le_refl _) (by omega) (by omega) a1 (by omega))
  have hS1 : S + outN n L.length ≤ 1000000000000 := by omega
  have hS0 : 0 ≤ S + outN n L.length := by omega
  have hq : A - (S + outN n L.length) - 0 = L.length - outN n L.length := by omega
  rw [hq] at hWa
  clear hAS h hq
  cases en
  · obtain rfl : oo = false := hoo
    clear hWa
    go_enter Tryd.func63, Tryd.ntmps63
    go_wp2_with (first
      | (go_at_call 85; (with_reducible refine (hRd.out).mono ?_); rintro e w1 ⟨rfl, ho1⟩; have HO1 := Lib.hid ho1; clear ho1)
      | (go_at_call 86; (with_reducible refine (cutter_any _).mono ?_); rintro e w2 ⟨k, rfl, ho2, hk⟩; have HO2 := Lib.hid (HO1.out.trans ho2); have HK := Lib.hid hk; clear ho2 hk)
      | (go_at_call 102; (with_reducible refine (hCt.out _ k HO2.out HK.out).mono ?_); rintro e w3 ⟨F3, rfl, hT3, hO3⟩; have HT3 := Lib.hid hT3; have HO3 := Lib.hid hO3; obtain ⟨d0, d1, d2, d3, d4, d7, d8, zd⟩ := hT3.facts; have f1 := hT3.blk.frozen 1; have f8 := hT3.blk.frozen 8; have HB3 := Lib.hid (show Tb (w3.setCell ⟨b, 1, none⟩ (.int .i64 (S + outN n L.length))) b r g base c F3 row _ A (S + outN n L.length) false ou from hT3.put 1 _ rfl); clear hT3 hO3)
      | (go_at_call 33; (with_reducible refine (hWa.out _).mono ?_); rintro e w4 ⟨rfl, ho4⟩; have hB4 := HB3.out.kept ho4; obtain ⟨g0, g1, g2, g3, g4, g7, g8, zg⟩ := hB4.facts; have k8 := hB4.blk.frozen 8; have HB4 := Lib.hid hB4; have HO4 := Lib.hid ho4; clear ho4 hB4)
      )
    go_region
    go_wp2
    go_ret3
    exact ⟨F3, row, rfl, (HB3.out.put 8 _ rfl).kept ((Only.refl _ _).drew), ((((HO2.out.of_nil _).trans_new HO3.out (fun i hi hh => hh)).thrB 1 _).thrB 8 _).drew⟩
  · by_cases hm : L.length = outN n L.length
    · obtain rfl : oo = true := by rw [hoo, decide_eq_true hm]; rfl
      have hz : (L.length : Int) - outN n L.length = 0 := by omega
      rw [hz] at hWa
      clear hoo hm hz
      go_enter Tryd.func63, Tryd.ntmps63
      go_wp2_with (first
        | (go_at_call 85; (with_reducible refine (hRd.out).mono ?_); rintro e w1 ⟨rfl, ho1⟩; have HO1 := Lib.hid ho1; clear ho1)
        | (go_at_call 86; (with_reducible refine (cutter_any _).mono ?_); rintro e w2 ⟨k, rfl, ho2, hk⟩; have HO2 := Lib.hid (HO1.out.trans ho2); have HK := Lib.hid hk; clear ho2 hk)
        | (go_at_call 102; (with_reducible refine (hCt.out _ k HO2.out HK.out).mono ?_); rintro e w3 ⟨F3, rfl, hT3, hO3⟩; have HT3 := Lib.hid hT3; have HO3 := Lib.hid hO3; obtain ⟨d0, d1, d2, d3, d4, d7, d8, zd⟩ := hT3.facts; have f1 := hT3.blk.frozen 1; have f8 := hT3.blk.frozen 8; have HB3 := Lib.hid (show Tb (w3.setCell ⟨b, 1, none⟩ (.int .i64 (S + outN n L.length))) b r g base c F3 row _ A (S + outN n L.length) true ou from hT3.put 1 _ rfl); clear hT3 hO3)
        | (go_at_call 33; (with_reducible refine (hWa.out _).mono ?_); rintro e w4 ⟨rfl, ho4⟩; have hB4 := HB3.out.kept ho4; obtain ⟨g0, g1, g2, g3, g4, g7, g8, zg⟩ := hB4.facts; have k8 := hB4.blk.frozen 8; have HB4 := Lib.hid hB4; have HO4 := Lib.hid ho4; clear ho4 hB4)
        )
      go_region
      go_wp2
      go_ret3
      exact ⟨F3, row, rfl, (HB4.out.put 8 _ rfl).kept ((Only.refl _ _).drew), ((((((HO2.out.of_nil _).trans_new HO3.out (fun i hi hh => hh)).thrB 1 _).trans (HO4.out.of_nil _)).thrB 8 _)).drew⟩
    · obtain rfl : oo = false := by rw [hoo, decide_eq_false hm]; rfl
      have hz : ¬ (L.length : Int) - outN n L.length = 0 := by omega
      clear hoo hm
      go_enter Tryd.func63, Tryd.ntmps63
      go_wp2_with (first
        | (go_at_call 85; (with_reducible refine (hRd.out).mono ?_); rintro e w1 ⟨rfl, ho1⟩; have HO1 := Lib.hid ho1; clear ho1)
        | (go_at_call 86; (with_reducible refine (cutter_any _).mono ?_); rintro e w2 ⟨k, rfl, ho2, hk⟩; have HO2 := Lib.hid (HO1.out.trans ho2); have HK := Lib.hid hk; clear ho2 hk)
        | (go_at_call 102; (with_reducible refine (hCt.out _ k HO2.out HK.out).mono ?_); rintro e w3 ⟨F3, rfl, hT3, hO3⟩; have HT3 := Lib.hid hT3; have HO3 := Lib.hid hO3; obtain ⟨d0, d1, d2, d3, d4, d7, d8, zd⟩ := hT3.facts; have f1 := hT3.blk.frozen 1; have f8 := hT3.blk.frozen 8; have HB3 := Lib.hid (show Tb (w3.setCell ⟨b, 1, none⟩ (.int .i64 (S + outN n L.length))) b r g base c F3 row _ A (S + outN n L.length) true ou from hT3.put 1 _ rfl); clear hT3 hO3)
        | (go_at_call 33; (with_reducible refine (hWa.out _).mono ?_); rintro e w4 ⟨rfl, ho4⟩; have hB4 := HB3.out.kept ho4; obtain ⟨g0, g1, g2, g3, g4, g7, g8, zg⟩ := hB4.facts; have k8 := hB4.blk.frozen 8; have HB4 := Lib.hid hB4; have HO4 := Lib.hid ho4; clear ho4 hB4)
        )
      go_region
      go_wp2
      go_ret3
      exact ⟨F3, row, rfl, (HB4.out.put 8 _ rfl).kept ((Only.refl _ _).drew), ((((((HO2.out.of_nil _).trans_new HO3.out (fun i hi hh => hh)).thrB 1 _).trans (HO4.out.of_nil _)).thrB 8 _)).drew⟩
end
end Go.Proofs.YtjhjfgelcbphjaaDoor
