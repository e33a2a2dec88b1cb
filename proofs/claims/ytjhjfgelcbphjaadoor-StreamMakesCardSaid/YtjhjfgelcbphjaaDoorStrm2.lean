/- A stream that was made: what it is; what its calls do, of bytes. -/
import Derived.Test.YtjhjfgelcbphjaaDoorStrm
namespace Go.Proofs.YtjhjfgelcbphjaaDoor
open Go.RowKit

theorem Fol.kept {w w' : World} {S : Nat → Prop} (h : Fol w) (ho : Only S w w') (hg : ¬ S 0) : Fol w' := Tab.kept h ho hg
abbrev cfC (a b c sb si sr ev wa sl : Int) : Array Value := #[.int .i64 a, .int .i64 b, .int .i64 c, .int .i64 sb, .int .i64 si, .int .i64 sr, .int .i64 ev, .int .i64 wa, .int .i64 sl]
/-- a stream, its life in state z -/
structure Sm (w : World) (s l t r base : Nat) (F : Nat → Prop) (id kd : Int) (own : Bool) (z : Int) (cp st : Int) (B : List UInt8) (L : List ByteArray) (wn : Int) (en ou : Bool) (A S D : Int) : Prop where
  blk : Blk w s 37 #[.pointer (some ⟨l, 0, none⟩), .int .i64 id, .bool own, .pointer (some ⟨t, 0, none⟩), .pointer (some ⟨r, 0, none⟩)]
  life : Lf w l z
  tx : PT w t base F kd cp st B L wn en ou A S D
  hs : base ≤ s
  hl : base ≤ l
  fl : ¬ F l
  fs : ¬ F s
  ls : l ≠ s
section
variable {w w' : World} {s l t r base : Nat} {F F' : Nat → Prop} {id kd z cp st : Int} {own : Bool} {B : List UInt8} {L : List ByteArray} {wn A S D : Int} {en ou : Bool}
theorem Sm.kept (h : Sm w s l t r base F id kd own z cp st B L wn en ou A S D) (ho : Only Nil w w') : Sm w' s l t r base F id kd own z cp st B L wn en ou A S D :=
  ⟨h.blk.kept ho (fun hh => hh), Blk.kept h.life ho (fun hh => hh), h.tx.kept ho, h.hs, h.hl, h.fl, h.fs, h.ls⟩
theorem Sm.facts (h : Sm w s l t r base F id kd own z cp st B L wn en ou A S D) : w.cell? ⟨s, 0, none⟩ = some (.pointer (some ⟨l, 0, none⟩)) ∧ w.cell? ⟨s, 1, none⟩ = some (.int .i64 id) ∧ w.cell? ⟨s, 2, none⟩ = some (.bool own) ∧ w.cell? ⟨s, 3, none⟩ = some (.pointer (some ⟨t, 0, none⟩)) ∧ w.cell? ⟨s, 4, none⟩ = some (.pointer (some ⟨r, 0, none⟩)) ∧ s < w.heap.size :=
  ⟨h.blk.cell 0, h.blk.cell 1, h.blk.cell 2, h.blk.cell 3, h.blk.cell 4, h.blk.lt⟩
/-- its sender has done something -/
theorem Sm.txDone (h : Sm w s l t r base F id kd own z cp st B L wn en ou A S D) {B' : List UInt8} {L' : List ByteArray} {wn' A' S' D' : Int} {en' ou' : Bool} (hp : PT w' t base F' kd cp st B' L' wn' en' ou' A' S' D') (ho : Only F w w') (hg : Grew w F F') : Sm w' s l t r base F' id kd own z cp st B' L' wn' en' ou' A' S' D' := by
  refine ⟨h.blk.kept ho h.fs, Blk.kept h.life ho h.fl, hp, h.hs, h.hl, fun hh => ?_, fun hh => ?_, h.ls⟩
  · rcases hg _ hh with e | e
    · exact h.fl e
    · have := Blk.lt h.life; omega
  · rcases hg _ hh with e | e
    · exact h.fs e
    · have := h.blk.lt; omega
/-- its life has gone on -/
theorem Sm.lifeDone (h : Sm w s l t r base F id kd own z cp st B L wn en ou A S D) {z' : Int} (hl : Lf w' l z') (ho : Only (One l) w w') : Sm w' s l t r base F id kd own z' cp st B L wn en ou A S D :=
  ⟨h.blk.kept ho (fun e => h.ls (by unfold One at e; exact e.symm)), hl, h.tx.off ho (fun k hk e => h.fl (by unfold One at e; rw [← e]; exact hk)), h.hs, h.hl, h.fl, h.fs, h.ls⟩
def NewSm (w : World) (id kd : Int) (own : Bool) (cp st : Int) (x : Ending) (w' : World) : Prop := ∃ s l t r F, x = .returned (.tuple #[.pointer (some ⟨s, 0, none⟩), .int .i64 0]) ∧ Sm w' s l t r w.heap.size F id kd own 1 cp st [] [] 0 false false 0 0 0 ∧ Only Nil w w'
theorem TBy.mono {r g c F : Nat} {row : List UInt8} {b b1 b2 : Nat} (hb : b2 ≤ b1) (h : TBy w b r g b1 c F row B A S D en ou) : TBy w b r g b2 c F row B A S D en ou :=
  ⟨h.blk, ⟨h.ring.blk, h.ring.own.mono hb, by have := h.ring.hb; omega, h.ring.len, h.ring.le, h.ring.fst, h.ring.big, h.ring.at_⟩, by have := h.hb; omega⟩
theorem TIt.mono {q dm : Nat} {v : Value} {b b1 b2 : Nat} (hb : b2 ≤ b1) (h : TIt w b q dm b1 v cp st L wn A S D en ou) : TIt w b q dm b2 v cp st L wn A S D en ou :=
  ⟨h.blk, ⟨h.qu.blk, h.qu.own.mono hb, by have := h.qu.hb; omega⟩, h.dem, by have := h.hb; omega, by have := h.hd; omega⟩
theorem PT.mono {b1 b2 : Nat} (hb : b2 ≤ b1) {w : World} {t : Nat} {F : Nat → Prop} {kd cp st : Int} {B : List UInt8} {L : List ByteArray} {wn : Int} {en ou : Bool} {A S D : Int} (h : PT w t b1 F kd cp st B L wn en ou A S D) : PT w t b2 F kd cp st B L wn en ou A S D := by
  cases h with
  | bytes h => exact .bytes (h.mono hb)
  | items h => exact .items (h.mono hb)
set_option maxRecDepth 100000 in
set_option maxHeartbeats 4000000 in
theorem SNew_ok (id kd : Int) (own : Bool) (a b c sb si sr ev wa sl cp : Int) (w : World) (hF : Fol w) (i0 : 1 ≤ id) (i1 : id ≤ 2147483647) (hk : (kd = 1 ∧ cp = sb) ∨ (kd = 2 ∧ cp = si)) (ht : rightE kd cp sr = 0) (hr : rightB a b c = true) :
    Calls Tryd.prog 8 #[.int .i64 id, .int .i64 kd, .bool own, .agg (cfC a b c sb si sr ev wa sl)] w (NewSm w id kd own cp sr) := by
  have hC := Lib.hid (Blk.new w 25 (cfC a b c sb si sr ev wa sl))
  have HO := Lib.hid ((Only.refl Nil w).alloc (.cells (cfC a b c sb si sr ev wa sl) 25))
  have hT := Lib.hid (fun W => TNew_ok kd cp sr W ht)
  unfold NewPT at hT
  rcases hk with ⟨rfl, rfl⟩ | ⟨rfl, rfl⟩
  · have hR := Lib.hid (fun W => RxNew_1 a b c W hr)
    unfold NewRx at hR
    clear hr ht
    cases own with
    | true =>
      have hE := Lib.hid (fun W l (hf : Fol W) (hL : Lf W l 0) => Event_at l 0 0 0 1 W hf hL (by decide) (by decide))
      go_enter Tryd.func8, Tryd.ntmps8
      go_wp2_with (first
        | (go_at_call 38; (with_reducible refine (hT.out _).mono ?_); rintro e w1 ⟨t, F, rfl, hP1, ho1⟩; have hc1 := hC.out.kept ho1 (fun hh => hh); have c0 := hc1.cell 0; have c1 := hc1.cell 1; have c2 := hc1.cell 2; have zc := hc1.lt; have HP1 := Lib.hid hP1; have HO1 := Lib.hid (HO.out.trans ho1); clear hP1 ho1 hc1)
        | (go_at_call 39; (with_reducible refine (hR.out _).mono ?_); rintro e w2 ⟨r, rfl, ho2⟩; have HO2 := Lib.hid ho2; clear ho2)
        | (go_at_call 40; (with_reducible refine (New_any _).mono ?_); rintro e w3 ⟨l, rfl, hzl, ho3, hL3⟩; have HO3 := Lib.hid ho3; have HZL := Lib.hid hzl; have HL3 := Lib.hid hL3; have hS4 := Lib.hid (Blk.new w3 37 #[.pointer (some ⟨l, 0, none⟩), .int .i64 id, .bool true, .pointer (some ⟨t, 0, none⟩), .pointer (some ⟨r, 0, none⟩)]); have k0 := hS4.out.cell 0; have zs := hS4.out.lt; have hf4 := Lib.hid ((hF.kept (((HO1.out.trans HO2.out).trans HO3.out)) (fun hh => hh)).kept ((Only.refl Nil w3).alloc (.cells #[.pointer (some ⟨l, 0, none⟩), .int .i64 id, .bool true, .pointer (some ⟨t, 0, none⟩), .pointer (some ⟨r, 0, none⟩)] 37)) (fun hh => hh)); have hL4 := Lib.hid (show Lf (w3.alloc (.cells #[.pointer (some ⟨l, 0, none⟩), .int .i64 id, .bool true, .pointer (some ⟨t, 0, none⟩), .pointer (some ⟨r, 0, none⟩)] 37)) l 0 from Blk.alloc hL3 _); clear ho3 hzl hL3)
        | (go_at_call 41; (with_reducible refine (hE.out _ l hf4.out hL4.out).mono ?_); rintro e w5 ⟨rfl, ho5, hL5⟩)
        )
      go_ret2
      have h1 := HO1.out.size
      have h2 := HO2.out.size
      have h3 := HO3.out.size
      have hzl := HZL.out
      have hl3 := Blk.lt HL3.out
      have hne : l ≠ w3.heap.size := by omega
      have hPb := HP1.out.fp
      have hP4 := ((HP1.out.kept HO2.out).kept HO3.out).kept ((Only.refl Nil w3).alloc (.cells #[.pointer (some ⟨l, 0, none⟩), .int .i64 id, .bool true, .pointer (some ⟨t, 0, none⟩), .pointer (some ⟨r, 0, none⟩)] 37))
      have hSm4 : Sm (w3.alloc (.cells #[.pointer (some ⟨l, 0, none⟩), .int .i64 id, .bool true, .pointer (some ⟨t, 0, none⟩), .pointer (some ⟨r, 0, none⟩)] 37)) w3.heap.size l t r w.heap.size F id _ true 0 _ _ [] [] 0 false false 0 0 0 :=
        ⟨hS4.out, hL4.out, PT.mono HO.out.size hP4, by omega, by omega, fun hh => by have := (hPb _ hh).2; omega, fun hh => by have := (hPb _ hh).2; omega, hne⟩
      exact ⟨w3.heap.size, l, t, r, F, rfl, hSm4.lifeDone hL5 ho5, ((((HO1.out.trans HO2.out).trans HO3.out).alloc _).trans_new ho5 (fun i hi hh => by unfold One at hh; omega))⟩
    | false =>
      have hE := Lib.hid (fun W l (hf : Fol W) (hL : Lf W l 0) => Event_at l 0 1 0 1 W hf hL (by decide) (by decide))
      go_enter Tryd.func8, Tryd.ntmps8
      go_wp2_with (first
        | (go_at_call 38; (with_reducible refine (hT.out _).mono ?_); rintro e w1 ⟨t, F, rfl, hP1, ho1⟩; have hc1 := hC.out.kept ho1 (fun hh => hh); have c0 := hc1.cell 0; have c1 := hc1.cell 1; have c2 := hc1.cell 2; have zc := hc1.lt; have HP1 := Lib.hid hP1; have HO1 := Lib.hid (HO.out.trans ho1); clear hP1 ho1 hc1)
        | (go_at_call 39; (with_reducible refine (hR.out _).mono ?_); rintro e w2 ⟨r, rfl, ho2⟩; have HO2 := Lib.hid ho2; clear ho2)
        | (go_at_call 40; (with_reducible refine (New_any _).mono ?_); rintro e w3 ⟨l, rfl, hzl, ho3, hL3⟩; have HO3 := Lib.hid ho3; have HZL := Lib.hid hzl; have HL3 := Lib.hid hL3; have hS4 := Lib.hid (Blk.new w3 37 #[.pointer (some ⟨l, 0, none⟩), .int .i64 id, .bool false, .pointer (some ⟨t, 0, none⟩), .pointer (some ⟨r, 0, none⟩)]); have k0 := hS4.out.cell 0; have zs := hS4.out.lt; have hf4 := Lib.hid ((hF.kept (((HO1.out.trans HO2.out).trans HO3.out)) (fun hh => hh)).kept ((Only.refl Nil w3).alloc (.cells #[.pointer (some ⟨l, 0, none⟩), .int .i64 id, .bool false, .pointer (some ⟨t, 0, none⟩), .pointer (some ⟨r, 0, none⟩)] 37)) (fun hh => hh)); have hL4 := Lib.hid (show Lf (w3.alloc (.cells #[.pointer (some ⟨l, 0, none⟩), .int .i64 id, .bool false, .pointer (some ⟨t, 0, none⟩), .pointer (some ⟨r, 0, none⟩)] 37)) l 0 from Blk.alloc hL3 _); clear ho3 hzl hL3)
        | (go_at_call 41; (with_reducible refine (hE.out _ l hf4.out hL4.out).mono ?_); rintro e w5 ⟨rfl, ho5, hL5⟩)
        )
      go_ret2
      have h1 := HO1.out.size
      have h2 := HO2.out.size
      have h3 := HO3.out.size
      have hzl := HZL.out
      have hl3 := Blk.lt HL3.out
      have hne : l ≠ w3.heap.size := by omega
      have hPb := HP1.out.fp
      have hP4 := ((HP1.out.kept HO2.out).kept HO3.out).kept ((Only.refl Nil w3).alloc (.cells #[.pointer (some ⟨l, 0, none⟩), .int .i64 id, .bool false, .pointer (some ⟨t, 0, none⟩), .pointer (some ⟨r, 0, none⟩)] 37))
      have hSm4 : Sm (w3.alloc (.cells #[.pointer (some ⟨l, 0, none⟩), .int .i64 id, .bool false, .pointer (some ⟨t, 0, none⟩), .pointer (some ⟨r, 0, none⟩)] 37)) w3.heap.size l t r w.heap.size F id _ false 0 _ _ [] [] 0 false false 0 0 0 :=
        ⟨hS4.out, hL4.out, PT.mono HO.out.size hP4, by omega, by omega, fun hh => by have := (hPb _ hh).2; omega, fun hh => by have := (hPb _ hh).2; omega, hne⟩
      exact ⟨w3.heap.size, l, t, r, F, rfl, hSm4.lifeDone hL5 ho5, ((((HO1.out.trans HO2.out).trans HO3.out).alloc _).trans_new ho5 (fun i hi hh => by unfold One at hh; omega))⟩
  · have hR := Lib.hid (fun W => RxNew_2 a b c W hr)
    unfold NewRx at hR
    clear hr ht
    cases own with
    | true =>
      have hE := Lib.hid (fun W l (hf : Fol W) (hL : Lf W l 0) => Event_at l 0 0 0 1 W hf hL (by decide) (by decide))
      go_enter Tryd.func8, Tryd.ntmps8
      go_wp2_with (first
        | (go_at_call 38; (with_reducible refine (hT.out _).mono ?_); rintro e w1 ⟨t, F, rfl, hP1, ho1⟩; have hc1 := hC.out.kept ho1 (fun hh => hh); have c0 := hc1.cell 0; have c1 := hc1.cell 1; have c2 := hc1.cell 2; have zc := hc1.lt; have HP1 := Lib.hid hP1; have HO1 := Lib.hid (HO.out.trans ho1); clear hP1 ho1 hc1)
        | (go_at_call 39; (with_reducible refine (hR.out _).mono ?_); rintro e w2 ⟨r, rfl, ho2⟩; have HO2 := Lib.hid ho2; clear ho2)
        | (go_at_call 40; (with_reducible refine (New_any _).mono ?_); rintro e w3 ⟨l, rfl, hzl, ho3, hL3⟩; have HO3 := Lib.hid ho3; have HZL := Lib.hid hzl; have HL3 := Lib.hid hL3; have hS4 := Lib.hid (Blk.new w3 37 #[.pointer (some ⟨l, 0, none⟩), .int .i64 id, .bool true, .pointer (some ⟨t, 0, none⟩), .pointer (some ⟨r, 0, none⟩)]); have k0 := hS4.out.cell 0; have zs := hS4.out.lt; have hf4 := Lib.hid ((hF.kept (((HO1.out.trans HO2.out).trans HO3.out)) (fun hh => hh)).kept ((Only.refl Nil w3).alloc (.cells #[.pointer (some ⟨l, 0, none⟩), .int .i64 id, .bool true, .pointer (some ⟨t, 0, none⟩), .pointer (some ⟨r, 0, none⟩)] 37)) (fun hh => hh)); have hL4 := Lib.hid (show Lf (w3.alloc (.cells #[.pointer (some ⟨l, 0, none⟩), .int .i64 id, .bool true, .pointer (some ⟨t, 0, none⟩), .pointer (some ⟨r, 0, none⟩)] 37)) l 0 from Blk.alloc hL3 _); clear ho3 hzl hL3)
        | (go_at_call 41; (with_reducible refine (hE.out _ l hf4.out hL4.out).mono ?_); rintro e w5 ⟨rfl, ho5, hL5⟩)
        )
      go_ret2
      have h1 := HO1.out.size
      have h2 := HO2.out.size
      have h3 := HO3.out.size
      have hzl := HZL.out
      have hl3 := Blk.lt HL3.out
      have hne : l ≠ w3.heap.size := by omega
      have hPb := HP1.out.fp
      have hP4 := ((HP1.out.kept HO2.out).kept HO3.out).kept ((Only.refl Nil w3).alloc (.cells #[.pointer (some ⟨l, 0, none⟩), .int .i64 id, .bool true, .pointer (some ⟨t, 0, none⟩), .pointer (some ⟨r, 0, none⟩)] 37))
      have hSm4 : Sm (w3.alloc (.cells #[.pointer (some ⟨l, 0, none⟩), .int .i64 id, .bool true, .pointer (some ⟨t, 0, none⟩), .pointer (some ⟨r, 0, none⟩)] 37)) w3.heap.size l t r w.heap.size F id _ true 0 _ _ [] [] 0 false false 0 0 0 :=
        ⟨hS4.out, hL4.out, PT.mono HO.out.size hP4, by omega, by omega, fun hh => by have := (hPb _ hh).2; omega, fun hh => by have := (hPb _ hh).2; omega, hne⟩
      exact ⟨w3.heap.size, l, t, r, F, rfl, hSm4.lifeDone hL5 ho5, ((((HO1.out.trans HO2.out).trans HO3.out).alloc _).trans_new ho5 (fun i hi hh => by unfold One at hh; omega))⟩
    | false =>
      have hE := Lib.hid (fun W l (hf : Fol W) (hL : Lf W l 0) => Event_at l 0 1 0 1 W hf hL (by decide) (by decide))
      go_enter Tryd.func8, Tryd.ntmps8
      go_wp2_with (first
        | (go_at_call 38; (with_reducible refine (hT.out _).mono ?_); rintro e w1 ⟨t, F, rfl, hP1, ho1⟩; have hc1 := hC.out.kept ho1 (fun hh => hh); have c0 := hc1.cell 0; have c1 := hc1.cell 1; have c2 := hc1.cell 2; have zc := hc1.lt; have HP1 := Lib.hid hP1; have HO1 := Lib.hid (HO.out.trans ho1); clear hP1 ho1 hc1)
        | (go_at_call 39; (with_reducible refine (hR.out _).mono ?_); rintro e w2 ⟨r, rfl, ho2⟩; have HO2 := Lib.hid ho2; clear ho2)
        | (go_at_call 40; (with_reducible refine (New_any _).mono ?_); rintro e w3 ⟨l, rfl, hzl, ho3, hL3⟩; have HO3 := Lib.hid ho3; have HZL := Lib.hid hzl; have HL3 := Lib.hid hL3; have hS4 := Lib.hid (Blk.new w3 37 #[.pointer (some ⟨l, 0, none⟩), .int .i64 id, .bool false, .pointer (some ⟨t, 0, none⟩), .pointer (some ⟨r, 0, none⟩)]); have k0 := hS4.out.cell 0; have zs := hS4.out.lt; have hf4 := Lib.hid ((hF.kept (((HO1.out.trans HO2.out).trans HO3.out)) (fun hh => hh)).kept ((Only.refl Nil w3).alloc (.cells #[.pointer (some ⟨l, 0, none⟩), .int .i64 id, .bool false, .pointer (some ⟨t, 0, none⟩), .pointer (some ⟨r, 0, none⟩)] 37)) (fun hh => hh)); have hL4 := Lib.hid (show Lf (w3.alloc (.cells #[.pointer (some ⟨l, 0, none⟩), .int .i64 id, .bool false, .pointer (some ⟨t, 0, none⟩), .pointer (some ⟨r, 0, none⟩)] 37)) l 0 from Blk.alloc hL3 _); clear ho3 hzl hL3)
        | (go_at_call 41; (with_reducible refine (hE.out _ l hf4.out hL4.out).mono ?_); rintro e w5 ⟨rfl, ho5, hL5⟩)
        )
      go_ret2
      have h1 := HO1.out.size
      have h2 := HO2.out.size
      have h3 := HO3.out.size
      have hzl := HZL.out
      have hl3 := Blk.lt HL3.out
      have hne : l ≠ w3.heap.size := by omega
      have hPb := HP1.out.fp
      have hP4 := ((HP1.out.kept HO2.out).kept HO3.out).kept ((Only.refl Nil w3).alloc (.cells #[.pointer (some ⟨l, 0, none⟩), .int .i64 id, .bool false, .pointer (some ⟨t, 0, none⟩), .pointer (some ⟨r, 0, none⟩)] 37))
      have hSm4 : Sm (w3.alloc (.cells #[.pointer (some ⟨l, 0, none⟩), .int .i64 id, .bool false, .pointer (some ⟨t, 0, none⟩), .pointer (some ⟨r, 0, none⟩)] 37)) w3.heap.size l t r w.heap.size F id _ false 0 _ _ [] [] 0 false false 0 0 0 :=
        ⟨hS4.out, hL4.out, PT.mono HO.out.size hP4, by omega, by omega, fun hh => by have := (hPb _ hh).2; omega, fun hh => by have := (hPb _ hh).2; omega, hne⟩
      exact ⟨w3.heap.size, l, t, r, F, rfl, hSm4.lifeDone hL5 ho5, ((((HO1.out.trans HO2.out).trans HO3.out).alloc _).trans_new ho5 (fun i hi hh => by unfold One at hh; omega))⟩
/-- the error of one that may not be -/
def newE (id kd cp sr : Int) (rb : Bool) : Int := if id < 1 ∨ 2147483647 < id then 2 else if rightE kd cp sr ≠ 0 then rightE kd cp sr else if rb = true then 0 else 3
def BadSm (w : World) (e : Int) (x : Ending) (w' : World) : Prop := x = .returned (.tuple #[.pointer none, .int .i64 e]) ∧ Only Nil w w'
set_option maxRecDepth 100000 in
set_option maxHeartbeats 4000000 in
theorem SNew_bad (id kd : Int) (own : Bool) (a b c sb si sr ev wa sl cp e : Int) (w : World) (hc : cp = if kd = 2 then si else sb) (he : newE id kd cp sr (rightB a b c) = e) (h0 : e ≠ 0) :
    Calls Tryd.prog 8 #[.int .i64 id, .int .i64 kd, .bool own, .agg (cfC a b c sb si sr ev wa sl)] w (BadSm w e) := by
  have hC := Lib.hid (Blk.new w 25 (cfC a b c sb si sr ev wa sl))
  have HO := Lib.hid ((Only.refl Nil w).alloc (.cells (cfC a b c sb si sr ev wa sl) 25))
  subst he
  unfold newE at h0 ⊢
  by_cases h1 : id < 1
  · rw [if_pos (.inl h1)]
    clear h0 hc
    go_enter Tryd.func8, Tryd.ntmps8
    go_wp2
    go_ret2
    exact ⟨rfl, HO.out⟩
  by_cases h2 : 2147483647 < id
  · rw [if_pos (.inr h2)]
    clear h0 hc
    go_enter Tryd.func8, Tryd.ntmps8
    go_wp2
    go_ret2
    exact ⟨rfl, HO.out⟩
  rw [if_neg (by omega)] at h0 ⊢
  by_cases h3 : rightE kd cp sr ≠ 0
  · rw [if_pos h3]
    obtain ⟨re, hre⟩ : ∃ re, rightE kd cp sr = re := ⟨_, rfl⟩
    rw [hre] at h3 ⊢
    have hT := Lib.hid (fun W => TNew_bad kd cp sr re W hre h3)
    unfold NewBad at hT
    have hne : (re != 0) = true := by simpa using h3
    by_cases k2 : kd = 2
    · rw [if_pos k2] at hc
      subst hc k2
      clear h0 h3 hre
      go_enter Tryd.func8, Tryd.ntmps8
      go_wp2_with (first
        | (go_at_call 38; (with_reducible refine (hT.out _).mono ?_); rintro e w1 ⟨rfl, ho1⟩)
        )
      go_ret2
      exact ⟨rfl, HO.out.trans ho1⟩
    · rw [if_neg k2] at hc
      subst hc
      have ek : (kd == 2) = false := by simpa using k2
      clear h0 h3 hre k2
      go_enter Tryd.func8, Tryd.ntmps8
      go_wp2_with (first
        | (go_at_call 38; (with_reducible refine (hT.out _).mono ?_); rintro e w1 ⟨rfl, ho1⟩)
        )
      go_ret2
      exact ⟨rfl, HO.out.trans ho1⟩
  · rw [if_neg h3] at h0 ⊢
    have h4 : rightE kd cp sr = 0 := by omega
    cases hr : rightB a b c with
    | true => rw [hr, if_pos rfl] at h0; exact absurd rfl h0
    | false =>
      rw [if_neg (by decide)]
      have hT := Lib.hid (fun W => TNew_ok kd cp sr W h4)
      unfold NewPT at hT
      have hk : kd = 1 ∨ kd = 2 := by
        unfold rightE at h4
        by_cases hh : kd ≠ 1 ∧ kd ≠ 2
        · rw [if_pos hh] at h4; exact absurd h4 (by decide)
        · omega
      have hR := Lib.hid (fun W => RxNew_3 kd a b c W hk hr)
      clear h0 h3 h4 hr
      rcases hk with rfl | rfl
      · rw [if_neg (by decide)] at hc
        subst hc
        go_enter Tryd.func8, Tryd.ntmps8
        go_wp2_with (first
          | (go_at_call 38; (with_reducible refine (hT.out _).mono ?_); rintro e w1 ⟨t, F, rfl, hP1, ho1⟩; have hc1 := hC.out.kept ho1 (fun hh => hh); have c0 := hc1.cell 0; have c1 := hc1.cell 1; have c2 := hc1.cell 2; have zc := hc1.lt; clear hP1)
          | (go_at_call 39; (with_reducible refine (hR.out _).mono ?_); rintro e w2 ⟨rfl, ho2⟩)
          )
        go_ret2
        exact ⟨rfl, (HO.out.trans ho1).trans ho2⟩
      · rw [if_pos rfl] at hc
        subst hc
        go_enter Tryd.func8, Tryd.ntmps8
        go_wp2_with (first
          | (go_at_call 38; (with_reducible refine (hT.out _).mono ?_); rintro e w1 ⟨t, F, rfl, hP1, ho1⟩; have hc1 := hC.out.kept ho1 (fun hh => hh); have c0 := hc1.cell 0; have c1 := hc1.cell 1; have c2 := hc1.cell 2; have zc := hc1.lt; clear hP1)
          | (go_at_call 39; (with_reducible refine (hR.out _).mono ?_); rintro e w2 ⟨rfl, ho2⟩)
          )
        go_ret2
        exact ⟨rfl, (HO.out.trans ho1).trans ho2⟩
end
end Go.Proofs.YtjhjfgelcbphjaaDoor
