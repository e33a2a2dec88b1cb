/- Claims: shared out. -/

import Derived.Test.YtfmeidnpcbfloaaShareP
import Derived.Test.YtfmeidnpcbfloaaShare5
import Derived.Test.YtfmeidnpcbfloaaShareE
import Derived.Deep.MidRow
import Derived.Deep.WholeRow
namespace Go.Proofs.Ytfmeidnpcbfloaa
open Go.RowKit

theorem zero_row (w : World) : Sem.run Try.prog (zeroValue 43) w = .ok (.agg (ints z256)) w := by
  first
  | kernel_rfl
  | rfl
theorem Ts.range {w : World} {b n : Nat} {l : Int} {W V G : List Int} (h : Ts w b l n W V G) : w.rangeAt b 514 (G.map (Value.int .i64)) := fun j v hv => by
  rw [List.getElem?_map] at hv
  cases hx : G[j]? with
  | none => rw [hx] at hv; cases hv
  | some x =>
    rw [hx] at hv
    injection hv with hv
    subst hv
    have hj := (List.getElem?_eq_some_iff.1 hx).1
    rw [h.2.g] at hj
    have := h.atG hj
    rw [List.getD_eq_getElem?_getD, hx] at this
    exact this
def lOf (b : Nat) (w : World) : Nat := match w.cell? ⟨b, 0, none⟩ with | some (.int _ x) => x.toNat | _ => 0
theorem Ts.lOf {w : World} {b n : Nat} {l : Int} {W V G : List Int} (h : Ts w b l n W V G) : lOf b w = l.toNat := by
  unfold Go.Proofs.Ytfmeidnpcbfloaa.lOf
  rw [h.at0]
theorem blk_ne {w : World} {a b : Nat} {t t' : TypeId} {cs cs' : Array Value} (h : Blk w a t cs) (h' : Blk w b t' cs') (hn : t ≠ t') : a ≠ b := fun e => by
  subst e
  unfold Blk at h h'
  rw [h] at h'
  injection h' with h'
  injection h' with _ h'
  exact hn h'
def ShPost (w : World) (b n : Nat) (W V : List Int) (s : Int × List Int) (x : Ending) (w' : World) : Prop := x = .returned (.tuple #[]) ∧ Ts w' b s.1 n W V s.2 ∧ Only (One b) w w'
section
variable {w : World} {b n : Nat} {l : Int} {W V G : List Int}
set_option maxRecDepth 100000 in
set_option maxHeartbeats 4000000 in
theorem share_any (w : World) (h : Ts w b l n W V G) (ok : Ok l n W V G) : Calls Try.prog 21 #[.pointer (some ⟨b, 0, none⟩)] w (ShPost w b n W V (shareS n W V (l, G))) := by
  have hz := fun w => zero_row w
  have HU := Lib.hid Try.underlying43
  have hi : Hid ((Try.prog.info? 43).map (·.size) = some 256) := Lib.hid (by kernel_rfl)
  obtain ⟨R, hR⟩ : ∃ R, R = shareS n W V (l, G) := ⟨_, rfl⟩
  rw [← hR]
  have HR := Lib.hid hR
  have HT := Lib.hid h
  have HOK := Lib.hid ok
  have hn := ok.hn
  clear hR h ok
  go_enter Try.func21, Try.ntmps21
  go_wp2
  go_step3
  go_wp2
  go_step3
  go_wp2
  go_loopw [2] (fun _ wr => ∃ (l' : Int) (G' : List Int), Hid (Ts wr b l' n W V G') ∧ Hid (Ok l' n W V G') ∧ Hid (R = shareS n W V (l', G')) ∧ Only (One b) w wr) (fun _ wr => lOf b wr)
  case atStart => exact ⟨l, G, HT, HOK, HR, Only.refl _ _⟩
  case round =>
    obtain ⟨l', G', hT, hOK, hS, ho⟩ := hrel
    have c0 := hT.out.at0
    have c1 := hT.out.at1
    have zb := hT.out.lt
    have hl0 := hOK.out.l0
    have hl1 := hOK.out.l1
    by_cases hl : 0 < l'
    · have hwt := Lib.hid (fun W' (ho : Only Nil wr W') => wanting_any W' (hT.out.kept ho (fun hh => hh)) hOK.out)
      have hwb := Lib.hid (wantK_bd (W := W) (G := G') hOK.out.v n (Nat.le_refl _))
      obtain ⟨all, hall⟩ : ∃ all, all = wantK W V G' n := ⟨_, rfl⟩
      rw [← hall] at hwt
      have HALL := Lib.hid hall
      clear hall
      by_cases ha : all = 0
      · have ha2 : (all == 0) = true := by simpa using ha
        go_wp2_with (first
          | (go_at_call 22; (with_reducible refine (hwt.out _ (Only.refl _ _)).mono ?_); rintro e w1 ⟨rfl, ho1⟩; have hT1 := Lib.hid (hT.out.kept ho1 (fun hh => hh)); have HO1 := Lib.hid (ho.trans (ho1.of_nil _)); clear ho1)
          )
        have hRR : R = (l', G') := by rw [hS.out, shareS_end (fun hh => hh.2 (by rw [← HALL.out]; exact ha))]
        first
        | rw [Exit.noGoto_normal]
        | simp only [Exit.noGoto]
        refine bodyPost_end (results_none rfl _ _ _) rfl ?_
        try rw [hRR]
        unfold ShPost
        exact ⟨rfl, hT1.out, HO1.out⟩
      · have ha2 : (all == 0) = false := by simpa using ha
        have ha3 : 0 < all := by have := hwb.out.1; rw [← HALL.out] at this; omega
        have hG : G'.length = 256 := hT.out.2.g
        have hi2 : Hid ((Try.prog.info? 43).map (·.size) = some (G'.map (Value.int .i64)).length) := Lib.hid (by rw [List.length_map, hG]; exact hi.out)
        go_wp2_with (first
          | (go_at_call 22; (with_reducible refine (hwt.out _ (Only.refl _ _)).mono ?_); rintro e w1 ⟨rfl, ho1⟩; have hT1 := Lib.hid (hT.out.kept ho1 (fun hh => hh)); have hr1 := hT1.out.range; have zd := hT1.out.lt; have HO1 := Lib.hid (ho.trans (ho1.of_nil _)); clear ho1)
          )
        refine wp_load_mid 43 (.tmp 16) rfl b 514 rfl (G'.map (Value.int .i64)) _ hr1 HU.out rfl hi2.out ?_
        have hs2 : Sem.run Try.prog (storeCells ⟨w1.heap.size, 0, none⟩ (G'.map (Value.int .i64)) 0) (w1.alloc (.cells (ints z256) 43)) = .ok () (w1.alloc (.cells (ints G') 43)) := by
          have := run_storeCells_new (P := Try.prog) w1 43 (ints z256) (ints G') (by rw [hi.out]; simp [hG]) (by simp [hG, z256_len]) (by simp [Value.oneCell'])
          simpa using this
        have HB := Lib.hid (Blk.new w1 43 (ints G'))
        have HT2 := Lib.hid (hT1.out.alloc (.cells (ints G') 43))
        have hpt := Lib.hid (fun W' (q : Ts W' b l' n W V G') => parts_any W' q hOK.out)
        rw [← HALL.out] at hpt
        have HO2 := Lib.hid (HO1.out.alloc (.cells (ints G') 43))
        clear c0 c1 zb
        go_wp2_with (first
          | (go_at_call 23; (with_reducible refine (hpt.out _ HT2.out).mono ?_); rintro e w3 ⟨k1, k3, k4, rfl, hk1, hk3, hk4, ho3⟩; have HT3 := Lib.hid (HT2.out.kept ho3 (fun hh => hh)); have HB3 := Lib.hid (HB.out.kept ho3 (fun hh => hh)); have HK1 := Lib.hid hk1; have HK3 := Lib.hid hk3; have HK4 := Lib.hid hk4; have HO3 := Lib.hid (HO2.out.trans (ho3.of_nil _)); have d1 := HT3.out.at1; have zd3 := HT3.out.lt; clear hk1 hk3 hk4 ho3)
          )
        generalize w1.heap.size = kb at *
        clear hs2 hr1 zd hz
        generalize (G'.map (Value.int .i64)).toArray = GA at *
        have hkb : kb ≠ b := blk_ne HB3.out HT3.out.1 (by decide)
        have hk1 : k1 ≠ b := blk_ne HK1.out HT3.out.1 (by decide)
        have hk3 : k3 ≠ b := blk_ne HK3.out HT3.out.1 (by decide)
        have hk4 : k4 ≠ b := blk_ne HK4.out HT3.out.1 (by decide)
        have HPK := Lib.hid (fun k hk => partsK_ok hOK.out hG (by rw [← HALL.out]; exact ha3) k hk)
        rw [← HALL.out] at HPK
        go_loopw [24] (fun ii wq => ∃ k : Nat, k ≤ n ∧ ii = .int .i64 k ∧ Hid (Ts wq b (partsK l' all W V G' k).1 n W V (partsK l' all W V G' k).2) ∧ Only (One b) w3 wq) (fun ii _ => n - (intOf ii).toNat)
        case atStart => exact ⟨0, Nat.zero_le _, rfl, HT3, Only.refl _ _⟩
        case round =>
          obtain ⟨k, hk, rfl, hQ, hoq⟩ := hrel
          by_cases hlt : k < n
          · have hlt' : (k : Int) < n := by omega
            have h256 : (k : Int) < 256 := by omega
            have hpk := HPK.out k hk
            have HNX : Hid (partsK l' all W V G' (k + 1) = ((partsK l' all W V G' k).1 - partI l' all W V (partsK l' all W V G' k).2 k, (partsK l' all W V G' k).2.set k ((partsK l' all W V G' k).2.getD k 0 + partI l' all W V (partsK l' all W V G' k).2 k))) := Lib.hid rfl
            have hpk2 := HPK.out (k + 1) (by omega)
            rw [HNX.out] at hpk2
            generalize partsK l' all W V G' k = r at *
            obtain ⟨lk, Gk⟩ := r
            simp only at hQ HNX hpk2
            have hP1 := Lib.hid (parts1_any _ k all k1 k3 k4 hQ.out hpk.ok (HK1.out.kept hoq hk1) (HK3.out.kept hoq hk3) (HK4.out.kept hoq hk4) hlt ha3 hl0 hl1)
            have hx := hpk.ok.g k hlt
            have hy := (hpk2.ok.g k hlt).2
            have hl2 := hpk2.ok.l0
            have hl3 := hpk.ok.l1
            have hl4 := hpk2.ok.l1
            simp only at hx hy hl2 hl3 hl4
            rw [getD_set (by rw [hQ.out.2.g]; omega), if_pos rfl] at hy
            have HQ := hQ
            have HOQ := Lib.hid hoq
            generalize partI l' all W V Gk k = p at *
            have hxp := (hpk2.ok.g k hlt).1
            simp only at hxp
            rw [getD_set (by rw [HQ.out.2.g]; omega), if_pos rfl] at hxp
            clear hpk hpk2 hQ hoq
            generalize hgx : Gk.getD k 0 = x at *
            generalize hgy : W.getD k 0 = y at *
            have HGX := Lib.hid hgx
            clear hgx hgy
            have ew : IntKind.i64.wrap (x + p) = x + p := IntWalk.i64_in _ (by omega)
            have es : IntKind.i64.wrap (lk - p) = lk - p := IntWalk.i64_in _ (by omega)
            go_wp2_with (first
              | (go_at_call 25; (with_reducible refine (hP1.out).mono ?_); rintro e w5 ⟨rfl, ho5⟩; have HT5 := Lib.hid (HQ.out.kept ho5 (fun hh => hh)); have g0 := HT5.out.atG (i := k) (by omega); have f1 := HT5.out.1.frozen (514 + k); have z5 := HT5.out.lt; have HT6 := Lib.hid ((HT5.out.putG (i := k) (by omega) (x + p)).drew); have d0 := HT6.out.at0; have e0 := HT6.out.1.frozen 0; have z6 := HT6.out.lt; have HO5 := Lib.hid (((HOQ.out.trans (ho5.of_nil _)).set1 (514 + k) (.int .i64 (x + p))).drew.set1 0 (.int .i64 (lk - p))); have HT7 := Lib.hid (HT6.out.putL (lk - p)); clear ho5; rw [HGX.out] at g0)
              )
            go_region
            go_wp2
            go_roundw
            case rel => exact ⟨k + 1, by omega, by go_num, Lib.hid (by rw [HNX.out]; exact HT7.out), HO5.out⟩
            case measure => simp [intOf]; omega
          · obtain rfl : k = n := by omega
            have hlt' : ¬ (k : Int) < k := by omega
            have hpk := HPK.out k (Nat.le_refl _)
            have HRS : Hid (roundS k W V (l', G') = if (partsK l' all W V G' k).2 = G' then singlesK W (partsK l' all W V G' k).1 (partsK l' all W V G' k).2 k else partsK l' all W V G' k) := Lib.hid (by rw [HALL.out]; rfl)
            generalize partsK l' all W V G' k = r at *
            obtain ⟨lk, Gk⟩ := r
            simp only at hQ HRS
            have hGk : Gk.length = 256 := hpk.len
            have HB6 := Lib.hid (HB3.out.kept hoq hkb)
            have hrA := hQ.out.range
            have hrB : wr.rangeAt kb 0 (G'.map (Value.int .i64)) := fun j v hv => by
              rw [HB6.out.cell, Nat.zero_add]
              simpa using hv
            have zA := hQ.out.lt
            have zB := HB6.out.lt
            have hi2 : Hid ((Try.prog.info? 43).map (·.size) = some (G'.map (Value.int .i64)).length) := Lib.hid (by rw [List.length_map, hG]; exact hi.out)
            have hi3 : Hid ((Try.prog.info? 43).map (·.size) = some (Gk.map (Value.int .i64)).length) := Lib.hid (by rw [List.length_map, hGk]; exact hi.out)
            have HPT := Lib.hid hpk
            have HOQ := Lib.hid (HO3.out.trans hoq)
            clear hpk hoq
            go_wp2
            have hRO := roundS_ok hOK.out hG hl (by rw [← HALL.out]; exact ha)
            have hSS := shareS_step hOK.out hG hl (by rw [← HALL.out]; exact ha)
            have HLO := Lib.hid hT.out.lOf
            by_cases hGG : Gk = G'
            · have HEQ := Lib.hid (fun w => by have := eq_rows Gk G' hGk hG w; rw [decide_eq_true hGG] at this; exact this)
              rw [if_pos hGG] at HRS
              rw [HRS.out] at hRO hSS
              have HRO := Lib.hid hRO
              have HSS := Lib.hid hSS
              clear hGG
              have hSg := Lib.hid (singles_any wr.drew hQ.out.drew HPT.out.ok)
              clear hRO hSS hwt hpt
              refine wp_region_held_drew (S := fun w' => w'.rangeAt b 514 (Gk.map (Value.int .i64)) ∧ w'.rangeAt kb 0 (G'.map (Value.int .i64))) (by kernel_rfl) ⟨by rw [World.rangeAt_drew]; exact hrA, by rw [World.rangeAt_drew]; exact hrB⟩ (fun hHeld => ?_)
              refine wpAnyH_take (i := 0) (oi := { dst := some 50, op := Op.move (Operand.tmp 0), type := 39, pos := "share.go:73", after := #[], guard := none }) (v := ?_) rfl (by kernel_rfl) (by kernel_rfl) (by kernel_rfl) (fun _ _ _ h => h) (Or.inl ⟨by rfl, ?_⟩) (by assumption) ?_
              rotate_left
              · intro w hSw
                try dsimp only at hSw
                first
                  | (go_simp; done)
                  | (go_simp; with_reducible rfl)
              try simp only [Act.put, List.setIfInBounds_toArray, List.set_cons_zero, List.set_cons_succ]
              refine wpAnyH_take (i := 1) (oi := { dst := some 51, op := Op.nilCheck (Operand.tmp 50), type := 0, pos := "share.go:73", after := #[{ on := 0, ground := Ground.data }], guard := none }) (v := ?_) rfl (by kernel_rfl) (by kernel_rfl) (by kernel_rfl) (fun _ _ _ h => h) (Or.inl ⟨by rfl, ?_⟩) (by assumption) ?_
              rotate_left
              · intro w hSw
                try dsimp only at hSw
                first
                  | (go_simp; done)
                  | (go_simp; with_reducible rfl)
              try simp only [Act.put, List.setIfInBounds_toArray, List.set_cons_zero, List.set_cons_succ]
              refine wpAnyH_take (i := 2) (oi := { dst := some 52, op := Op.fieldAddr 45 (Operand.tmp 51) 4, type := 0, pos := "share.go:73", after := #[{ on := 1, ground := Ground.data }], guard := none }) (v := ?_) rfl (by kernel_rfl) (by kernel_rfl) (by kernel_rfl) (fun _ _ _ h => h) (Or.inl ⟨by rfl, ?_⟩) (by assumption) ?_
              rotate_left
              · intro w hSw
                try dsimp only at hSw
                first
                  | (go_simp; done)
                  | (go_simp; with_reducible rfl)
              try simp only [Act.put, List.setIfInBounds_toArray, List.set_cons_zero, List.set_cons_succ]
              refine wpAnyH_take (i := 3) (oi := { dst := some 53, op := Op.load 43 (Operand.tmp 52), type := 43, pos := "share.go:73", after := #[{ on := 2, ground := Ground.data }], guard := none }) (v := .agg (Gk.map (Value.int .i64)).toArray) rfl (by kernel_rfl) (by kernel_rfl) (by kernel_rfl) (fun _ _ _ h => h) (yieldsIf_load_mid (by rfl) 43 (.tmp 52) rfl b 514 rfl (Gk.map (Value.int .i64)) _ (fun w hw => hw.1) HU.out rfl hi3.out) (by assumption) ?_
              try simp only [Act.put, List.setIfInBounds_toArray, List.set_cons_zero, List.set_cons_succ]
              refine wpAnyH_take (i := 4) (oi := { dst := some 54, op := Op.load 43 (Operand.tmp 2), type := 43, pos := "share.go:73", after := #[], guard := none }) (v := .agg (G'.map (Value.int .i64)).toArray) rfl (by kernel_rfl) (by kernel_rfl) (by kernel_rfl) (fun _ _ _ h => h) (yieldsIf_load_mid (by rfl) 43 (.tmp 2) rfl kb 0 rfl (G'.map (Value.int .i64)) _ (fun w hw => hw.2) HU.out rfl hi2.out) (by assumption) ?_
              try simp only [Act.put, List.setIfInBounds_toArray, List.set_cons_zero, List.set_cons_succ]
              refine wpAnyH_take (i := 5) (oi := { dst := some 55, op := Op.binOp BinOp.eql 43 (Operand.tmp 53) (Operand.tmp 54) 43, type := 4, pos := "share.go:73", after := #[{ on := 3, ground := Ground.data }, { on := 4, ground := Ground.data }], guard := none }) (v := .bool true) rfl (by kernel_rfl) (by kernel_rfl) (by kernel_rfl) (fun _ _ _ h => h) (Or.inl ⟨by rfl, ?_⟩) (by assumption) ?_
              · intro w hSw
                go_simp
                rw [HEQ.out w]
                rfl
              try simp only [Act.put, List.setIfInBounds_toArray, List.set_cons_zero, List.set_cons_succ]
              refine wpAnyH_done (by kernel_rfl) ?_ _
              clear hHeld
              go_wp2_with (first
                | (go_at_call 24; (with_reducible refine (hSg.out).mono ?_); rintro e w7 ⟨rfl, hT7, ho7⟩; have HT7 := Lib.hid hT7; have HO7 := Lib.hid (HOQ.out.drew.trans ho7); clear hT7 ho7)
                )
              go_roundw
              case rel => exact ⟨_, _, HT7, Lib.hid HRO.out.1, Lib.hid (by rw [hS.out, HSS.out]), HO7.out⟩
              case measure => rw [HT7.out.lOf, HLO.out]; have := HRO.out.2.2; have := HRO.out.1.l0; omega
            · have HEQ := Lib.hid (fun w => by have := eq_rows Gk G' hGk hG w; rw [decide_eq_false hGG] at this; exact this)
              rw [if_neg hGG] at HRS
              rw [HRS.out] at hRO hSS
              have HRO := Lib.hid hRO
              have HSS := Lib.hid hSS
              clear hRO hSS hwt hpt
              refine wp_region_held_drew (S := fun w' => w'.rangeAt b 514 (Gk.map (Value.int .i64)) ∧ w'.rangeAt kb 0 (G'.map (Value.int .i64))) (by kernel_rfl) ⟨by rw [World.rangeAt_drew]; exact hrA, by rw [World.rangeAt_drew]; exact hrB⟩ (fun hHeld => ?_)
              refine wpAnyH_take (i := 0) (oi := { dst := some 50, op := Op.move (Operand.tmp 0), type := 39, pos := "share.go:73", after := #[], guard := none }) (v := ?_) rfl (by kernel_rfl) (by kernel_rfl) (by kernel_rfl) (fun _ _ _ h => h) (Or.inl ⟨by rfl, ?_⟩) (by assumption) ?_
              rotate_left
              · intro w hSw
                try dsimp only at hSw
                first
                  | (go_simp; done)
                  | (go_simp; with_reducible rfl)
              try simp only [Act.put, List.setIfInBounds_toArray, List.set_cons_zero, List.set_cons_succ]
              refine wpAnyH_take (i := 1) (oi := { dst := some 51, op := Op.nilCheck (Operand.tmp 50), type := 0, pos := "share.go:73", after := #[{ on := 0, ground := Ground.data }], guard := none }) (v := ?_) rfl (by kernel_rfl) (by kernel_rfl) (by kernel_rfl) (fun _ _ _ h => h) (Or.inl ⟨by rfl, ?_⟩) (by assumption) ?_
              rotate_left
              · intro w hSw
                try dsimp only at hSw
                first
                  | (go_simp; done)
                  | (go_simp; with_reducible rfl)
              try simp only [Act.put, List.setIfInBounds_toArray, List.set_cons_zero, List.set_cons_succ]
              refine wpAnyH_take (i := 2) (oi := { dst := some 52, op := Op.fieldAddr 45 (Operand.tmp 51) 4, type := 0, pos := "share.go:73", after := #[{ on := 1, ground := Ground.data }], guard := none }) (v := ?_) rfl (by kernel_rfl) (by kernel_rfl) (by kernel_rfl) (fun _ _ _ h => h) (Or.inl ⟨by rfl, ?_⟩) (by assumption) ?_
              rotate_left
              · intro w hSw
                try dsimp only at hSw
                first
                  | (go_simp; done)
                  | (go_simp; with_reducible rfl)
              try simp only [Act.put, List.setIfInBounds_toArray, List.set_cons_zero, List.set_cons_succ]
              refine wpAnyH_take (i := 3) (oi := { dst := some 53, op := Op.load 43 (Operand.tmp 52), type := 43, pos := "share.go:73", after := #[{ on := 2, ground := Ground.data }], guard := none }) (v := .agg (Gk.map (Value.int .i64)).toArray) rfl (by kernel_rfl) (by kernel_rfl) (by kernel_rfl) (fun _ _ _ h => h) (yieldsIf_load_mid (by rfl) 43 (.tmp 52) rfl b 514 rfl (Gk.map (Value.int .i64)) _ (fun w hw => hw.1) HU.out rfl hi3.out) (by assumption) ?_
              try simp only [Act.put, List.setIfInBounds_toArray, List.set_cons_zero, List.set_cons_succ]
              refine wpAnyH_take (i := 4) (oi := { dst := some 54, op := Op.load 43 (Operand.tmp 2), type := 43, pos := "share.go:73", after := #[], guard := none }) (v := .agg (G'.map (Value.int .i64)).toArray) rfl (by kernel_rfl) (by kernel_rfl) (by kernel_rfl) (fun _ _ _ h => h) (yieldsIf_load_mid (by rfl) 43 (.tmp 2) rfl kb 0 rfl (G'.map (Value.int .i64)) _ (fun w hw => hw.2) HU.out rfl hi2.out) (by assumption) ?_
              try simp only [Act.put, List.setIfInBounds_toArray, List.set_cons_zero, List.set_cons_succ]
              refine wpAnyH_take (i := 5) (oi := { dst := some 55, op := Op.binOp BinOp.eql 43 (Operand.tmp 53) (Operand.tmp 54) 43, type := 4, pos := "share.go:73", after := #[{ on := 3, ground := Ground.data }, { on := 4, ground := Ground.data }], guard := none }) (v := .bool false) rfl (by kernel_rfl) (by kernel_rfl) (by kernel_rfl) (fun _ _ _ h => h) (Or.inl ⟨by rfl, ?_⟩) (by assumption) ?_
              · intro w hSw
                go_simp
                rw [HEQ.out w]
                rfl
              try simp only [Act.put, List.setIfInBounds_toArray, List.set_cons_zero, List.set_cons_succ]
              refine wpAnyH_done (by kernel_rfl) ?_ _
              clear hHeld
              go_wp2
              go_roundw
              case rel => exact ⟨_, _, Lib.hid hQ.out.drew, Lib.hid HRO.out.1, Lib.hid (by rw [hS.out, HSS.out]), HOQ.out.drew⟩
              case measure => rw [hQ.out.drew.lOf, HLO.out]; have := HRO.out.2.2; have := HRO.out.1.l0; omega
    · have hRR : R = (l', G') := by rw [hS.out, shareS_end (fun hh => hl hh.1)]
      go_wp2
      refine bodyPost_end (results_none rfl _ _ _) rfl ?_
      try rw [hRR]
      unfold ShPost
      exact ⟨rfl, hT.out, ho⟩
end
end Go.Proofs.Ytfmeidnpcbfloaa
