/- A trace laid. -/
import Derived.Test.YtamocachpjljdaaMove2
import Derived.Test.YtamocachpjljdaaApp
namespace Go.Proofs.Ytamocachpjljdaa
open Go.RowKit

theorem allM_snoc {L : List Mv} {k : Nat} {m : Mv} (h : L[k]? = some m) : allM (L.take (k + 1)) = allM (L.take k) ++ bytesM m := by
  unfold allM
  rw [List.take_add_one, h]
  simp
theorem allM_len {L : List Mv} (h : ∀ m ∈ L, rightM m = true) : (allM L).length ≤ L.length * 268 := by
  induction L with
  | nil => simp [allM]
  | cons m L ih =>
    have h1 := rightM_iff.1 (h m (List.mem_cons_self ..))
    have h2 := ih (fun x hx => h x (List.mem_cons_of_mem _ hx))
    have e : allM (m :: L) = bytesM m ++ allM L := by simp [allM]
    rw [e, List.length_append, bytesM_len, List.length_cons]
    omega
def tlE (L : List Mv) : Int := if 256 < L.length then 4 else if (∀ m ∈ L, rightM m = true) then 0 else 2
def tlS (L : List Mv) : ByteArray := if tlE L = 0 then strOf (allM L) else noS
abbrev pcC (m : Mv) : Array Value := #[.int .i64 m.wh, .int .i64 1, .string noS, .int .i64 (b2i m.en), .int .i64 1, .string noS, .int .i64 m.st, .int .i64 4, .string noS, .int .i64 m.n, .int .i64 4, .string noS, .int .i64 m.s.size, .int .i64 2, .string noS, .int .i64 0, .int .i64 0, .string m.s]
theorem Lay_M (m : Mv) (h : rightM m = true) (A : Option Addr) (cap : Nat) (W : World) (hq : Sq encPc 3 W W.heap.size A (pcsM m)) :
    Calls Try.prog 18 #[.slice A 6 cap] W fun x w' => x = .returned (.tuple #[.string (strOf (bytesM m)), .int .i64 0]) ∧ Only Nil W w' :=
  Lay_known A cap 6 (pcsM m) _ _ W hq (pcsM_ok h) rfl (by simp [pcsM]) (pcsM_lay h).2 (pcsM_lay h).1
set_option maxRecDepth 100000 in
set_option maxHeartbeats 4000000 in
theorem TLay_any (A : Option Addr) (cap : Nat) (L : List Mv) (w : World) (hS : Sq encM 5 w w.heap.size A L) (hc : L.length ≤ cap) :
    Calls Try.prog 11 #[.slice A L.length cap] w fun x w' => x = .returned (.tuple #[.string (tlS L), .int .i64 (tlE L)]) ∧ Only Nil w w' := by
  obtain ⟨n, hn⟩ : ∃ n, n = L.length := ⟨_, rfl⟩
  obtain ⟨E, hE⟩ : ∃ E, E = tlE L := ⟨_, rfl⟩
  obtain ⟨S, hSS⟩ : ∃ S, S = tlS L := ⟨_, rfl⟩
  have HE := Lib.hid hE
  have HSS := Lib.hid hSS
  have HN := Lib.hid hn
  have HS := Lib.hid hS
  rw [← hn] at hc ⊢
  rw [← hE, ← hSS]
  clear hS hn hE hSS
  by_cases h256 : 256 < n
  · have h256' : (256 : Int) < n := by omega
    have e1 : tlE L = 4 := by unfold tlE; rw [if_pos (by rw [← HN.out]; exact h256)]
    have e2 : tlS L = noS := by unfold tlS; rw [e1]; rfl
    obtain rfl : E = 4 := HE.out.trans e1
    obtain rfl : S = noS := HSS.out.trans e2
    clear e1 e2
    go_enter Try.func11, Try.ntmps11
    go_wp2
    go_ret2
    exact ⟨rfl, Only.refl _ _⟩
  · have h256' : ¬ (256 : Int) < n := by omega
    go_enter Try.func11, Try.ntmps11
    go_wp2
    go_loopw [4, 15] (fun ov ii wr => ∃ (k m : Nat) (AO : Option Addr) (cO : Nat), k ≤ n ∧ ii = .int .i64 k ∧ ov = .slice AO m cO ∧ Hid (∀ x ∈ L.take k, rightM x = true) ∧ Hid (m = (allM (L.take k)).length) ∧ Ow encB 1 wr w.heap.size 5 (.slice AO m cO) (allM (L.take k)) ∧ Only Nil w wr) (fun _ ii _ => n - (intOf ii).toNat)
    case atStart => exact ⟨0, 0, none, 0, Nat.zero_le _, rfl, rfl, Lib.hid (fun x hx => by simp at hx), Lib.hid rfl, Ow.nil, Only.refl _ _⟩
    case round =>
      obtain ⟨k, m, AO, cO, hk, rfl, rfl, hR, hM, hO, ho⟩ := hrel
      by_cases hlt : k < n
      · have hlt' : (k : Int) < n := by omega
        obtain ⟨b, off, x, rfl, hb, hx, _, hcc⟩ := (HS.out.go ho).at_ (k := k) (by rw [← HN.out]; exact hlt)
        have p0 := hcc 0 (by decide)
        have p1 := hcc 1 (by decide)
        have p2 := hcc 2 (by decide)
        have p3 := hcc 3 (by decide)
        have p4 := hcc 4 (by decide)
        simp [encM] at p0 p1 p2 p3 p4
        have hCh := Lib.hid (fun W => Check_any x W)
        have HX := Lib.hid hx
        have HO := Lib.hid ho
        have HOW := Lib.hid hO
        clear hx hcc hO ho
        cases hr : rightM x
        · have e1 : tlE L = 2 := by
            unfold tlE
            rw [if_neg (by rw [← HN.out]; exact h256), if_neg]
            intro hh
            rw [hh x (List.mem_of_getElem? HX.out)] at hr
            cases hr
          have e2 : tlS L = noS := by unfold tlS; rw [e1]; rfl
          have e3 : chkM x = 2 := by unfold chkM; rw [hr]; rfl
          rw [e3] at hCh
          obtain rfl : E = 2 := HE.out.trans e1
          obtain rfl : S = noS := HSS.out.trans e2
          obtain ⟨wh, en, st, nn, s⟩ := x
          clear e1 e2 e3 hr
          go_wp2_with (first
            | (go_at_call 9; (with_reducible refine (hCh.out _).mono ?_); rintro e w1 ⟨rfl, ho1⟩)
            )
          go_ret2
          exact ⟨rfl, (HO.out.alloc _).trans ho1⟩
        · have e3 : chkM x = 0 := by unfold chkM; rw [hr]; rfl
          rw [e3] at hCh
          have HR := Lib.hid hr
          have HLM := Lib.hid (Lay_M x hr)
          have HSN := Lib.hid (allM_snoc HX.out)
          have HRR : Hid (∀ y ∈ L.take (k + 1), rightM y = true) := Lib.hid (fun y hy => by
            rw [List.take_add_one, HX.out] at hy
            rcases List.mem_append.1 hy with hy | hy
            · exact hR.out y hy
            · simp at hy; subst hy; exact HR.out)
          have HBD : Hid ((allM (L.take k)).length + (bytesM x).length ≤ 1000000000) := Lib.hid (by
            have h1 := allM_len hR.out
            have h2 := bytesM_len x
            have h3 := rightM_iff.1 HR.out
            rw [List.length_take] at h1
            omega)
          generalize bytesM x = BX at *
          obtain ⟨wh, en, st, nn, s⟩ := x
          simp only at p0 p1 p2 p3 p4
          have hpc : pcsM ⟨wh, en, st, nn, s⟩ = [⟨wh, 1, noS⟩, ⟨b2i en, 1, noS⟩, ⟨st, 4, noS⟩, ⟨nn, 4, noS⟩, ⟨s.size, 2, noS⟩, ⟨0, 0, s⟩] := rfl
          rw [hpc] at HLM
          clear e3 hr hR hpc
          generalize hEN : b2i en = EN at *
          have HEN := Lib.hid hEN
          clear hEN
          have hTr := Lib.hid (fun W => truth_any en W)
          rw [HEN.out] at hTr
          go_wp2_with (first
            | (go_at_call 9; (with_reducible refine (hCh.out _).mono ?_); rintro e w1 ⟨rfl, ho1⟩; have HO1 := Lib.hid (((Only.refl Nil wr).alloc (.cells (mvC ⟨wh, en, st, nn, s⟩) 28)).trans ho1); have hb1 := (Blk.new wr 28 (mvC ⟨wh, en, st, nn, s⟩)).kept ho1 (fun hh => hh); have ho1s := ho1.size; clear ho1)
            )
          go_region_held3 (fun w' => w'.cell? ⟨wr.heap.size, 0, none⟩ = some (.int .i64 wh) ∧ w'.cell? ⟨wr.heap.size, 1, none⟩ = some (.int .i64 st) ∧ w'.cell? ⟨wr.heap.size, 2, none⟩ = some (.int .i64 nn) ∧ w'.cell? ⟨wr.heap.size, 3, none⟩ = some (.string s) ∧ w'.cell? ⟨wr.heap.size, 4, none⟩ = some (.bool en)) (first | exact ⟨hb8.cell 0, hb8.cell 1, hb8.cell 2, hb8.cell 3, hb8.cell 4⟩ | exact ⟨(Blk.alloc hb7 _).cell 0, (Blk.alloc hb7 _).cell 1, (Blk.alloc hb7 _).cell 2, (Blk.alloc hb7 _).cell 3, (Blk.alloc hb7 _).cell 4⟩ | exact ⟨hb7.cell 0, hb7.cell 1, hb7.cell 2, hb7.cell 3, hb7.cell 4⟩ | exact ⟨hb6.cell 0, hb6.cell 1, hb6.cell 2, hb6.cell 3, hb6.cell 4⟩ | exact ⟨hb5.cell 0, hb5.cell 1, hb5.cell 2, hb5.cell 3, hb5.cell 4⟩ | exact ⟨hb4.cell 0, hb4.cell 1, hb4.cell 2, hb4.cell 3, hb4.cell 4⟩ | exact ⟨hb3.cell 0, hb3.cell 1, hb3.cell 2, hb3.cell 3, hb3.cell 4⟩ | exact ⟨hb2.cell 0, hb2.cell 1, hb2.cell 2, hb2.cell 3, hb2.cell 4⟩ | exact ⟨hb1.cell 0, hb1.cell 1, hb1.cell 2, hb1.cell 3, hb1.cell 4⟩) (first
            | (go_at_call 18; (with_reducible refine (HLM.out _ _ _ hP).mono ?_); rintro e w8 ⟨rfl, ho8⟩; have hb8 := (hb7.alloc (.cells #[.int .i64 wh, .int .i64 1, .string noS, .int .i64 EN, .int .i64 1, .string noS, .int .i64 st, .int .i64 4, .string noS, .int .i64 nn, .int .i64 4, .string noS, .int .i64 s.size, .int .i64 2, .string noS, .int .i64 0, .int .i64 0, .string s] 46)).kept ho8 (fun hh => hh))
            | (go_at_call 21; have _t := hb6; (with_reducible refine (T_any s _).mono ?_); rintro e w7 ⟨rfl, ho7⟩; have hb7 := Blk.kept hb6 ho7 (fun hh => hh); have hP := Blk.sq (enc := encPc) (sz := 3) (l := [⟨wh, 1, noS⟩, ⟨EN, 1, noS⟩, ⟨st, 4, noS⟩, ⟨nn, 4, noS⟩, ⟨s.size, 2, noS⟩, ⟨0, 0, s⟩]) (Blk.new w7 46 #[.int .i64 wh, .int .i64 1, .string noS, .int .i64 EN, .int .i64 1, .string noS, .int .i64 st, .int .i64 4, .string noS, .int .i64 nn, .int .i64 4, .string noS, .int .i64 s.size, .int .i64 2, .string noS, .int .i64 0, .int .i64 0, .string s]) rfl encPc_len)
            | (go_at_call 19; have _t := hb5; (with_reducible refine (U_any s.size 2 _).mono ?_); rintro e w6 ⟨rfl, ho6⟩; have hb6 := Blk.kept hb5 ho6 (fun hh => hh))
            | (go_at_call 19; have _t := hb4; (with_reducible refine (U_any nn 4 _).mono ?_); rintro e w5 ⟨rfl, ho5⟩; have hb5 := Blk.kept hb4 ho5 (fun hh => hh))
            | (go_at_call 19; have _t := hb3; (with_reducible refine (U_any st 4 _).mono ?_); rintro e w4 ⟨rfl, ho4⟩; have hb4 := Blk.kept hb3 ho4 (fun hh => hh))
            | (go_at_call 19; have _t := hb2; (with_reducible refine (U_any EN 1 _).mono ?_); rintro e w3 ⟨rfl, ho3⟩; have hb3 := Blk.kept hb2 ho3 (fun hh => hh))
            | (go_at_call 20; have _t := hb2; (with_reducible refine (hTr.out _).mono ?_); rintro e wt ⟨rfl, rfl⟩)
            | (go_at_call 19; (with_reducible refine (U_any wh 1 _).mono ?_); rintro e w2 ⟨rfl, ho2⟩; have hb2 := Blk.kept (Blk.drew hb1) ho2 (fun hh => hh))
            )
          all_goals
            have HX8 := Lib.hid (((((((HO1.out.drew.trans ho2).trans ho3).trans ho4).trans ho5).trans ho6).trans ho7).alloc (.cells #[.int .i64 wh, .int .i64 1, .string noS, .int .i64 EN, .int .i64 1, .string noS, .int .i64 st, .int .i64 4, .string noS, .int .i64 nn, .int .i64 4, .string noS, .int .i64 s.size, .int .i64 2, .string noS, .int .i64 0, .int .i64 0, .string s] 46) |>.trans ho8)
            have HW8 := HX8
            have HO8 := Lib.hid (HO.out.trans HX8.out)
            clear HX8
            go_wp2_with (first
              | (at_builtin
                 refine wpList_app2 rfl (.tmp 52) (.tmp 53) _ _ rfl w.heap.size 5 Try.underlying43 u8_info rfl _ (allM (L.take k)) rfl (HOW.out.kept HW8.out (fun _ _ hh => hh)) _ BX rfl (Src.str Try.underlying9 (strOf BX)) HBD.out (by decide) HO8.out.size _ rfl _ HSN.out.symm ?_
                 intro A9 c9 w9 hown9 ho9 hg9
                 have hO9 := HO8.out.own_nil (HOW.out.kept HW8.out (fun _ _ hh => hh)) ho9)
              )
            go_roundw
            case rel => exact ⟨k + 1, _, A9, c9, by omega, by go_num, rfl, HRR, Lib.hid (by rw [HSN.out, List.length_append]), hown9, hO9⟩
            case measure => simp [intOf]; omega
      · obtain rfl : k = n := by omega
        have hstr := hO.str (P := Try.prog) 43 5 9 Try.underlying43 Try.underlying5 Try.underlying9
        have hT : Hid (L.take k = L) := Lib.hid (List.take_of_length_le (by rw [← HN.out]; exact Nat.le_refl _))
        have e1 : tlE L = 0 := by
          unfold tlE
          rw [if_neg (by rw [← HN.out]; exact h256), if_pos (fun x hx => hR.out x (by rw [hT.out]; exact hx))]
        have e2 : tlS L = strOf (allM (L.take k)) := by unfold tlS; rw [e1, hT.out]; rfl
        obtain rfl : E = 0 := HE.out.trans e1
        have HS2 := Lib.hid (HSS.out.trans e2)
        clear e1 e2 hR hM hO
        generalize strOf (allM (L.take k)) = SX at *
        obtain rfl : S = SX := HS2.out
        go_wp2
        go_ret2
        exact ⟨rfl, ho⟩
end Go.Proofs.Ytamocachpjljdaa
