/- Every call of a queue of frames is answered as the document says (the statement OutqDoes, as its card is given). No condition. -/
import Derived.Test.YtgiplefnggnpcaaDoorCards
import Derived.Test.YtgiplefnggnpcaaDoorTie
import Derived.Test.YtgiplefnggnpcaaDoorPushH
import Derived.Test.YtgiplefnggnpcaaDoorFrmR2
import Derived.Deep.DeepHandedRow
namespace Go.Proofs.YtgiplefnggnpcaaDoor
open Go.RowKit Nd

set_option maxRecDepth 100000 in
set_option maxHeartbeats 8000000 in
theorem outqDoes_walk (v0 : Value) (w : World) (h0 : Kd.Fit w (.slc (.agg [.agg [.int .i64, .int .i64, .bool, .str, .int .i64, .agg [.int .i64, .int .i64, .bool], .int .i64, .int .i64, .int .i64, .slc (.agg [.int .i64, .int .i64])], .int .u8, .bool, .bool])) v0) (hT : Nds w) : Calls Tryd.prog 3 #[v0] w fun e w' => e = .returned (.bool true) ∧ Below w.heap.size w w' := by
  obtain ⟨acts, A, cap, rfl, hc, hm, hok, hS⟩ := Kd.acts h0
  unfold maxLen at hm
  have HT := Lib.hid hT
  have hlt0 := hT.lt
  have HOK := Lib.hid hok
  have HSQ := Lib.hid hS
  clear h0 hT hok hS
  obtain ⟨n, hn⟩ : ∃ n, n = acts.length := ⟨_, rfl⟩
  have HN := Lib.hid hn
  rw [← hn] at hc ⊢
  clear hn
  go_enter Tryd.func3, Tryd.ntmps3
  go_wp2_with (first
    | (go_at_call 6; (with_reducible refine (New_any _).mono ?_); rintro e w1 ⟨b, rfl, ho1, hzb, hQ1⟩)
    | (go_at_call 7; (with_reducible refine (awake_any _ (Tab.kept HT.out ho1 (fun hh => hh))).mono ?_); rintro e w2 ⟨rfl, ho2⟩)
    )
  have H1 := Lib.hid (show St3 w b none 0 0 w2 from ⟨_, [], [], hQ1.kept ho2, by simp, rfl, Nat.le_refl _, by simp [maxLen], Sq.nil, rfl, (fun y hy => by cases hy), (fun g o e => by cases e), (ho1.trans ho2).below (Nat.le_refl _) (fun _ _ hh => hh)⟩)
  clear hQ1 ho1 ho2
  go_loopw [4, 5] (fun xx ii wr => ∃ (k : Nat) (Ax : Option Addr) (nx cx : Nat), k ≤ n ∧ k ≤ 60 ∧ xx = .slice Ax nx cx ∧ ii = .int .i64 k ∧ St3 w b Ax nx cx wr) (fun _ ii _ => 60 - (intOf ii).toNat)
  case atStart => exact ⟨0, none, 0, 0, Nat.zero_le _, Nat.zero_le _, rfl, rfl, H1.out⟩
  case round =>
    obtain ⟨k, Ax, nx, cx, hkn, hk60, rfl, rfl, hS3⟩ := hrel
    have H3 := Lib.hid hS3
    obtain ⟨v, L, Lx, hQ, hl, hnx, hncx, hcx, hSx, hmap, hps, hap, hB⟩ := hS3
    have HQ := Lib.hid (fun W (ho : Only Nil wr W) => hQ.kept ho)
    have HB := Lib.hid hB
    have HLN := Lib.hid (len_of hnx hmap)
    by_cases hlt : k < n ∧ k < 60
    · obtain ⟨hk1, hk2⟩ := hlt
      have hk1' : (k : Int) < n := by omega
      have hk2' : (k : Int) < 60 := by omega
      obtain ⟨bA, oA, x, rfl, hbA, hx, f0, f1, f2, f3, f4, f5, f6, f7, f8, f9, f10, f11, f12, f13, f14⟩ := acts_at HSQ.out HB.out (k := k) (by have := HN.out; omega)
      have hokx := HOK.out x (List.mem_of_getElem? hx)
      obtain ⟨⟨f, xA, xcap⟩, many, nxt, cl⟩ := x
      simp only [El.p] at f0 f1 f2 f3 f4 f5 f6 f7 f8 f9 f10 f11 f12 f13 f14
      cases hlb : lightB ⟨f, xA, xcap⟩
      · have hLt := Lib.hid (fun W => Light_any f xA xcap W _ hlb)
        have HH := Lib.hid (And.intro hnx (And.intro hncx (And.intro hcx (And.intro hSx (And.intro hmap (And.intro hps hap))))))
        clear hlb hQ hnx hSx hmap hps hap hokx hx hB
        as_aux_lemma =>
          go_wp2_with (first
            | (go_at_call 8; (with_reducible refine (hLt.out _).mono ?_); rintro e w2 ⟨rfl, ho2⟩; have HW2 := Lib.hid (((Only.refl Nil wr).alloc _).trans ho2); clear ho2)
            )
          go_roundw
          case rel => exact ⟨k + 1, Ax, nx, cx, by omega, by omega, rfl, by go_num, v, L, Lx, HQ.out _ HW2.out, hl, HH.out.1, HH.out.2.1, HH.out.2.2.1, HH.out.2.2.2.1.go HW2.out, HH.out.2.2.2.2.1, HH.out.2.2.2.2.2.1, HH.out.2.2.2.2.2.2, HB.out.trans (HW2.out.below HB.out.size (fun _ _ hh => hh))⟩
          case measure => simp [intOf]; omega
      · have hLt := Lib.hid (fun W => Light_any f xA xcap W _ hlb)
        clear hlb
        cases cl
        · cases nxt
          · obtain ⟨m, hm79, hmm⟩ : ∃ m : Nat, m ≤ 79 ∧ many % 80 = (m : Int) := ⟨(many % 80).toNat, by omega, by omega⟩
            have hm0 : 0 ≤ many := hokx.2.1
            have ewm : IntKind.i64.wrap ((m : Int) + 1) = m + 1 := IntWalk.i64_in _ (by omega)
            have HPX := Lib.hid hokx.1
            have H4 : Hid (∀ W, Only Nil wr W → Blk W wr.heap.size 33 (acC ⟨⟨f, xA, xcap⟩, many, false, false⟩) → St4 w b wr.heap.size ⟨⟨f, xA, xcap⟩, many, false, false⟩ Ax nx cx W) := Lib.hid (fun W ho hbk => St4.of hQ hl hnx hncx hcx hSx hmap hps hap hB ho (Nat.le_refl _) hbk)
            clear hQ hnx hSx hmap hps hap hokx hx hB hncx hcx hl
            as_aux_lemma =>
              go_wp2_with (first
                | (go_at_call 8; (with_reducible refine (hLt.out _).mono ?_); rintro e w2 ⟨rfl, ho2⟩; have HW2 := Lib.hid (((Only.refl Nil wr).alloc _).trans ho2); have hx2 := (Blk.new wr 33 (acC ⟨⟨f, xA, xcap⟩, many, false, false⟩)).kept ho2 (fun hh => hh); obtain ⟨g0, g1, g2, g3, g4, g5, g6, g7, g8, g9, g10, g11, g12, g13, g14⟩ := hx2.act; have zx := hx2.lt; have H5 := Lib.hid (H4.out _ HW2.out hx2); clear ho2 hx2)
                )
              clear HW2 H4 HQ HB
              generalize wr.heap.size = gb at *
              go_loopw [4, 9, 10] (fun xx ii _ wq => ∃ (j : Nat) (A2 : Option Addr) (n2 c2 : Nat), j ≤ m + 1 ∧ xx = .slice A2 n2 c2 ∧ ii = .int .i64 j ∧ St4 w b gb ⟨⟨f, xA, xcap⟩, many, false, false⟩ A2 n2 c2 wq) (fun _ ii _ _ => m + 1 - (intOf ii).toNat)
              case atStart => exact ⟨0, Ax, nx, cx, Nat.zero_le _, rfl, rfl, H5.out⟩
              case round =>
                obtain ⟨j, A2, n2, c2, hj, rfl, rfl, hS4⟩ := hrel
                by_cases hlt : j < m + 1
                · have hlt' : (j : Int) < m + 1 := by omega
                  obtain ⟨r, hPr⟩ := pushes4 f xA xcap HPX.out HT.out hS4
                  have HPR := Lib.hid hPr
                  obtain ⟨-, -, -, -, -, -, -, -, -, -, -, -, -, -, hbk⟩ := hS4
                  obtain ⟨g0, g1, g2, g3, g4, g5, g6, g7, g8, g9, g10, g11, g12, g13, g14⟩ := hbk.act
                  have zx := hbk.lt
                  have HBK := Lib.hid hbk
                  clear hPr hbk
                  as_aux_lemma =>
                    go_wp2_with (first
                      | (go_at_call 12; (with_reducible refine (HPR.out _ (Only.refl _ _)).mono ?_); rintro e w5 ⟨A5, n5, c5, rfl, ho5, hP5⟩; have HP5 := Lib.hid hP5; have hbk5 := HBK.out.kept ho5 (fun hh => hh); obtain ⟨h0, h1, h2, h3, h4, h5, h6, h7, h8, h9, h10, h11, h12, h13, h14⟩ := hbk5.act; have zx5 := hbk5.lt; clear hP5 hbk5 ho5)
                      | (go_at_call 13; (with_reducible refine (HP5.out _ (Only.refl _ _)).mono ?_); rintro e w6 ⟨rfl, hS6⟩)
                      )
                    go_roundw
                    case rel => exact ⟨j + 1, A5, n5, c5, by omega, rfl, by go_num, hS6⟩
                    case measure => simp [intOf]; omega
                · obtain rfl : j = m + 1 := by omega
                  have hlt' : ¬ ((m + 1 : Nat) : Int) < m + 1 := by omega
                  obtain ⟨v5, L5, Lx5, hQ5, hl5, hnx5, hncx5, hcx5, hSx5, hmap5, hps5, hap5, hB5, -, hbk5⟩ := hS4
                  obtain ⟨g0, g1, g2, g3, g4, g5, g6, g7, g8, g9, g10, g11, g12, g13, g14⟩ := hbk5.act
                  have zx := hbk5.lt
                  have hLm : L5.length = n2 := len_of hnx5 hmap5
                  have hTy := Types_any _ hQ5 (by omega)
                  have hLn := fun W (ho : Only Nil _ W) => Len_any W (hQ5.kept ho)
                  have hRm := fun W (ho : Only Nil _ W) => Room_any W (hQ5.kept ho) (by omega)
                  simp only [hLm] at hTy hLn hRm
                  have HTy := Lib.hid hTy
                  have HLn := Lib.hid hLn
                  have HRm := Lib.hid hRm
                  have HQ5 := Lib.hid (fun W (ho : Only Nil _ W) => hQ5.kept ho)
                  have HB5 := Lib.hid hB5
                  have HLM := Lib.hid (And.intro hnx5 hLm)
                  have HCX := Lib.hid (And.intro hncx5 (And.intro hcx5 hl5))
                  have HMAP := Lib.hid hmap5
                  have HPS := Lib.hid hps5
                  have HAP := Lib.hid hap5
                  have HSX5 := Lib.hid hSx5
                  have HLX := Lib.hid hLm
                  have hm64 : ((n2 : Nat) : Int) ≤ 64 := by omega
                  clear hTy hLn hRm hQ5 hB5 hnx5 hLm hncx5 hcx5 hmap5 hps5 hap5 hSx5 hbk5 hl5
                  rcases Nat.eq_zero_or_pos n2 with rfl | hpos
                  · obtain rfl : Lx5 = [] := List.eq_nil_of_length_eq_zero HLM.out.1
                    obtain rfl : L5 = [] := List.eq_nil_of_length_eq_zero HLM.out.2
                    as_aux_lemma =>
                      go_wp2_with (first
                        | (go_at_call 14; (with_reducible refine (HTy.out).mono ?_); rintro e w4 ⟨tA, tc, rfl, hTO, ho4⟩; have hQ4 := HQ5.out _ ho4)
                        | (go_at_call 15; (with_reducible refine (Len_any _ hQ4).mono ?_); rintro e w6 ⟨rfl, rfl⟩)
                        | (go_at_call 16; (with_reducible refine (Room_any _ hQ4 (by simp)).mono ?_); rintro e w6 ⟨rfl, rfl⟩)
                        )
                      go_loopw [12] (fun kk wq => kk = .int .i64 0 ∧ wq = w4) (fun _ _ => 0)
                      case atStart => exact ⟨rfl, rfl⟩
                      case round =>
                        obtain ⟨rfl, rfl⟩ := hrel
                        go_wp2
                        go_roundw
                        case rel => exact ⟨k + 1, A2, 0, c2, by omega, by omega, rfl, by go_num, v5, [], [], hQ4, by simp, rfl, Nat.zero_le _, HCX.out.2.1, Sq.nil, rfl, (fun y hy => by cases hy), (fun g o e h0 => absurd h0 (Nat.lt_irrefl _)), HB5.out.trans (ho4.below HB5.out.size (fun _ _ hh => hh))⟩
                        case measure => simp [intOf]; omega
                  · obtain ⟨gx, ox, rfl⟩ : ∃ g o, A2 = some ⟨g, o, none⟩ := by
                      obtain ⟨g, o, e, -⟩ := HSX5.out (by rw [HLM.out.1]; exact hpos)
                      exact ⟨g, o, e⟩
                    as_aux_lemma =>
                      go_upto_region 29 with fail
                      try simp only [Nat.add_sub_cancel]
                      go_wp2_with (first
                        | (go_at_call 14; (with_reducible refine (HTy.out).mono ?_); rintro e w7 ⟨tA, tc, rfl, hTO, ho7⟩; have HTO := Lib.hid hTO; have HO7 := Lib.hid ho7; clear hTO ho7)
                        | (go_at_call 15; (with_reducible refine (HLn.out _ HO7.out).mono ?_); rintro e w8 ⟨rfl, rfl⟩)
                        | (go_at_call 16; (with_reducible refine (HRm.out _ HO7.out).mono ?_); rintro e w8 ⟨rfl, rfl⟩)
                        )
                      have HSX := Lib.hid (HSX5.out.go HO7.out)
                      have HLT := Lib.hid HLM.out.2
                      have FIN : Hid (∀ W, Only Nil w7 W → St3 w b (some ⟨gx, ox, none⟩) n2 c2 W) := Lib.hid (fun W ho => ⟨v5, L5, Lx5, HQ5.out _ (HO7.out.trans ho), HCX.out.2.2, HLM.out.1, HCX.out.1, HCX.out.2.1, HSX.out.go ho, HMAP.out, HPS.out, HAP.out, HB5.out.trans ((HO7.out.trans ho).below HB5.out.size (fun _ _ hh => hh))⟩)
                      go_loopw [12] (fun kk wq => ∃ j : Nat, j ≤ n2 ∧ kk = .int .i64 j ∧ Only Nil w7 wq) (fun kk _ => n2 - (intOf kk).toNat)
                      case atStart => exact ⟨0, Nat.zero_le _, rfl, Only.refl _ _⟩
                      case round =>
                        obtain ⟨j, hj, rfl, hoq⟩ := hrel
                        by_cases hlt : j < n2
                        · have hlt' : (j : Int) < n2 := by omega
                          obtain ⟨zt, hzt⟩ : ∃ zt, L5[j]? = some zt := ⟨_, List.getElem?_eq_getElem (by have := HLT.out; omega)⟩
                          obtain ⟨zx, hzx, hzf⟩ : ∃ zx, Lx5[j]? = some zx ∧ zx.f = zt.f := by
                            have := congrArg (fun l => l[j]?) HMAP.out
                            simp only [List.getElem?_map, hzt] at this
                            cases hq : Lx5[j]? with
                            | none => rw [hq] at this; cases this
                            | some q => rw [hq] at this; injection this with this; exact ⟨q, rfl, this⟩
                          obtain ⟨bt, ot, yt, rfl, hbt, hyt, _, hct⟩ := ((HTO.out.sqn (fun _ _ => rfl)).go hoq).at_ (k := j) (by rw [List.length_map]; have := HLT.out; omega)
                          have hyt' : yt = zt.f.t := by
                            rw [List.getElem?_map, hzt] at hyt
                            injection hyt with hyt
                            exact hyt.symm
                          subst hyt'
                          have p0 := hct 0 (by decide)
                          simp [encZ] at p0
                          obtain ⟨q0, q1, q2, q3, q4, q5, q6, q7, q8, q9, q10, q11, qz⟩ := (HSX.out.go hoq).elAll hzx
                          rw [hzf] at q0
                          clear hct hyt hzt hzx hzf q1 q2 q3 q4 q5 q6 q7 q8 q9 q10 q11
                          go_wp2
                          go_quiet (fail)
                          go_wp2
                          go_roundw
                          case rel => exact ⟨j + 1, by omega, by go_num, hoq.drewN _⟩
                          case measure => simp [intOf]; omega
                        · obtain rfl : n2 = j := by omega
                          go_wp2
                          go_roundw
                          case rel => exact ⟨k + 1, some ⟨gx, ox, none⟩, n2, c2, by omega, by omega, rfl, by go_num, FIN.out _ hoq⟩
                          case measure => simp [intOf]; omega
          · cases L with
            | nil =>
              have hLx : Lx = [] := by cases Lx with
                | nil => rfl
                | cons _ _ => simp at hmap
              subst hLx
              obtain rfl : nx = 0 := hnx.symm
              have HNx := Lib.hid (fun W (ho : Only Nil wr W) => Next_none W (hQ.kept ho))
              have HH := Lib.hid (And.intro hncx hcx)
              have HO2 : Hid True := Lib.hid trivial
              clear hQ hnx hSx hmap hps hap hokx hx hB hcx
              as_aux_lemma =>
                go_wp2_with (first
                  | (go_at_call 8; (with_reducible refine (hLt.out _).mono ?_); rintro e w2 ⟨rfl, ho2⟩; have HW2 := Lib.hid (((Only.refl Nil wr).alloc _).trans ho2); have hx2 := (Blk.new wr 33 (acC ⟨⟨f, xA, xcap⟩, many, true, false⟩)).kept ho2 (fun hh => hh); obtain ⟨g0, g1, g2, g3, g4, g5, g6, g7, g8, g9, g10, g11, g12, g13, g14⟩ := hx2.act; have zx := hx2.lt; clear ho2)
                  | (go_at_call 10; (with_reducible refine (HNx.out _ HW2.out).mono ?_); rintro e w3 ⟨rfl, ho3⟩; have HW3 := Lib.hid ((HW2.out.trans ho3).alloc (.cells (frC zel.f (.slice none 0 0)) 31)); clear ho3)
                  | (go_at_call 11; (with_reducible refine (RSame_any zel.f zel.f (PmIs.nil _) (PmIs.nil _) true (by simp)).mono ?_); rintro e w5 ⟨rfl, ho5⟩; have HW5 := Lib.hid (HW3.out.trans ho5); have hT3 := Lib.hid (Types_any _ (HQ.out _ HW5.out) (by simp)); clear ho5)
                  | (go_at_call 14; (with_reducible refine (hT3.out).mono ?_); rintro e w4 ⟨tA, tc, rfl, hTO, ho4⟩; have hQ4 := HQ.out _ (HW5.out.trans ho4))
                  | (go_at_call 15; (with_reducible refine (Len_any _ hQ4).mono ?_); rintro e w6 ⟨rfl, rfl⟩)
                  | (go_at_call 16; (with_reducible refine (Room_any _ hQ4 (by simp)).mono ?_); rintro e w6 ⟨rfl, rfl⟩)
                  )
                go_loopw [12] (fun kk wq => kk = .int .i64 0 ∧ wq = w4) (fun _ _ => 0)
                case atStart => exact ⟨rfl, rfl⟩
                case round =>
                  obtain ⟨rfl, rfl⟩ := hrel
                  go_wp2
                  go_roundw
                  case rel => exact ⟨k + 1, Ax, 0, cx, by omega, by omega, rfl, by go_num, v, [], [], hQ4, by simp, rfl, Nat.zero_le _, HH.out.2, Sq.nil, rfl, (fun y hy => by cases hy), (fun g o e h0 => absurd h0 (Nat.lt_irrefl _)), HB.out.trans ((HW5.out.trans ho4).below HB.out.size (fun _ _ hh => hh))⟩
                  case measure => simp [intOf]; omega
            | cons y L =>
              obtain ⟨y', Lx', rfl⟩ : ∃ y' Lx', Lx = y' :: Lx' := by cases Lx with
                | nil => simp at hmap
                | cons a b => exact ⟨a, b, rfl⟩
              simp only [List.map_cons, List.cons.injEq] at hmap
              obtain ⟨hyf, hmap'⟩ := hmap
              obtain ⟨gx, ox, _, rfl, hgx, -⟩ := hSx.at_ (k := 0) (by simp)
              simp only [List.length_cons] at hnx hl
              obtain ⟨m, rfl⟩ : ∃ m, nx = m + 1 := ⟨Lx'.length, hnx.symm⟩
              have hm1 : Lx'.length = m := by omega
              have hLm : L.length = m := len_of hm1 hmap'
              have hxF := hap gx ox rfl (Nat.succ_pos _)
              have HNx := Lib.hid (fun W (ho : Only Nil wr W) => Next_any y W (hQ.kept ho) (by omega))
              have HSx2 := Lib.hid (fun W W' (ho : Only Nil wr W) (ho2 : Only (Fp b v) W W') => (hSx.go ho).far ho2 hxF)
              have HPB := Lib.hid (fun W (hb : Below w.heap.size w W) => (hps y' (List.mem_cons_self ..)).below hb)
              have HYF := Lib.hid hyf
              have HMAP := Lib.hid hmap'
              have HLM := Lib.hid (And.intro hm1 hLm)
              have HPS := Lib.hid (fun z (hz : z ∈ Lx') => hps z (List.mem_cons_of_mem _ hz))
              have HXF := Lib.hid hxF
              have HCX := Lib.hid (And.intro hncx hcx)
              clear hQ hnx hSx hmap' hps hap hokx hx hB hcx hyf hm1 hLm hxF
              have hz : (((m : Int) + 1) == 0) = false := by rw [beq_eq_false_iff_ne]; omega
              by_cases hc1 : cx = 1
              · subst hc1
                obtain rfl : m = 0 := by omega
                as_aux_lemma =>
                  go_wp2_with (first
                    | (go_at_call 8; (with_reducible refine (hLt.out _).mono ?_); rintro e w2 ⟨rfl, ho2⟩; have HW2 := Lib.hid (((Only.refl Nil wr).alloc _).trans ho2); have hx2 := (Blk.new wr 33 (acC ⟨⟨f, xA, xcap⟩, many, true, false⟩)).kept ho2 (fun hh => hh); obtain ⟨g0, g1, g2, g3, g4, g5, g6, g7, g8, g9, g10, g11, g12, g13, g14⟩ := hx2.act; have zx := hx2.lt; clear ho2)
                    | (go_at_call 10; (with_reducible refine (HNx.out _ HW2.out).mono ?_); rintro e w3 ⟨⟨v3, rfl, hQ3, hO3, hG3⟩, hP3⟩; have hSx3 := HSx2.out _ _ HW2.out hO3; obtain ⟨p0, p1, p2, p3, p4, p5, p6, p7, p8, p9, p10, p11, pz⟩ := hSx3.elAll (j := 0) rfl; have HSX3 := Lib.hid hSx3; have HQ3 := Lib.hid hQ3; have HO3 := Lib.hid hO3; have HG3 := Lib.hid hG3; have HP3 := Lib.hid (pm_of hP3); clear hSx3 hQ3 hO3 hG3 hP3)
                    )
                  simp only [Nat.zero_mul, Nat.add_zero] at p0 p1 p2 p3 p4 p5 p6 p7 p8 p9 p10 p11
                  go_region_law (first
                    | (go_simp; go_at_call 11; (with_reducible refine (RSame_any y.f y'.f (p := y.p) (q := y'.p) (HP3.out.go (((Only.refl Nil _).alloc _).drew)) (HPB.out _ (((((HB.out.trans (HW2.out.below HB.out.size (fun _ _ hh => hh))).trans ((HQ.out _ HW2.out).below HO3.out)).trans (((Only.refl Nil _).alloc _).drew.below (Nat.le_trans (Nat.le_trans HB.out.size HW2.out.size) HO3.out.size) (fun _ _ hh => hh)))))) true (by simp [HYF.out])).mono ?_); rintro e w5 ⟨rfl, ho5⟩; have HW5 := Lib.hid ((((Only.refl Nil w3).alloc _).drew).trans ho5); clear ho5)
                    )
                  all_goals
                    have hQ5 := HQ3.out.kept HW5.out
                    have hTy := Types_any w5 hQ5 (by have := HLM.out.2; omega)
                    have hLn := fun W (ho : Only Nil w5 W) => Len_any W (hQ5.kept ho)
                    have hRm := fun W (ho : Only Nil w5 W) => Room_any W (hQ5.kept ho) (by have := HLM.out.2; omega)
                    simp only [HLM.out.2] at hTy hLn hRm
                    have HTy := Lib.hid hTy
                    have HLn := Lib.hid hLn
                    have HRm := Lib.hid hRm
                    have HQ5 := Lib.hid hQ5
                    have hB5 := (HB.out.trans (HW2.out.below HB.out.size (fun _ _ hh => hh))).trans ((HQ.out _ HW2.out).below HO3.out)
                    have HB5 := Lib.hid (hB5.trans (HW5.out.below hB5.size (fun _ _ hh => hh)))
                    have hm64 : ((0 : Nat) : Int) ≤ 63 := by have := HLM.out.2; omega
                    clear hz hTy hLn hRm hQ5 hB5 p0 p1 p2 p3 p4 p5 p6 p7 p8 p9 p10 p11
                    go_upto_region 29 with fail
                    try simp only [Nat.add_sub_cancel]
                    go_wp2_with (first
                      | (go_at_call 14; (with_reducible refine (HTy.out).mono ?_); rintro e w7 ⟨tA, tc, rfl, hTO, ho7⟩; have HTO := Lib.hid hTO; have HO7 := Lib.hid ho7; clear hTO ho7)
                      | (go_at_call 15; (with_reducible refine (HLn.out _ HO7.out).mono ?_); rintro e w8 ⟨rfl, rfl⟩)
                      | (go_at_call 16; (with_reducible refine (HRm.out _ HO7.out).mono ?_); rintro e w8 ⟨rfl, rfl⟩)
                      )
                    have HSX := Lib.hid ((HSX3.out.go (HW5.out.trans HO7.out)).dropped 1 (A' := some ⟨gx, ox, none⟩) (fun hh => absurd hh (by have := HLM.out.1; simp only [List.length_cons]; omega)))
                    have HLT := Lib.hid HLM.out.2
                    have FIN : Hid (∀ W, Only Nil w7 W → St3 w b (some ⟨gx, ox, none⟩) 0 (0) W) := Lib.hid (fun W ho => ⟨v3, L, Lx', HQ5.out.kept (HO7.out.trans ho), by have := HLM.out.2; omega, HLM.out.1, by have := HCX.out.1; omega, by have := HCX.out.2; omega, HSX.out.go ho, HMAP.out, HPS.out, fun g o e _ hh => by
                      injection e with e
                      injection e with e1 e2
                      subst e1
                      rcases hh with hh | hh
                      · exact HXF.out (.inl hh)
                      · rcases HG3.out _ hh with h1 | h1
                        · exact HXF.out (.inr h1)
                        · have := HW2.out.size
                          omega, HB5.out.trans ((HO7.out.trans ho).below HB5.out.size (fun _ _ hh => hh))⟩)
                    go_loopw [12] (fun kk wq => ∃ j : Nat, j ≤ 0 ∧ kk = .int .i64 j ∧ Only Nil w7 wq) (fun kk _ => 0 - (intOf kk).toNat)
                    case atStart => exact ⟨0, Nat.zero_le _, rfl, Only.refl _ _⟩
                    case round =>
                      obtain ⟨j, hj, rfl, hoq⟩ := hrel
                      by_cases hlt : j < 0
                      · have hlt' : (j : Int) < 0 := by omega
                        obtain ⟨zt, hzt⟩ : ∃ zt, L[j]? = some zt := ⟨_, List.getElem?_eq_getElem (by have := HLT.out; omega)⟩
                        obtain ⟨zx, hzx, hzf⟩ : ∃ zx, Lx'[j]? = some zx ∧ zx.f = zt.f := by
                          have := congrArg (fun l => l[j]?) HMAP.out
                          simp only [List.getElem?_map, hzt] at this
                          cases hq : Lx'[j]? with
                          | none => rw [hq] at this; cases this
                          | some q => rw [hq] at this; injection this with this; exact ⟨q, rfl, this⟩
                        obtain ⟨bt, ot, yt, rfl, hbt, hyt, _, hct⟩ := ((HTO.out.sqn (fun _ _ => rfl)).go hoq).at_ (k := j) (by rw [List.length_map]; have := HLT.out; omega)
                        have hyt' : yt = zt.f.t := by
                          rw [List.getElem?_map, hzt] at hyt
                          injection hyt with hyt
                          exact hyt.symm
                        subst hyt'
                        have p0 := hct 0 (by decide)
                        simp [encZ] at p0
                        obtain ⟨q0, q1, q2, q3, q4, q5, q6, q7, q8, q9, q10, q11, qz⟩ := (HSX.out.go hoq).elAll hzx
                        rw [hzf] at q0
                        clear hct hyt hzt hzx hzf q1 q2 q3 q4 q5 q6 q7 q8 q9 q10 q11
                        go_wp2
                        go_quiet (fail)
                        go_wp2
                        go_roundw
                        case rel => exact ⟨j + 1, by omega, by go_num, hoq.drewN _⟩
                        case measure => simp [intOf]; omega
                      · obtain rfl : 0 = j := by omega
                        go_wp2
                        go_roundw
                        case rel => exact ⟨k + 1, some ⟨gx, ox, none⟩, 0, (0), by omega, by omega, rfl, by go_num, FIN.out _ hoq⟩
                        case measure => simp [intOf]; omega
              ·
                as_aux_lemma =>
                  go_wp2_with (first
                    | (go_at_call 8; (with_reducible refine (hLt.out _).mono ?_); rintro e w2 ⟨rfl, ho2⟩; have HW2 := Lib.hid (((Only.refl Nil wr).alloc _).trans ho2); have hx2 := (Blk.new wr 33 (acC ⟨⟨f, xA, xcap⟩, many, true, false⟩)).kept ho2 (fun hh => hh); obtain ⟨g0, g1, g2, g3, g4, g5, g6, g7, g8, g9, g10, g11, g12, g13, g14⟩ := hx2.act; have zx := hx2.lt; clear ho2)
                    | (go_at_call 10; (with_reducible refine (HNx.out _ HW2.out).mono ?_); rintro e w3 ⟨⟨v3, rfl, hQ3, hO3, hG3⟩, hP3⟩; have hSx3 := HSx2.out _ _ HW2.out hO3; obtain ⟨p0, p1, p2, p3, p4, p5, p6, p7, p8, p9, p10, p11, pz⟩ := hSx3.elAll (j := 0) rfl; have HSX3 := Lib.hid hSx3; have HQ3 := Lib.hid hQ3; have HO3 := Lib.hid hO3; have HG3 := Lib.hid hG3; have HP3 := Lib.hid (pm_of hP3); clear hSx3 hQ3 hO3 hG3 hP3)
                    )
                  simp only [Nat.zero_mul, Nat.add_zero] at p0 p1 p2 p3 p4 p5 p6 p7 p8 p9 p10 p11
                  go_region_law (first
                    | (go_simp; go_at_call 11; (with_reducible refine (RSame_any y.f y'.f (p := y.p) (q := y'.p) (HP3.out.go (((Only.refl Nil _).alloc _).drew)) (HPB.out _ (((((HB.out.trans (HW2.out.below HB.out.size (fun _ _ hh => hh))).trans ((HQ.out _ HW2.out).below HO3.out)).trans (((Only.refl Nil _).alloc _).drew.below (Nat.le_trans (Nat.le_trans HB.out.size HW2.out.size) HO3.out.size) (fun _ _ hh => hh)))))) true (by simp [HYF.out])).mono ?_); rintro e w5 ⟨rfl, ho5⟩; have HW5 := Lib.hid ((((Only.refl Nil w3).alloc _).drew).trans ho5); clear ho5)
                    )
                  all_goals
                    have hQ5 := HQ3.out.kept HW5.out
                    have hTy := Types_any w5 hQ5 (by have := HLM.out.2; omega)
                    have hLn := fun W (ho : Only Nil w5 W) => Len_any W (hQ5.kept ho)
                    have hRm := fun W (ho : Only Nil w5 W) => Room_any W (hQ5.kept ho) (by have := HLM.out.2; omega)
                    simp only [HLM.out.2] at hTy hLn hRm
                    have HTy := Lib.hid hTy
                    have HLn := Lib.hid hLn
                    have HRm := Lib.hid hRm
                    have HQ5 := Lib.hid hQ5
                    have hB5 := (HB.out.trans (HW2.out.below HB.out.size (fun _ _ hh => hh))).trans ((HQ.out _ HW2.out).below HO3.out)
                    have HB5 := Lib.hid (hB5.trans (HW5.out.below hB5.size (fun _ _ hh => hh)))
                    have hm64 : ((m : Nat) : Int) ≤ 63 := by have := HLM.out.2; omega
                    clear hz hTy hLn hRm hQ5 hB5 p0 p1 p2 p3 p4 p5 p6 p7 p8 p9 p10 p11
                    go_upto_region 29 with fail
                    try simp only [Nat.add_sub_cancel]
                    go_wp2_with (first
                      | (go_at_call 14; (with_reducible refine (HTy.out).mono ?_); rintro e w7 ⟨tA, tc, rfl, hTO, ho7⟩; have HTO := Lib.hid hTO; have HO7 := Lib.hid ho7; clear hTO ho7)
                      | (go_at_call 15; (with_reducible refine (HLn.out _ HO7.out).mono ?_); rintro e w8 ⟨rfl, rfl⟩)
                      | (go_at_call 16; (with_reducible refine (HRm.out _ HO7.out).mono ?_); rintro e w8 ⟨rfl, rfl⟩)
                      )
                    have HSX := Lib.hid ((HSX3.out.go (HW5.out.trans HO7.out)).dropped 1 (A' := some ⟨gx, ox + 12, none⟩) (fun hh => rfl))
                    have HLT := Lib.hid HLM.out.2
                    have FIN : Hid (∀ W, Only Nil w7 W → St3 w b (some ⟨gx, ox + 12, none⟩) m (cx - 1) W) := Lib.hid (fun W ho => ⟨v3, L, Lx', HQ5.out.kept (HO7.out.trans ho), by have := HLM.out.2; omega, HLM.out.1, by have := HCX.out.1; omega, by have := HCX.out.2; omega, HSX.out.go ho, HMAP.out, HPS.out, fun g o e _ hh => by
                      injection e with e
                      injection e with e1 e2
                      subst e1
                      rcases hh with hh | hh
                      · exact HXF.out (.inl hh)
                      · rcases HG3.out _ hh with h1 | h1
                        · exact HXF.out (.inr h1)
                        · have := HW2.out.size
                          omega, HB5.out.trans ((HO7.out.trans ho).below HB5.out.size (fun _ _ hh => hh))⟩)
                    go_loopw [12] (fun kk wq => ∃ j : Nat, j ≤ m ∧ kk = .int .i64 j ∧ Only Nil w7 wq) (fun kk _ => m - (intOf kk).toNat)
                    case atStart => exact ⟨0, Nat.zero_le _, rfl, Only.refl _ _⟩
                    case round =>
                      obtain ⟨j, hj, rfl, hoq⟩ := hrel
                      by_cases hlt : j < m
                      · have hlt' : (j : Int) < m := by omega
                        obtain ⟨zt, hzt⟩ : ∃ zt, L[j]? = some zt := ⟨_, List.getElem?_eq_getElem (by have := HLT.out; omega)⟩
                        obtain ⟨zx, hzx, hzf⟩ : ∃ zx, Lx'[j]? = some zx ∧ zx.f = zt.f := by
                          have := congrArg (fun l => l[j]?) HMAP.out
                          simp only [List.getElem?_map, hzt] at this
                          cases hq : Lx'[j]? with
                          | none => rw [hq] at this; cases this
                          | some q => rw [hq] at this; injection this with this; exact ⟨q, rfl, this⟩
                        obtain ⟨bt, ot, yt, rfl, hbt, hyt, _, hct⟩ := ((HTO.out.sqn (fun _ _ => rfl)).go hoq).at_ (k := j) (by rw [List.length_map]; have := HLT.out; omega)
                        have hyt' : yt = zt.f.t := by
                          rw [List.getElem?_map, hzt] at hyt
                          injection hyt with hyt
                          exact hyt.symm
                        subst hyt'
                        have p0 := hct 0 (by decide)
                        simp [encZ] at p0
                        obtain ⟨q0, q1, q2, q3, q4, q5, q6, q7, q8, q9, q10, q11, qz⟩ := (HSX.out.go hoq).elAll hzx
                        rw [hzf] at q0
                        clear hct hyt hzt hzx hzf q1 q2 q3 q4 q5 q6 q7 q8 q9 q10 q11
                        go_wp2
                        go_quiet (fail)
                        go_wp2
                        go_roundw
                        case rel => exact ⟨j + 1, by omega, by go_num, hoq.drewN _⟩
                        case measure => simp [intOf]; omega
                      · obtain rfl : m = j := by omega
                        go_wp2
                        go_roundw
                        case rel => exact ⟨k + 1, some ⟨gx, ox + 12, none⟩, m, (cx - 1), by omega, by omega, rfl, by go_num, FIN.out _ hoq⟩
                        case measure => simp [intOf]; omega
        · have HCl := Lib.hid (fun W (ho : Only Nil wr W) => Clear_any W (hQ.kept ho))
          rw [HLN.out] at HCl
          have HX : Hid (¬ Fp b v wr.heap.size) := Lib.hid (fun hh => by
            rcases hh with hh | hh
            · have := hQ.blk.lt
              omega
            · have := (hQ.own.lt hh).2
              omega)
          clear hQ hnx hSx hmap hps hap hokx hx hB hncx hcx
          as_aux_lemma =>
            go_wp2_with (first
              | (go_at_call 8; (with_reducible refine (hLt.out _).mono ?_); rintro e w2 ⟨rfl, ho2⟩; have HW2 := Lib.hid (((Only.refl Nil wr).alloc _).trans ho2); have hx2 := (Blk.new wr 33 (acC ⟨⟨f, xA, xcap⟩, many, nxt, true⟩)).kept ho2 (fun hh => hh); obtain ⟨g0, g1, g2, g3, g4, g5, g6, g7, g8, g9, g10, g11, g12, g13, g14⟩ := hx2.act; have zx := hx2.lt; clear ho2)
              | (go_at_call 9; (with_reducible refine (HCl.out _ HW2.out).mono ?_); rintro e w3 ⟨v3, rfl, hQ3, hO3, hG3⟩; have hT3 := Lib.hid (Types_any _ hQ3 (by simp)); have HQ3 := Lib.hid hQ3)
              | (go_at_call 14; (with_reducible refine (hT3.out).mono ?_); rintro e w4 ⟨tA, tc, rfl, hTO, ho4⟩; have hQ4 := HQ3.out.kept ho4)
              | (go_at_call 15; (with_reducible refine (Len_any _ hQ4).mono ?_); rintro e w5 ⟨rfl, rfl⟩)
              | (go_at_call 16; (with_reducible refine (Room_any _ hQ4 (by simp)).mono ?_); rintro e w5 ⟨rfl, rfl⟩)
              )
            go_loopw [12] (fun kk wq => kk = .int .i64 0 ∧ wq = w4) (fun _ _ => 0)
            case atStart => exact ⟨rfl, rfl⟩
            case round =>
              obtain ⟨rfl, rfl⟩ := hrel
              go_wp2
              go_roundw
              case rel => exact ⟨k + 1, none, 0, 0, by omega, by omega, rfl, by go_num, v3, [], [], hQ4, by simp, rfl, Nat.le_refl _, by simp [maxLen], Sq.nil, rfl, (fun y hy => by cases hy), (fun g o e => by cases e), HB.out.trans ((HW2.out.below HB.out.size (fun _ _ hh => hh)).trans (((HQ.out _ HW2.out).below hO3).trans (ho4.below (Nat.le_trans (Nat.le_trans HB.out.size HW2.out.size) hO3.size) (fun _ _ hh => hh))))⟩
              case measure => simp [intOf]; omega
    · clear hQ hnx hSx hmap hps hap hB hncx hcx
      by_cases hk1 : k < n
      · have hk1' : (k : Int) < n := by omega
        obtain rfl : k = 60 := by omega
        go_wp2
        go_ret
        exact ⟨rfl, HB.out⟩
      · have hk1' : ¬ (k : Int) < n := by omega
        go_wp2
        go_ret
        exact ⟨rfl, HB.out⟩
/-! The step from the walk to the statement of OutqDoes. -/
namespace frOutqDoes
open Go.ChangeShapes Go.WideShapes Go.ChangeAt Go.RowKit
set_option linter.unusedVariables false
theorem own : ownKnob Tryd.prog.godebug = none := by kernel_rfl
theorem laidOut : laidOutB Tryd.prog = true := by kernel_rfl
theorem shape0 : Kd.ok Tryd.prog (.slc (.agg [.agg [.int .i64, .int .i64, .bool, .str, .int .i64, .agg [.int .i64, .int .i64, .bool], .int .i64, .int .i64, .int .i64, .slc (.agg [.int .i64, .int .i64])], .int .u8, .bool, .bool])) 22 = true := by kernel_rfl
theorem tabs {W : World} (h : laidMetH Tryd.prog Rows.outqDoesRow.laid W) : Tab W 0 tab_header_needs := by
  have h0 : laidMet Tryd.prog [("paternoster/header.needs", Rows.laid_paternoster_header_needs)] W := h
  obtain ⟨t0, h1⟩ := Tab.of_var tab_header_needs_g tab_header_needs_ty tab_header_needs_ok tab_header_needs_vals (by decide) h0
  exact t0
set_option maxRecDepth 100000 in
theorem contract (H : Type) (enc : TypeId × Value → H) (W : World) (base : Nat) (args : Array Value) (ds gs : List (DataW H)) (before : List MemPlace)
    (hval : ∀ (j : Nat) t v, Tryd.f3.params[j]? = some t → args[j]? = some v → Value.okWide Tryd.prog W .any base t v)
    (hW : DataW.Whole enc Tryd.prog Tryd.f3.params.toList Rows.outqDoesSpec.vars false W args.toList ds gs before) (hL : laidMetH Tryd.prog Rows.outqDoesRow.laid W) :
    Calls Tryd.prog 3 args W fun e W' => ∃ v, e = .returned v ∧ Rows.outqDoesSpec.post enc Tryd.prog Tryd.f3 false true false false W args v W' := by
  have hT := tabs hL
  have hW' := hW
  obtain ⟨p, q, hA0, hV, rfl, hfz, hnd⟩ := hW
  have hA : DataW.TrodAll enc Tryd.prog W 0 (fun _ => true) true Tryd.f3.params.toList args.toList ds p := hA0
  rw [Tryd.params3] at hA hval
  obtain ⟨v0, vs0, d0, ds0, p0, q0, hargs, rfl, rfl, h0, r0⟩ := trodAll_cons hA
  obtain ⟨rfl, rfl, rfl⟩ := trodAll_nil r0
  obtain rfl : args = #[v0] := by cases args; simp_all
  obtain ⟨rfl, rfl⟩ := trodVars_none hV
  have k0 := Kd.fit _ shape0 (hval 0 22 v0 rfl rfl) h0
  have lt0 : ∀ x ∈ p0, x.block < W.heap.size := by obtain ⟨m, hm⟩ := h0; exact DataW.trod_lt m _ _ _ hm
  refine (outqDoes_walk v0 W k0 hT).mono fun e W' ⟨he, bel⟩ => ?_
  subst he
  exact ⟨_, rfl, _, _, _, [], _, [], hW', trodAll_mk1 (shut_bool Tryd.underlying4 _), (trodAll_cons_mk (Below.trod laidOut (by kernel_rfl) (of_decide_eq_true (by kernel_rfl)) h0 bel lt0) trodAll_mk0), rfl, bel.frame _, fun h => by cases h⟩
noncomputable def laidWorld (os : Os) : World := { World.holding Tryd.prog os ⟨#[], #[], []⟩ with heap := ((World.holding Tryd.prog os ⟨#[], #[], []⟩).heap.modify 0 fun | .cells _ t frozen => .cells tab_header_needs t frozen | o => o) }
theorem laid_met (os : Os) : laidMet Tryd.prog Rows.outqDoesRow.laid ((laidWorld os).forCall (fun _ _ => 0) ⟨#[], #[.slice none 0 0], []⟩).memory :=
  laidMet_of_run' 8 (by kernel_rfl) (by kernel_rfl)
theorem reads (os : Os) {H : Type} (enc : TypeId × Value → H) : ∃ places, DataW.whole enc Tryd.prog ((laidWorld os).forCall (fun _ _ => 0) ⟨#[], #[.slice none 0 0], []⟩).memory Tryd.f3.params.toList Rows.outqDoesSpec.vars false (#[.slice none 0 0] : Array Value).toList 8 = some ([.nil], [], places) :=
  ⟨[], by kernel_rfl⟩
set_option maxRecDepth 100000 in
theorem lifted (os : Os) (started : os.Started) (H : Type) (enc : TypeId × Value → H) (F : Stop.Interp) :
    ReturnsInHanded {} Tryd.checked os 3 .any ((OpenSpec.ofChange Rows.outqDoesSpec).preRow enc Tryd.prog Tryd.f3 Rows.outqDoesRow.domain false Rows.outqDoesRow.laid) (((OpenSpec.ofChange Rows.outqDoesSpec).at F).post enc Tryd.prog Tryd.f3 false true false false) := by
  obtain ⟨places, hx⟩ := reads os enc
  refine returnsInHanded_of_row (C := Tryd.checked) (s := (OpenSpec.ofChange Rows.outqDoesSpec)) own started (by kernel_rfl) Tryd.func3
    (witness_row_at (enc := enc) (C := Tryd.checked) false (laidWorld os) #[.slice none 0 0] rfl (by kernel_rfl) (by kernel_rfl) (by kernel_rfl)
      (OpenSpec.preRow_of_cond 8 hx (by kernel_rfl) (fun k hk => by cases hk) (by kernel_rfl) (laid_met os))) ?_
  intro W base args ds gs before hval hW _ _ _ hL _ _
  exact contract H enc W base args ds gs before hval hW hL
theorem said : Rows.OutqDoesSaid :=
  OpenClaim.holds_of_cond 3 Tryd.f3 rfl rfl rfl rfl rfl rfl rfl ⟨rfl, rfl, rfl, rfl, rfl⟩ rfl rfl rfl rfl rfl (by kernel_rfl) Tryd.func3 (by kernel_rfl)
    (of_decide_eq_true (by kernel_rfl)) (by unfold Func.isWrapper; first | (rw [if_pos (by decide +kernel)]; kernel_rfl) | (rw [if_neg (by decide +kernel)]; exact ⟨rfl, rfl⟩))
    (fun os started H enc _ F => by rw [OpenClaim.pre_eq_preRow]; exact lifted os started H enc F)
theorem plain (f : FuncId) (fn : Func) (hf : Tryd.pinned.checked.prog.funcNamed "paternoster/paternosterlaw25.OutqDoes" = some f) (hfn : Tryd.pinned.checked.prog.funcs[f]? = some fn) :
    false = Tryd.pinned.checked.prog.looks [] ∧ ∀ (j : Nat) t, fn.params[j]? = some t → Tryd.pinned.checked.prog.wantsStandIn t = false := by
  obtain rfl : f = 3 := Option.some.inj ((show Tryd.prog.funcNamed "paternoster/paternosterlaw25.OutqDoes" = some 3 by kernel_rfl).symm.trans hf) |>.symm
  obtain rfl : fn = Tryd.f3 := (Option.some.inj (Tryd.func3.symm.trans hfn)).symm
  refine ⟨by kernel_rfl, fun j t ht => ?_⟩
  rw [Tryd.params3] at ht
  have hm : t ∈ [22] := by simpa using Array.mem_of_getElem? ht
  simp only [List.mem_cons, List.not_mem_nil, or_false] at hm
  subst hm
  exact (show Tryd.prog.wantsStandIn 22 = false by kernel_rfl)
theorem proved : Rows.OutqDoesCardSaid :=
  Claim7.holds_tied_plain_at .later [] _ _ _ _ said (fun _ h => by cases h) (by kernel_rfl) (fun _ h => by cases h) outqDoes_row_tie rfl ⟨rfl, rfl⟩ (by kernel_rfl) rfl plain (by kernel_rfl)
end frOutqDoes
end Go.Proofs.YtgiplefnggnpcaaDoor
