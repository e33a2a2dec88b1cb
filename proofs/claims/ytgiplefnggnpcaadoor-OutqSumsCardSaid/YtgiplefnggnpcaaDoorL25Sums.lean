/- Of windows and demands nothing is lost, whatever is put together; never more wait than may (the statement OutqSums, as its card is given). No condition. -/
import Derived.Test.YtgiplefnggnpcaaDoorCards
import Derived.Test.YtgiplefnggnpcaaDoorTie
import Derived.Test.YtgiplefnggnpcaaDoorPush25
import Derived.Deep.DeepHandedRow
namespace Go.Proofs.YtgiplefnggnpcaaDoor
open Go.RowKit Nd

/-- the queue, and what went in and out of it -/
def St1 (w : World) (b : Nat) (k : Nat) (a o : Int) (wr : World) : Prop := ∃ (v : Value) (L : List El), Oq wr b w.heap.size v L ∧ L.length ≤ 64 ∧ sumN L = a - o ∧ 0 ≤ o ∧ a ≤ k * 2147483647 ∧ Below w.heap.size w wr
theorem St1.succ {w wr : World} {b k : Nat} {a o : Int} (h : St1 w b k a o wr) : St1 w b (k + 1) a o wr := by
  obtain ⟨v, L, h1, h2, h3, h4, h5, h6⟩ := h
  exact ⟨v, L, h1, h2, h3, h4, by push_cast; omega, h6⟩
def St2 (w : World) (b : Nat) (k : Nat) (a o : Int) (wr : World) : Prop := ∃ (v : Value) (L : List El), Oq wr b w.heap.size v L ∧ L.length + k ≤ 64 ∧ sumN L = a - o ∧ 0 ≤ o ∧ a ≤ 60 * 2147483647 ∧ Below w.heap.size w wr
set_option maxRecDepth 100000 in
set_option maxHeartbeats 8000000 in
theorem outqSums_walk (v0 : Value) (w : World) (h0 : Kd.Fit w (.slc (.agg [.agg [.int .i64, .int .i64, .bool, .str, .int .i64, .agg [.int .i64, .int .i64, .bool], .int .i64, .int .i64, .int .i64, .slc (.agg [.int .i64, .int .i64])], .int .u8, .bool, .bool])) v0) (hT : Nds w) : Calls Tryd.prog 4 #[v0] w fun e w' => e = .returned (.bool true) ∧ Below w.heap.size w w' := by
  obtain ⟨acts, A, cap, rfl, hc, hm, hok, hS⟩ := Kd.acts h0
  unfold maxLen at hm
  have HT := Lib.hid hT
  have hlt0 := hT.lt
  have HOK := Lib.hid hok
  have HSQ := Lib.hid hS
  clear h0 hT hok hS
  obtain ⟨n, hn⟩ : ∃ n, n = acts.length := ⟨_, rfl⟩
  have HN := Lib.hid hn
  rw [← hn] at hc ⊢
  clear hn
  go_enter Tryd.func4, Tryd.ntmps4
  go_wp2_with (first
    | (go_at_call 6; (with_reducible refine (New_any _).mono ?_); rintro e w1 ⟨b, rfl, ho1, hzb, hQ1⟩)
    | (go_at_call 7; (with_reducible refine (awake_any _ (Tab.kept HT.out ho1 (fun hh => hh))).mono ?_); rintro e w2 ⟨rfl, ho2⟩)
    )
  have H1 := Lib.hid (show St1 w b 0 0 0 w2 from ⟨_, [], hQ1.kept ho2, by simp, rfl, Int.le_refl _, Int.le_refl _, (ho1.trans ho2).below (Nat.le_refl _) (fun _ _ hh => hh)⟩)
  clear hQ1 ho1 ho2
  go_loopw [4, 5, 6] (fun ii oo kk wr => ∃ (k : Nat) (a o : Int), k ≤ n ∧ k ≤ 60 ∧ ii = .int .i64 a ∧ oo = .int .i64 o ∧ kk = .int .i64 k ∧ St1 w b k a o wr) (fun _ _ kk _ => 60 - (intOf kk).toNat)
  case atStart => exact ⟨0, 0, 0, Nat.zero_le _, Nat.zero_le _, rfl, rfl, rfl, H1.out⟩
  case round =>
    obtain ⟨k, a, o, hkn, hk60, rfl, rfl, rfl, hS1⟩ := hrel
    have HS := Lib.hid hS1
    obtain ⟨v, L, hQ, hl, hsum, ho0, hak, hB⟩ := hS1
    have hpos := sumN_pos L hQ.rt
    have hao : o ≤ a := by omega
    have hak' : a ≤ 60 * 2147483647 := by omega
    have HQ := Lib.hid (fun W (ho : Only Nil wr W) => hQ.kept ho)
    have HB := Lib.hid hB
    have HSUM := Lib.hid hsum
    have HAK := Lib.hid hak
    have HX : Hid (¬ Fp b v wr.heap.size) := Lib.hid (fun hh => by
      rcases hh with hh | hh
      · have := hQ.blk.lt
        omega
      · have := (hQ.own.lt hh).2
        omega)
    clear hsum hpos hak
    by_cases hlt : k < n ∧ k < 60
    · obtain ⟨hk1, hk2⟩ := hlt
      have hk1' : (k : Int) < n := by omega
      have hk2' : (k : Int) < 60 := by omega
      obtain ⟨bA, oA, x, rfl, hbA, hx, f0, f1, f2, f3, f4, f5, f6, f7, f8, f9, f10, f11, f12, f13, f14⟩ := acts_at HSQ.out HB.out (k := k) (by have := HN.out; omega)
      have hokx := HOK.out x (List.mem_of_getElem? hx)
      have HT1 : Hid (Nds wr) := Lib.hid (HT.out.below HB.out hlt0)
      obtain ⟨⟨f, xA, xcap⟩, many, nx, cl⟩ := x
      simp only [El.p] at f0 f1 f2 f3 f4 f5 f6 f7 f8 f9 f10 f11 f12 f13 f14
      obtain ⟨r, hPu⟩ := Push_all f xA xcap wr (hokx.1.below HB.out) HT1.out hQ hl
      have HPu := Lib.hid hPu
      clear hokx hx hB hPu
      cases hlb : lightB ⟨f, xA, xcap⟩
      · have hLt := Lib.hid (fun W => Light_any f xA xcap W _ hlb)
        clear hlb hQ
        go_wp2_with (first
          | (go_at_call 8; (with_reducible refine (hLt.out _).mono ?_); rintro e w2 ⟨rfl, ho2⟩; have HW2 := Lib.hid (((Only.refl Nil wr).alloc _).trans ho2); have hx2 := (Blk.new wr 33 (acC ⟨⟨f, xA, xcap⟩, many, _, cl⟩)).kept ho2 (fun hh => hh); obtain ⟨g0, g1, g2, g3, g4, g5, g6, g7, g8, g9, g10, g11, g12, g13, g14⟩ := hx2.act; have zx := hx2.lt; clear ho2)
  
  
          )
        go_roundw
        case rel => exact ⟨k + 1, a, o, by omega, by omega, rfl, rfl, by go_num, v, L, HQ.out _ HW2.out, hl, HSUM.out, ho0, by have := HAK.out; omega, HB.out.trans (HW2.out.below HB.out.size (fun _ _ hh => hh))⟩
        case measure => simp [intOf]; omega
      · have hLt := Lib.hid (fun W => Light_any f xA xcap W _ hlb)
        clear hlb
        cases nx
        · have HLL := Lib.hid hl
          clear hQ
          by_cases hr : r = 0
          · subst hr
            go_wp2_with (first
              | (go_at_call 8; (with_reducible refine (hLt.out _).mono ?_); rintro e w2 ⟨rfl, ho2⟩; have HW2 := Lib.hid (((Only.refl Nil wr).alloc _).trans ho2); have hx2 := (Blk.new wr 33 (acC ⟨⟨f, xA, xcap⟩, many, _, cl⟩)).kept ho2 (fun hh => hh); obtain ⟨g0, g1, g2, g3, g4, g5, g6, g7, g8, g9, g10, g11, g12, g13, g14⟩ := hx2.act; have zx := hx2.lt; clear ho2)
              | (go_at_call 13; (with_reducible refine (HPu.out _ HW2.out).mono ?_); rintro e w3 ⟨v3, L3, rfl, hQ3, hl3, hB3, hO3, h03, h13⟩; have hx3 := hx2.kept hO3 HX.out; obtain ⟨m0, m1, m2, m3, m4, m5, m6, m7, m8, m9, m10, m11, m12, m13, m14⟩ := hx3.act; have zx3 := hx3.lt; obtain ⟨n0, n1, ns⟩ := h03 rfl; have NS := Lib.hid ns; have hl3' : ¬ (64 : Int) < L3.length := (by omega); have H13 := Lib.hid h13; clear h03 h13 ns)
              | (go_at_call 15; (with_reducible refine (Len_any _ hQ3).mono ?_); rintro e w4 ⟨rfl, rfl⟩)
              )
            go_roundw
            case rel => exact ⟨k + 1, a + f.n, o, by omega, by omega, rfl, rfl, by go_num, v3, L3, hQ3, hl3, by have := NS.out; have := HSUM.out; omega, ho0, by have := HAK.out; omega, HB.out.trans ((HW2.out.below HB.out.size (fun _ _ hh => hh)).trans hB3)⟩
            case measure => simp [intOf]; omega
          ·
            go_wp2_with (first
              | (go_at_call 8; (with_reducible refine (hLt.out _).mono ?_); rintro e w2 ⟨rfl, ho2⟩; have HW2 := Lib.hid (((Only.refl Nil wr).alloc _).trans ho2); have hx2 := (Blk.new wr 33 (acC ⟨⟨f, xA, xcap⟩, many, _, cl⟩)).kept ho2 (fun hh => hh); obtain ⟨g0, g1, g2, g3, g4, g5, g6, g7, g8, g9, g10, g11, g12, g13, g14⟩ := hx2.act; have zx := hx2.lt; clear ho2)
              | (go_at_call 13; (with_reducible refine (HPu.out _ HW2.out).mono ?_); rintro e w3 ⟨v3, L3, rfl, hQ3, hl3, hB3, hO3, h03, h13⟩; have NS := Lib.hid (h13 hr); have hl3' : ¬ (64 : Int) < L3.length := (by omega); have H03 := Lib.hid h03; clear h03 h13)
              | (go_at_call 15; (with_reducible refine (Len_any _ hQ3).mono ?_); rintro e w4 ⟨rfl, rfl⟩)
              )
            go_roundw
            case rel => exact ⟨k + 1, a, o, by omega, by omega, rfl, rfl, by go_num, v3, L3, hQ3, hl3, by have := NS.out; have := HSUM.out; omega, ho0, by have := HAK.out; omega, HB.out.trans ((HW2.out.below HB.out.size (fun _ _ hh => hh)).trans hB3)⟩
            case measure => simp [intOf]; omega
        · cases L with
          | nil =>
            have hN := Lib.hid (fun W (ho : Only Nil wr W) => Next_none W (hQ.kept ho))
            clear hQ
            go_wp2_with (first
              | (go_at_call 8; (with_reducible refine (hLt.out _).mono ?_); rintro e w2 ⟨rfl, ho2⟩; have HW2 := Lib.hid (((Only.refl Nil wr).alloc _).trans ho2); have hx2 := (Blk.new wr 33 (acC ⟨⟨f, xA, xcap⟩, many, _, cl⟩)).kept ho2 (fun hh => hh); obtain ⟨g0, g1, g2, g3, g4, g5, g6, g7, g8, g9, g10, g11, g12, g13, g14⟩ := hx2.act; have zx := hx2.lt; clear ho2)
              | (go_at_call 10; (with_reducible refine (hN.out _ HW2.out).mono ?_); rintro e w3 ⟨rfl, ho3⟩)
  
              )
            go_roundw
            case rel => exact ⟨k + 1, a, o, by omega, by omega, rfl, rfl, by go_num, v, [], ((HQ.out _ HW2.out).kept ho3).kept ((Only.refl _ _).alloc _), hl, HSUM.out, ho0, by have := HAK.out; omega, HB.out.trans (((HW2.out.trans ho3).alloc _).below HB.out.size (fun _ _ hh => hh))⟩
            case measure => simp [intOf]; omega
          | cons y L =>
            have hN := Lib.hid (fun W (ho : Only Nil wr W) => Next_any y W (hQ.kept ho) (by simp at hl; omega))
            have hyn := (hQ.rt y (List.mem_cons_self ..)).n4
            have hp2 := sumN_pos L (fun x hx => hQ.rt x (List.mem_cons_of_mem _ hx))
            simp only [fourB, Bool.and_eq_true, decide_eq_true_eq] at hyn
            obtain ⟨y0, y1⟩ := hyn
            have H3 : Hid (sumN L = a - (o + y.f.n)) := Lib.hid (by have h3 := HSUM.out; simp only [sumN] at h3; omega)
            have hob : o + y.f.n ≤ 60 * 2147483647 := by have := H3.out; omega
            simp only [List.length_cons] at hl
            clear hQ hp2
            go_wp2_with (first
              | (go_at_call 8; (with_reducible refine (hLt.out _).mono ?_); rintro e w2 ⟨rfl, ho2⟩; have HW2 := Lib.hid (((Only.refl Nil wr).alloc _).trans ho2); have hx2 := (Blk.new wr 33 (acC ⟨⟨f, xA, xcap⟩, many, _, cl⟩)).kept ho2 (fun hh => hh); obtain ⟨g0, g1, g2, g3, g4, g5, g6, g7, g8, g9, g10, g11, g12, g13, g14⟩ := hx2.act; have zx := hx2.lt; clear ho2)
              | (go_at_call 10; (with_reducible refine (hN.out _ HW2.out).mono ?_); rintro e w3 ⟨⟨v3, rfl, hQ3, hO3, hG3⟩, hP3⟩)
  
              )
            go_roundw
            case rel => exact ⟨k + 1, a, o + y.f.n, by omega, by omega, rfl, rfl, by go_num, v3, L, hQ3.kept ((Only.refl _ _).alloc _), by omega, H3.out, by omega, by have := HAK.out; omega, HB.out.trans ((HW2.out.below HB.out.size (fun _ _ hh => hh)).trans (((HQ.out _ HW2.out).below hO3).trans (((Only.refl Nil _).alloc _).below (Nat.le_trans (Nat.le_trans HB.out.size HW2.out.size) hO3.size) (fun _ _ hh => hh))))⟩
            case measure => simp [intOf]; omega
    · clear hQ hB
      by_cases hk1 : k < n
      · have hk1' : (k : Int) < n := by omega
        obtain rfl : k = 60 := by omega
        obtain ⟨wo, hwo⟩ : ∃ wo : World, wo = wr := ⟨_, rfl⟩
        go_wp2
        go_loopw [5, 10] (fun oo kk wr => ∃ (k : Nat) (o : Int), k ≤ 64 ∧ oo = .int .i64 o ∧ kk = .int .i64 k ∧ St2 w b k a o wr) (fun _ kk _ => 64 - (intOf kk).toNat)
        case atStart =>
          refine ⟨0, o, Nat.zero_le _, rfl, rfl, ?_⟩
          obtain ⟨v, L, h1, h2, h3, h4, h5, h6⟩ := HS.out
          exact ⟨v, L, h1, h2, h3, h4, by omega, h6⟩
        case round =>
          obtain ⟨k2, o2, hk2, rfl, rfl, hS2⟩ := hrel
          obtain ⟨v, L, h1, h2, h3, h4, h5, h6⟩ := hS2
          have hpos := sumN_pos L h1.rt
          by_cases hlt : k2 < 64
          · have hlt' : (k2 : Int) < 64 := by omega
            cases L with
            | nil =>
              have hN := Lib.hid (Next_none wr h1)
              have H1 := Lib.hid h1
              have H6 := Lib.hid h6
              have e0 : sumN ([] : List El) = 0 := rfl
              have hob : o2 ≤ 60 * 2147483647 := by omega
              have H3 := Lib.hid h3
              clear h1 h3 h6 hpos e0
              go_wp2_with (first
                | (go_at_call 10; (with_reducible refine (hN.out).mono ?_); rintro e w3 ⟨rfl, ho3⟩)
                )
              go_roundw
              case rel => exact ⟨k2 + 1, o2, by omega, by go_num, by go_num, v, [], (H1.out.kept ho3).kept ((Only.refl _ _).alloc _), by simp; omega, H3.out, h4, h5, H6.out.trans ((ho3.alloc _).below H6.out.size (fun _ _ hh => hh))⟩
              case measure => simp [intOf]; omega
            | cons y L =>
              have hN := Lib.hid (Next_any y wr h1 (by simp at h2; omega))
              have H1 := Lib.hid h1
              have H6 := Lib.hid h6
              have hyn := (h1.rt y (List.mem_cons_self ..)).n4
              have hp2 := sumN_pos L (fun x hx => h1.rt x (List.mem_cons_of_mem _ hx))
              simp only [fourB, Bool.and_eq_true, decide_eq_true_eq] at hyn
              obtain ⟨y0, y1⟩ := hyn
              have H3 : Hid (sumN L = a - (o2 + y.f.n)) := Lib.hid (by simp only [sumN] at h3; omega)
              have hob : o2 + y.f.n ≤ 60 * 2147483647 := by have := H3.out; omega
              simp only [List.length_cons] at h2
              clear h1 h3 h6 hpos hp2
              go_wp2_with (first
                | (go_at_call 10; (with_reducible refine (hN.out).mono ?_); rintro e w3 ⟨⟨v3, rfl, hQ3, hO3, hG3⟩, hP3⟩)
                )
              go_roundw
              case rel => exact ⟨k2 + 1, o2 + y.f.n, by omega, rfl, by go_num, v3, L, hQ3.kept ((Only.refl _ _).alloc _), by omega, H3.out, by omega, h5, H6.out.trans ((H1.out.below hO3).trans (((Only.refl Nil _).alloc _).below (Nat.le_trans H6.out.size hO3.size) (fun _ _ hh => hh)))⟩
              case measure => simp [intOf]; omega
          · obtain rfl : k2 = 64 := by omega
            have eL : L = [] := List.eq_nil_of_length_eq_zero (by omega)
            subst eL
            have e0 : sumN ([] : List El) = 0 := rfl
            obtain rfl : a = o2 := by omega
            have hLn := Lib.hid (Len_any wr h1)
            have H6 := Lib.hid h6
            clear h1 h2 h3 h5 h6 hpos e0 hlt hk2
            go_wp2_with (first
              | (go_at_call 15; (with_reducible refine (hLn.out).mono ?_); rintro e w3 ⟨rfl, rfl⟩)
              )
            go_ret
            exact ⟨rfl, H6.out⟩
      · have hk1' : ¬ (k : Int) < n := by omega
        go_wp2
        go_loopw [5, 10] (fun oo kk wr => ∃ (k : Nat) (o : Int), k ≤ 64 ∧ oo = .int .i64 o ∧ kk = .int .i64 k ∧ St2 w b k a o wr) (fun _ kk _ => 64 - (intOf kk).toNat)
        case atStart =>
          refine ⟨0, o, Nat.zero_le _, rfl, rfl, ?_⟩
          obtain ⟨v, L, h1, h2, h3, h4, h5, h6⟩ := HS.out
          exact ⟨v, L, h1, h2, h3, h4, by omega, h6⟩
        case round =>
          obtain ⟨k2, o2, hk2, rfl, rfl, hS2⟩ := hrel
          obtain ⟨v, L, h1, h2, h3, h4, h5, h6⟩ := hS2
          have hpos := sumN_pos L h1.rt
          by_cases hlt : k2 < 64
          · have hlt' : (k2 : Int) < 64 := by omega
            cases L with
            | nil =>
              have hN := Lib.hid (Next_none wr h1)
              have H1 := Lib.hid h1
              have H6 := Lib.hid h6
              have e0 : sumN ([] : List El) = 0 := rfl
              have hob : o2 ≤ 60 * 2147483647 := by omega
              have H3 := Lib.hid h3
              clear h1 h3 h6 hpos e0
              go_wp2_with (first
                | (go_at_call 10; (with_reducible refine (hN.out).mono ?_); rintro e w3 ⟨rfl, ho3⟩)
                )
              go_roundw
              case rel => exact ⟨k2 + 1, o2, by omega, by go_num, by go_num, v, [], (H1.out.kept ho3).kept ((Only.refl _ _).alloc _), by simp; omega, H3.out, h4, h5, H6.out.trans ((ho3.alloc _).below H6.out.size (fun _ _ hh => hh))⟩
              case measure => simp [intOf]; omega
            | cons y L =>
              have hN := Lib.hid (Next_any y wr h1 (by simp at h2; omega))
              have H1 := Lib.hid h1
              have H6 := Lib.hid h6
              have hyn := (h1.rt y (List.mem_cons_self ..)).n4
              have hp2 := sumN_pos L (fun x hx => h1.rt x (List.mem_cons_of_mem _ hx))
              simp only [fourB, Bool.and_eq_true, decide_eq_true_eq] at hyn
              obtain ⟨y0, y1⟩ := hyn
              have H3 : Hid (sumN L = a - (o2 + y.f.n)) := Lib.hid (by simp only [sumN] at h3; omega)
              have hob : o2 + y.f.n ≤ 60 * 2147483647 := by have := H3.out; omega
              simp only [List.length_cons] at h2
              clear h1 h3 h6 hpos hp2
              go_wp2_with (first
                | (go_at_call 10; (with_reducible refine (hN.out).mono ?_); rintro e w3 ⟨⟨v3, rfl, hQ3, hO3, hG3⟩, hP3⟩)
                )
              go_roundw
              case rel => exact ⟨k2 + 1, o2 + y.f.n, by omega, rfl, by go_num, v3, L, hQ3.kept ((Only.refl _ _).alloc _), by omega, H3.out, by omega, h5, H6.out.trans ((H1.out.below hO3).trans (((Only.refl Nil _).alloc _).below (Nat.le_trans H6.out.size hO3.size) (fun _ _ hh => hh)))⟩
              case measure => simp [intOf]; omega
          · obtain rfl : k2 = 64 := by omega
            have eL : L = [] := List.eq_nil_of_length_eq_zero (by omega)
            subst eL
            have e0 : sumN ([] : List El) = 0 := rfl
            obtain rfl : a = o2 := by omega
            have hLn := Lib.hid (Len_any wr h1)
            have H6 := Lib.hid h6
            clear h1 h2 h3 h5 h6 hpos e0 hlt hk2
            go_wp2_with (first
              | (go_at_call 15; (with_reducible refine (hLn.out).mono ?_); rintro e w3 ⟨rfl, rfl⟩)
              )
            go_ret
            exact ⟨rfl, H6.out⟩
/-! The step from the walk to the statement of OutqSums. -/
namespace frOutqSums
open Go.ChangeShapes Go.WideShapes Go.ChangeAt Go.RowKit
set_option linter.unusedVariables false
theorem own : ownKnob Tryd.prog.godebug = none := by kernel_rfl
theorem laidOut : laidOutB Tryd.prog = true := by kernel_rfl
theorem shape0 : Kd.ok Tryd.prog (.slc (.agg [.agg [.int .i64, .int .i64, .bool, .str, .int .i64, .agg [.int .i64, .int .i64, .bool], .int .i64, .int .i64, .int .i64, .slc (.agg [.int .i64, .int .i64])], .int .u8, .bool, .bool])) 22 = true := by kernel_rfl
theorem tabs {W : World} (h : laidMetH Tryd.prog Rows.outqSumsRow.laid W) : Tab W 0 tab_header_needs := by
  have h0 : laidMet Tryd.prog [("paternoster/header.needs", Rows.laid_paternoster_header_needs)] W := h
  obtain ⟨t0, h1⟩ := Tab.of_var tab_header_needs_g tab_header_needs_ty tab_header_needs_ok tab_header_needs_vals (by decide) h0
  exact t0
set_option maxRecDepth 100000 in
theorem contract (H : Type) (enc : TypeId × Value → H) (W : World) (base : Nat) (args : Array Value) (ds gs : List (DataW H)) (before : List MemPlace)
    (hval : ∀ (j : Nat) t v, Tryd.f4.params[j]? = some t → args[j]? = some v → Value.okWide Tryd.prog W .any base t v)
    (hW : DataW.Whole enc Tryd.prog Tryd.f4.params.toList Rows.outqSumsSpec.vars false W args.toList ds gs before) (hL : laidMetH Tryd.prog Rows.outqSumsRow.laid W) :
    Calls Tryd.prog 4 args W fun e W' => ∃ v, e = .returned v ∧ Rows.outqSumsSpec.post enc Tryd.prog Tryd.f4 false true false false W args v W' := by
  have hT := tabs hL
  have hW' := hW
  obtain ⟨p, q, hA0, hV, rfl, hfz, hnd⟩ := hW
  have hA : DataW.TrodAll enc Tryd.prog W 0 (fun _ => true) true Tryd.f4.params.toList args.toList ds p := hA0
  rw [Tryd.params4] at hA hval
  obtain ⟨v0, vs0, d0, ds0, p0, q0, hargs, rfl, rfl, h0, r0⟩ := trodAll_cons hA
  obtain ⟨rfl, rfl, rfl⟩ := trodAll_nil r0
  obtain rfl : args = #[v0] := by cases args; simp_all
  obtain ⟨rfl, rfl⟩ := trodVars_none hV
  have k0 := Kd.fit _ shape0 (hval 0 22 v0 rfl rfl) h0
  have lt0 : ∀ x ∈ p0, x.block < W.heap.size := by obtain ⟨m, hm⟩ := h0; exact DataW.trod_lt m _ _ _ hm
  refine (outqSums_walk v0 W k0 hT).mono fun e W' ⟨he, bel⟩ => ?_
  subst he
  exact ⟨_, rfl, _, _, _, [], _, [], hW', trodAll_mk1 (shut_bool Tryd.underlying4 _), (trodAll_cons_mk (Below.trod laidOut (by kernel_rfl) (of_decide_eq_true (by kernel_rfl)) h0 bel lt0) trodAll_mk0), rfl, bel.frame _, fun h => by cases h⟩
noncomputable def laidWorld (os : Os) : World := { World.holding Tryd.prog os ⟨#[], #[], []⟩ with heap := ((World.holding Tryd.prog os ⟨#[], #[], []⟩).heap.modify 0 fun | .cells _ t frozen => .cells tab_header_needs t frozen | o => o) }
theorem laid_met (os : Os) : laidMet Tryd.prog Rows.outqSumsRow.laid ((laidWorld os).forCall (fun _ _ => 0) ⟨#[], #[.slice none 0 0], []⟩).memory :=
  laidMet_of_run' 8 (by kernel_rfl) (by kernel_rfl)
theorem reads (os : Os) {H : Type} (enc : TypeId × Value → H) : ∃ places, DataW.whole enc Tryd.prog ((laidWorld os).forCall (fun _ _ => 0) ⟨#[], #[.slice none 0 0], []⟩).memory Tryd.f4.params.toList Rows.outqSumsSpec.vars false (#[.slice none 0 0] : Array Value).toList 8 = some ([.nil], [], places) :=
  ⟨[], by kernel_rfl⟩
set_option maxRecDepth 100000 in
theorem lifted (os : Os) (started : os.Started) (H : Type) (enc : TypeId × Value → H) (F : Stop.Interp) :
    ReturnsInHanded {} Tryd.checked os 4 .any ((OpenSpec.ofChange Rows.outqSumsSpec).preRow enc Tryd.prog Tryd.f4 Rows.outqSumsRow.domain false Rows.outqSumsRow.laid) (((OpenSpec.ofChange Rows.outqSumsSpec).at F).post enc Tryd.prog Tryd.f4 false true false false) := by
  obtain ⟨places, hx⟩ := reads os enc
  refine returnsInHanded_of_row (C := Tryd.checked) (s := (OpenSpec.ofChange Rows.outqSumsSpec)) own started (by kernel_rfl) Tryd.func4
    (witness_row_at (enc := enc) (C := Tryd.checked) false (laidWorld os) #[.slice none 0 0] rfl (by kernel_rfl) (by kernel_rfl) (by kernel_rfl)
      (OpenSpec.preRow_of_cond 8 hx (by kernel_rfl) (fun k hk => by cases hk) (by kernel_rfl) (laid_met os))) ?_
  intro W base args ds gs before hval hW _ _ _ hL _ _
  exact contract H enc W base args ds gs before hval hW hL
theorem said : Rows.OutqSumsSaid :=
  OpenClaim.holds_of_cond 4 Tryd.f4 rfl rfl rfl rfl rfl rfl rfl ⟨rfl, rfl, rfl, rfl, rfl⟩ rfl rfl rfl rfl rfl (by kernel_rfl) Tryd.func4 (by kernel_rfl)
    (of_decide_eq_true (by kernel_rfl)) (by unfold Func.isWrapper; first | (rw [if_pos (by decide +kernel)]; kernel_rfl) | (rw [if_neg (by decide +kernel)]; exact ⟨rfl, rfl⟩))
    (fun os started H enc _ F => by rw [OpenClaim.pre_eq_preRow]; exact lifted os started H enc F)
theorem plain (f : FuncId) (fn : Func) (hf : Tryd.pinned.checked.prog.funcNamed "paternoster/paternosterlaw25.OutqSums" = some f) (hfn : Tryd.pinned.checked.prog.funcs[f]? = some fn) :
    false = Tryd.pinned.checked.prog.looks [] ∧ ∀ (j : Nat) t, fn.params[j]? = some t → Tryd.pinned.checked.prog.wantsStandIn t = false := by
  obtain rfl : f = 4 := Option.some.inj ((show Tryd.prog.funcNamed "paternoster/paternosterlaw25.OutqSums" = some 4 by kernel_rfl).symm.trans hf) |>.symm
  obtain rfl : fn = Tryd.f4 := (Option.some.inj (Tryd.func4.symm.trans hfn)).symm
  refine ⟨by kernel_rfl, fun j t ht => ?_⟩
  rw [Tryd.params4] at ht
  have hm : t ∈ [22] := by simpa using Array.mem_of_getElem? ht
  simp only [List.mem_cons, List.not_mem_nil, or_false] at hm
  subst hm
  exact (show Tryd.prog.wantsStandIn 22 = false by kernel_rfl)
theorem proved : Rows.OutqSumsCardSaid :=
  Claim7.holds_tied_plain_at .later [] _ _ _ _ said (fun _ h => by cases h) (by kernel_rfl) (fun _ h => by cases h) outqSums_row_tie rfl ⟨rfl, rfl⟩ (by kernel_rfl) rfl plain (by kernel_rfl)
end frOutqSums
end Go.Proofs.YtgiplefnggnpcaaDoor
