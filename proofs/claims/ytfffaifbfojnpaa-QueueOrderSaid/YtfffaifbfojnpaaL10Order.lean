/- For every capacity, every strategy and every list of calls: what is taken comes in the order of what came in (the statement QueueOrder, as it is given). No condition. -/
import Derived.Test.YtfffaifbfojnpaaOrder10
import Derived.Deep.CutBlock
namespace Go.Proofs.Ytfffaifbfojnpaa
open Go.RowKit

theorem ba_inj {a b : ByteArray} (e : a.toList = b.toList) : a = b := by
  rw [ByteArray.toList_eq, ByteArray.toList_eq] at e
  have := Array.toList_inj.1 e
  cases a
  cases b
  congr
theorem OI.le {cp st : Int} {k k' : Nat} {L all took : List ByteArray} {a t d : Int} (h : OI cp st k L all took a t d) (hk : k ≤ k') : OI cp st k' L all took a t d := by
  obtain ⟨i1, i2, i3, i4, i5, i6⟩ := h.i
  exact ⟨⟨i1, i2, i3, i4, i5, by omega⟩, by have := h.na; omega, by have := h.nt; omega, h.s0, h.s2, h.su⟩
set_option maxRecDepth 100000 in
set_option maxHeartbeats 16000000 in
theorem queueOrder_walk (v0 v1 v2 : Value) (w : World) (h0 : Kd.Fit w (.int .u8) v0) (h1 : Kd.Fit w (.int .u8) v1) (h2 : Kd.Fit w (.slc (.agg [.int .i64, .str])) v2) :
    Calls Try.prog 4 #[v0, v1, v2] w fun e w' => e = .returned (.bool true) ∧ Below w.heap.size w w' := by
  obtain ⟨z0, rfl, hz0⟩ := Kd.int_fit h0
  obtain ⟨z1, rfl, hz1⟩ := Kd.int_fit h1
  obtain ⟨A, len, cap, rfl, hl⟩ := Kd.slc_fit h2
  obtain ⟨p0, p1⟩ := u8_of hz0
  obtain ⟨p2, p3⟩ := u8_of hz1
  clear h0 h1 h2 hz0 hz1
  have c0 : 0 ≤ z0 % 65 := by omega
  have c1 : z0 % 65 ≤ 64 := by omega
  have s0 : 0 ≤ z1 % 3 := by omega
  have s1 : z1 % 3 ≤ 2 := by omega
  go_enter Try.func4, Try.ntmps4
  go_upto_block 0 with (first
    | (go_at_call 6; (with_reducible refine (New_any (z0 % 65) (z1 % 3) _ c0 c1 s0 s1).mono ?_); rintro e w1 ⟨b, rfl, ho1, hbb, hq1⟩; have hz1 := hq1.blk.lt)
    | (go_at_call 7; (with_reducible refine (awake_any _).mono ?_); rintro e w2 ⟨rfl, hb2⟩)
    )
  generalize z0 % 65 = cp at *
  generalize z1 % 3 = st at *
  have hOd : Od w2 b w.heap.size cp st (.slice none 0 0) [] 0 0 0 (.slice none 0 0) (.slice none 0 0) [] [] :=
    ⟨hq1.old hb2 hz1 (fun g hg => by simp [Value.ownBlock] at hg), Ow.nil, Ow.nil, fun g hg => by simp [Value.ownBlock] at hg, fun g hg => by simp [Value.ownBlock] at hg, fun g hg => by simp [Value.ownBlock] at hg⟩
  have hBe2 := (ho1.below (Nat.le_refl _) (fun _ _ hh => hh)).trans (hb2.mono ho1.size)
  clear hq1 ho1 hb2 hz1 p0 p1 p2 p3
  go_cut [11, 12, 13] (fun aa tt _ wx => ∃ (v : Value) (Aa : Option Addr) (na ca : Nat) (At : Option Addr) (nt ct : Nat) (L all took : List ByteArray) (a t d : Int), aa = .slice Aa na ca ∧ all.length = na ∧ tt = .slice At nt ct ∧ took.length = nt ∧ Od wx b w.heap.size cp st v L a t d (.slice Aa na ca) (.slice At nt ct) all took ∧ OI cp st 150 L all took a t d ∧ Below w.heap.size w wx)
  case first =>
    go_wp2_with fail
    go_loopw [11, 12, 13] (fun aa tt ii wr => ∃ (k : Nat) (v : Value) (Aa : Option Addr) (na ca : Nat) (vt : Value) (L all took : List ByteArray) (a t d : Int), k ≤ len ∧ ii = .int .i64 k ∧ k ≤ 150 ∧ aa = .slice Aa na ca ∧ all.length = na ∧ tt = vt ∧ Od wr b w.heap.size cp st v L a t d (.slice Aa na ca) vt all took ∧ OI cp st k L all took a t d ∧ Below w.heap.size w wr) (fun _ _ ii _ => len - (intOf ii).toNat)
    case atStart => exact ⟨0, _, _, _, _, _, [], [], [], 0, 0, 0, Nat.zero_le _, rfl, by omega, rfl, rfl, rfl, hOd, ⟨⟨by simp, by simpa using c0, by omega, by omega, by omega, by simp⟩, by simp, by simp, fun _ => rfl, fun _ => List.nil_suffix, List.Sublist.refl _⟩, hBe2⟩
    case round =>
      clear hOd hBe2
      obtain ⟨k, v, Aa, na, ca, vt, L, all, took, a, t, d, hk, rfl, hk1, rfl, hna, rfl, hO, hI, hBe⟩ := hrel
      have hmax : len ≤ 9223372036854775807 := Nat.le_trans hl.1 hl.2.1
      obtain ⟨At, ct, rfl, hnt, hct⟩ := hO.ot.form
      generalize hn : took.length = nt at *
      have HNT := Lib.hid hn
      have HNA := Lib.hid hna
      have HI := Lib.hid hI
      have hnt1 : nt ≤ k := by rw [← hn]; exact hI.nt
      have hna1 : na ≤ k := by rw [← hna]; exact hI.na
      clear hn hna hI
      by_cases hlt : k < len
      · by_cases h80 : k < 150
        · obtain ⟨b', off, rfl, hb', cs, hcl, hcs, his⟩ := hl.at (by decide) hlt
          obtain ⟨u0, e0, rfl, i0, his⟩ := Kd.headL rfl (by unfold Kd.Is at his; exact his)
          obtain ⟨u1, e1, rfl, i1, his⟩ := Kd.headL rfl his
          obtain rfl := Kd.end_ his
          obtain ⟨kd, rfl, -⟩ := Kd.int_is i0
          obtain ⟨S, rfl, -⟩ := Kd.str_is i1
          have q0 := hcs 0 (by decide)
          have q1 := hcs 1 (by decide)
          simp [Kd.cells, Kd.cellsL] at q0 q1
          have f0 := (hBe.cell (p := ⟨b', _, none⟩) hb').trans q0
          have f1 := (hBe.cell (p := ⟨b', _, none⟩) hb').trans q1
          have Q1 := Lib.hid q1
          clear q0 q1 hcs hcl hl i0 i1
          by_cases hS : 300 < S.size
          · have hSi : (300 : Int) < S.size := by omega
            go_wp2
            go_roundw
            case rel => exact ⟨k + 1, v, Aa, na, ca, _, L, all, took, a, t, d, by omega, by go_num, by omega, rfl, HNA.out, rfl, hO, HI.out.skip, hBe⟩
            case measure => simp [intOf]; omega
          · have hSi : ¬ (300 : Int) < S.size := by omega
            go_upto_region 10 with fail
            go_cut [71] (fun zb wx => wr = wx ∧ ∃ zz : Bool, zb = .bool zz)
            case first =>
              by_cases h4 : kd = 4
              · subst h4
                go_wp2_with fail
                go_meet
                exact ⟨rfl, _, rfl⟩
              · have e4 : (kd == 4) = false := by simpa using h4
                by_cases h5 : kd = 5
                · subst h5
                  go_wp2_with fail
                  go_meet
                  exact ⟨rfl, _, rfl⟩
                · have e5 : (kd == 5) = false := by simpa using h5
                  go_wp2_with fail
                  go_meet
                  exact ⟨rfl, _, rfl⟩
            case rest =>
              obtain ⟨rfl, zz, rfl⟩ := hcut
              go_upto_if 71 with fail
              go_cut [11, 12] (fun aa tt wx => ∃ (v : Value) (Aa : Option Addr) (na ca : Nat) (vt : Value) (L all took : List ByteArray) (a t d : Int), aa = .slice Aa na ca ∧ all.length = na ∧ tt = vt ∧ Od wx b w.heap.size cp st v L a t d (.slice Aa na ca) vt all took ∧ OI cp st (k + 1) L all took a t d ∧ Below w.heap.size w wx)
              case first =>
                cases zz with
                | true =>
                  cases L with
                  | nil =>
                    have hT : Hid (Calls Try.prog 14 #[.pointer (some ⟨b, 0, none⟩)] wr fun x w' => x = .returned (.tuple #[.string noS, .bool false]) ∧ Only Nil wr w') := Lib.hid ((Take_out wr hO.q).mono fun x w' hh => ⟨hh.1, hh.2 ▸ Only.refl _ _⟩)
                    go_wp2_with (first
                      | (go_at_call 14; (with_reducible refine (hT.out).mono ?_); rintro e w6 ⟨rfl, ho6⟩)
                      )
                    go_meet
                    exact ⟨v, _, _, _, _, _, all, took, a, t, d, rfl, HNA.out, rfl, hO.kept ho6, HI.out.skip, hBe.trans (ho6.below (Below.size hBe) (fun _ _ hh => hh))⟩
                  | cons x R =>
                    have hT := Lib.hid (Take_in x R wr hO.q (by have := HI.out.i.2.1; simp only [List.length_cons] at this; omega) HI.out.i.2.2.2.1 (by have := HI.out.i; unfold Inv at this; omega))
                    go_wp2_with (first
                      | (go_at_call 14; (with_reducible refine (hT.out).mono ?_); rintro e w5 ⟨v5, rfl, hq5, ho5, hg5⟩; have hO5 := hO.queue hq5 ho5 hg5; have hO5a := hO5.kept ((Only.refl Nil w5).alloc (.cells #[.string x] 9)); have s1 := Src.one (P := Try.prog) (enc := encS) (tx := 29) Try.underlying29 x 1 rfl (Blk.new w5 9 #[.string x]) rfl (encS_one x))
                      | (at_builtin
                         refine wpList_app2 rfl (.tmp 78) (.tmp 80) _ _ rfl w.heap.size 9 Try.underlying29 str_info rfl _ _ rfl hO5a.ot _ [x] rfl s1 (by have := HNT.out; simp; omega) (by decide) hO5a.q.sz (nt + 1) (by have := HNT.out; simp; omega) (took ++ [x]) rfl ?_
                         intro A6 c6 w6 hown6 ho6 hg6
                         have hO6 := hO5a.took_ hown6 ho6 hg6
                         have hBe6 := (hBe.trans (hO.below ho5)).trans (((((Only.refl Nil w5).alloc (.cells #[.string x] 9)).below (Below.size (hBe.trans (hO.below ho5))) (fun _ _ hh => hh))).trans (hO5a.belowT ho6)))
                      )
                    go_meet
                    exact ⟨v5, _, _, _, _, _, all, took ++ [x], a, t + 1, d, rfl, HNA.out, rfl, hO6, HI.out.take, hBe6⟩
                | false =>
                  by_cases hr : cp ≤ (L.length : Int) ∧ st = 0
                  · have hP := Lib.hid (Put_refused S wr hO.q hr.1 hr.2)
                    clear hr
                    go_wp2_with (first
                      | (go_at_call 15; (with_reducible refine (hP.out).mono ?_); rintro e w6 ⟨v6, rfl, hq6, ho6, hg6⟩)
                      )
                    go_meet
                    exact ⟨v6, _, _, _, _, L, all, took, a, t, d, rfl, HNA.out, rfl, hO.queue hq6 ho6 hg6, HI.out.skip, hBe.trans (hO.below ho6)⟩
                  · have hP := Lib.hid (put_in S wr hO.q HI.out (by omega) c1 hr)
                    clear hr
                    go_wp2_with (first
                      | (go_at_call 15; (with_reducible refine (hP.out).mono ?_); rintro e w5 ⟨r, v5, L5, a5, t5, d5, rfl, hr0, hq5, ho5, hg5, hI5⟩; have HI5 := Lib.hid hI5; have hO5 := hO.queue hq5 ho5 hg5; have hBe5 := hBe.trans (hO.below ho5); have f5 := (hBe5.cell (p := ⟨b', _, none⟩) hb').trans Q1.out; have hO5a := hO5.kept ((Only.refl Nil w5).alloc (.cells #[.string S] 9)); have s1 := Src.one (P := Try.prog) (enc := encS) (tx := 29) Try.underlying29 S 1 rfl (Blk.new w5 9 #[.string S]) rfl (encS_one S))
                      | (at_builtin
                         refine wpList_app2 rfl (.tmp 90) (.tmp 96) _ _ rfl w.heap.size 9 Try.underlying29 str_info rfl _ _ rfl hO5a.oa _ [S] rfl s1 (by have := HNA.out; simp; omega) (by decide) hO5a.q.sz (na + 1) (by have := HNA.out; simp; omega) (all ++ [S]) rfl ?_
                         intro A6 c6 w6 hown6 ho6 hg6
                         have hO6 := hO5a.all_ hown6 ho6 hg6
                         have hBe6 := hBe5.trans (((((Only.refl Nil w5).alloc (.cells #[.string S] 9)).below (Below.size hBe5) (fun _ _ hh => hh))).trans (hO5a.belowA ho6)))
                      )
                    go_meet
                    exact ⟨v5, _, _, _, _, L5, all ++ [S], took, a5, t5, d5, rfl, by have := HNA.out; simp; omega, rfl, hO6, HI5.out, hBe6⟩
              case rest =>
                clear hO HI HNT HNA hBe f0 f1 hnt1 hna1 hct hnt
                obtain ⟨v, Aa, na, ca, vt, L, all, took, a, t, d, rfl, hna, rfl, hO, hI, hBe⟩ := hcut
                have HI := Lib.hid hI
                have HNA := Lib.hid hna
                have hna1 : na ≤ k + 1 := by rw [← hna]; exact hI.na
                have hl1 : L.length ≤ 64 := by have := hI.i.2.1; omega
                have hnca : na ≤ ca := hO.oa.len.2.1
                have hjn : L.length ≤ na := by have := hI.su.length_le; rw [List.length_append] at this; omega
                have hL := Lib.hid (Len_any wc hO.q)
                by_cases h2 : st = 2
                · have e2 : (st == 2) = true := by simpa using h2
                  have hsu := List.suffix_iff_eq_drop.1 (hI.s2 h2)
                  obtain ⟨j, hj⟩ : ∃ j, na - L.length = j := ⟨_, rfl⟩
                  have hlj : L.length = na - j := by omega
                  have hjna : j ≤ na := by omega
                  have hdrop : all.drop j = L := by rw [← hj, ← hna]; exact hsu.symm
                  have hsub : IntKind.i64.wrap ((na : Int) - (L.length : Int)) = (j : Int) := by rw [IntWalk.i64_in _ (by omega)]; omega
                  have hAl : Hid (∀ W, Only Nil wc W → ∀ A', (j < na → A' = Aa.map (·.add j)) → Sq encS 1 W W.heap.size A' L) := Lib.hid fun W ho A' hA => by
                    have h := ((hO.kept ho).oa.sqn (fun _ _ => rfl)).dropped j (A' := A') (fun hl => by rw [Nat.mul_one]; exact hA (by rw [hna] at hl; exact hl))
                    rwa [hdrop] at h
                  have hIt := Lib.hid (fun W (ho : Only Nil wc W) => Items_n W (hO.kept ho).q (by omega) (na - j) hlj)
                  have HLJ := Lib.hid hlj
                  have hTx : Hid (∀ n, L.length = n → ∀ W A B ca cb, Sq encS 1 W W.heap.size A L → Sq encS 1 W W.heap.size B L → Calls Try.prog 12 #[.slice A n ca, .slice B n cb] W fun x w' => x = .returned (.bool true) ∧ Only Nil W w') := Lib.hid (by
                    intro n hn W A B ca cb h1 h2
                    have h := Texts_same A B ca cb L W h1 h2 (by omega)
                    rwa [hn] at h)
                  generalize L.length = m at hL hsub
                  clear hI hna hsu hdrop h2 hj hlj hjn hl1
                  have hon := (Only.refl Nil wc).drew
                  go_wp2_with (first
                    | (go_at_call 10; (with_reducible refine (hL.out).mono ?_); rintro e w7 ⟨rfl, rfl⟩)
                    )
                  have hji : (j : Int) ≤ (na : Int) := by omega
                  by_cases hcj : ca = j
                  all_goals try subst hcj
                  all_goals go_region_held3 (fun _ => True) (exact trivial) (first
                    | (go_at_call 12; (with_reducible refine (hTx.out _ (by have := HLJ.out; omega) _ _ _ _ _ r8 (hAl.out _ ho8d _ (by intro hh; first | rfl | (rw [if_neg (by omega)]) | (exfalso; omega)))).mono ?_); rintro e w9 ⟨rfl, ho9⟩; have ho9d := ho8d.trans ho9)
                    | (go_at_call 13; (with_reducible refine (hIt.out _ hon).mono ?_); rintro e w8 ⟨A8, c8, rfl, hO8, ho8⟩; have ho8d := hon.trans ho8; have r8 := hO8.sqn (fun _ _ => rfl))
                    )
                  all_goals
                    go_wp2
                    go_roundw
                    case rel => exact ⟨k + 1, v, Aa, na, ca, _, L, all, took, a, t, d, by omega, by go_num, by omega, rfl, HNA.out, rfl, hO.kept ho9d, HI.out, hBe.trans (ho9d.below (Below.size hBe) (fun _ _ hh => hh))⟩
                    case measure => simp [intOf]; omega
                · have e2 : (st == 2) = false := by simpa using h2
                  clear hI hna h2
                  go_wp2_with (first
                    | (go_at_call 10; (with_reducible refine (hL.out).mono ?_); rintro e w7 ⟨rfl, rfl⟩)
                    )
                  go_quiet (fail)
                  go_wp2
                  go_roundw
                  case rel => exact ⟨k + 1, v, Aa, na, ca, _, L, all, took, a, t, d, by omega, by go_num, by omega, rfl, HNA.out, rfl, hO.kept ((Only.refl Nil wc).drewN nq), HI.out, hBe.trans (((Only.refl Nil wc).drewN nq).below (Below.size hBe) (fun _ _ hh => hh))⟩
                  case measure => simp [intOf]; omega
        · clear hl
          go_wp2_with fail
          go_meet
          exact ⟨v, Aa, na, ca, At, nt, ct, L, all, took, a, t, d, rfl, HNA.out, rfl, HNT.out, hO, HI.out.le hk1, hBe⟩
      · clear hl
        go_wp2_with fail
        go_meet
        exact ⟨v, Aa, na, ca, At, nt, ct, L, all, took, a, t, d, rfl, HNA.out, rfl, HNT.out, hO, HI.out.le hk1, hBe⟩
  case rest =>
    clear hOd hBe2 hl
    obtain ⟨v, Aa, na, ca, At, nt, ct, L, all, took, a, t, d, rfl, hna, rfl, hnt, hO, hI, hBe⟩ := hcut
    have hna1 : na ≤ 150 := by rw [← hna]; exact hI.na
    have hnt1 : nt ≤ 150 := by rw [← hnt]; exact hI.nt
    have hnca : na ≤ ca := hO.oa.len.2.1
    by_cases h0 : st = 0
    · have e0 : (st == 0) = true := by simpa using h0
      have hs := hI.s0 h0
      have hlen : na = nt + L.length := by rw [← hna, ← hnt, hs, List.length_append]
      have hlj : L.length = na - nt := by omega
      have hle : nt ≤ na := by omega
      have hli : (nt : Int) ≤ (na : Int) := by omega
      have hlc : (nt : Int) ≤ (ca : Int) := by omega
      have hdr : all.drop nt = L := by rw [hs, ← hnt]; simp
      have htk : all.take nt = took := by rw [hs, ← hnt]; simp
      have hAl : Hid (∀ W, Only Nil wc W → ∀ A', (nt < na → A' = Aa.map (·.add nt)) → Sq encS 1 W W.heap.size A' L) := Lib.hid fun W ho A' hA => by
        have h := ((hO.kept ho).oa.sqn (fun _ _ => rfl)).dropped nt (A' := A') (fun hl => by rw [Nat.mul_one]; exact hA (by rw [hna] at hl; exact hl))
        rwa [hdr] at h
      have hAt : Hid (∀ W, Only Nil wc W → Sq encS 1 W W.heap.size Aa took) := Lib.hid fun W ho => by
        have h := ((hO.kept ho).oa.sqn (fun _ _ => rfl)).take nt
        rwa [htk] at h
      have hTk : Hid (∀ W, Only Nil wc W → Sq encS 1 W W.heap.size At took) := Lib.hid fun W ho => (hO.kept ho).ot.sqn (fun _ _ => rfl)
      have hIt := Lib.hid (fun W (ho : Only Nil wc W) => Items_n W (hO.kept ho).q (by omega) (na - nt) hlj)
      have HLJ := Lib.hid hlj
      have hTx : Hid (∀ n, L.length = n → ∀ W A B ca cb, Sq encS 1 W W.heap.size A L → Sq encS 1 W W.heap.size B L → Calls Try.prog 12 #[.slice A n ca, .slice B n cb] W fun x w' => x = .returned (.bool true) ∧ Only Nil W w') := Lib.hid (by
        intro n hn W A B ca cb h1 h2
        have h := Texts_same A B ca cb L W h1 h2 (by omega)
        rwa [hn] at h)
      have hTy : Hid (∀ W A B ca cb, Sq encS 1 W W.heap.size A took → Sq encS 1 W W.heap.size B took → Calls Try.prog 12 #[.slice A nt ca, .slice B nt cb] W fun x w' => x = .returned (.bool true) ∧ Only Nil W w') := Lib.hid (by
        intro W A B ca cb h1 h2
        have h := Texts_same A B ca cb took W h1 h2 (by omega)
        rwa [hnt] at h)
      have hon := (Only.refl Nil wc).drew
      clear hI hna hnt hs hlen hlj hdr htk h0 hO
      go_wp2
      by_cases hcj : ca = nt
      all_goals try subst hcj
      all_goals go_region_held3 (fun _ => True) (exact trivial) (first
        | (go_at_call 12; (with_reducible refine (hTx.out _ (by have := HLJ.out; omega) _ _ _ _ _ r8 (hAl.out _ ho8d _ (by intro hh; first | rfl | (rw [if_neg (by omega)]) | (exfalso; omega)))).mono ?_); rintro e w9 ⟨rfl, ho9⟩; have ho9d := ho8d.trans ho9)
        | (go_at_call 13; (with_reducible refine (hIt.out _ ho7d).mono ?_); rintro e w8 ⟨A8, c8, rfl, hO8, ho8⟩; have ho8d := ho7d.trans ho8; have r8 := hO8.sqn (fun _ _ => rfl))
        | (go_at_call 12; (with_reducible refine (hTy.out _ _ _ _ _ (hTk.out _ hon) (hAt.out _ hon)).mono ?_); rintro e w7 ⟨rfl, ho7⟩; have ho7d := hon.trans ho7)
        )
      all_goals
        go_wp2
        go_ret
        exact ⟨rfl, hBe.trans (ho9d.below (Below.size hBe) (fun _ _ hh => hh))⟩
    · have e0 : (st == 0) = false := by simpa using h0
      have hSu := Lib.hid ((List.sublist_append_left took L).trans hI.su)
      have hA := Lib.hid (fun W (ho : Only Nil wc W) => (hO.kept ho).oa.sqn (fun _ _ => rfl))
      have hT := Lib.hid (fun W (ho : Only Nil wc W) => (hO.kept ho).ot.sqn (fun _ _ => rfl))
      have HNA := Lib.hid hna
      have HNT := Lib.hid hnt
      clear hI hO hna hnt h0
      go_wp2
      go_loopw [17, 18] (fun pp ii wr => ∃ (p i : Nat), pp = .int .i64 p ∧ ii = .int .i64 i ∧ i ≤ na ∧ p ≤ nt ∧ Hid (List.Sublist (took.drop p) (all.drop i)) ∧ Only Nil wc wr) (fun _ ii _ => na - (intOf ii).toNat)
      case atStart => exact ⟨0, 0, rfl, rfl, Nat.zero_le _, Nat.zero_le _, hSu, Only.refl _ _⟩
      case round =>
        obtain ⟨p, i, rfl, rfl, hi, hp, hs, ho⟩ := hrel
        by_cases hlt : i < na
        · by_cases hpt : p < nt
          · obtain ⟨b1, o1, x, rfl, hb1, hx, hdx, h1⟩ := (hA.out _ ho).at_ (k := i) (by have := HNA.out; omega)
            obtain ⟨b2, o2, y, rfl, hb2, hy, hdy, h2⟩ := (hT.out _ ho).at_ (k := p) (by have := HNT.out; omega)
            have c1 : wr.cell? ⟨b1, o1 + i, none⟩ = some (.string x) := by simpa [encS] using h1 0 (by decide)
            have c2 : wr.cell? ⟨b2, o2 + p, none⟩ = some (.string y) := by simpa [encS] using h2 0 (by decide)
            have hs1 := hs.out
            rw [hdx, hdy] at hs1
            have HS1 := Lib.hid hs1
            have HDY := Lib.hid hdy
            clear hs1 hdx hdy hx hy h1 h2
            by_cases hxy : x = y
            · subst hxy
              have HS2 : Hid (List.Sublist (took.drop (p + 1)) (all.drop (i + 1))) := Lib.hid (List.cons_sublist_cons.1 HS1.out)
              go_wp2
              go_quiet (fail)
              go_wp2
              go_roundw
              case rel => exact ⟨p + 1, i + 1, by go_num, by go_num, by omega, by omega, HS2, ho.drewN _⟩
              case measure => simp [intOf]; omega
            · have HS2 : Hid (List.Sublist (took.drop p) (all.drop (i + 1))) := Lib.hid (by
                have h := HS1.out
                rw [HDY.out]
                cases h with
                | cons _ h => exact h
                | cons_cons _ h => exact absurd rfl hxy)
              have exy : (x.toList == y.toList) = false := by
                rw [beq_eq_false_iff_ne]
                intro e
                exact hxy (ba_inj e)
              go_wp2
              go_quiet (fail)
              go_wp2
              go_roundw
              case rel => exact ⟨p, i + 1, rfl, by go_num, by omega, by omega, HS2, ho.drewN _⟩
              case measure => simp [intOf]; omega
          · have hpn : p = nt := by omega
            subst hpn
            go_wp2
            go_ret
            exact ⟨rfl, hBe.trans (ho.below (Below.size hBe) (fun _ _ hh => hh))⟩
        · have hpn : p = nt := by
            have h := hs.out
            rw [List.drop_of_length_le (l := all) (by have := HNA.out; omega)] at h
            have h2 := List.eq_nil_of_sublist_nil h
            have h3 := List.drop_eq_nil_iff.1 h2
            have := HNT.out
            omega
          subst hpn
          go_wp2
          go_ret
          exact ⟨rfl, hBe.trans (ho.below (Below.size hBe) (fun _ _ hh => hh))⟩
/-! The step from the walk to the statement of QueueOrder. -/
namespace frQueueOrder
open Go.ChangeShapes Go.WideShapes Go.ChangeAt Go.RowKit
set_option linter.unusedVariables false
theorem own : ownKnob Try.prog.godebug = none := by kernel_rfl
theorem laidOut : laidOutB Try.prog = true := by kernel_rfl
theorem shape0 : Kd.ok Try.prog (.int .u8) 5 = true := by kernel_rfl
theorem shape1 : Kd.ok Try.prog (.int .u8) 5 = true := by kernel_rfl
theorem shape2 : Kd.ok Try.prog (.slc (.agg [.int .i64, .str])) 22 = true := by kernel_rfl
set_option maxRecDepth 100000 in
theorem contract (H : Type) (enc : TypeId × Value → H) (W : World) (base : Nat) (args : Array Value) (ds gs : List (DataW H)) (before : List MemPlace)
    (hval : ∀ (j : Nat) t v, Try.f4.params[j]? = some t → args[j]? = some v → Value.okWide Try.prog W .any base t v)
    (hW : DataW.Whole enc Try.prog Try.f4.params.toList Rows.queueOrderSpec.vars false W args.toList ds gs before) :
    Calls Try.prog 4 args W fun e W' => ∃ v, e = .returned v ∧ Rows.queueOrderSpec.post enc Try.prog Try.f4 false true false false W args v W' := by
  have hW' := hW
  obtain ⟨p, q, hA0, hV, rfl, hfz, hnd⟩ := hW
  have hA : DataW.TrodAll enc Try.prog W 0 (fun _ => true) true Try.f4.params.toList args.toList ds p := hA0
  rw [Try.params4] at hA hval
  obtain ⟨v0, vs0, d0, ds0, p0, q0, hargs, rfl, rfl, h0, r0⟩ := trodAll_cons hA
  obtain ⟨v1, vs1, d1, ds1, p1, q1, rfl, rfl, rfl, h1, r1⟩ := trodAll_cons r0
  obtain ⟨v2, vs2, d2, ds2, p2, q2, rfl, rfl, rfl, h2, r2⟩ := trodAll_cons r1
  obtain ⟨rfl, rfl, rfl⟩ := trodAll_nil r2
  obtain rfl : args = #[v0, v1, v2] := by cases args; simp_all
  obtain ⟨rfl, rfl⟩ := trodVars_none hV
  have k0 := Kd.fit _ shape0 (hval 0 5 v0 rfl rfl) h0
  have lt0 : ∀ x ∈ p0, x.block < W.heap.size := by obtain ⟨m, hm⟩ := h0; exact DataW.trod_lt m _ _ _ hm
  have k1 := Kd.fit _ shape1 (hval 1 5 v1 rfl rfl) h1
  have lt1 : ∀ x ∈ p1, x.block < W.heap.size := by obtain ⟨m, hm⟩ := h1; exact DataW.trod_lt m _ _ _ hm
  have k2 := Kd.fit _ shape2 (hval 2 22 v2 rfl rfl) h2
  have lt2 : ∀ x ∈ p2, x.block < W.heap.size := by obtain ⟨m, hm⟩ := h2; exact DataW.trod_lt m _ _ _ hm
  refine (queueOrder_walk v0 v1 v2 W k0 k1 k2).mono fun e W' ⟨he, bel⟩ => ?_
  subst he
  exact ⟨_, rfl, _, _, _, [], _, [], hW', trodAll_mk1 (shut_bool Try.underlying4 _), (trodAll_cons_mk (Below.trod laidOut (by kernel_rfl) (of_decide_eq_true (by kernel_rfl)) h0 bel lt0) (trodAll_cons_mk (Below.trod laidOut (by kernel_rfl) (of_decide_eq_true (by kernel_rfl)) h1 bel lt1) (trodAll_cons_mk (Below.trod laidOut (by kernel_rfl) (of_decide_eq_true (by kernel_rfl)) h2 bel lt2) trodAll_mk0))), rfl, bel.frame _, fun h => by cases h⟩
set_option maxRecDepth 100000 in
theorem lifted (os : Os) (started : os.Started) (H : Type) (enc : TypeId × Value → H) :
    ReturnsInHanded {} Try.checked os 4 .any (Rows.queueOrderSpec.pre6 enc Try.prog Try.f4 Rows.queueOrderRow.domain false) (Rows.queueOrderSpec.post enc Try.prog Try.f4 false true false false) := by
  refine returnsInHanded_of_change (C := Try.checked) own started (by kernel_rfl) Try.func4
    (ChangeSpec.witness6 (enc := enc) (C := Try.checked) false ⟨#[], #[.int .u8 0, .int .u8 0, .slice none 0 0], []⟩ 8 (by kernel_rfl) (by kernel_rfl) (by kernel_rfl) (by kernel_rfl)) ?_
  intro W base args ds gs before hval hW _ _
  exact contract H enc W base args ds gs before hval hW
theorem over : Rows.queueOrderRow.holds Try.pinned (OpenSpec.ofChange Rows.queueOrderSpec) :=
  OpenClaim.holds_of_wide 4 Try.f4 rfl rfl rfl rfl rfl rfl rfl ⟨rfl, rfl, rfl, rfl, rfl⟩ rfl rfl rfl rfl rfl (by kernel_rfl) Try.func4 (by kernel_rfl)
    (of_decide_eq_true (by kernel_rfl)) (by unfold Func.isWrapper; first | (rw [if_pos (by decide +kernel)]; kernel_rfl) | (rw [if_neg (by decide +kernel)]; exact ⟨rfl, rfl⟩))
    (fun os started H enc _ => lifted os started H enc)
theorem proved : Rows.QueueOrderSaid := over
end frQueueOrder
end Go.Proofs.Ytfffaifbfojnpaa
