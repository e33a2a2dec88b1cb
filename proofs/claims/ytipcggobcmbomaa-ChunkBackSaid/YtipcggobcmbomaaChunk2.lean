/- All pieces of a message; the document's own; texts that are the same. -/
import Derived.Test.YtipcggobcmbomaaChunk
namespace Go.Proofs.Ytipcggobcmbomaa
open Go.RowKit

def encS (s : ByteArray) : List Value := [.string s]
theorem encS_one : ∀ s, ∀ u ∈ encS s, u.oneCell' = true := fun s u hu => by simp [encS] at hu; subst hu; rfl
theorem str_info : (Try.prog.info? 9).map (fun i => (i.zero, i.size, i.bytes)) = some (some (.string ByteArray.empty), 1, 16) := by kernel_rfl
theorem Sq.cell1 {w : World} {B : Nat} {b off : Nat} {l : List ByteArray} (h : Sq encS 1 w B (some ⟨b, off, none⟩) l) {k : Nat} {x : ByteArray} (hx : l[k]? = some x) : w.cell? ⟨b, off + k, none⟩ = some (.string x) := by
  obtain ⟨b', o', y, e, _, hy, _, hc⟩ := h.at_ (k := k) (List.getElem?_eq_some_iff.1 hx).1
  injection e with e
  injection e with e1 e2
  subst e1 e2
  rw [hx] at hy
  injection hy with hy
  subst hy
  simpa [encS] using hc 0 (by decide)
set_option maxHeartbeats 2000000 in
theorem Texts_same (A B : Option Addr) (ca cb : Nat) (l : List ByteArray) (w : World) (hA : Sq encS 1 w w.heap.size A l) (hB : Sq encS 1 w w.heap.size B l) (hlen : l.length ≤ 100000) :
    Calls Try.prog 10 #[.slice A l.length ca, .slice B l.length cb] w fun x w' => x = .returned (.bool true) ∧ Only Nil w w' := by
  generalize hn : l.length = n at *
  go_enter Try.func10, Try.ntmps10
  go_wp2
  go_loopw [5] (fun ii wr => ∃ k : Nat, k ≤ n ∧ ii = .int .i64 k ∧ Only Nil w wr) (fun ii _ => n - (intOf ii).toNat)
  case atStart => exact ⟨0, Nat.zero_le _, rfl, Only.refl _ _⟩
  case round =>
    obtain ⟨k, hk, rfl, ho⟩ := hrel
    by_cases hlt : k < n
    · obtain ⟨b1, o1, x, rfl, hb1, hx, _, h1⟩ := (hA.go ho).at_ (k := k) (by omega)
      obtain ⟨b2, o2, y, rfl, hb2, hy, _, h2⟩ := (hB.go ho).at_ (k := k) (by omega)
      rw [hx] at hy
      injection hy with hy
      subst hy
      have e1 : wr.cell? ⟨b1, o1 + k, none⟩ = some (.string x) := by simpa [encS] using h1 0 (by decide)
      have e2 : wr.cell? ⟨b2, o2 + k, none⟩ = some (.string x) := by simpa [encS] using h2 0 (by decide)
      have hki : (k : Int) < n := by omega
      clear h1 h2 hx
      go_wp2
      go_quiet (fail)
      go_wp2
      go_roundw
      case rel => exact ⟨k + 1, by omega, by go_num, ho.drewN _⟩
      case measure => simp [intOf]; omega
    · go_wp2
      go_ret
      exact ⟨rfl, ho⟩
/-- all pieces -/
def pcs (K : Nat) (L : List UInt8) (j : Nat) : List ByteArray := (List.range j).map fun i => strOf (pc K L i)
theorem pcs_length (K : Nat) (L : List UInt8) (j : Nat) : (pcs K L j).length = j := by simp [pcs]
theorem pcs_snoc (K : Nat) (L : List UInt8) (j : Nat) : pcs K L j ++ [strOf (pc K L j)] = pcs K L (j + 1) := by simp [pcs, List.range_succ]
theorem mny_lt {K n i : Nat} (h : i < mny K n) : i * K ≤ n := by
  unfold mny at h
  split at h
  · have : i = 0 := by omega
    subst this
    simp
  · have h1 : i ≤ (n - 1) / K := by omega
    have h2 := Nat.mul_le_mul_right K h1
    have h3 := Nat.div_mul_le_self (n - 1) K
    omega
theorem mny_more {K n j : Nat} (hK : 1 ≤ K) (h : (j + 1) * K < n) : j + 1 < mny K n := by
  unfold mny
  rw [if_neg (by omega)]
  have : j + 1 ≤ (n - 1) / K := (Nat.le_div_iff_mul_le (by omega)).2 (by omega)
  omega
theorem mny_last {K n j : Nat} (hK : 1 ≤ K) (h0 : j = 0 ∨ j * K < n) (h : n ≤ (j + 1) * K) : mny K n = j + 1 := by
  unfold mny
  split
  · rcases h0 with rfl | h0
    · rfl
    · omega
  · rename_i hn
    have h1 : (n - 1) / K ≤ j := by
      have : (n - 1) / K < j + 1 := (Nat.div_lt_iff_lt_mul (by omega)).2 (by omega)
      omega
    have h2 : j ≤ (n - 1) / K := by
      rcases h0 with rfl | h0
      · exact Nat.zero_le _
      · exact (Nat.le_div_iff_mul_le (by omega)).2 (by omega)
    omega
theorem mny_le (K n : Nat) (hn : n ≤ 65536) : mny K n ≤ 65537 := by
  unfold mny
  split
  · omega
  · have := Nat.div_le_self (n - 1) K
    omega
theorem la2 {α : Type} {Y : List α} {p : α} {k : Nat} (h : Y.length = k) : Y.length + [p].length = k + 1 := by simp [h]
theorem cutter1_i (X : ByteArray) (K i : Nat) (gM gS : Nat) (w : World) (h0 : 1 ≤ K) (h1 : K ≤ 255) (hX : X.size ≤ 65536) (hi : i < mny K X.size) (hM : Blk w gM 9 #[.string X]) (hS : Blk w gS 3 #[.int .i64 ((K : Int) + 1)]) :
    Calls Try.prog 19 #[.int .i64 i, .pointer (some ⟨gS, 0, none⟩), .pointer (some ⟨gM, 0, none⟩)] w fun x w' => x = .returned (.string (strOf (pc K X.data.toList i))) ∧ Only Nil w w' := by
  have hF := mny_lt hi
  have hs : X.data.toList.length = X.size := by simp
  have e1 : (i + 1) * K = i * K + K := by rw [Nat.add_mul, Nat.one_mul]
  by_cases hlt : i * K + K < X.size
  · refine (cutter1_at X K i (i * K) (i * K + K) (K + 1) 1 gM gS w h0 h1 hX (by push_cast; rfl) (by omega) (by omega) (by omega) (.inl ⟨hlt, rfl, rfl⟩) hM hS).mono ?_
    rintro x w' ⟨rfl, ho⟩
    refine ⟨?_, ho⟩
    unfold pc
    rw [if_pos (by rw [e1, hs]; exact hlt), Nat.add_sub_cancel_left]
  · refine (cutter1_at X K i (i * K) X.size (1 + X.size - i * K) 0 gM gS w h0 h1 hX (by push_cast; rfl) hF (Nat.le_refl _) (by omega) (.inr ⟨by omega, rfl, rfl⟩) hM hS).mono ?_
    rintro x w' ⟨rfl, ho⟩
    refine ⟨?_, ho⟩
    unfold pc
    rw [if_neg (by rw [e1, hs]; exact hlt), List.take_of_length_le (by simp), List.take_of_length_le (l := List.drop (i * K) X.data.toList) (by simp; omega)]
def StrPost (w : World) (l : List ByteArray) (f : Value → Ending) (x : Ending) (w' : World) : Prop := ∃ A c, x = f (.slice A l.length c) ∧ Ow encS 1 w' w.heap.size 9 (.slice A l.length c) l ∧ Only Nil w w'
theorem Cut_out (X : ByteArray) (s : Int) (w : World) (h : s < 2 ∨ 256 < s) : Calls Try.prog 7 #[.string X, .int .i64 s] w fun x w' => x = .returned (.tuple #[.slice none 0 0, .int .i64 2]) ∧ w = w' := by
  have hm := fun W => may_out s W h
  clear h
  go_enter Try.func7, Try.ntmps7
  go_wp2_with (first
    | (go_at_call 16; (with_reducible refine (hm _).mono ?_); rintro e w1 ⟨rfl, rfl⟩)
    )
  go_ret2
  exact ⟨rfl, rfl⟩
theorem Cut_big (X : ByteArray) (s : Int) (w : World) (h0 : 2 ≤ s) (h1 : s ≤ 256) (hX : 65536 < X.size) : Calls Try.prog 7 #[.string X, .int .i64 s] w fun x w' => x = .returned (.tuple #[.slice none 0 0, .int .i64 4]) ∧ w = w' := by
  have hXi : (65536 : Int) < X.size := by omega
  go_enter Try.func7, Try.ntmps7
  go_wp2_with (first
    | (go_at_call 16; (with_reducible refine (may_in s _ h0 h1).mono ?_); rintro e w1 ⟨rfl, rfl⟩)
    )
  go_ret2
  exact ⟨rfl, rfl⟩
set_option maxHeartbeats 2000000 in
theorem Cut_any (X : ByteArray) (K : Nat) (w : World) (h0 : 1 ≤ K) (h1 : K ≤ 255) (hX : X.size ≤ 65536) :
    Calls Try.prog 7 #[.string X, .int .i64 ((K : Int) + 1)] w (StrPost w (pcs K X.data.toList (mny K X.size)) (fun v => .returned (.tuple #[v, .int .i64 0]))) := by
  have hXi : (X.size : Int) ≤ 65536 := by omega
  have hm1 := mny_le K X.size hX
  have HC := Lib.hid (fun i gM gS W (hi : i < mny K X.size) (hM : Blk W gM 9 #[.string X]) (hS : Blk W gS 3 #[.int .i64 ((K : Int) + 1)]) => cutter1_i X K i gM gS W h0 h1 hX hi hM hS)
  have HM := Lib.hid (fun W => Many_in X.size K W h0 h1 hX)
  generalize mny K X.size = m at *
  go_enter Try.func7, Try.ntmps7
  go_wp2_with (first
    | (go_at_call 16; (with_reducible refine (may_in ((K : Int) + 1) _ (by omega) (by omega)).mono ?_); rintro e w1 ⟨rfl, rfl⟩)
    | (go_at_call 17; (with_reducible refine (cutter_any X _ _).mono ?_); rintro e w2 ⟨gM, gS, rfl, ho2, hM2, hS2⟩)
    | (go_at_call 8; (with_reducible refine (HM.out _).mono ?_); rintro e w3 ⟨rfl, rfl⟩)
    )
  go_loopw [7, 24] (fun vv ii wr => ∃ (k : Nat) (A5 : Option Addr) (c5 : Nat), k ≤ m ∧ ii = .int .i64 k ∧ vv = .slice A5 k c5 ∧ Ow encS 1 wr w2.heap.size 9 (.slice A5 k c5) (pcs K X.data.toList k) ∧ Only Nil w2 wr) (fun _ ii _ => m - (intOf ii).toNat)
  case atStart => exact ⟨0, none, 0, Nat.zero_le _, rfl, rfl, Ow.nil, Only.refl _ _⟩
  case round =>
    obtain ⟨k, A5, c5, hk, rfl, rfl, hO, ho⟩ := hrel
    by_cases hlt : k < m
    · have hMr := hM2.kept ho (fun hh => hh)
      have hSr := hS2.kept ho (fun hh => hh)
      have hst := Lib.hid (pcs_snoc K X.data.toList k)
      have hl1 := Lib.hid (pcs_length K X.data.toList k)
      have HCk := Lib.hid (HC.out k gM gS wr hlt hMr hSr)
      generalize strOf (pc K X.data.toList k) = S at hst HCk
      have hki : (k : Int) < m := by omega
      go_wp2_with (first
        | (go_at_call 19; (with_reducible refine (HCk.out).mono ?_); rintro e w5 ⟨rfl, ho5⟩; have hO5 := (hO.kept ho5 (fun _ _ hh => hh)).alloc (.cells #[.string S] 9); have hn5 := (ho.trans ho5).alloc (.cells #[.string S] 9); have s1 := Src.one (P := Try.prog) (enc := encS) (tx := 22) Try.underlying22 S 1 rfl (Blk.new w5 9 #[.string S]) rfl (encS_one S))
        | (at_builtin
           refine wpList_app2 rfl (.tmp 27) (.tmp 31) _ _ rfl w2.heap.size 9 Try.underlying22 str_info rfl _ _ rfl hO5 _ [S] rfl s1 (by rw [la2 hl1.out]; omega) (by decide) hn5.size (k + 1) (la2 hl1.out) _ hst.out ?_
           intro A6 c6 w6 hown6 ho6 hg6
           have hoo := hn5.own_nil hO5 ho6)
        )
      go_roundw
      case rel => exact ⟨k + 1, _, _, by omega, by go_num, rfl, hown6, hoo⟩
      case measure => simp [intOf]; omega
    · obtain rfl : k = m := by omega
      go_wp2
      go_ret2
      exact ⟨A5, c5, by rw [pcs_length]; rfl, by rw [pcs_length]; exact hO.mono ho2.size, ho2.trans ho⟩
theorem strOf_one (b : UInt8) (S : ByteArray) : (⟨#[b]⟩ : ByteArray) ++ S = strOf (b :: S.data.toList) := by
  apply ByteArray.ext
  apply Array.toList_inj.1
  simp [strOf, ByteArray.data_append]
theorem ext_to (S : ByteArray) (K : Nat) : (S.extract 0 K).data.toList = S.data.toList.take K := by simp
theorem ext_on (S : ByteArray) (K : Nat) : S.extract K S.size = strOf (S.data.toList.drop K) := by
  apply ByteArray.ext
  apply Array.toList_inj.1
  simp [strOf]
  rw [List.take_of_length_le (by simp)]
def strLen : Value → Nat
  | .string s => s.size
  | _ => 0
set_option maxHeartbeats 2000000 in
theorem RCut_any (X : ByteArray) (K : Nat) (w : World) (h0 : 1 ≤ K) (h1 : K ≤ 255) (hX : X.size ≤ 65536) :
    Calls Try.prog 11 #[.string X, .int .i64 ((K : Int) + 1)] w (StrPost w (pcs K X.data.toList (mny K X.size)) (fun v => .returned v)) := by
  have hLs : X.data.toList.length = X.size := by simp
  generalize hL : X.data.toList = L at *
  generalize hxs : X.size = n at *
  have HL := Lib.hid hL
  have HX := Lib.hid hxs
  have HLS := Lib.hid hLs
  clear hL hxs hLs
  go_enter Try.func11, Try.ntmps11
  go_wp2
  go_loopw [0, 5] (fun ss vv wr => ∃ (j : Nat) (S : ByteArray) (A5 : Option Addr) (c5 : Nat), ss = .string S ∧ vv = .slice A5 j c5 ∧ (j = 0 ∨ j * K < n) ∧ j * K + S.size = n ∧ Hid (S = strOf (L.drop (j * K))) ∧ Ow encS 1 wr w.heap.size 9 (.slice A5 j c5) (pcs K L j) ∧ Only Nil w wr) (fun ss _ _ => strLen ss)
  case atStart => exact ⟨0, X, none, 0, rfl, rfl, .inl rfl, by have := HX.out; omega, Lib.hid (by rw [Nat.zero_mul, List.drop_zero, ← HL.out]; rfl), Ow.nil, Only.refl _ _⟩
  case round =>
    obtain ⟨j, S, A5, c5, rfl, rfl, hj0, hjs, hS, hO, ho⟩ := hrel
    have hjs' := Lib.hid hjs
    have hSn : S.size ≤ 65536 := by omega
    have hjm : j ≤ 65536 := by
      rcases hj0 with rfl | h
      · omega
      · have := Nat.mul_le_mul_left j h0
        omega
    have e1 : (j + 1) * K = j * K + K := by rw [Nat.add_mul, Nat.one_mul]
    have hl1 := Lib.hid (pcs_length K L j)
    have hst := Lib.hid (pcs_snoc K L j)
    by_cases hlt : K < S.size
    · have hp : Hid (strOf (pc K L j) = (⟨#[1]⟩ : ByteArray) ++ S.extract 0 K) := Lib.hid (by
        unfold pc
        rw [if_pos (by rw [HLS.out]; omega), strOf_one, ext_to, hS.out, strOf_toList])
      have hS2 : Hid (S.extract K S.size = strOf (L.drop ((j + 1) * K))) := Lib.hid (by
        rw [ext_on]
        conv => lhs; rw [hS.out, strOf_toList]
        rw [List.drop_drop, e1])
      have hz : (S.extract K S.size).size = S.size - K := by simp
      have hz1 : (S.extract 0 K).size = K := by simp; omega
      have HZ := Lib.hid hz
      have hE1 := Lib.hid e1
      have hp1 : (⟨#[1]⟩ : ByteArray).size + (S.extract 0 K).size ≤ 9223372036854775807 := by rw [hz1]; show 1 + K ≤ _; omega
      have hki : (K : Int) < S.size := by omega
      have hki2 : (K : Int) ≤ S.size := by omega
      rw [hp.out] at hst
      clear hz e1 hjs hj0 hz1
      go_wp2_with (first
        | (at_builtin
           refine wpList_app2 rfl (.tmp 11) (.tmp 17) _ _ rfl w.heap.size 9 Try.underlying22 str_info rfl _ _ rfl (hO.alloc (.cells #[.string ((⟨#[1]⟩ : ByteArray) ++ S.extract 0 K)] 9)) _ [(⟨#[1]⟩ : ByteArray) ++ S.extract 0 K] rfl (Src.one (P := Try.prog) (enc := encS) (tx := 22) Try.underlying22 _ 1 rfl (Blk.new wr 9 #[.string ((⟨#[1]⟩ : ByteArray) ++ S.extract 0 K)]) rfl (encS_one _)) (by rw [la2 hl1.out]; omega) (by decide) (ho.alloc (.cells #[.string ((⟨#[1]⟩ : ByteArray) ++ S.extract 0 K)] 9)).size (j + 1) (la2 hl1.out) _ hst.out ?_
           intro A6 c6 w6 hown6 ho6 hg6
           have hoo := (ho.alloc (.cells #[.string ((⟨#[1]⟩ : ByteArray) ++ S.extract 0 K)] 9)).own_nil (hO.alloc (.cells #[.string ((⟨#[1]⟩ : ByteArray) ++ S.extract 0 K)] 9)) ho6)
        )
      go_roundw
      case rel => exact ⟨j + 1, _, A6, c6, rfl, rfl, .inr (by have := hE1.out; have := hjs'.out; omega), by have := hE1.out; have := hjs'.out; have := HZ.out; omega, hS2, hown6, hoo⟩
      case measure => simp [strLen]; omega
    · have hp : Hid (strOf (pc K L j) = (⟨#[0]⟩ : ByteArray) ++ S) := Lib.hid (by
        unfold pc
        rw [if_neg (by rw [HLS.out]; omega), strOf_one, hS.out, strOf_toList, List.take_of_length_le (by rw [List.length_drop, HLS.out]; omega)])
      have hm : Hid (mny K n = j + 1) := Lib.hid (mny_last h0 hj0 (by omega))
      have hki : (S.size : Int) ≤ K := by omega
      have hp1 : (⟨#[0]⟩ : ByteArray).size + S.size ≤ 9223372036854775807 := by show 1 + S.size ≤ _; omega
      rw [hp.out] at hst
      clear e1 hjs hj0
      go_wp2_with (first
        | (at_builtin
           refine wpList_app2 rfl (.tmp 23) (.tmp 26) _ _ rfl w.heap.size 9 Try.underlying22 str_info rfl _ _ rfl (hO.alloc (.cells #[.string ((⟨#[0]⟩ : ByteArray) ++ S)] 9)) _ [(⟨#[0]⟩ : ByteArray) ++ S] rfl (Src.one (P := Try.prog) (enc := encS) (tx := 22) Try.underlying22 _ 1 rfl (Blk.new wr 9 #[.string ((⟨#[0]⟩ : ByteArray) ++ S)]) rfl (encS_one _)) (by rw [la2 hl1.out]; omega) (by decide) (ho.alloc (.cells #[.string ((⟨#[0]⟩ : ByteArray) ++ S)] 9)).size (j + 1) (la2 hl1.out) _ hst.out ?_
           intro A6 c6 w6 hown6 ho6 hg6
           have hoo := (ho.alloc (.cells #[.string ((⟨#[0]⟩ : ByteArray) ++ S)] 9)).own_nil (hO.alloc (.cells #[.string ((⟨#[0]⟩ : ByteArray) ++ S)] 9)) ho6)
        )
      go_ret
      exact ⟨A6, c6, by rw [hm.out, pcs_length]; rfl, by rw [hm.out, pcs_length]; exact hown6, hoo⟩
end Go.Proofs.Ytipcggobcmbomaa
