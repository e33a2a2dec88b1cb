/- What U of a Scan of package octet reads. No condition. -/
import Derived.Test.YtamocachpjljdaaScan
namespace Go.Proofs.Ytamocachpjljdaa
open Go.RowKit

theorem or_byte (D x : Int) (h0 : 0 ≤ D) (h1 : D < 16777216) (x0 : 0 ≤ x) (x1 : x < 256) : bits BinOp.or IntKind.i64 (D * 256) (wrap64 x) = D * 256 + x := by
  have hw : wrap64 x = x := by simp only [wrap64]; omega
  rw [hw]
  obtain ⟨d, rfl⟩ := Int.eq_ofNat_of_zero_le h0
  obtain ⟨y, rfl⟩ := Int.eq_ofNat_of_zero_le x0
  have hd : d < 16777216 := by omega
  have hy : y < 2 ^ 8 := by omega
  show IntKind.i64.wrap (((BitVec.ofInt 64 ((d : Int) * 256) ||| BitVec.ofInt 64 (y : Int)).toNat : Nat) : Int) = _
  rw [show ((d : Int) * 256) = ((d * 256 : Nat) : Int) by simp, BitVec.ofInt_natCast, BitVec.ofInt_natCast, BitVec.toNat_or, BitVec.toNat_ofNat, BitVec.toNat_ofNat, Nat.mod_eq_of_lt (by omega), Nat.mod_eq_of_lt (by omega),
    show d * 256 = 2 ^ 8 * d by omega, ← Nat.two_pow_add_eq_or_of_lt hy, IntKind.wrap_i64]
  omega
def decN (l : List UInt8) : Int := l.foldl (fun n b => n * 256 + b.toNat) 0
theorem take_snoc (s : ByteArray) (k : Nat) (h : k < s.size) : s.data.toList.take (k + 1) = s.data.toList.take k ++ [s[k]] := by
  rw [List.take_succ_eq_append_getElem (by simpa using h)]; rfl
theorem decN_snoc (X : ByteArray) (k : Nat) (h : k < X.size) : decN (X.data.toList.take (k + 1)) = decN (X.data.toList.take k) * 256 + (X[k].toNat : Int) := by
  rw [take_snoc X k h]
  unfold decN
  rw [List.foldl_append]
  rfl
theorem decN_lt : ∀ (l : List UInt8) (a : Int), 0 ≤ a → 0 ≤ l.foldl (fun n b => n * 256 + (b.toNat : Int)) a ∧ l.foldl (fun n b => n * 256 + (b.toNat : Int)) a < (a + 1) * 256 ^ l.length
  | [], a, h => by simp; omega
  | x :: l, a, h => by
    have hx := x.toNat_lt
    obtain ⟨h1, h2⟩ := decN_lt l (a * 256 + x.toNat) (by omega)
    refine ⟨h1, ?_⟩
    show List.foldl _ (a * 256 + (x.toNat : Int)) l < _
    have h3 : (a * 256 + (x.toNat : Int) + 1) * 256 ^ l.length ≤ ((a + 1) * 256) * 256 ^ l.length := Int.mul_le_mul_of_nonneg_right (by omega) (Int.le_of_lt (Int.pow_pos (by decide)))
    have h4 : (a + 1) * 256 ^ (x :: l).length = ((a + 1) * 256) * 256 ^ l.length := by rw [List.length_cons, Int.pow_succ, Int.mul_comm (256 ^ l.length) 256, Int.mul_assoc]
    rw [h4]
    exact Int.lt_of_lt_of_le h2 h3
theorem decN_bd (X : ByteArray) (k : Nat) (h : k ≤ 3) : 0 ≤ decN (X.data.toList.take k) ∧ decN (X.data.toList.take k) < 16777216 := by
  obtain ⟨h1, h2⟩ := decN_lt (X.data.toList.take k) 0 (by decide)
  refine ⟨h1, ?_⟩
  have hl : (X.data.toList.take k).length ≤ 3 := by rw [List.length_take]; omega
  have hp : ∀ m : Nat, m ≤ 3 → (256 : Int) ^ m ≤ 16777216 := by
    intro m hm
    have : m = 0 ∨ m = 1 ∨ m = 2 ∨ m = 3 := by omega
    rcases this with rfl | rfl | rfl | rfl <;> decide
  have := hp _ hl
  unfold decN
  omega
set_option maxHeartbeats 2000000 in
theorem SU_in (b : Nat) (S : ByteArray) (n : Nat) (w : World) (h : Sc w b S false) (h1 : 1 ≤ n) (h4 : n ≤ 4) (hn : n ≤ S.size) : Calls Try.prog 31 #[.pointer (some ⟨b, 0, none⟩), .int .i64 n] w (TkPost w b (.int .i64 (decN (S.data.toList.take n))) (S.extract n S.size) false) := by
  have e0 : decide ((n : Int) < 1) = false := by simp; omega
  have e4 : decide ((4 : Int) < n) = false := by simp; omega
  have hX : (S.extract 0 n).data.toList = S.data.toList.take n := by rw [ext_take]; rfl
  have hXs : (S.extract 0 n).size = n := by rw [ext_take, strOf_size, List.length_take]; simp; omega
  have hr : ∀ (g : Nat) (W : World), Blk W g 51 #[.pointer (some ⟨b, 0, none⟩)] → Sc W b S false → Calls Try.prog 37 #[.int .i64 n, .pointer (some ⟨g, 0, none⟩)] W (ReadPost W b (S.extract 0 n) (S.extract n S.size) true false) :=
    fun g W hg hs => reader1_in g b S n W hg hs hn
  rw [← hX]
  generalize S.extract 0 n = X at hr hXs ⊢
  have hXs' := Lib.hid hXs
  clear hX hXs hn
  go_enter Try.func31, Try.ntmps31
  go_wp2_with (first
    | (go_at_call 36; (with_reducible refine (reader_any _ _).mono ?_); rintro e w1 ⟨g, rfl, hg, ho1, hG⟩; have hS1 := Blk.kept h ho1 (fun hh => hh))
    | (go_at_call 37; (with_reducible refine (hr g _ hG hS1).mono ?_); rintro e w2 ⟨rfl, ho2, hS2⟩)
    )
  skip
  go_loop [7, 26] (fun nn kk => ∃ k : Nat, k ≤ n ∧ kk = .int .i64 k ∧ nn = .int .i64 (decN (X.data.toList.take k))) (fun _ kk => n - (intOf kk).toNat)
  case atStart => exact ⟨0, Nat.zero_le _, rfl, rfl⟩
  case round =>
    obtain ⟨k, hk, rfl, rfl⟩ := hrel
    by_cases hlt : k < n
    · have hkX : k < X.size := by rw [hXs'.out]; exact hlt
      have hd := Lib.hid (decN_snoc X k hkX)
      have hb := decN_bd X k (by omega)
      generalize decN (X.data.toList.take k) = D at hd hb
      obtain ⟨hb0, hb1⟩ := hb
      go_wp2
      go_round
      case rel =>
        refine ⟨k + 1, by omega, by go_num, ?_⟩
        rw [hd.out, or_byte _ _ hb0 hb1 (by omega) (by have := X[k].toNat_lt; omega)]
      case measure => simp [intOf]; omega
    · have hkn : k = n := by omega
      have hfin : Hid (decN (X.data.toList.take k) = decN X.data.toList) := Lib.hid (by rw [List.take_of_length_le (by simp [hXs'.out]; omega)])
      generalize decN (X.data.toList.take k) = D at *
      have hkX : ¬ k < X.size := by rw [hXs'.out]; exact hlt
      clear hkn
      go_wp2
      go_ret
      exact ⟨by rw [hfin.out]; rfl, only_new ho1 ho2, hS2⟩
end Go.Proofs.Ytamocachpjljdaa
