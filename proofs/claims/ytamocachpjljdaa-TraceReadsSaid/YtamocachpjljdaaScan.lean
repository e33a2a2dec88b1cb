/- What the calls of a Scan of package octet do. No condition. -/
import Derived.Test.YtamocachpjljdaaRows
import Derived.Test.YtamocachpjljdaaBytes
import Derived.RegionTactic
import Derived.ChangeAlike
namespace Go.Proofs.Ytamocachpjljdaa
open Go.RowKit

abbrev Sc (w : World) (b : Nat) (S : ByteArray) (bad : Bool) : Prop := Blk w b 63 #[.string S, .bool bad]
theorem ext_take (S : ByteArray) (n : Nat) : S.extract 0 n = strOf (S.data.toList.take n) := by
  apply ByteArray.ext
  apply Array.toList_inj.1
  simp [strOf]
theorem ext_drop (S : ByteArray) (n : Nat) : S.extract n S.size = strOf (S.data.toList.drop n) := by
  apply ByteArray.ext
  apply Array.toList_inj.1
  simp [strOf]
  rw [List.take_of_length_le (by simp)]
theorem Over_any (S : ByteArray) (w : World) : Calls Try.prog 23 #[.string S] w fun x w' => ∃ b, x = .returned (.pointer (some ⟨b, 0, none⟩)) ∧ w.heap.size ≤ b ∧ Only Nil w w' ∧ Sc w' b S false := by
  go_enter Try.func23, Try.ntmps23
  go_wp2
  go_ret
  exact ⟨w.heap.size, rfl, Nat.le_refl _, (Only.refl _ _).alloc _, Blk.new _ _ _⟩
theorem Bad_any (b : Nat) (S : ByteArray) (bad : Bool) (w : World) (h : Sc w b S bad) : Calls Try.prog 33 #[.pointer (some ⟨b, 0, none⟩)] w fun x w' => x = .returned (.bool bad) ∧ w = w' := by
  have c1 : w.cell? ⟨b, 1, none⟩ = some (.bool bad) := h.cell 1
  go_enter Try.func33, Try.ntmps33
  go_wp2
  go_ret
  exact ⟨rfl, rfl⟩
theorem Bad_nil (w : World) : Calls Try.prog 33 #[.pointer none] w fun x w' => x = .returned (.bool true) ∧ w = w' := by
  go_enter Try.func33, Try.ntmps33
  go_wp2
  go_ret
  exact ⟨rfl, rfl⟩
theorem Left_any (b : Nat) (S : ByteArray) (bad : Bool) (w : World) (h : Sc w b S bad) : Calls Try.prog 25 #[.pointer (some ⟨b, 0, none⟩)] w fun x w' => x = .returned (.int .i64 S.size) ∧ w = w' := by
  have c0 : w.cell? ⟨b, 0, none⟩ = some (.string S) := h.cell 0
  go_enter Try.func25, Try.ntmps25
  go_wp2
  go_ret
  exact ⟨rfl, rfl⟩
theorem Left_nil (w : World) : Calls Try.prog 25 #[.pointer none] w fun x w' => x = .returned (.int .i64 0) ∧ w = w' := by
  go_enter Try.func25, Try.ntmps25
  go_wp2
  go_ret
  exact ⟨rfl, rfl⟩
def endE (S : ByteArray) (bad : Bool) : Int := if bad then 5 else if S.size = 0 then 0 else 6

def RdPost (w : World) (p : Value) (x : Ending) (w' : World) : Prop := ∃ g, x = .returned (.func (.func 37) #[] #[.pointer (some ⟨g, 0, none⟩)]) ∧ w.heap.size ≤ g ∧ Only Nil w w' ∧ Blk w' g 51 #[p]
theorem reader_any (p : Option Addr) (w : World) : Calls Try.prog 36 #[.pointer p] w (RdPost w (.pointer p)) := by
  have hmf := mkf Try.prog
  go_enter Try.func36, Try.ntmps36
  go_wp2
  go_ret
  exact ⟨w.heap.size, rfl, Nat.le_refl _, (Only.refl _ _).alloc _, Blk.new _ _ _⟩
theorem reader1_nil (g : Nat) (n : Int) (w : World) (hg : Blk w g 51 #[.pointer none]) : Calls Try.prog 37 #[.int .i64 n, .pointer (some ⟨g, 0, none⟩)] w fun x w' => x = .returned (.tuple #[.string noS, .bool false]) ∧ Only Nil w w' := by
  have cg : w.cell? ⟨g, 0, none⟩ = some (.pointer none) := hg.cell 0
  go_enter Try.func37, Try.ntmps37
  go_wp2
  go_ret2
  exact ⟨rfl, Only.refl _ _⟩
def ReadPost (w : World) (b : Nat) (X S : ByteArray) (ok bad : Bool) (x : Ending) (w' : World) : Prop := x = .returned (.tuple #[.string X, .bool ok]) ∧ Only (One b) w w' ∧ Sc w' b S bad
theorem reader1_bad (g b : Nat) (S : ByteArray) (n : Int) (w : World) (hg : Blk w g 51 #[.pointer (some ⟨b, 0, none⟩)]) (h : Sc w b S true) :
    Calls Try.prog 37 #[.int .i64 n, .pointer (some ⟨g, 0, none⟩)] w (ReadPost w b noS S false true) := by
  have cg : w.cell? ⟨g, 0, none⟩ = some (.pointer (some ⟨b, 0, none⟩)) := hg.cell 0
  have c1 : w.cell? ⟨b, 1, none⟩ = some (.bool true) := h.cell 1
  go_enter Try.func37, Try.ntmps37
  go_wp2
  go_ret2
  exact ⟨rfl, Only.refl _ _, h⟩
theorem reader1_out (g b : Nat) (S : ByteArray) (n : Int) (w : World) (hg : Blk w g 51 #[.pointer (some ⟨b, 0, none⟩)]) (h : Sc w b S false) (hn : n < 0 ∨ (S.size : Int) < n) :
    Calls Try.prog 37 #[.int .i64 n, .pointer (some ⟨g, 0, none⟩)] w (ReadPost w b noS S false true) := by
  have cg : w.cell? ⟨g, 0, none⟩ = some (.pointer (some ⟨b, 0, none⟩)) := hg.cell 0
  have c0 : w.cell? ⟨b, 0, none⟩ = some (.string S) := h.cell 0
  have c1 : w.cell? ⟨b, 1, none⟩ = some (.bool false) := h.cell 1
  have f1 : w.frozen? ⟨b, 1, none⟩ = false := h.frozen 1
  by_cases h0 : n < 0
  · clear hn
    go_enter Try.func37, Try.ntmps37
    go_wp2
    go_ret2
    exact ⟨rfl, (Only.refl (One b) w).set1 1 _, h.set 1 _⟩
  · have h2 : (S.size : Int) < n := by omega
    clear hn
    go_enter Try.func37, Try.ntmps37
    go_wp2
    go_ret2
    exact ⟨rfl, (Only.refl (One b) w).set1 1 _, h.set 1 _⟩
theorem conv_both (X : ByteArray) (w : World) : ∃ A n cap w1, (convert 9 43 (.string X)).run Try.prog w = .ok (.slice A n cap) w1 ∧ (convert 43 9 (.slice A n cap)).run Try.prog w1 = .ok (.string X) w1 ∧ Only Nil w w1 := by
  have h := run_bytes_of_string (P := Try.prog) w 9 43 5 X Try.underlying9 Try.underlying43 Try.underlying5
  refine ⟨_, _, _, _, h, run_bytes_and_back 43 5 9 Try.underlying43 Try.underlying5 Try.underlying9 X _ _ _ _ h, (Only.refl _ _).drew.alloc _⟩
theorem reader1_in (g b : Nat) (S : ByteArray) (n : Nat) (w : World) (hg : Blk w g 51 #[.pointer (some ⟨b, 0, none⟩)]) (h : Sc w b S false) (hn : n ≤ S.size) :
    Calls Try.prog 37 #[.int .i64 n, .pointer (some ⟨g, 0, none⟩)] w (ReadPost w b (S.extract 0 n) (S.extract n S.size) true false) := by
  have cg : w.cell? ⟨g, 0, none⟩ = some (.pointer (some ⟨b, 0, none⟩)) := hg.cell 0
  have c0 : w.cell? ⟨b, 0, none⟩ = some (.string S) := h.cell 0
  have c1 : w.cell? ⟨b, 1, none⟩ = some (.bool false) := h.cell 1
  obtain ⟨A, n1, cap, w1, hc1, hc2, ho⟩ := conv_both (S.extract 0 n) w
  have hg1 := hg.kept ho (fun hh => hh)
  have h1 := h.kept ho (fun hh => hh)
  have dg : w1.cell? ⟨g, 0, none⟩ = some (.pointer (some ⟨b, 0, none⟩)) := hg1.cell 0
  have d0 : w1.cell? ⟨b, 0, none⟩ = some (.string S) := h1.cell 0
  have f0 : w1.frozen? ⟨b, 0, none⟩ = false := h1.frozen 0
  go_enter Try.func37, Try.ntmps37
  go_wp2
  go_region
  all_goals
    go_wp2
    go_ret2
    exact ⟨rfl, (ho.of_nil _).drew.set1 0 _, Blk.set (Blk.drew h1) 0 _⟩
def TkPost (w : World) (b : Nat) (v : Value) (S : ByteArray) (bad : Bool) (x : Ending) (w' : World) : Prop := x = .returned v ∧ Only (One b) w w' ∧ Sc w' b S bad
theorem only_new {w w1 w2 : World} {b : Nat} (ho1 : Only Nil w w1) (ho2 : Only (One b) w1 w2) : Only (One b) w w2 := (ho1.of_nil _).trans ho2
theorem Take_bad (b : Nat) (S : ByteArray) (n : Int) (w : World) (h : Sc w b S true) : Calls Try.prog 32 #[.pointer (some ⟨b, 0, none⟩), .int .i64 n] w (TkPost w b (.string noS) S true) := by
  go_enter Try.func32, Try.ntmps32
  go_wp2_with (first
    | (go_at_call 36; (with_reducible refine (reader_any _ _).mono ?_); rintro e w1 ⟨g, rfl, hg, ho1, hG⟩; have hS1 := Blk.kept h ho1 (fun hh => hh))
    | (go_at_call 37; (with_reducible refine (reader1_bad g b S n _ hG hS1).mono ?_); rintro e w2 ⟨rfl, ho2, hS2⟩)
    )
  go_ret
  exact ⟨rfl, only_new ho1 ho2, hS2⟩
theorem Take_out (b : Nat) (S : ByteArray) (n : Int) (w : World) (h : Sc w b S false) (hn : n < 0 ∨ (S.size : Int) < n) : Calls Try.prog 32 #[.pointer (some ⟨b, 0, none⟩), .int .i64 n] w (TkPost w b (.string noS) S true) := by
  go_enter Try.func32, Try.ntmps32
  go_wp2_with (first
    | (go_at_call 36; (with_reducible refine (reader_any _ _).mono ?_); rintro e w1 ⟨g, rfl, hg, ho1, hG⟩; have hS1 := Blk.kept h ho1 (fun hh => hh))
    | (go_at_call 37; (with_reducible refine (reader1_out g b S n _ hG hS1 hn).mono ?_); rintro e w2 ⟨rfl, ho2, hS2⟩)
    )
  go_ret
  exact ⟨rfl, only_new ho1 ho2, hS2⟩
theorem Take_in (b : Nat) (S : ByteArray) (n : Nat) (w : World) (h : Sc w b S false) (hn : n ≤ S.size) : Calls Try.prog 32 #[.pointer (some ⟨b, 0, none⟩), .int .i64 n] w (TkPost w b (.string (S.extract 0 n)) (S.extract n S.size) false) := by
  go_enter Try.func32, Try.ntmps32
  go_wp2_with (first
    | (go_at_call 36; (with_reducible refine (reader_any _ _).mono ?_); rintro e w1 ⟨g, rfl, hg, ho1, hG⟩; have hS1 := Blk.kept h ho1 (fun hh => hh))
    | (go_at_call 37; (with_reducible refine (reader1_in g b S n _ hG hS1 hn).mono ?_); rintro e w2 ⟨rfl, ho2, hS2⟩)
    )
  go_ret
  exact ⟨rfl, only_new ho1 ho2, hS2⟩
theorem Take_nil (n : Int) (w : World) : Calls Try.prog 32 #[.pointer none, .int .i64 n] w fun x w' => x = .returned (.string noS) ∧ Only Nil w w' := by
  go_enter Try.func32, Try.ntmps32
  go_wp2_with (first
    | (go_at_call 36; (with_reducible refine (reader_any _ _).mono ?_); rintro e w1 ⟨g, rfl, hg, ho1, hG⟩)
    | (go_at_call 37; (with_reducible refine (reader1_nil g n _ hG).mono ?_); rintro e w2 ⟨rfl, ho2⟩)
    )
  go_ret
  exact ⟨rfl, ho1.trans ho2⟩
/-- the width as it counts -/
def wid (n : Int) : Int := if n < 1 ∨ 4 < n then -1 else n
theorem SU_bad (b : Nat) (S : ByteArray) (n : Int) (w : World) (h : Sc w b S true) : Calls Try.prog 31 #[.pointer (some ⟨b, 0, none⟩), .int .i64 n] w (TkPost w b (.int .i64 0) S true) := by
  by_cases h0 : n < 1
  · have hw : wid n = -1 := by unfold wid; rw [if_pos (.inl h0)]
    rw [hw] at *
    clear hw
    go_enter Try.func31, Try.ntmps31
    go_wp2_with (first
      | (go_at_call 36; (with_reducible refine (reader_any _ _).mono ?_); rintro e w1 ⟨g, rfl, hg, ho1, hG⟩; have hS1 := Blk.kept h ho1 (fun hh => hh))
      | (go_at_call 37; (with_reducible refine (reader1_bad g b S _ _ hG hS1).mono ?_); rintro e w2 ⟨rfl, ho2, hS2⟩)
      )
    go_ret
    exact ⟨rfl, only_new ho1 ho2, hS2⟩
  · by_cases h4 : 4 < n
    · have hw : wid n = -1 := by unfold wid; rw [if_pos (.inr h4)]
      rw [hw] at *
      clear hw
      go_enter Try.func31, Try.ntmps31
      go_wp2_with (first
        | (go_at_call 36; (with_reducible refine (reader_any _ _).mono ?_); rintro e w1 ⟨g, rfl, hg, ho1, hG⟩; have hS1 := Blk.kept h ho1 (fun hh => hh))
        | (go_at_call 37; (with_reducible refine (reader1_bad g b S _ _ hG hS1).mono ?_); rintro e w2 ⟨rfl, ho2, hS2⟩)
        )
      go_ret
      exact ⟨rfl, only_new ho1 ho2, hS2⟩
    · have hw : wid n = n := by unfold wid; rw [if_neg (by omega)]
      rw [hw] at *
      clear hw
      go_enter Try.func31, Try.ntmps31
      go_wp2_with (first
        | (go_at_call 36; (with_reducible refine (reader_any _ _).mono ?_); rintro e w1 ⟨g, rfl, hg, ho1, hG⟩; have hS1 := Blk.kept h ho1 (fun hh => hh))
        | (go_at_call 37; (with_reducible refine (reader1_bad g b S _ _ hG hS1).mono ?_); rintro e w2 ⟨rfl, ho2, hS2⟩)
        )
      go_ret
      exact ⟨rfl, only_new ho1 ho2, hS2⟩
theorem SU_out1 (b : Nat) (S : ByteArray) (n : Int) (w : World) (h : Sc w b S false) (hn : n < 1) : Calls Try.prog 31 #[.pointer (some ⟨b, 0, none⟩), .int .i64 n] w (TkPost w b (.int .i64 0) S true) := by
  go_enter Try.func31, Try.ntmps31
  go_wp2_with (first
    | (go_at_call 36; (with_reducible refine (reader_any _ _).mono ?_); rintro e w1 ⟨g, rfl, hg, ho1, hG⟩; have hS1 := Blk.kept h ho1 (fun hh => hh))
    | (go_at_call 37; (with_reducible refine (reader1_out g b S _ _ hG hS1 (.inl (by decide))).mono ?_); rintro e w2 ⟨rfl, ho2, hS2⟩)
    )
  go_ret
  exact ⟨rfl, only_new ho1 ho2, hS2⟩
theorem SU_out2 (b : Nat) (S : ByteArray) (n : Int) (w : World) (h : Sc w b S false) (h0 : ¬ n < 1) (hn : 4 < n) : Calls Try.prog 31 #[.pointer (some ⟨b, 0, none⟩), .int .i64 n] w (TkPost w b (.int .i64 0) S true) := by
  go_enter Try.func31, Try.ntmps31
  go_wp2_with (first
    | (go_at_call 36; (with_reducible refine (reader_any _ _).mono ?_); rintro e w1 ⟨g, rfl, hg, ho1, hG⟩; have hS1 := Blk.kept h ho1 (fun hh => hh))
    | (go_at_call 37; (with_reducible refine (reader1_out g b S _ _ hG hS1 (.inl (by decide))).mono ?_); rintro e w2 ⟨rfl, ho2, hS2⟩)
    )
  go_ret
  exact ⟨rfl, only_new ho1 ho2, hS2⟩
theorem SU_out3 (b : Nat) (S : ByteArray) (n : Int) (w : World) (h : Sc w b S false) (h0 : ¬ n < 1) (h4 : ¬ 4 < n) (hn : (S.size : Int) < n) : Calls Try.prog 31 #[.pointer (some ⟨b, 0, none⟩), .int .i64 n] w (TkPost w b (.int .i64 0) S true) := by
  have hr : ∀ (g : Nat) (W : World), Blk W g 51 #[.pointer (some ⟨b, 0, none⟩)] → Sc W b S false → Calls Try.prog 37 #[.int .i64 n, .pointer (some ⟨g, 0, none⟩)] W (ReadPost W b noS S false true) :=
    fun g W hg hs => reader1_out g b S n W hg hs (.inr hn)
  clear hn
  go_enter Try.func31, Try.ntmps31
  go_wp2_with (first
    | (go_at_call 36; (with_reducible refine (reader_any _ _).mono ?_); rintro e w1 ⟨g, rfl, hg, ho1, hG⟩; have hS1 := Blk.kept h ho1 (fun hh => hh))
    | (go_at_call 37; (with_reducible refine (hr g _ hG hS1).mono ?_); rintro e w2 ⟨rfl, ho2, hS2⟩)
    )
  go_ret
  exact ⟨rfl, only_new ho1 ho2, hS2⟩
theorem SU_out (b : Nat) (S : ByteArray) (n : Int) (w : World) (h : Sc w b S false) (hn : n < 1 ∨ 4 < n ∨ (S.size : Int) < n) : Calls Try.prog 31 #[.pointer (some ⟨b, 0, none⟩), .int .i64 n] w (TkPost w b (.int .i64 0) S true) := by
  by_cases h0 : n < 1
  · exact SU_out1 b S n w h h0
  · by_cases h4 : 4 < n
    · exact SU_out2 b S n w h h0 h4
    · exact SU_out3 b S n w h h0 h4 (by omega)
end Go.Proofs.Ytamocachpjljdaa
