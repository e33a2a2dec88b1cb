/- A call of both, and what must come at any rate. -/
import Derived.Test.YtcokkomfhjdbcaaLaw05
namespace Go.Proofs.Ytcokkomfhjdbcaa
open Go.RowKit

def doN (n kd k t : Int) : Int := if kd = 0 ∨ kd = 1 then growN n k else if kd = 4 then resN n k t else spN n k
def DoPost (w : World) (b : Nat) (m : Int) (x : Ending) (w' : World) : Prop :=
  x = .returned (.tuple #[.int .i64 m, .bool true]) ∧ Only (One b) w w' ∧ Win w' b m

set_option maxHeartbeats 400000 in
theorem do_any (b : Nat) (n kd k t : Int) (w : World) (h : Win w b n) (hn : winOk n) (hk : i64Ok k) (ht : i64Ok t) :
    Calls Try.prog 8 #[.pointer (some ⟨b, 0, none⟩), .int .i64 n, .agg #[.int .i64 kd, .int .i64 k, .int .i64 t]] w (DoPost w b (doN n kd k t)) := by
  have ho0 : ∀ o, Only Nil w (w.alloc o) := fun o => (Only.refl _ _).alloc _
  by_cases c0 : kd = 0
  · have e1 : doN n kd k t = growN n k := by simp [doN, c0]
    rw [e1]
    go_enter Try.func8, Try.ntmps8
    go_wp2_with (first | (go_at_call 16; refine (rgrow_any _ _ _ hn hk).mono ?_; rintro e w1 ⟨rfl, rfl⟩) | (go_at_call 11; refine (grow_any b n k _ (h.alloc _) hn).mono ?_; rintro e w1 ⟨rfl, ho, hw⟩))
    go_ret2
    exact ⟨by simp, ((ho0 _).of_nil _).trans ho, hw⟩
  by_cases c1 : kd = 1
  · have e1 : doN n kd k t = growN n k := by simp [doN, c1]
    rw [e1]
    go_enter Try.func8, Try.ntmps8
    go_wp2_with (first | (go_at_call 16; refine (rgrow_any _ _ _ hn hk).mono ?_; rintro e w1 ⟨rfl, rfl⟩) | (go_at_call 11; refine (grow_any b n k _ (h.alloc _) hn).mono ?_; rintro e w1 ⟨rfl, ho, hw⟩))
    go_ret2
    exact ⟨by simp, ((ho0 _).of_nil _).trans ho, hw⟩
  by_cases c4 : kd = 4
  · have e1 : doN n kd k t = resN n k t := by simp [doN, c4]
    rw [e1]
    go_enter Try.func8, Try.ntmps8
    go_wp2_with (first | (go_at_call 17; refine (rresize_any _ _ _ _ hn hk ht).mono ?_; rintro e w1 ⟨rfl, rfl⟩) | (go_at_call 12; refine (resize_any b n k t _ (h.alloc _) hn).mono ?_; rintro e w1 ⟨rfl, ho, hw⟩))
    go_ret2
    exact ⟨by simp, ((ho0 _).of_nil _).trans ho, hw⟩
  · have e1 : doN n kd k t = spN n k := by simp [doN, c0, c1, c4]
    rw [e1]
    go_enter Try.func8, Try.ntmps8
    go_wp2_with (first | (go_at_call 18; refine (rspend_any _ _ _ hn hk).mono ?_; rintro e w1 ⟨rfl, rfl⟩) | (go_at_call 13; refine (spend_any b n k _ (h.alloc _) hn hk).mono ?_; rintro e w1 ⟨rfl, ho, hw⟩))
    go_ret2
    exact ⟨by simp, ((ho0 _).of_nil _).trans ho, hw⟩

theorem chN_ok {n k : Int} (hn : winOk n) : winOk (chN n k) := by
  unfold chN chB
  split
  · rename_i h
    simpa [winOk] using h
  · exact hn
theorem doN_ok {n kd k t : Int} (hn : winOk n) : winOk (doN n kd k t) := by
  unfold doN growN resN spN
  have := hn.1
  have := hn.2
  repeat' split
  all_goals first | exact hn | exact chN_ok hn | skip
  unfold winOk
  omega

set_option maxHeartbeats 400000 in
theorem awake_any (w : World) : Calls Try.prog 7 #[] w fun e w' => e = .returned (.bool true) ∧ Only Nil w w' := by
  have hmf := mkf Try.prog
  go_enter Try.func7, Try.ntmps7
  go_wp2
  go_ret
  refine ⟨rfl, ?_⟩
  repeat (first | exact Only.refl _ _ | apply Only.alloc | (refine Only.setNew ?_ (Nat.le_refl _) _ _) | (refine Only.setNew ?_ (by simp) _ _))
end Go.Proofs.Ytcokkomfhjdbcaa
