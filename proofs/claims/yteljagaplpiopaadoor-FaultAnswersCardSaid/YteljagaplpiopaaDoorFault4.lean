/- What is sent of a fault; all kinds; frames that are the same; what must come at any rate. -/
import Derived.Test.YteljagaplpiopaaDoorFault3
namespace Go.Proofs.YteljagaplpiopaaDoor
open Go.RowKit

abbrev noS : ByteArray := ⟨#[]⟩
/-- a frame that has only these -/
abbrev frA (t s c l : Int) : Array Value := #[.int .i64 t, .int .i64 s, .bool false, .string noS, .int .i64 0, .int .i64 0, .int .i64 0, .bool false, .int .i64 c, .int .i64 l, .int .i64 0, .slice none 0 0]
abbrev frV (t s c l : Int) : Value := .agg (frA t s c l)
set_option maxRecDepth 100000 in
set_option maxHeartbeats 4000000 in
theorem FSame_same (t s c l : Int) (w : World) : Calls Tryd.prog 17 #[frV t s c l, frV t s c l] w fun x w' => x = .returned (.bool true) ∧ Only Nil w w' := by
  have h0 := ((Only.refl Nil w).alloc (.cells (frA t s c l) 35)).alloc (.cells (frA t s c l) 35)
  go_enter Tryd.func17, Tryd.ntmps17
  go_wp2
  go_loopw [78] (fun ii wr => ii = .int .i64 0 ∧ Only Nil w wr) (fun _ _ => 0)
  case atStart => exact ⟨rfl, h0⟩
  case round =>
    obtain ⟨rfl, ho⟩ := hrel
    go_wp2
    go_ret
    exact ⟨rfl, ho⟩
def rgI (k : Nat) : List Int := (List.range k).map fun i : Nat => (i : Int)
theorem rgI_len (k : Nat) : (rgI k).length = k := by simp [rgI]
theorem rgI_snoc (k : Nat) : rgI (k + 1) = rgI k ++ [(k : Int)] := by simp [rgI, List.range_succ]
theorem All_any (w : World) : Calls Tryd.prog 15 #[] w fun x w' => ∃ A cap, x = .returned (.slice A 21 cap) ∧ Ow encZ 1 w' w.heap.size 3 (.slice A 21 cap) (rgI 21) ∧ Only Nil w w' := by
  go_enter Tryd.func15, Tryd.ntmps15
  go_wp2
  go_loopw [1, 3] (fun vv ii wr => ∃ (k : Nat) (Av : Option Addr) (cv : Nat), k ≤ 21 ∧ ii = .int .i64 k ∧ vv = .slice Av k cv ∧ Only Nil w wr ∧ Ow encZ 1 wr w.heap.size 3 (.slice Av k cv) (rgI k)) (fun _ ii _ => 21 - (intOf ii).toNat)
  case atStart => exact ⟨0, none, 0, Nat.zero_le _, rfl, rfl, Only.refl _ _, Ow.nil⟩
  case round =>
    obtain ⟨k, Av, cv, hk, rfl, rfl, ho, hO⟩ := hrel
    by_cases hlt : k < 21
    · have hki : (k : Int) < 21 := by omega
      have hLk : Hid ((rgI k).length = k) := Lib.hid (rgI_len k)
      have hLk2 : Hid ((rgI k).length + [(k : Int)].length = k + 1) := Lib.hid (by rw [rgI_len]; rfl)
      have hT : Hid (rgI (k + 1) = rgI k ++ [(k : Int)]) := Lib.hid (rgI_snoc k)
      have ho1 := ho.alloc (.cells #[.int .i64 k] 3)
      have hO1 := hO.alloc (.cells #[.int .i64 k] 3)
      have hN : Blk (wr.alloc (.cells #[.int .i64 k] 3)) wr.heap.size 3 #[.int .i64 k] := Blk.new _ _ _
      have t1 := Src.one (P := Tryd.prog) (enc := encZ) (tx := 42) Tryd.underlying42 (k : Int) 1 rfl hN rfl (encZ_one _)
      go_wp2_with (first
        | (at_builtin
           refine wpList_app2 rfl (.tmp 6) (.tmp 8) _ _ rfl w.heap.size 3 Tryd.underlying42 int_info rfl _ _ rfl hO1 _ [(k : Int)] rfl t1 (by rw [hLk2.out]; omega) (by decide) ho1.size (k + 1) hLk2.out _ hT.out.symm ?_
           intro A6 c6 w6 hown6 ho6 hg6
           have ho6' := ho1.own_nil hO1 ho6)
        )
      go_roundw
      case rel => exact ⟨k + 1, A6, c6, by omega, by go_num, rfl, ho6', hown6⟩
      case measure => simp [intOf]; omega
    · obtain rfl : k = 21 := by omega
      go_wp2
      go_ret
      exact ⟨Av, cv, rfl, hO, ho⟩
end Go.Proofs.YteljagaplpiopaaDoor
