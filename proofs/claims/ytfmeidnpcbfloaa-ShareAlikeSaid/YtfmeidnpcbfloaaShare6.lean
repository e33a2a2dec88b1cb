/- Claims: how much more a claim gets in a round. -/
import Derived.Test.YtfmeidnpcbfloaaShare4
namespace Go.Proofs.Ytfmeidnpcbfloaa
open Go.RowKit

/-- how much more the i-th gets, of so much, by the weights of all -/
def partI (l0 all : Int) (W V G : List Int) (i : Nat) : Int := if W.getD i 0 - G.getD i 0 < l0 * V.getD i 0 / all then W.getD i 0 - G.getD i 0 else l0 * V.getD i 0 / all
section
variable {w : World} {b n : Nat} {l l0 : Int} {W V G : List Int}
set_option maxRecDepth 100000 in
set_option maxHeartbeats 1000000 in
theorem parts1_any (w : World) (i : Nat) (all : Int) (k1 k3 k4 : Nat) (h : Ts w b l n W V G) (ok : Ok l n W V G) (h1 : Blk w k1 39 #[.pointer (some ⟨b, 0, none⟩)]) (h3 : Blk w k3 3 #[.int .i64 l0]) (h4 : Blk w k4 3 #[.int .i64 all])
    (hi : i < n) (ha : 0 < all) (p0 : 0 ≤ l0) (p1 : l0 ≤ 2147483647) : Calls Try.prog 25 #[.int .i64 i, .pointer (some ⟨k3, 0, none⟩), .pointer (some ⟨k1, 0, none⟩), .pointer (some ⟨k4, 0, none⟩)] w fun x w' => x = .returned (.int .i64 (partI l0 all W V G i)) ∧ Only Nil w w' := by
  have hn := ok.hn
  have hv := ok.v i hi
  have hg := ok.g i hi
  have c1 := h1.cell 0
  have c3 := h3.cell 0
  have c4 := h4.cell 0
  have z1 := h1.lt
  have z3 := h3.lt
  have z4 := h4.lt
  have zb := h.lt
  have gV := h.atV (i := i) (by omega)
  have gW := h.atW (i := i) (by omega)
  have gG := h.atG (i := i) (by omega)
  have h256 : (i : Int) < 256 := by omega
  have hi0 : (0 : Int) ≤ i := by omega
  obtain ⟨R, hR⟩ : ∃ R, R = partI l0 all W V G i := ⟨_, rfl⟩
  rw [← hR]
  unfold partI at hR
  clear h ok h1 h3 h4
  generalize V.getD i 0 = v at *
  generalize W.getD i 0 = x at *
  generalize G.getD i 0 = g at *
  have hm0 : 0 ≤ l0 * v := Int.mul_nonneg p0 (by omega)
  have hm1 : l0 * v ≤ 2147483647 * 256 := Int.mul_le_mul p1 hv.2 (by omega) (by omega)
  have HR := Lib.hid hR
  have ew : IntKind.i64.wrap (l0 * v) = l0 * v := IntWalk.i64_in _ (by omega)
  have es : IntKind.i64.wrap (x - g) = x - g := IntWalk.i64_in _ (by omega)
  have hd0 : 0 ≤ l0 * v / all := Int.ediv_nonneg hm0 (by omega)
  have hd1 : l0 * v / all ≤ l0 * v := Int.ediv_le_self _ hm0
  clear hR
  by_cases hc : x - g < l0 * v / all
  · have e : R = x - g := by rw [HR.out, if_pos hc]
    subst e
    clear HR
    go_enter Try.func25, Try.ntmps25
    go_wp2
    go_quiet (fail)
    go_wp2
    go_ret
    exact ⟨rfl, (Only.refl _ _).drewN _⟩
  · have e : R = l0 * v / all := by rw [HR.out, if_neg hc]
    subst e
    clear HR
    go_enter Try.func25, Try.ntmps25
    go_wp2
    go_quiet (fail)
    go_wp2
    go_ret
    exact ⟨rfl, (Only.refl _ _).drewN _⟩
end
end Go.Proofs.Ytfmeidnpcbfloaa
